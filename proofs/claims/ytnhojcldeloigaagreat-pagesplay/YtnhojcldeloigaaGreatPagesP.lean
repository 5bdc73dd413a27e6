/-
  Package pages: Write.
-/
import Derived.Test.YtnhojcldeloigaaGreatPagesO
import Derived.Test.YtnhojcldeloigaaGreatCloneB
namespace Go.Proofs.YtnhojcldeloigaaGreat
open Go.RowKit Go.Lib Go.Maps Go.ChangeMaps
set_option maxRecDepth 100000

def updCh (ch : Nat → Option (List UInt8)) (p : Nat) (b : List UInt8) : Nat → Option (List UInt8) := fun q => if q = p then some b else ch q
theorem own_tight {w : World} {gm n : Nat} {D0 : DataW Unit} (h : w.ownsMap Tryz.prog 3 slR gm n D0) : w.ownsMap Tryz.prog 3 slR gm (Maps.size D0) D0 := by
  obtain ⟨es, clock, hb, F, hs, rfl⟩ := h
  exact ⟨es, clock, hb, F, by simp [Maps.size, length_sorted], rfl⟩
theorem st_put {w : World} {F E G : Nat → Prop} {gd gb : Nat} {s : D} {g : BG} {ch : Nat → Option (List UInt8)} {gm : Nat} (h : St w F E G gd s gb g ch) (hb : BkAt w G gb gd g ch gm) {p B q c : Nat} {b : List UInt8} (hp : p < g.k) (hv : w.ownsRow B 5 1 (.slice (some ⟨q, 0, none⟩) b.length c) b.length (b8s b)) (hq : ¬ F q ∧ ¬ E q ∧ ¬ G q) :
    ∃ w', (Instr.mapUpdate 65 (.map (some gm)) (.int .i64 (p : Int)) (.slice (some ⟨q, 0, none⟩) b.length c)).run Tryz.prog w = .ok () w' ∧ St w' F E (fun i => G i ∨ i = q) gd s gb g (updCh ch p b) ∧ Only (fun i => i = gm) w w' := by
  have hk2 := h.ok.k2
  obtain ⟨⟨n, D0, hown, hh, hget⟩, hlt⟩ := hb.ch
  have hsz : Maps.size D0 ≤ 1024 := by
    rw [size_keys hown, ← (keys_perm hown hh hlt).length_eq]
    have := keysOf_len ch g.k
    simp [ints]
    omega
  have hD := hown.isMap
  have hkl : WideAt.IsKeyLit (Lit.int IntKind.i64 (p : Int)) := trivial
  obtain ⟨w', hrun, hown', hg⟩ := (own_tight hown).update (int_keyed Tryz.underlying3) Tryz.underlying65 (by simp only [maxLen]; omega) (keyPg p (by omega)) (slR_mk q b.length c)
  have k : Only (fun i => i = gm) w w' := (Only.of_grown hg).mono (fun i _ e => by injection e)
  have hne := bk_ne hb
  have hqgm : q ≠ gm := fun e => hq.2.2 (e ▸ hb.gM)
  have hqlt : q < w.heap.size := (hv.lt q rfl).2
  refine ⟨w', hrun, ⟨h.dk.only k (fun i _ e => ?_), ⟨gm, hb.has.only k hne, ⟨⟨_, _, hown', fun i => ?_, fun p' bs hp' => ?_⟩, fun p' bs hp' => ?_⟩, .inl hb.gB, .inl hb.gM, fun i hi => ?_⟩, fun i hi => ?_, h.ok, h.size⟩, k⟩
  · have e : i = gm := e
    rw [e]
    exact h.apart gm hb.gM
  · by_cases hi : i = (p : Int)
    · subst hi
      rw [has_put_same hD hkl]
      exact ⟨fun _ => ⟨p, rfl, by simp [updCh]⟩, fun _ => rfl⟩
    · rw [has_put_other (fun e => hi (by injection e)), hh i]
      constructor
      · rintro ⟨p', rfl, h2⟩
        exact ⟨p', rfl, by simp only [updCh]; rw [if_neg (fun e => hi (by rw [e]))]; exact h2⟩
      · rintro ⟨p', rfl, h2⟩
        refine ⟨p', rfl, ?_⟩
        simp only [updCh] at h2
        rwa [if_neg (fun e => hi (by rw [e]))] at h2
  · by_cases hi : p' = p
    · subst hi
      simp only [updCh, if_pos] at hp'
      injection hp' with hp'
      subst hp'
      refine ⟨q, c, atKey_put_same hD hkl _ _, owns_base (owns_only hv k (fun i hi => ?_)) (Nat.zero_le _), .inr rfl⟩
      have hi : q = i := by simpa [Value.ownBlock] using hi
      subst hi
      exact hqgm
    · simp only [updCh] at hp'
      rw [if_neg hi] at hp'
      obtain ⟨q', c', r1, r2, r3⟩ := hget p' bs hp'
      refine ⟨q', c', (atKey_put_other (fun e => hi (by injection e with _ e; omega)) _ _).trans r1, owns_only r2 k (fun i hi => ?_), .inl r3⟩
      have hi : q' = i := by simpa [Value.ownBlock] using hi
      subst hi
      intro e
      have e : q' = gm := e
      rcases id r2.2 with ⟨hn, _⟩ | ⟨g', cap, cur, he, _, hh', _⟩
      · cases hn
      · injection he with he _ _
        injection he with he
        injection he with he
        obtain ⟨es, clock, hbm, _⟩ := hown
        rw [← he, e, hbm] at hh'
        cases hh'
  · by_cases hi : p' = p
    · omega
    · simp only [updCh] at hp'
      rw [if_neg hi] at hp'
      exact hlt p' bs hp'
  · rcases hi with hi | hi
    · exact Nat.lt_of_lt_of_le (hb.lt i hi) k.size
    · rw [hi]
      exact Nat.lt_of_lt_of_le hqlt k.size
  · rcases hi with hi | hi
    · exact h.apart i hi
    · rw [hi]
      exact ⟨hq.1, hq.2.1⟩

theorem Tryz.enterBookWrite1 : ∀ args w, (callFunc 43 args).run Tryz.prog w = .ok (.enter 43 args) w := enters_of Tryz.func43 (by kernel_rfl) rfl
/-- The variables of Write's function. -/
structure WrBox (w : World) (F E G : Nat → Prop) (gb p0 p1 p2 lo hi : Nat) (i : Int) (x : Value) (b : List UInt8) : Prop where
  b0 : Has w p0 29 #[.pointer (some ⟨gb, 0, none⟩)]
  b1 : Has w p1 3 #[.int .i64 i]
  b2 : Has w p2 33 #[x]
  sl : SlIs w lo hi x b
  top : hi ≤ w.heap.size
section
variable (F E G : Nat → Prop) (gd gb : Nat) (s : D) (g : BG) (ch : Nat → Option (List UInt8)) (w : World) (h : St w F E G gd s gb g ch) (p0 p1 p2 lo hi : Nat) (i : Int) (x : Value) (b : List UInt8) (hb : WrBox w F E G gb p0 p1 p2 lo hi i x b)
include h hb
set_option maxHeartbeats 1000000 in
theorem bwrite1_none (hi' : ¬ (0 ≤ i ∧ i < (g.k : Int))) : Calls Tryz.prog 43 #[.pointer (some ⟨p0, 0, none⟩), .pointer (some ⟨p1, 0, none⟩), .pointer (some ⟨p2, 0, none⟩)] w fun e w' => e = endsIn 1 ∧ StStep w F E G gd s gb g ch w' := by
  have C := Lib.hid (pgmusthave_no F E G gd gb s g ch w h i hi')
  have R := Lib.hid h.same
  have c0 := hb.b0.cell 0
  have c1 := hb.b1.cell 0
  simp at c0 c1
  rw [endsIn_no (by decide)]
  clear h hb hi'
  go_enter Tryz.func43, Tryz.ntmps43
  go_wp2_with fail
  refine C.out.mono ?_
  rintro e w' ⟨rfl, rfl⟩
  go_wp2
  exact ⟨rfl, rfl, R.out⟩
set_option maxHeartbeats 1000000 in
theorem bwrite1_long (p : Nat) (hp : i = (p : Int)) (hpk : p < g.k) (hl : b.length ≠ g.z - 16) : Calls Tryz.prog 43 #[.pointer (some ⟨p0, 0, none⟩), .pointer (some ⟨p1, 0, none⟩), .pointer (some ⟨p2, 0, none⟩)] w fun e w' => e = endsIn 1 ∧ StStep w F E G gd s gb g ch w' := by
  subst hp
  have hz1 := h.ok.z1
  have hz2 := h.ok.z2
  have C := Lib.hid (pgmusthave_yes F E G gd gb s g ch w h p hpk)
  have R := Lib.hid ((h.new ((Only.refl _ w).drew)).same.before ((Only.refl _ w).drew))
  have c0 := hb.b0.cell 0
  have c1 := hb.b1.cell 0
  have c2 := hb.b2.cell 0
  obtain ⟨A, c, rfl, _⟩ := hb.sl
  obtain ⟨gm, hbk⟩ := h.bk
  have c3 := hbk.cells.2.2.2.1
  simp at c0 c1 c2
  have ew : IntKind.i64.wrap ((g.z : Int) - 16) = (g.z : Int) - 16 := IntWalk.i64_in _ (by omega)
  have hne : ((b.length : Int) == ((g.z : Int) - 16)) = false := beq_eq_false_iff_ne.2 (by omega)
  rw [endsIn_no (by decide)]
  clear h hb hbk hl hz1 hz2
  go_enter Tryz.func43, Tryz.ntmps43
  go_wp2_with fail
  refine C.out.mono ?_
  rintro e w' ⟨rfl, rfl⟩
  go_wp2_with fail
  go_still_tail 8, (by kernel_rfl)
  go_wp2_with fail
  refine (must_no 1 _).mono ?_
  rintro e w' ⟨rfl, rfl⟩
  go_wp2
  exact ⟨rfl, rfl, R.out⟩
set_option maxHeartbeats 2000000 in
theorem bwrite1_put (p : Nat) (hp : i = (p : Int)) (hpk : p < g.k) (hl : b.length = g.z - 16) : Calls Tryz.prog 43 #[.pointer (some ⟨p0, 0, none⟩), .pointer (some ⟨p1, 0, none⟩), .pointer (some ⟨p2, 0, none⟩)] w fun e w' => e = endsIn 0 ∧ StStep w F E G gd s gb g (updCh ch p b) w' := by
  subst hp
  have hz1 := h.ok.z1
  have hz2 := h.ok.z2
  have C := Lib.hid (pgmusthave_yes F E G gd gb s g ch w h p hpk)
  have c0 := hb.b0.cell 0
  have c1 := hb.b1.cell 0
  have c2 := hb.b2.cell 0
  obtain ⟨A, c, hxe, _⟩ := id hb.sl
  rw [hxe] at c2
  obtain ⟨gm, hbk⟩ := h.bk
  have c3 := hbk.cells.2.2.2.1
  have c5 := hbk.cells.2.2.2.2.2
  simp at c0 c1 c2
  obtain ⟨lF, lE, lG⟩ := h.lts
  have kd : Only (fun _ => False) w (w.drew).drew := ((Only.refl _ w).drew).drew
  have C2 : Hid (Calls Tryz.prog 45 #[.slice A b.length c] (w.drew).drew fun e w' => ∃ v w3, e = .returned v ∧ w'.cell? ⟨p0, 0, none⟩ = some (.pointer (some ⟨gb, 0, none⟩)) ∧ w'.cell? ⟨p1, 0, none⟩ = some (.int .i64 (p : Int)) ∧ w'.cell? ⟨p2, 0, none⟩ = some (.slice A b.length c) ∧ w'.cell? ⟨gb, 5, none⟩ = some (.map (some gm)) ∧
      (Instr.mapUpdate 65 (.map (some gm)) (.int .i64 (p : Int)) v).run Tryz.prog w' = .ok () w3 ∧ StStep w F E G gd s gb g (updCh ch p b) w3) := by
    rw [← hxe]
    refine (cloneb_any x b lo hi (w.drew).drew (hb.sl.only kd hb.top (fun _ _ _ h => h)) hb.top (by omega)).mono ?_
    rintro e w' ⟨v, rfl, o1, b1⟩
    have b1 : Below w.heap.size w w' := ⟨b1.os, b1.tape, b1.output, b1.size, b1.block⟩
    have k1 : Only (fun _ => False) w w' := (Only.of_below b1).mono (fun i hi h => by have h : w.heap.size ≤ i := h; omega)
    obtain ⟨q, cq, rfl⟩ : ∃ q cq, v = .slice (some ⟨q, 0, none⟩) b.length cq := by
      rcases id o1.2 with ⟨_, h0⟩ | ⟨q, cap, cur, rfl, _⟩
      · omega
      · exact ⟨q, cap, rfl⟩
    have hq : w.heap.size ≤ q := (o1.lt q rfl).1
    obtain ⟨w3, hrun, st3, k3⟩ := st_put (h.new k1) (hbk.only k1 (fun _ _ h => h.elim)) hpk o1 ⟨fun h => by have := lF _ h; omega, fun h => by have := lE _ h; omega, fun h => by have := lG _ h; omega⟩
    refine ⟨_, w3, rfl, (hb.b0.only k1 (fun h => h)).cell 0, (hb.b1.only k1 (fun h => h)).cell 0, by rw [hxe]; have := (hb.b2.only k1 (fun h => h)).cell 0; rw [hxe] at this; exact this, (hbk.only k1 (fun _ _ h => h.elim)).cells.2.2.2.2.2, hrun, F, E, _, st3, fun _ h => .inl h, fun _ h => .inl h, fun i hi => ?_, (k1.mono (T := fun i => F i ∨ G i) (fun _ _ h => h.elim)).trans k3 (fun i hi e => ?_)⟩
    · rcases hi with hi | hi
      · exact .inl hi
      · exact .inr (by omega)
    · have e : i = gm := e
      rw [e]
      exact .inr hbk.gM
  have ew : IntKind.i64.wrap ((g.z : Int) - 16) = (g.z : Int) - 16 := IntWalk.i64_in _ (by omega)
  have hne : ((b.length : Int) == ((g.z : Int) - 16)) = true := beq_iff_eq.2 (by omega)
  rw [endsIn_zero]
  clear h hb hbk hl hz1 hz2 hxe kd lF lE lG
  go_enter Tryz.func43, Tryz.ntmps43
  go_wp2_with fail
  refine C.out.mono ?_
  rintro e w' ⟨rfl, rfl⟩
  go_wp2_with fail
  go_still_tail 8, (by kernel_rfl)
  go_wp2_with fail
  refine (must_yes 1 _).mono ?_
  rintro e w' ⟨rfl, rfl⟩
  go_upto_region 15 with fail
  go_region_with (first | (go_at_call 45; refine C2.out.mono ?_; rintro e w' ⟨v, w3, rfl, d0, d1, d2, d5, hup, hst⟩; have ST := Lib.hid hst; clear hst))
  all_goals
    go_wp2
    go_end0
    exact ⟨rfl, ST.out⟩
end
end Go.Proofs.YtnhojcldeloigaaGreat
