/-
  Package pages: Abort, Pages, Most, Commit.
-/
import Derived.Test.YtnhojcldeloigaaGreatPagesM
namespace Go.Proofs.YtnhojcldeloigaaGreat
open Go.RowKit Go.Lib Go.Maps Go.ChangeMaps
set_option maxRecDepth 100000

theorem bk_ne {w : World} {G : Nat → Prop} {gb gd gm : Nat} {g : BG} {ch : Nat → Option (List UInt8)} (h : BkAt w G gb gd g ch gm) : gb ≠ gm := by
  intro e
  obtain ⟨⟨n, D0, ⟨es, clock, hb, _⟩, _⟩, _⟩ := h.ch
  have h2 := h.has
  unfold Has at h2
  rw [e, hb] at h2
  injection h2 with h2
  cases h2
/-- A map that is emptied. -/
theorem clear_map {w : World} {gm n : Nat} {D0 : DataW Unit} (h : w.ownsMap Tryz.prog 3 slR gm n D0) :
    ∃ w', (∀ ty, (Builtin.clear_ #[65] ty #[.map (some gm)]).run Tryz.prog w = .ok (.tuple #[]) w') ∧ w'.ownsMap Tryz.prog 3 slR gm 0 (.map []) ∧ Only (fun i => i = gm) w w' := by
  obtain ⟨es, clock, hb, _⟩ := h
  refine ⟨setBlock w gm (.map #[] clock), fun ty => ?_, ⟨#[], clock, heap_setBlock_same hb _, ⟨by simp, MapKept.stamped_empty clock, by simp⟩, Nat.le_refl _, rfl⟩, ⟨rfl, rfl, rfl, by simp [setBlock], fun i _ hi => heap_setBlock_other hb _ (fun e => hi e)⟩⟩
  simp [Builtin.clear_, run_underlying Tryz.underlying65, MapKept.run_getObj_map hb, MapKept.run_setObj_map _ hb, Result.andThen, setBlock]
def noCh : Nat → Option (List UInt8) := fun _ => none
section
variable {w w1 w2 w3 : World} {F E G : Nat → Prop} {gd gb : Nat} {s : D} {g : BG} {ch : Nat → Option (List UInt8)}
theorem st_clear (h : St w F E G gd s gb g ch) :
    ∃ gm w', w.cell? ⟨gb, 5, none⟩ = some (.map (some gm)) ∧ (∀ ty, (Builtin.clear_ #[65] ty #[.map (some gm)]).run Tryz.prog w = .ok (.tuple #[]) w') ∧ StStep w F E G gd s gb g noCh w' := by
  obtain ⟨gm, hb⟩ := h.bk
  obtain ⟨⟨n, D0, hown, _⟩, _⟩ := hb.ch
  obtain ⟨w', hrun, own', k⟩ := clear_map hown
  have hG := hb.gM
  have hne := bk_ne hb
  refine ⟨gm, w', hb.cells.2.2.2.2.2, hrun, F, E, G, ⟨h.dk.only k (fun i _ e => ?_), ⟨gm, hb.has.only k hne, ⟨⟨0, .map [], own', fun i => ?_, fun p bs hp => by cases hp⟩, fun p bs hp => by cases hp⟩, hb.gB, hb.gM, fun i hi => Nat.lt_of_lt_of_le (hb.lt i hi) k.size⟩, h.apart, h.ok, h.size⟩, fun _ h => .inl h, fun _ h => .inl h, fun _ h => .inl h, k.mono (fun i _ e => .inr ?_)⟩
  · have e : i = gm := e
    rw [e]
    exact h.apart gm hG
  · simp [Maps.has, noCh]
  · have e : i = gm := e
    rw [e]
    exact hG
theorem StStep.clear (h : StStep w F E G gd s gb g ch w2) :
    ∃ gm w', w2.cell? ⟨gb, 5, none⟩ = some (.map (some gm)) ∧ (∀ ty, (Builtin.clear_ #[65] ty #[.map (some gm)]).run Tryz.prog w2 = .ok (.tuple #[]) w') ∧ StStep w F E G gd s gb g noCh w' := by
  have h' := h
  obtain ⟨F', E', G', d, _⟩ := h
  obtain ⟨gm, w', q1, q2, q3⟩ := st_clear d
  refine ⟨gm, w', q1, q2, h'.next fun F2 E2 G2 d2 => ?_⟩
  obtain ⟨gm2, w2', r1, r2, r3⟩ := st_clear d2
  have e : gm2 = gm := by
    have := r1.symm.trans q1
    injection this with this
    injection this with this
    injection this
  subst e
  have := (r2 0).symm.trans (q2 0)
  injection this with _ this
  rw [← this]
  exact r3
theorem StStep.caught2 (k : Only (fun _ => False) w w1) (h : StStep w1 F E G gd s gb g ch w2) (hF : ∀ i, F i → i < w.heap.size) (hE : ∀ i, E i → i < w.heap.size) (hG : ∀ i, G i → i < w.heap.size) {q : Nat} (hq : w.heap.size ≤ q ∧ q < w1.heap.size) (k2 : Only (fun i => i = q) w2 w3) : StStep w F E G gd s gb g ch w3 := by
  obtain ⟨F2, E2, G2, d, f, e, r, o⟩ := h
  have hs := k.size
  refine ⟨F2, E2, G2, d.only k2 (fun i _ hi => ⟨fun h => ?_, fun h => ?_, fun h => ?_⟩), fun i hi => ?_, fun i hi => ?_, fun i hi => ?_, ((k.mono (T := fun i => F i ∨ G i) (fun _ _ h => h.elim)).trans o (fun _ _ h => h)).trans k2 (fun i hi e => ?_)⟩
  · have hi : i = q := hi
    rcases f i h with h | h
    · have := hF i h
      omega
    · omega
  · have hi : i = q := hi
    rcases e i h with h | h
    · have := hE i h
      omega
    · omega
  · have hi : i = q := hi
    rcases r i h with h | h
    · have := hG i h
      omega
    · omega
  · exact (f i hi).imp id (fun h => by omega)
  · exact (e i hi).imp id (fun h => by omega)
  · exact (r i hi).imp id (fun h => by omega)
  · have e : i = q := e
    omega
end

/-- What a disk's counts may have grown by. -/
structure Bnd (s : D) (r : Int × D) (n : Nat) : Prop where
  pend : r.2.pend.length ≤ s.pend.length + n
  writes : r.2.writes ≤ s.writes + n
  armed : r.2.armed ≤ s.armed
theorem bnd_write (s : D) (i : Int) (b : List UInt8) : Bnd s (s.write i b) 1 := ⟨(D.write_bounds8 s i b).1, (D.write_bounds8 s i b).2.1, (D.write_bounds8 s i b).2.2⟩
theorem bnd_sync (s : D) : Bnd s s.sync 0 := by
  unfold D.sync
  split
  · exact ⟨by simp, by simp, by simp⟩
  · exact ⟨by simp, by simp, by simp⟩
theorem bnd_runs (s : D) (ws : List (Int × List UInt8)) : Bnd s (s.runs ws) ws.length := ⟨(runs_shape ws s).2.2.1, (runs_shape ws s).2.2.2.1, (runs_shape ws s).2.2.2.2⟩
theorem bnd_and {s : D} {r : Int × D} {f : D → Int × D} {n m : Nat} (h : Bnd s r n) (k : ∀ t, Bnd t (f t) m) : Bnd s (andD r f) (n + m) := by
  unfold andD
  split
  · have := k r.2
    exact ⟨by have h1 := this.pend; have h2 := h.pend; omega, by have h1 := this.writes; have h2 := h.writes; omega, Nat.le_trans this.armed h.armed⟩
  · exact ⟨by have := h.pend; omega, by have := h.writes; omega, h.armed⟩
theorem bnd_turn (g : BG) (s : D) (l : Nat) (sl : List UInt8) : Bnd s (turnD g s l sl) (g.M + 1) := by
  have h := bnd_and (bnd_and (bnd_and (bnd_runs s (g.listW l sl g.M)) bnd_sync) (fun t => bnd_write t ((g.at_ + 0 : Nat) : Int) (rootB g.z g.n g.k l))) bnd_sync
  have e : (g.listW l sl g.M).length = g.M := by simp [BG.listW]
  rw [e] at h
  exact ⟨h.pend, h.writes, h.armed⟩
theorem storeW_len (g : BG) (ch : Nat → Option (List UInt8)) : ∀ (ps : List Nat) (sl : List UInt8), (g.storeW ch ps sl).length = ps.length
  | [], _ => rfl
  | p :: ps, sl => by simp [BG.storeW, storeW_len g ch ps]
theorem bnd_store (g : BG) (s : D) (l : Nat) (sl : List UInt8) (ch : Nat → Option (List UInt8)) (ps : List Nat) : Bnd s (storeD g s l sl ch ps) (ps.length + (g.M + 1)) := by
  have h := bnd_and (bnd_runs s (g.storeW ch ps sl)) (fun t => bnd_turn g t l (stepsS ps sl))
  rw [storeW_len] at h
  exact h
theorem Bnd.small {s : D} {r : Int × D} {n : Nat} (h : Bnd s r n) (hr : s.Room n) : r.2.Small := ⟨by have := h.pend; have := hr.pend; omega, by have := h.armed; have := hr.armed; omega, by have := h.writes; have := hr.writes; omega⟩

/-- What Commit does to a disk that is on. -/
def commitD (g : BG) (s : D) (l : Nat) (sl : List UInt8) (ch : Nat → Option (List UInt8)) : Int × D := andD (if keysOf ch g.k = [] then (0, s) else storeD g s (1 - l) sl ch (keysOf ch g.k)) D.sync
/-- .. and to what was changed. -/
def leftCh (r : Int) (ch : Nat → Option (List UInt8)) : Nat → Option (List UInt8) := if r = 0 then noCh else ch

section
variable (F E G : Nat → Prop) (gd gb : Nat) (s : D) (g : BG) (ch : Nat → Option (List UInt8)) (w : World) (h : St w F E G gd s gb g ch)
include h
set_option maxHeartbeats 400000 in
theorem bookabort_any : Calls Tryz.prog 16 #[.pointer (some ⟨gb, 0, none⟩)] w fun e w' => e = .returned (.tuple #[]) ∧ StStep w F E G gd s gb g noCh w' := by
  obtain ⟨gm, w', c5, hrun, st⟩ := st_clear h
  have ST := Lib.hid st
  clear h st
  go_enter Tryz.func16, Tryz.ntmps16
  go_wp2
  go_end0
  exact ⟨rfl, ST.out⟩
set_option maxHeartbeats 400000 in
theorem bookpages_any : Calls Tryz.prog 24 #[.pointer (some ⟨gb, 0, none⟩)] w fun e w' => e = .returned (.int .i64 (g.k : Int)) ∧ w = w' := by
  obtain ⟨gm, hb⟩ := h.bk
  have c4 := hb.cells.2.2.2.2.1
  clear h hb
  go_enter Tryz.func24, Tryz.ntmps24
  go_wp2
  go_ret
  exact ⟨rfl, rfl⟩
set_option maxHeartbeats 400000 in
theorem bookmost_any : Calls Tryz.prog 13 #[.pointer (some ⟨gb, 0, none⟩)] w fun e w' => e = .returned (.int .i64 (g.k : Int)) ∧ w = w' := by
  obtain ⟨gm, hb⟩ := h.bk
  have c4 := hb.cells.2.2.2.2.1
  clear h hb
  go_enter Tryz.func13, Tryz.ntmps13
  go_wp2
  go_ret
  exact ⟨rfl, rfl⟩
set_option maxHeartbeats 2000000 in
theorem commit1_any (l : Nat) (sl : List UInt8) (P : Nat → List UInt8) (bx : Nat) (hbx : Has w bx 29 #[.pointer (some ⟨gb, 0, none⟩)]) (hfar : ¬ F bx ∧ ¬ G bx) (hr : Rep g s.seen l sl P) (ho : s.off = false) (hroom : s.Room 1100) (hch : ∀ p bs, ch p = some bs → bs.length = g.z - 16) :
    Calls Tryz.prog 46 #[.pointer (some ⟨bx, 0, none⟩)] w fun e w' => e = endsIn (commitD g s l sl ch).1 ∧ StStep w F E G gd (commitD g s l sl ch).2 gb g (leftCh (commitD g s l sl ch).1 ch) w' := by
  have hM4 := Nat.le_trans h.ok.ML h.ok.L4
  have hk2 := h.ok.k2
  have HS := h
  obtain ⟨gm, hb⟩ := h.bk
  have c5 := hb.cells.2.2.2.2.2
  obtain ⟨⟨n, D0, hown, hh, _⟩, hlt⟩ := hb.ch
  have hlen : Maps.size D0 = (keysOf ch g.k).length := by
    rw [size_keys hown, ← (keys_perm hown hh hlt).length_eq]
    simp [ints]
  have hrun := fun ty => hown.len Tryz.underlying65 ty
  rw [hlen] at hrun
  have hkl := keysOf_len ch g.k
  have cb := hbx.cell 0
  have CS := Lib.hid (pgstore_any F E G gd gb s g ch w HS l sl P hr ho hroom hch)
  have B := bnd_store g s (1 - l) sl ch (keysOf ch g.k)
  have BOX : Hid (∀ s' ch' w', StStep w F E G gd s' gb g ch' w' → w'.cell? ⟨bx, 0, none⟩ = some (.pointer (some ⟨gb, 0, none⟩))) := fun s' ch' w' k => by
    obtain ⟨_, _, _, _, _, _, _, o⟩ := k
    exact (hbx.only o (fun hS => hS.elim hfar.1 hfar.2)).cell 0
  have CY : Hid (∀ s' w', s'.Small → StStep w F E G gd s' gb g ch w' → Calls Tryz.prog 48 #[.pointer (some ⟨gb, 0, none⟩)] w' fun e w2 => e = endsIn s'.sync.1 ∧ StStep w F E G gd s'.sync.2 gb g ch w2) := fun s' w' hs k => by
    have k' := k
    obtain ⟨F', E', G', d, f, e, r, o⟩ := k
    have ho2 := o.size
    refine (pgsync_any F' E' G' gd gb s' g ch w' d hs).mono fun e' w2 hh => ⟨hh.1, ?_⟩
    obtain ⟨F2, E2, G2, d2, f2, e2, r2, o2⟩ := hh.2
    refine ⟨F2, E2, G2, d2, fun i hi => ?_, fun i hi => ?_, fun i hi => ?_, o.trans o2 (fun i hi h => ?_)⟩
    · rcases f2 i hi with h | h
      · exact f i h
      · right; omega
    · rcases e2 i hi with h | h
      · exact e i h
      · right; omega
    · rcases r2 i hi with h | h
      · exact r i h
      · right; omega
    · rcases h with h | h
      · exact (f i h).imp id (fun h => by omega)
      · rcases r i h with h | h
        · exact .inr h
        · omega
  have SM : Hid (Bnd s (storeD g s (1 - l) sl ch (keysOf ch g.k)) ((keysOf ch g.k).length + (g.M + 1)) ∧ s.Room ((keysOf ch g.k).length + (g.M + 1))) := ⟨B, hroom.less (by omega)⟩
  have S0 : Hid (s.Small ∧ StStep w F E G gd s gb g ch w) := ⟨hroom.small, HS.same⟩
  obtain ⟨R, hR⟩ : ∃ R, R = storeD g s (1 - l) sl ch (keysOf ch g.k) := ⟨_, rfl⟩
  rw [← hR] at CS SM
  have HC : Hid (commitD g s l sl ch = andD (if keysOf ch g.k = [] then (0, s) else R) D.sync) := by rw [hR]; rfl
  clear hr ho hroom hch hown hh hlt hb HS h B hR hbx hlen
  by_cases hk : keysOf ch g.k = []
  · have HC : Hid (commitD g s l sl ch = s.sync) := Lib.hid (HC.out.trans (by rw [if_pos hk]; exact andD_ok _ rfl))
    have h0 : (keysOf ch g.k).length = 0 := by rw [hk]; rfl
    rw [h0] at hrun
    have C := CY.out s w S0.out.1 S0.out.2
    clear CS SM CY S0 h0 hk
    obtain ⟨y, hy⟩ : ∃ y, y = s.sync := ⟨_, rfl⟩
    rw [← hy] at C
    have HC : Hid (commitD g s l sl ch = y) := Lib.hid (HC.out.trans hy.symm)
    by_cases h0 : y.1 = 0
    · rw [h0, endsIn_zero] at C
      have HE : Hid (Ending.returned (Value.tuple #[]) = endsIn y.1 ∧ leftCh y.1 ch = noCh) := ⟨by rw [h0]; exact endsIn_zero.symm, by rw [h0]; rfl⟩
      have C := Lib.hid C
      clear h0 hy
      go_enter Tryz.func46, Tryz.ntmps46
      go_wp2_with fail
      refine C.out.mono ?_
      rintro e w9 ⟨rfl, st⟩
      have d0 := BOX.out _ _ _ st
      obtain ⟨gm2, w10, d5, hcl, st3⟩ := st.clear
      have ST3 := Lib.hid st3
      clear C st st3 BOX
      go_wp2
      go_end0
      rw [HC.out, HE.out.2]
      exact ⟨HE.out.1, ST3.out⟩
    · rw [endsIn_no h0] at C
      have HE : Hid (endsIn y.1 = .panicked [{ v := .iface 26 (.int .i64 y.1), recovered := false }] ∧ leftCh y.1 ch = ch) := ⟨endsIn_no h0, if_neg h0⟩
      have C := Lib.hid C
      clear h0 hy
      go_enter Tryz.func46, Tryz.ntmps46
      go_wp2_with fail
      refine C.out.mono ?_
      rintro e w9 ⟨rfl, st⟩
      have ST := Lib.hid st
      clear C st
      go_wp2
      rw [HC.out, HE.out.2]
      exact ⟨rfl, HE.out.1.symm, ST.out⟩
  · have hp : 0 < (keysOf ch g.k).length := List.length_pos_iff.2 hk
    have HC : Hid (commitD g s l sl ch = andD R D.sync) := Lib.hid (HC.out.trans (by rw [if_neg hk]))
    generalize (keysOf ch g.k).length = m at hrun hp SM hkl
    have i1 : (0 : Int) < (m : Int) := by omega
    clear S0 hk
    by_cases hR0 : R.1 = 0
    · have CS := CS.out
      rw [hR0, endsIn_zero] at CS
      have HC : Hid (commitD g s l sl ch = R.2.sync) := Lib.hid (HC.out.trans (andD_ok _ hR0))
      have SMALL := Lib.hid (SM.out.1.small SM.out.2)
      have CS := Lib.hid CS
      clear hR0 SM
      go_enter Tryz.func46, Tryz.ntmps46
      go_wp2_with fail
      refine CS.out.mono ?_
      rintro e w2 ⟨rfl, st2⟩
      have d0 := BOX.out _ _ _ st2
      have C := CY.out R.2 w2 SMALL.out st2
      clear CS CY st2 SMALL
      go_wp2_with fail
      obtain ⟨y, hy⟩ : ∃ y, y = R.2.sync := ⟨_, rfl⟩
      rw [← hy] at C
      have HC : Hid (commitD g s l sl ch = y) := Lib.hid (HC.out.trans hy.symm)
      by_cases h0 : y.1 = 0
      · rw [h0, endsIn_zero] at C
        have HE : Hid (Ending.returned (Value.tuple #[]) = endsIn y.1 ∧ leftCh y.1 ch = noCh) := ⟨by rw [h0]; exact endsIn_zero.symm, by rw [h0]; rfl⟩
        have C := Lib.hid C
        clear h0 hy
        refine C.out.mono ?_
        rintro e w9 ⟨rfl, st⟩
        have d0 := BOX.out _ _ _ st
        obtain ⟨gm2, w10, d5, hcl, st3⟩ := st.clear
        have ST3 := Lib.hid st3
        clear C st st3 BOX
        go_wp2
        go_end0
        rw [HC.out, HE.out.2]
        exact ⟨HE.out.1, ST3.out⟩
      · rw [endsIn_no h0] at C
        have HE : Hid (endsIn y.1 = .panicked [{ v := .iface 26 (.int .i64 y.1), recovered := false }] ∧ leftCh y.1 ch = ch) := ⟨endsIn_no h0, if_neg h0⟩
        have C := Lib.hid C
        clear h0 hy
        refine C.out.mono ?_
        rintro e w9 ⟨rfl, st⟩
        have ST := Lib.hid st
        clear C st
        go_wp2
        rw [HC.out, HE.out.2]
        exact ⟨rfl, HE.out.1.symm, ST.out⟩
    · have CS := CS.out
      rw [endsIn_no hR0] at CS
      have HC : Hid (commitD g s l sl ch = R) := Lib.hid (HC.out.trans (andD_no _ hR0))
      have HE : Hid (endsIn R.1 = .panicked [{ v := .iface 26 (.int .i64 R.1), recovered := false }] ∧ leftCh R.1 ch = ch) := ⟨endsIn_no hR0, if_neg hR0⟩
      have CS := Lib.hid CS
      clear hR0 SM CY BOX
      go_enter Tryz.func46, Tryz.ntmps46
      go_wp2_with fail
      refine CS.out.mono ?_
      rintro e w9 ⟨rfl, st⟩
      have ST := Lib.hid st
      clear CS st
      go_wp2
      rw [HC.out, HE.out.2]
      exact ⟨rfl, HE.out.1.symm, ST.out⟩
end
end Go.Proofs.YtnhojcldeloigaaGreat
