/-
  Package pages: store: what was changed is written, and the root turned to it.
-/
import Derived.Test.YtnhojcldeloigaaGreatPagesL
import Derived.Test.YtnhojcldeloigaaGreatPagesJ
import Derived.Test.YtnhojcldeloigaaGreatPackPagA
namespace Go.Proofs.YtnhojcldeloigaaGreat
open Go.RowKit Go.Lib Go.Maps
set_option maxRecDepth 100000

/-- The list of slots behind the pages' turns. -/
def stepsS : List Nat → List UInt8 → List UInt8
  | [], sl => sl
  | p :: ps, sl => stepsS ps (putS sl p (freeS (slotOf sl p)))
/-- The writes of pages. -/
def BG.storeW (g : BG) (ch : Nat → Option (List UInt8)) : List Nat → List UInt8 → List (Int × List UInt8)
  | [], _ => []
  | p :: ps, sl => (((g.at_ + g.slotP p (freeS (slotOf sl p)) : Nat) : Int), cpy g.z ((ch p).getD [])) :: g.storeW ch ps (putS sl p (freeS (slotOf sl p)))
/-- What store does to a disk, pages ps being still to be written. -/
def storeD (g : BG) (s : D) (l : Nat) (sl : List UInt8) (ch : Nat → Option (List UInt8)) (ps : List Nat) : Int × D := andD (s.runs (g.storeW ch ps sl)) fun t => turnD g t l (stepsS ps sl)
theorem storeD_nil (g : BG) (s : D) (l : Nat) (sl : List UInt8) (ch : Nat → Option (List UInt8)) : storeD g s l sl ch [] = turnD g s l sl := rfl
theorem storeD_on {g : BG} {s : D} {l : Nat} {sl : List UInt8} {ch : Nat → Option (List UInt8)} {p : Nat} {ps : List Nat} (h : (s.write ((g.at_ + g.slotP p (freeS (slotOf sl p)) : Nat) : Int) (cpy g.z ((ch p).getD []))).1 = 0) :
    storeD g s l sl ch (p :: ps) = storeD g (s.write ((g.at_ + g.slotP p (freeS (slotOf sl p)) : Nat) : Int) (cpy g.z ((ch p).getD []))).2 l (putS sl p (freeS (slotOf sl p))) ch ps := by
  simp only [storeD, BG.storeW, stepsS, D.runs]
  rw [if_pos h]
theorem storeD_off {g : BG} {s : D} {l : Nat} {sl : List UInt8} {ch : Nat → Option (List UInt8)} {p : Nat} {ps : List Nat} (h : (s.write ((g.at_ + g.slotP p (freeS (slotOf sl p)) : Nat) : Int) (cpy g.z ((ch p).getD []))).1 ≠ 0) :
    storeD g s l sl ch (p :: ps) = s.write ((g.at_ + g.slotP p (freeS (slotOf sl p)) : Nat) : Int) (cpy g.z ((ch p).getD [])) := by
  simp only [storeD, BG.storeW, stepsS, D.runs]
  rw [if_neg h, andD_no _ h]

theorem SlIs.narrow {w : World} {lo hi q n c : Nat} {bs : List UInt8} (h : SlIs w lo hi (.slice (some ⟨q, 0, none⟩) n c) bs) : SlIs w q (q + 1) (.slice (some ⟨q, 0, none⟩) n c) bs := by
  obtain ⟨A', c', e, h1, h2, h3⟩ := h
  injection e with e1 e2 e3
  subst e1 e2 e3
  refine ⟨_, _, rfl, h1, h2, fun h0 => ?_⟩
  obtain ⟨ad, e, l1, l2, hc⟩ := h3 h0
  injection e with e
  subst e
  exact ⟨_, rfl, Nat.le_refl _, Nat.lt_succ_self _, hc⟩

theorem keyPg (p : Nat) (hp : p ≤ 1000000) : keyOf Tryz.prog 3 (.int .i64 (p : Int)) = some (.int .i64 (p : Int)) := keyOf_int_mk Tryz.underlying3 (by
  have h1 : (-9223372036854775808 : Int) ≤ (p : Int) := by omega
  have h2 : (p : Int) ≤ 9223372036854775807 := by omega
  show (decide ((-9223372036854775808 : Int) ≤ (p : Int)) && decide ((p : Int) ≤ 9223372036854775807)) = true
  simp [h1, h2])
theorem zeroPg (w : World) : (zeroValue 33).run Tryz.prog w = .ok (.slice none 0 0) w := rfl
/-- What was changed is found in the map. -/
theorem look_any {w : World} {G : Nat → Prop} {gb gd gm : Nat} {g : BG} {ch : Nat → Option (List UInt8)} (h : BkAt w G gb gd g ch gm) {p : Nat} {bs : List UInt8} (hp : ch p = some bs) (hp1 : p ≤ 1000000) :
    ∃ q c, (Instr.lookup 65 (.map (some gm)) (.int .i64 (p : Int)) false).run Tryz.prog w = .ok (.slice (some ⟨q, 0, none⟩) bs.length c) w ∧ SlIs w q (q + 1) (.slice (some ⟨q, 0, none⟩) bs.length c) bs ∧ G q := by
  obtain ⟨⟨n, D0, hown, hh, hget⟩, _⟩ := h.ch
  obtain ⟨q, c, e1, o1, hG⟩ := hget p bs hp
  obtain ⟨v, ps, hrun, hv⟩ := hown.lookup (int_keyed Tryz.underlying3) Tryz.underlying65 (zeroPg w) (zd := .nil) (zp := []) rfl (key := .int .i64 (p : Int)) (kl := .int .i64 (p : Int)) (keyPg p hp1)
  rw [e1] at hv
  obtain rfl := slR_inv hv
  exact ⟨q, c, hrun, (owns_SlIs o1).narrow, hG⟩

/-- Within store: but for the list's block q nothing is touched beyond the disk and the book. -/
def SFin (w0 : World) (F E G : Nat → Prop) (gd : Nat) (s : D) (gb : Nat) (g : BG) (ch : Nat → Option (List UInt8)) (q : Nat) (W : World) : Prop :=
  ∃ F' E' G', St W F' E' G' gd s gb g ch ∧ (∀ i, F' i → F i ∨ w0.heap.size ≤ i) ∧ (∀ i, E' i → E i ∨ w0.heap.size ≤ i) ∧ (∀ i, G' i → G i ∨ w0.heap.size ≤ i) ∧ Only (fun i => F i ∨ G i ∨ i = q) w0 W
section
variable {w w0 W W' : World} {F E G : Nat → Prop} {gd gb q : Nat} {s s' : D} {g : BG} {ch : Nat → Option (List UInt8)}
theorem SFin.only (h : SFin w0 F E G gd s gb g ch q W) (k : Only (fun i => i = q) W W') (hq : q < w0.heap.size) (hF : ∀ i, F i → i < q) (hE : ∀ i, E i → i < q) (hG : ∀ i, G i → i < q) : SFin w0 F E G gd s gb g ch q W' := by
  obtain ⟨F', E', G', d, f, e, r, o⟩ := h
  refine ⟨F', E', G', d.only k (fun i _ hS => ⟨fun h => ?_, fun h => ?_, fun h => ?_⟩), f, e, r, o.trans k (fun i hi h => .inr (.inr h))⟩
  · have hS : i = q := hS
    rcases f i h with h | h
    · have := hF i h
      omega
    · omega
  · have hS : i = q := hS
    rcases e i h with h | h
    · have := hE i h
      omega
    · omega
  · have hS : i = q := hS
    rcases r i h with h | h
    · have := hG i h
      omega
    · omega
theorem SFin.go {F' E' G' : Nat → Prop} (f : ∀ i, F' i → F i ∨ w0.heap.size ≤ i) (e : ∀ i, E' i → E i ∨ w0.heap.size ≤ i) (r : ∀ i, G' i → G i ∨ w0.heap.size ≤ i) (o : Only (fun i => F i ∨ G i ∨ i = q) w0 W) (k : StStep W F' E' G' gd s' gb g ch W') :
    SFin w0 F E G gd s' gb g ch q W' ∧ Only (fun i => F i ∨ G i ∨ w0.heap.size ≤ i) W W' := by
  obtain ⟨F2, E2, G2, d2, f2, e2, r2, o2⟩ := k
  have hs := o.size
  refine ⟨⟨F2, E2, G2, d2, fun i hi => ?_, fun i hi => ?_, fun i hi => ?_, o.trans o2 (fun i hi h => ?_)⟩, o2.mono (fun i _ h => ?_)⟩
  · rcases f2 i hi with h | h
    · exact f i h
    · right; omega
  · rcases e2 i hi with h | h
    · exact e i h
    · right; omega
  · rcases r2 i hi with h | h
    · exact r i h
    · right; omega
  · rcases h with h | h
    · rcases f i h with h | h
      · exact .inl h
      · omega
    · rcases r i h with h | h
      · exact .inr (.inl h)
      · omega
  · rcases h with h | h
    · rcases f i h with h | h
      · exact .inl h
      · exact .inr (.inr h)
    · rcases r i h with h | h
      · exact .inr (.inl h)
      · exact .inr (.inr h)
theorem SFin.step (h : SFin w0 F E G gd s gb g ch q W) (k : Only (fun _ => False) w w0) (hq : w.heap.size ≤ q) : StStep w F E G gd s gb g ch W := by
  obtain ⟨F', E', G', d, f, e, r, o⟩ := h
  have hs := k.size
  refine ⟨F', E', G', d, fun i hi => (f i hi).imp id (fun h => by omega), fun i hi => (e i hi).imp id (fun h => by omega), fun i hi => (r i hi).imp id (fun h => by omega), (k.mono (T := fun i => F i ∨ G i) (fun _ _ h => h.elim)).trans o (fun i hi h => ?_)⟩
  rcases h with h | h | h
  · exact .inl h
  · exact .inr h
  · omega
end

/-- Between two rounds of store: pages ps still to be written. -/
structure SRel (w w0 : World) (F E G : Nat → Prop) (gd gb : Nat) (g : BG) (ch : Nat → Option (List UInt8)) (l q m c : Nat) (v : Value) (ks : List Nat) (R : Int × D) (ps : List Nat) (s : D) (sl : List UInt8) (W : World) : Prop where
  res : storeD g s l sl ch ps = R
  on : s.off = false
  room : s.Room (ps.length + 10)
  fin : SFin w0 F E G gd s gb g ch q W
  own : W.ownsRow w.heap.size 5 1 (.slice (some ⟨q, 0, none⟩) m c) m (b8s sl)
  keys : W.ownsRow w.heap.size 3 1 v ks.length (ks.map fun p : Nat => .int .i64 (p : Int))
section
variable (F E G : Nat → Prop) (gd gb : Nat) (s : D) (g : BG) (ch : Nat → Option (List UInt8)) (w : World) (h : St w F E G gd s gb g ch)
include h
set_option maxHeartbeats 1000000 in
theorem pgstore_any (l : Nat) (sl : List UInt8) (P : Nat → List UInt8) (hr : Rep g s.seen l sl P) (ho : s.off = false) (hroom : s.Room 1100) (hch : ∀ p bs, ch p = some bs → bs.length = g.z - 16) :
    Calls Tryz.prog 47 #[.pointer (some ⟨gb, 0, none⟩)] w fun e w' => e = endsIn (storeD g s (1 - l) sl ch (keysOf ch g.k)).1 ∧ StStep w F E G gd (storeD g s (1 - l) sl ch (keysOf ch g.k)).2 gb g ch w' := by
  have hok := h.ok
  have hz1 := hok.z1
  have hz2 := hok.z2
  have hk2 := hok.k2
  have hM1 := hok.M1
  have hMz := hok.Mz
  have hen := hok.enough
  have hrm := hok.room
  have hL4 := hok.L4
  have htwo := hr.two
  obtain ⟨hr1, hr2⟩ := rooted_of hr
  have C0 := Lib.hid (pgholds_any F E G gd gb s g ch w h ho)
  rw [if_pos hr1, hr2] at C0
  have hlen := hr.len
  have hmpos : 0 < g.M * g.z := Nat.mul_pos (by omega) (by omega)
  have C1 : Hid (∀ w1, Below w.heap.size w w1 → Calls Tryz.prog 52 #[.pointer (some ⟨gb, 0, none⟩), .int .i64 (l : Int)] w1 fun e w' => ∃ q c, e = .returned (.slice (some ⟨q, 0, none⟩) sl.length c) ∧ w.heap.size ≤ q ∧ q < w'.heap.size ∧ w'.ownsRow w.heap.size 5 1 (.slice (some ⟨q, 0, none⟩) sl.length c) sl.length (b8s sl) ∧ Below w.heap.size w w') := fun w1 k => by
    refine (pgslots_any F E G gd gb s g ch w1 (h.below k) l htwo ho).mono ?_
    rintro e w' ⟨hh, hb⟩
    rw [hr.slots] at hh
    have hkb := k.trans (hb.mono k.size)
    rcases hh with ⟨_, v, rfl, hv1, _⟩ | ⟨hno, _⟩
    · have hlt := hv1.lt
      rcases id hv1.2 with ⟨_, h0⟩ | ⟨q, cap, cur, rfl, hq, _⟩
      · omega
      · exact ⟨q, cap, rfl, Nat.le_trans k.size hq, (hlt q rfl).2, owns_base hv1 k.size, hkb⟩
    · exact absurd hr.ok hno
  have C2 : Hid (∀ w2, Below w.heap.size w w2 → Calls Tryz.prog 27 #[.pointer (some ⟨gb, 0, none⟩)] w2 (ChangedAns w2 (keysOf ch g.k))) := fun w2 k => bookchanged_any G gb gd g ch w2 ((h.below k).bk) hk2
  have HK : Hid (∀ p, p ∈ keysOf ch g.k → p < g.k ∧ ∃ bs, ch p = some bs ∧ bs.length = g.z - 16) := fun p hp => by
    obtain ⟨h1, h2⟩ := keysOf_mem.1 hp
    obtain ⟨bs, hbs⟩ := Option.isSome_iff_exists.1 h2
    exact ⟨h1, bs, hbs, hch p bs hbs⟩
  have hkl := keysOf_len ch g.k
  have CO := Lib.hid (fun W => (other_any l htwo W).mono fun e w' (hh : e = .returned (.int .i64 ((1 - l : Nat) : Int)) ∧ W = w') => (⟨hh.1, hh.2.symm⟩ : e = .returned (.int .i64 ((1 - l : Nat) : Int)) ∧ w' = W))
  have HST := Lib.hid h
  have hlts := h.lts
  generalize keysOf ch g.k = ks at C2 HK hkl ⊢
  have HLEN := Lib.hid hlen
  have hlen4 : sl.length ≤ 4096 := by omega
  have hlenk : g.k ≤ 4 * sl.length := by omega
  have hlenp : 0 < sl.length := by omega
  clear h hr hr1 hr2 hch hok hlen
  go_enter Tryz.func47, Tryz.ntmps47
  go_wp2_with fail
  refine C0.out.mono ?_
  rintro e w1 ⟨rfl, b1⟩
  have C1 := Lib.hid (C1.out w1 b1)
  clear C0 b1
  go_wp2_with fail
  refine C1.out.mono ?_
  rintro e w2 ⟨q, c, rfl, hq1, hq2, own2, b2⟩
  have C2 := Lib.hid (C2.out w2 b2)
  have OWN2 := Lib.hid own2
  have B2 := Lib.hid b2
  clear C1 own2 b2
  go_wp2_with fail
  refine C2.out.mono ?_
  rintro e w3 ⟨v, rfl, own3, b3⟩
  have hs3 := b3.size
  have hs2 := B2.out.size
  have kk : Hid (Only (fun _ => False) w w3) := (Only.of_below B2.out).trans (Only.of_below b3) (fun i hi h => by have h : w2.heap.size ≤ i := h; omega) |>.mono (fun i hi h => by have h : w.heap.size ≤ i := h; omega)
  have KK : Hid (Only (fun _ => False) w w3) := Lib.hid kk.out
  have S3 : Hid (SRel w w3 F E G gd gb g ch (1 - l) q sl.length c v ks (storeD g s (1 - l) sl ch ks) ks s sl w3) := Lib.hid ⟨rfl, ho, hroom.less (by omega), ⟨F, E, G, HST.out.new KK.out, fun _ h => .inl h, fun _ h => .inl h, fun _ h => .inl h, Only.refl _ w3⟩, owns_only OWN2.out (Only.of_below b3) (fun i hi hS => by
    have := (OWN2.out.lt i hi).2
    have hS : w2.heap.size ≤ i := hS
    omega), owns_base own3 (by omega)⟩
  have HV : Hid (∀ i, v.ownBlock = some i → w2.heap.size ≤ i ∧ i < w3.heap.size) := fun i hi => own3.lt i hi
  obtain ⟨A, cv, rfl, hA⟩ : ∃ A cv, v = .slice A ks.length cv ∧ (0 < ks.length → ∃ b, A = some ⟨b, 0, none⟩) := by
    rcases id own3.2 with ⟨rfl, h0⟩ | ⟨q', cap, cur, rfl, _⟩
    · exact ⟨none, 0, by rw [h0], fun hh => by omega⟩
    · exact ⟨_, _, rfl, fun _ => ⟨q', rfl⟩⟩
  obtain ⟨RES, hRES⟩ : ∃ R, R = storeD g s (1 - l) sl ch ks := ⟨_, rfl⟩
  rw [← hRES] at S3
  have HRES := Lib.hid hRES
  clear hRES
  clear C2 own3 b3 HST OWN2 B2 kk ho hroom
  go_wp2_with fail
  go_loopw [16] (fun i wr => ∃ (j : Nat) (t : D) (sl' : List UInt8), j ≤ ks.length ∧ i = .int .i64 j ∧ Hid (SRel w w3 F E G gd gb g ch (1 - l) q sl.length c (.slice A ks.length cv) ks RES (ks.drop j) t sl' wr)) (fun i _ => ks.length - (RowKit.intOf i).toNat)
  case atStart => exact ⟨0, s, sl, Nat.zero_le _, rfl, S3⟩
  case round =>
    obtain ⟨j, t, sl', hj, rfl, hrel⟩ := hrel
    clear S3
    obtain ⟨hres, hon, hrm', hfin, hown, hkeys⟩ := hrel.out
    have hsl' : sl'.length = sl.length := by have := hown.1; simpa [b8s_length] using this
    clear hrel
    by_cases hlt : j < ks.length
    · have hd : ks.drop j = ks[j] :: ks.drop (j + 1) := List.drop_eq_getElem_cons hlt
      rw [hd] at hres hrm'
      obtain ⟨p, hp⟩ : ∃ p, p = ks[j] := ⟨_, rfl⟩
      rw [← hp] at hres hrm'
      have hdl : (p :: ks.drop (j + 1)).length = (ks.drop (j + 1)).length + 1 := rfl
      rw [hdl] at hrm'
      obtain ⟨hpk, bs, hbs, hbl⟩ := HK.out p (by rw [hp]; exact List.getElem_mem _)
      obtain ⟨b0, rfl⟩ := hA (by omega)
      have hcell := World.ownsRow.cellAt hkeys j (by omega)
      rw [List.getElem?_map, List.getElem?_eq_getElem hlt, ← hp] at hcell
      have hcell : wr.cell? ((⟨b0, 0, none⟩ : Addr).add j) = some (.int .i64 (p : Int)) := by
        rw [show ((⟨b0, 0, none⟩ : Addr).add j) = ⟨b0, j, none⟩ by by_cases h0 : j = 0 <;> simp [Addr.add, h0]]
        exact hcell
      have i1 : (j : Int) < (ks.length : Int) := by omega
      have i2 : (0 : Int) ≤ (j : Int) := by omega
      have hp4 : p / 4 < sl.length := by omega
      have hcs := World.ownsRow.cellAt hown (p / 4) (by omega)
      rw [b8s_get (by omega)] at hcs
      obtain ⟨x, hx⟩ : ∃ x, x = slotOf sl' p := ⟨_, rfl⟩
      have hsx : slotOf sl' p = crumb sl'[p / 4] (p % 4) := by simp [slotOf, List.getD, List.getElem?_eq_getElem (show p / 4 < sl'.length by omega)]
      have hx4 : x < 4 := by rw [hx, hsx]; exact crumb_lt _ _
      have C3 := Lib.hid (slotof_any ⟨q, 0, none⟩ sl.length c p sl'[p / 4] wr (by omega) hp4 (by
        rw [show ((⟨q, 0, none⟩ : Addr).add (p / 4)) = ⟨q, p / 4, none⟩ by by_cases h0 : p / 4 = 0 <;> simp [Addr.add, h0]]
        exact hcs))
      rw [← hsx, ← hx] at C3
      have C4 : Hid (∀ W, Calls Tryz.prog 73 #[.int .u8 (x : Int)] W fun e w' => e = .returned (.int .u8 (freeS x : Int)) ∧ w' = W) := fun W => (free_any x hx4 W).mono fun e w' hh => ⟨hh.1, hh.2.symm⟩
      obtain ⟨hf1, _, hf4, _⟩ := freeS_cases x
      have hget : sl'.getD (p / 4) 0 = sl'[p / 4] := by simp [List.getD, List.getElem?_eq_getElem (show p / 4 < sl'.length by omega)]
      have C5 : Hid (∀ n, Calls Tryz.prog 75 #[.slice (some ⟨q, 0, none⟩) sl.length c, .int .i64 (p : Int), .int .u8 (freeS x : Int)] (wr.drewN n) fun e w' => e = .returned (.tuple #[]) ∧ SFin w3 F E G gd t gb g ch q w' ∧ w'.ownsRow w.heap.size 5 1 (.slice (some ⟨q, 0, none⟩) sl.length c) sl.length (b8s (putS sl' p (freeS x))) ∧ w'.ownsRow w.heap.size 3 1 (.slice (some ⟨b0, 0, none⟩) ks.length cv) ks.length (ks.map fun p : Nat => .int .i64 (p : Int))) := fun n => by
        refine (putslot_any q sl.length c p (freeS x) sl'[p / 4] (wr.drewN n) (by omega) hp4 hf4 hcs (World.ownsRow.frozenAt hown _)).mono ?_
        rintro e w' ⟨rfl, n', rfl⟩
        have k : Only (fun i => i = q) wr (((wr.drewN n).drewN n').setCell ⟨q, p / 4, none⟩ (b8 (setCrumb sl'[p / 4] (p % 4) (freeS x)))) := (show Only (fun i => i = q) wr ((wr.drewN n).drewN n') from ⟨rfl, rfl, rfl, Nat.le_refl _, fun _ _ _ => rfl⟩).setCell (p := ⟨q, _, none⟩) (fun _ => rfl) _
        refine ⟨rfl, hfin.only k (by omega) (fun i hi => by have := hlts.1 i hi; omega) (fun i hi => by have := hlts.2.1 i hi; omega) (fun i hi => by have := hlts.2.2 i hi; omega), ?_, ?_⟩
        · unfold putS
          rw [b8s_set, hget]
          exact (World.ownsRow.stored (w := (wr.drewN n).drewN n') hown _ _).1
        · exact owns_only hkeys k (fun i hi hS => by
            have := (HV.out i hi).1
            have hS : i = q := hS
            omega)
      have HX := Lib.hid hx
      clear hfin hown hkeys hcs hsx hp hx hd hget hdl hbl
      have HBS := Lib.hid hbs
      clear hbs
      go_wp2_with fail
      refine C3.out.mono ?_
      rintro e w4 ⟨rfl, n, rfl⟩
      clear C3
      go_wp2_with fail
      refine (C4.out _).mono ?_
      rintro e w4 ⟨rfl, rfl⟩
      clear C4
      go_wp2_with fail
      refine (C5.out n).mono ?_
      rintro e w4 ⟨rfl, fin4, own4, keys4⟩
      obtain ⟨F4, E4, G4, d4, f4, e4, r4, o4⟩ := fin4
      obtain ⟨gm, hb4⟩ := d4.bk
      have c3 := hb4.cells.2.2.2.1
      obtain ⟨w5, hmk, o5, k5, s5⟩ := make_bytes g.z (by omega) w4
      have hb5 := hb4.only k5 (fun _ _ h => h.elim)
      have c5 := hb5.cells.2.2.2.2.2
      obtain ⟨qx, cx, hlook, hxl, _⟩ := look_any hb5 HBS.out (by omega)
      obtain ⟨mm, w6, hcp, o6, k6⟩ := copy_bytes o5 hxl
      have k46 : Only (fun _ => False) w4 w6 := k5.trans k6 (fun i hi h => by omega)
      have d6 := d4.new k46
      have hP2 : g.slotP p (freeS x) < g.n := by
        simp only [BG.slotP]
        omega
      have C6 := Lib.hid ((slotplace_any F4 E4 G4 gd gb t g ch w6 d6 p (freeS x) (by omega) hf1).mono fun e w' hh => (⟨hh.1, hh.2.symm⟩ : e = .returned (.int .i64 (g.slotP p (freeS x) : Int)) ∧ w' = w6))
      have hx6 : SlIs w6 w4.heap.size w6.heap.size (.slice (some ⟨w4.heap.size, 0, none⟩) g.z g.z) (cpy g.z bs) := owns_SlIs (bs := cpy g.z bs) (by rw [cpy_length]; exact o6)
      have C7 := (pgwrite_any F4 E4 G4 gd gb t g ch w6 d6 (g.slotP p (freeS x)) w4.heap.size w6.heap.size _ (cpy g.z bs) hP2 hx6 (Nat.le_refl _) (fun i h1 h2 hF => by have := d4.lts.1 i hF; omega) hrm'.small).mono fun e w' hh => (⟨hh.1, SFin.go f4 e4 r4 (o4.trans k46 (fun _ _ h => h.elim)) hh.2⟩ : e = _ ∧ SFin w3 F E G gd _ gb g ch q w' ∧ Only (fun i => F i ∨ G i ∨ w3.heap.size ≤ i) w6 w')
      have hon2 := storeD_on (g := g) (s := t) (l := 1 - l) (sl := sl') (ch := ch) (p := p) (ps := ks.drop (j + 1))
      have hoff2 := storeD_off (g := g) (s := t) (l := 1 - l) (sl := sl') (ch := ch) (p := p) (ps := ks.drop (j + 1))
      have hbs2 : (ch p).getD [] = bs := by rw [HBS.out]; rfl
      have hwb := D.write_bounds8 t ((g.at_ + g.slotP p (freeS x) : Nat) : Int) (cpy g.z bs)
      have hwo := write_off (s := t) (i := ((g.at_ + g.slotP p (freeS x) : Nat) : Int)) (b := cpy g.z bs)
      rw [← HX.out, hbs2, hres] at hon2 hoff2
      have own6 := Lib.hid (owns_only own4 k46 (fun _ _ h => h.elim))
      have keys6 := Lib.hid (owns_only keys4 k46 (fun _ _ h => h.elim))
      have HRM := Lib.hid hrm'
      generalize t.write ((g.at_ + g.slotP p (freeS x) : Nat) : Int) (cpy g.z bs) = r at C7 hon2 hoff2 hwb hwo
      have HN : Hid (∀ w', r.1 = 0 → SFin w3 F E G gd r.2 gb g ch q w' → Only (fun i => F i ∨ G i ∨ w3.heap.size ≤ i) w6 w' → SRel w w3 F E G gd gb g ch (1 - l) q sl.length c (.slice (some ⟨b0, 0, none⟩) ks.length cv) ks RES (ks.drop (j + 1)) r.2 (putS sl' p (freeS x)) w') := fun w' h0 hf hk => by
        refine ⟨(hon2 h0).symm, (hwo h0).trans hon, ⟨by have := HRM.out.pend; omega, by have := HRM.out.armed; omega, by have := HRM.out.writes; omega⟩, hf, owns_only own6.out hk (fun i hi hS => ?_), owns_only keys6.out hk (fun i hi hS => ?_)⟩
        · have hi : q = i := by simpa [Value.ownBlock] using hi
          subst hi
          rcases hS with hS | hS | hS
          · have := hlts.1 _ hS
            omega
          · have := hlts.2.2 _ hS
            omega
          · omega
        · have h2 := HV.out i hi
          rcases hS with hS | hS | hS
          · have := hlts.1 _ hS
            omega
          · have := hlts.2.2 _ hS
            omega
          · omega
      have HOFF := Lib.hid hoff2
      have C7 := Lib.hid C7
      clear C5 own4 keys4 o4 hb4 hb5 o5 k5 s5 hxl o6 k6 k46 d4 d6 hx6 hon2 hoff2 hwb hwo hrm' hres hbs2
      go_wp2_with fail
      refine C6.out.mono ?_
      rintro e w7 ⟨rfl, rfl⟩
      clear C6
      by_cases h0 : r.1 = 0
      · rw [h0, endsIn_zero] at C7
        go_wp2_with fail
        refine C7.out.mono ?_
        rintro e w7 ⟨rfl, fin7, k7⟩
        have S7 := Lib.hid (HN.out w7 h0 fin7 k7)
        clear C7 HN fin7 k7
        go_wp2
        go_roundw
        case rel => exact ⟨j + 1, r.2, putS sl' p (freeS x), by omega, by go_num, S7⟩
        case measure => simp [RowKit.intOf]; omega
      · have hR := HOFF.out h0
        rw [endsIn_no h0] at C7
        go_wp2_with fail
        refine C7.out.mono ?_
        rintro e w7 ⟨rfl, fin7, k7⟩
        have S7 : Hid (endsIn RES.1 = .panicked [{ v := .iface 26 (.int .i64 r.1), recovered := false }] ∧ StStep w F E G gd RES.2 gb g ch w7) := by
          rw [hR]
          exact ⟨endsIn_no h0, fin7.step KK.out hq1⟩
        clear C7 HN fin7 k7 hR
        go_wp2
        rw [← HRES.out]
        exact ⟨rfl, S7.out.1.symm, S7.out.2⟩
    · have hje : j = ks.length := by omega
      subst hje
      rw [List.drop_length] at hres hrm'
      rw [storeD_nil] at hres
      obtain ⟨F4, E4, G4, d4, f4, e4, r4, o4⟩ := hfin
      have hs4 := o4.size
      have hx9 : SlIs wr q (q + 1) (.slice (some ⟨q, 0, none⟩) sl'.length c) sl' := by
        rw [hsl']
        exact (owns_SlIs (bs := sl') (by rw [hsl']; exact hown)).narrow
      have C8 := pgturn_any F4 E4 G4 gd gb t g ch wr d4 (1 - l) c q (q + 1) ⟨q, 0, none⟩ sl' (by omega) hon hx9 (by omega) (fun i h1 h2 => by
        have hi : i = q := by omega
        subst hi
        refine ⟨fun hF => ?_, fun hG => ?_⟩
        · rcases f4 i hF with h | h
          · have := hlts.1 i h
            omega
          · omega
        · rcases r4 i hG with h | h
          · have := hlts.2.2 i h
            omega
          · omega) (by rw [hsl']; exact HLEN.out) (hrm'.less (by simp))
      rw [hres, hsl'] at C8
      have C8 := Lib.hid (C8.mono fun e w' hh => (⟨hh.1, (SFin.go f4 e4 r4 o4 hh.2).1.step KK.out hq1⟩ : e = endsIn RES.1 ∧ StStep w F E G gd RES.2 gb g ch w'))
      have i1 : decide ((ks.length : Int) < (ks.length : Int)) = false := decide_eq_false (by omega)
      clear hown hkeys hx9 d4 o4 hres hrm'
      go_wp2_with fail
      refine (CO.out _).mono ?_
      rintro e w4 ⟨rfl, rfl⟩
      by_cases h0 : RES.1 = 0
      · rw [h0, endsIn_zero] at C8
        have HE : Hid (Ending.returned (Value.tuple #[]) = endsIn RES.1) := by rw [h0]; exact endsIn_zero.symm
        clear h0
        go_wp2_with fail
        refine C8.out.mono ?_
        rintro e w7 ⟨rfl, st⟩
        have S7 := Lib.hid st
        clear C8 st
        go_wp2
        go_end0
        rw [← HRES.out]
        exact ⟨HE.out, S7.out⟩
      · rw [endsIn_no h0] at C8
        have HE := Lib.hid (endsIn_no h0).symm
        clear h0
        go_wp2_with fail
        refine C8.out.mono ?_
        rintro e w7 ⟨rfl, st⟩
        have S7 := Lib.hid st
        clear C8 st
        go_wp2
        rw [← HRES.out]
        exact ⟨rfl, HE.out, S7.out⟩
end
end Go.Proofs.YtnhojcldeloigaaGreat
