/-
  Layer 8, pure: what Format and Commit leave of a disk, wherever the power goes.
  Layer 8, pure: the book that Format and Commit leave.
  Layer 8, pure: Format and Commit, whole.
-/
import Derived.Test.YtnhojcldeloigaaGreatPagesS
namespace Go.Proofs.YtnhojcldeloigaaGreat
open Go.RowKit
set_option maxRecDepth 100000

theorem pieces_flat8 {z : Nat} : ∀ (m : Nat) (b : List UInt8), b.length = m * z → ((List.range m).map (piece z b)).flatten = b
  | 0, b, h => by simp at h; simp [h]
  | m + 1, b, h => by
    have e := pieces_flat8 (z := z) m (b.drop z) (by rw [List.length_drop, h, Nat.succ_mul]; omega)
    rw [List.range_succ_eq_map, List.map_cons, List.flatten_cons, List.map_map]
    have e2 : (List.range m).map (piece z b ∘ Nat.succ) = (List.range m).map (piece z (b.drop z)) := List.map_congr_left fun i _ => by
      simp only [Function.comp, piece, List.drop_drop]
      congr 2
      rw [Nat.succ_mul]
      omega
    rw [e2, e]
    simp [piece]

/-! ### the pages' turns -/
theorem stepsS_length : ∀ (ps : List Nat) (sl : List UInt8), (stepsS ps sl).length = sl.length
  | [], _ => rfl
  | p :: ps, sl => by rw [stepsS, stepsS_length ps, putS_length]
theorem slotOf_steps : ∀ (ps : List Nat) (sl : List UInt8), ps.Nodup → (∀ p ∈ ps, p / 4 < sl.length) → ∀ q, slotOf (stepsS ps sl) q = if q ∈ ps then freeS (slotOf sl q) else slotOf sl q
  | [], _, _, _, q => by simp [stepsS]
  | p :: ps, sl, hn, hl, q => by
    have hn' := List.nodup_cons.1 hn
    have hp := hl p (List.mem_cons_self ..)
    rw [stepsS, slotOf_steps ps _ hn'.2 (fun r hr => by rw [putS_length]; exact hl r (List.mem_cons_of_mem _ hr)), slotOf_putS sl p _ q hp (freeS_cases _).2.2.1]
    by_cases hq : q = p
    · subst hq
      rw [if_neg hn'.1, if_pos rfl, if_pos (List.mem_cons_self ..)]
    · rw [if_neg hq]
      by_cases hm : q ∈ ps
      · rw [if_pos hm, if_pos (List.mem_cons_of_mem _ hm)]
      · rw [if_neg hm, if_neg (fun h => (List.mem_cons.1 h).elim hq hm)]
def BG.storeN (g : BG) (ch : Nat → Option (List UInt8)) (sl : List UInt8) (ps : List Nat) : List (Nat × List UInt8) := ps.map fun p => (g.at_ + g.slotP p (freeS (slotOf sl p)), cpy g.z ((ch p).getD []))
def BG.listN (g : BG) (l : Nat) (sl : List UInt8) : List (Nat × List UInt8) := (List.range g.M).map fun j => (g.at_ + (g.listP l + j), piece g.z sl j)
def toI (ws : List (Nat × List UInt8)) : List (Int × List UInt8) := ws.map fun p => ((p.1 : Int), p.2)
theorem storeW_N (g : BG) (ch : Nat → Option (List UInt8)) : ∀ (ps : List Nat) (sl : List UInt8), ps.Nodup → (∀ p ∈ ps, p / 4 < sl.length) → g.storeW ch ps sl = toI (g.storeN ch sl ps)
  | [], _, _, _ => rfl
  | p :: ps, sl, hn, hl => by
    have hn' := List.nodup_cons.1 hn
    have hp := hl p (List.mem_cons_self ..)
    rw [BG.storeW, storeW_N g ch ps _ hn'.2 (fun r hr => by rw [putS_length]; exact hl r (List.mem_cons_of_mem _ hr))]
    simp only [BG.storeN, toI, List.map_cons, List.map_map]
    congr 1
    refine List.map_congr_left fun q hq => ?_
    have hne : ¬ q = p := fun e => hn'.1 (e ▸ hq)
    simp only [Function.comp]
    rw [slotOf_putS sl p _ q hp (freeS_cases _).2.2.1, if_neg hne]
theorem listW_N (g : BG) (l : Nat) (sl : List UInt8) : g.listW l sl g.M = toI (g.listN l sl) := by
  simp [BG.listW, BG.listN, toI, List.map_map, Function.comp]
def finD (g : BG) (r : Int × D) (l : Nat) : Int × D := andD (andD (andD r D.sync) (fun s => s.write ((g.at_ + 0 : Nat) : Int) (rootB g.z g.n g.k l))) D.sync
theorem turn_fin (g : BG) (s : D) (l : Nat) (sl : List UInt8) : turnD g s l sl = finD g (s.runs (toI (g.listN l sl))) l := by
  rw [← listW_N]
  rfl
theorem store_fin (g : BG) (s : D) (l : Nat) (sl : List UInt8) (ch : Nat → Option (List UInt8)) (ps : List Nat) (hn : ps.Nodup) (hl : ∀ p ∈ ps, p / 4 < sl.length) :
    storeD g s l sl ch ps = finD g (s.runs (toI (g.storeN ch sl ps ++ g.listN l (stepsS ps sl)))) l := by
  unfold storeD
  rw [storeW_N g ch ps sl hn hl, show toI (g.storeN ch sl ps ++ g.listN l (stepsS ps sl)) = toI (g.storeN ch sl ps) ++ toI (g.listN l (stepsS ps sl)) by simp [toI], D.runs_append]
  by_cases h : (s.runs (toI (g.storeN ch sl ps))).1 = 0
  · rw [andD_ok _ h, if_pos h, turn_fin]
  · rw [andD_no _ h, if_neg h]
    unfold finD
    rw [andD_no _ h, andD_no _ h, andD_no _ h]

/-! ### what is left -/
theorem andD_zero (d : D) (f : D → Int × D) : andD (0, d) f = f d := rfl
/-- It went through. -/
structure Done (g : BG) (s : D) (ws : List (Nat × List UInt8)) (l : Nat) (r : Int × D) : Prop where
  zero : r.1 = 0
  on : r.2.off = false
  pend : r.2.pend = []
  kept : r.2.kept = (applyL s.kept ws).set g.at_ (rootB g.z g.n g.k l)
  size : r.2.size = s.size
  armed : r.2.armed ≤ s.armed
  ok : r.2.Ok
/-- The power went. -/
structure Down (T : Nat → Prop) (s : D) (r : Int × D) : Prop where
  down : r.1 = 22
  off : r.2.off = true
  pend : r.2.pend = []
  kept : Agree T s.kept r.2.kept
  size : r.2.size = s.size
  ok : r.2.Ok
  armed : s.armed ≠ 0
/-- Where nothing is armed it goes through. -/
theorem runs_unarmed : ∀ (ws : List (Nat × List UInt8)) (s : D), s.off = false → s.armed = 0 → (∀ p ∈ ws, p.1 < s.kept.length ∧ p.2.length = s.size) → (s.runs (toI ws)).1 = 0 ∧ (s.runs (toI ws)).2.armed = 0
  | [], s, _, ha, _ => ⟨rfl, ha⟩
  | p :: ws, s, ho, ha, hw => by
    obtain ⟨h1, h2⟩ := hw p (List.mem_cons_self ..)
    have e := D.write_on ho h1 h2
    rw [if_neg (by omega)] at e
    simp only [toI, List.map_cons, D.runs]
    rw [if_pos (by rw [e]), e]
    exact runs_unarmed ws (s.put p.1 p.2) ho (by show s.armed - 1 = 0; omega) (fun q hq => hw q (List.mem_cons_of_mem _ hq))
theorem fin_pure {g : BG} {s : D} {T : Nat → Prop} (ws : List (Nat × List UInt8)) (l : Nat) (hok : s.Ok) (ho : s.off = false) (hp : s.pend = []) (hw : ∀ p ∈ ws, p.1 < s.kept.length ∧ p.2.length = s.size ∧ T p.1) (hat : g.at_ < s.kept.length) (hrl : (rootB g.z g.n g.k l).length = s.size) :
    Done g s ws l (finD g (s.runs (toI ws)) l) ∨ Down T s (finD g (s.runs (toI ws)) l) := by
  have h0 : OnT s T s := ⟨hok, ho, rfl, rfl, fun p h => by rw [hp] at h; cases h⟩
  rcases runs_on ws s h0 hw with ⟨q1, q2, q3, q4, q5⟩ | ⟨q1, q2, q3, q4⟩
  · change (s.runs (toI ws)).1 = 0 at q1
    obtain ⟨t, ht⟩ : ∃ t, t = (s.runs (toI ws)).2 := ⟨_, rfl⟩
    change OnT s T (s.runs (toI ws)).2 at q2
    change (s.runs (toI ws)).2.pend = _ at q3
    change (s.runs (toI ws)).2.armed ≤ _ at q5
    rw [← ht] at q2 q3 q5
    have e1 : t.sync = (0, { t with kept := t.seen, pend := [] }) := by unfold D.sync; rw [if_neg (by rw [q2.on]; decide)]
    obtain ⟨u, hu⟩ : ∃ u : D, u = { t with kept := t.seen, pend := [] } := ⟨_, rfl⟩
    have uo : u.off = false := by rw [hu]; exact q2.on
    have uk : u.kept = applyL s.kept ws := by rw [hu]; show applyL t.kept t.pend = _; rw [q3, q2.kept, hp, List.nil_append]
    have up : u.pend = [] := by rw [hu]
    have us : u.size = s.size := by rw [hu]; exact q2.size
    have ua : u.armed ≤ s.armed := by rw [hu]; exact q5
    have uok : u.Ok := by rw [hu]; exact q2.ok.synced
    have ukl : u.kept.length = s.kept.length := by rw [uk, applyL_length]
    have ag : Agree T s.kept u.kept := by rw [uk]; exact agree_apply T ws s.kept (fun p h => (hw p h).2.2)
    have hat' : g.at_ + 0 < u.kept.length := by omega
    have ew := D.write_on (s := u) (b := rootB g.z g.n g.k l) uo hat' (by rw [us]; exact hrl)
    have ef : finD g (s.runs (toI ws)) l = andD (u.write ((g.at_ + 0 : Nat) : Int) (rootB g.z g.n g.k l)) D.sync := by
      unfold finD
      rw [andD_ok _ q1, ← ht, e1, andD_zero, ← hu]
    by_cases ha : u.armed = 1
    · right
      rw [if_pos ha] at ew
      have : finD g (s.runs (toI ws)) l = (22, u.cut u.keep) := by rw [ef, ew, andD_no _ (by simp)]
      rw [this]
      exact ⟨rfl, rfl, rfl, by show Agree T s.kept (applyL u.kept (chosen u.pend u.keep)); rw [up]; exact ag, us, uok.cut _, by omega⟩
    · left
      rw [if_neg ha] at ew
      have e3 : (u.put (g.at_ + 0) (rootB g.z g.n g.k l)).sync = (0, { u.put (g.at_ + 0) (rootB g.z g.n g.k l) with kept := (u.put (g.at_ + 0) (rootB g.z g.n g.k l)).seen, pend := [] }) := by unfold D.sync; rw [if_neg (by show ¬ u.off = true; rw [uo]; decide)]
      have : finD g (s.runs (toI ws)) l = (0, { u.put (g.at_ + 0) (rootB g.z g.n g.k l) with kept := (u.put (g.at_ + 0) (rootB g.z g.n g.k l)).seen, pend := [] }) := by rw [ef, ew, andD_zero, e3]
      rw [this]
      refine ⟨rfl, uo, rfl, ?_, us, ?_, ?_⟩
      · show applyL u.kept (u.pend ++ [(g.at_ + 0, rootB g.z g.n g.k l)]) = _
        rw [up, uk]
        rfl
      · show u.armed - 1 ≤ _
        omega
      · exact (uok.put hat' (by rw [us]; exact hrl)).synced
  · right
    have e : finD g (s.runs (toI ws)) l = s.runs (toI ws) := by
      have hne : (s.runs (toI ws)).1 ≠ 0 := by
        change (s.runs (toI ws)).1 = 22 at q1
        rw [q1]
        decide
      unfold finD
      rw [andD_no _ hne, andD_no _ hne, andD_no _ hne]
    rw [e]
    refine ⟨q1, q2.off, q2.pend, q2.kept, q2.size, q2.ok, fun ha => ?_⟩
    have := (runs_unarmed ws s ho ha (fun p h => ⟨(hw p h).1, (hw p h).2.1⟩)).1
    change (s.runs (toI ws)).1 = 22 at q1
    rw [q1] at this
    cases this
end Go.Proofs.YtnhojcldeloigaaGreat
namespace Go.Proofs.YtnhojcldeloigaaGreat
open Go.RowKit
set_option maxRecDepth 100000

theorem slots_made {g : BG} {K : List (List UInt8)} {l : Nat} {sl : List UInt8} (hl : sl.length = g.M * g.z) (h : ∀ j, j < g.M → g.sec K (g.listP l + j) = piece g.z sl j) : g.slots K l = sl := by
  unfold BG.slots
  rw [List.map_congr_left (g := piece g.z sl) (fun j hj => h j (List.mem_range.1 hj))]
  exact pieces_flat8 _ _ hl
def setR (g : BG) (K : List (List UInt8)) (ws : List (Nat × List UInt8)) (l : Nat) : List (List UInt8) := (applyL K ws).set g.at_ (rootB g.z g.n g.k l)
section
variable {g : BG} {K : List (List UInt8)} {ws : List (Nat × List UInt8)} {l : Nat}
theorem sec_root (h : g.at_ < K.length) : g.sec (setR g K ws l) 0 = rootB g.z g.n g.k l := by
  simp [BG.sec, setR, List.getD, applyL_length, h]
theorem sec_other {i : Nat} (hi : i ≠ 0) (h : ∀ p ∈ ws, p.1 ≠ g.at_ + i) : g.sec (setR g K ws l) i = g.sec K i := by
  simp only [BG.sec, setR, List.getD]
  rw [List.getElem?_set_ne (by omega), applyL_other ws K _ h]
theorem sec_made {i : Nat} {b : List UInt8} (hi : i ≠ 0) (hn : (ws.map Prod.fst).Nodup) (hm : (g.at_ + i, b) ∈ ws) (hl : g.at_ + i < K.length) : g.sec (setR g K ws l) i = b := by
  have := applyL_mem ws K hn _ hm hl
  simp only [BG.sec, setR, List.getD]
  rw [List.getElem?_set_ne (by omega), this]
  rfl
theorem agree_setR (h : ∀ p ∈ ws, g.at_ ≤ p.1 ∧ p.1 < g.at_ + g.n) (hn : 0 < g.n) : Agree (fun i => g.at_ ≤ i ∧ i < g.at_ + g.n) K (setR g K ws l) :=
  ⟨by simp [setR, applyL_length], fun i hi => by
    unfold setR
    rw [List.getElem?_set_ne (fun e => hi (by omega)), applyL_other ws K i (fun p hp e => hi (e ▸ h p hp))]⟩
end
theorem zslot (g : BG) (p : Nat) : slotOf (zslots g) p = 0 := by
  unfold slotOf
  have : (zslots g).getD (p / 4) 0 = 0 := by
    simp only [zslots, List.getD, List.getElem?_replicate]
    split <;> rfl
  rw [this]
  simp [crumb]
theorem zslots_len (g : BG) : (zslots g).length = g.M * g.z := by simp [zslots]
/-- The writes of a list. -/
theorem listN_mem {g : BG} {N l : Nat} {sl : List UInt8} (ok : g.Ok N) (hl : l < 2) (hsl : sl.length = g.M * g.z) : ∀ p ∈ g.listN l sl, ∃ j, j < g.M ∧ p = (g.at_ + (g.listP l + j), piece g.z sl j) ∧ g.listP l + j < g.n ∧ p.2.length = g.z := fun p hp => by
  obtain ⟨j, hj, rfl⟩ := List.mem_map.1 hp
  have hj := List.mem_range.1 hj
  have h1 := ok.lp hl
  have h2 := ok.room
  have h3 := ok.k1
  exact ⟨j, hj, rfl, by omega, piece_length hsl hj⟩
theorem listN_nodup (g : BG) (l : Nat) (sl : List UInt8) : ((g.listN l sl).map Prod.fst).Nodup := by
  unfold BG.listN
  rw [List.map_map]
  refine List.pairwise_map.2 (List.nodup_range.imp fun {a b} h e => h ?_)
  simp only [Function.comp] at e
  omega
theorem rootB_len {z n k l : Nat} (h : 16 ≤ z) : (rootB z n k l).length = z := by
  simp [rootB, markB, le2]
  omega

/-- What Format leaves is a book of pages of 0. -/
theorem format_rep {g : BG} {K : List (List UInt8)} {l : Nat} (ok : g.Ok K.length) (hl : l < 2) : Rep g (setR g K (g.listN l (zslots g)) l) l (zslots g) (fun _ => zpage g.z) := by
  have hM := listN_mem (sl := zslots g) ok hl (zslots_len g)
  have hP := ok.lp hl
  have hf := ok.fit
  have hr := ok.room
  refine ⟨sec_root (by omega), hl, slots_made (zslots_len g) fun j hj => sec_made (by omega) (listN_nodup _ _ _) (List.mem_map.2 ⟨j, List.mem_range.2 hj, rfl⟩) (by omega), zslots_len g, fun p _ => .inl (zslot g p), fun p _ => ?_⟩
  unfold BG.page
  rw [if_pos (zslot g p)]

/-- Sectors of the book that tell nothing of what it has. -/
def deadT (g : BG) (l : Nat) (sl : List UInt8) (i : Nat) : Prop := (∃ j, i = g.at_ + j ∧ j < g.n ∧ j ≠ 0) ∧ ¬ g.live l sl i
theorem take_cpy {z : Nat} {b : List UInt8} (h : b.length = z - 16) (hz : 16 ≤ z) : (cpy z b).take (z - 16) = b := by
  have e : b.take z = b := List.take_of_length_le (by omega)
  unfold cpy
  rw [e, ← h, List.take_left]
section
variable {g : BG} {K : List (List UInt8)} {l : Nat} {sl : List UInt8} {P : Nat → List UInt8} {ks : List Nat} {ch : Nat → Option (List UInt8)}
theorem slotP_lt {N p v : Nat} (ok : g.Ok N) (hp : p < g.k) (hv : v = 1 ∨ v = 2) : g.slotP p v < g.n ∧ 2 * g.L < g.slotP p v := by
  have h1 := ok.L4
  have h2 := ok.room
  simp only [BG.slotP]
  omega
theorem listP_le {N l j : Nat} (ok : g.Ok N) (hl : l < 2) (hj : j < g.M) : g.listP l + j ≤ 2 * g.L ∧ 1 ≤ g.listP l + j := by
  have h1 := ok.ML
  have h2 : l * g.L ≤ 1 * g.L := Nat.mul_le_mul_right _ (by omega)
  simp only [BG.listP]
  omega
theorem listP_ne {N l j i : Nat} (ok : g.Ok N) (hl : l < 2) (hj : j < g.M) (hi : i < g.M) : g.listP (1 - l) + j ≠ g.listP l + i := by
  have h1 := ok.ML
  simp only [BG.listP]
  rcases (by omega : l = 0 ∨ l = 1) with rfl | rfl
  · simp
    omega
  · simp
    omega
theorem storeN_mem (ok : g.Ok K.length) (hr : Rep g K l sl P) (hk : ∀ p ∈ ks, p < g.k) : ∀ q ∈ g.storeN ch sl ks, ∃ p, p ∈ ks ∧ q = (g.at_ + g.slotP p (freeS (slotOf sl p)), cpy g.z ((ch p).getD [])) ∧ g.slotP p (freeS (slotOf sl p)) < g.n ∧ deadT g l sl q.1 := fun q hq => by
  obtain ⟨p, hp, rfl⟩ := List.mem_map.1 hq
  have hpk := hk p hp
  have hf := freeS_cases (slotOf sl p)
  have hs := slotP_lt ok hpk hf.1
  refine ⟨p, hp, rfl, hs.1, ⟨_, rfl, hs.1, by omega⟩, fun hlive => ?_⟩
  rcases hlive with h | ⟨j, hj, h⟩ | ⟨p', hp', h0, h⟩
  · omega
  · have := listP_le ok hr.two hj
    omega
  · have h' : g.slotP p (freeS (slotOf sl p)) = g.slotP p' (slotOf sl p') := by omega
    have h2 := (hr.slot ok hp').1
    have hf2 := hf.2.2.2
    have hv := hf.1
    simp only [BG.slotP] at h'
    have e : p = p' := by omega
    subst e
    omega
theorem listN_dead (ok : g.Ok K.length) (hr : Rep g K l sl P) {sl' : List UInt8} (hl' : sl'.length = g.M * g.z) : ∀ q ∈ g.listN (1 - l) sl', deadT g l sl q.1 := fun q hq => by
  have htwo := hr.two
  obtain ⟨j, hj, rfl, hn, _⟩ := listN_mem (l := 1 - l) ok (by omega) hl' q hq
  have hle := listP_le (l := 1 - l) ok (by omega) hj
  refine ⟨⟨_, rfl, hn, by omega⟩, fun hlive => ?_⟩
  rcases hlive with h | ⟨i, hi, h⟩ | ⟨p', hp', h0, h⟩
  · have h : g.at_ + (g.listP (1 - l) + j) = g.at_ := h
    omega
  · have h : g.at_ + (g.listP (1 - l) + j) = g.at_ + (g.listP l + i) := h
    exact listP_ne ok htwo hj hi (by omega)
  · have h : g.at_ + (g.listP (1 - l) + j) = g.at_ + g.slotP p' (slotOf sl p') := h
    have h2 := (hr.slot ok hp').1
    have := (slotP_lt ok hp' (v := slotOf sl p') (by omega)).2
    omega
theorem storeN_nodup (hn : ks.Nodup) : ((g.storeN ch sl ks).map Prod.fst).Nodup := by
  unfold BG.storeN
  rw [List.map_map]
  refine List.pairwise_map.2 (hn.imp fun {a b} h e => h ?_)
  simp only [Function.comp, BG.slotP] at e
  have h1 := (freeS_cases (slotOf sl a)).1
  have h2 := (freeS_cases (slotOf sl b)).1
  omega
/-- The writes of a commit. -/
def BG.commN (g : BG) (ch : Nat → Option (List UInt8)) (l : Nat) (sl : List UInt8) (ks : List Nat) : List (Nat × List UInt8) := g.storeN ch sl ks ++ g.listN (1 - l) (stepsS ks sl)
theorem commN_nodup (ok : g.Ok K.length) (hr : Rep g K l sl P) (hn : ks.Nodup) (hk : ∀ p ∈ ks, p < g.k) : ((g.commN ch l sl ks).map Prod.fst).Nodup := by
  unfold BG.commN
  rw [List.map_append]
  refine List.nodup_append.2 ⟨storeN_nodup hn, listN_nodup _ _ _, fun a ha b hb e => ?_⟩
  obtain ⟨q, hq, rfl⟩ := List.mem_map.1 ha
  obtain ⟨q', hq', rfl⟩ := List.mem_map.1 hb
  obtain ⟨p, hp, rfl, _⟩ := storeN_mem ok hr hk q hq
  have htwo := hr.two
  obtain ⟨j, hj, rfl, _⟩ := listN_mem (l := 1 - l) ok (by omega) (by rw [stepsS_length]; exact hr.len) q' hq'
  have h1 := (slotP_lt ok (hk p hp) (freeS_cases (slotOf sl p)).1).2
  have h2 := listP_le (l := 1 - l) ok (by omega) hj
  have e : g.at_ + g.slotP p (freeS (slotOf sl p)) = g.at_ + (g.listP (1 - l) + j) := e
  omega
theorem commN_ok (ok : g.Ok K.length) (hr : Rep g K l sl P) (hk : ∀ p ∈ ks, p < g.k) : ∀ q ∈ g.commN ch l sl ks, q.1 < K.length ∧ q.2.length = g.z ∧ deadT g l sl q.1 := fun q hq => by
  have hf := ok.fit
  have htwo := hr.two
  rcases List.mem_append.1 hq with hq | hq
  · obtain ⟨p, hp, rfl, h1, h2⟩ := storeN_mem ok hr hk q hq
    exact ⟨by show g.at_ + _ < _; omega, cpy_length _ _, h2⟩
  · have hd := listN_dead ok hr (by rw [stepsS_length]; exact hr.len) q hq
    obtain ⟨j, hj, rfl, h1, h2⟩ := listN_mem (l := 1 - l) ok (by omega) (by rw [stepsS_length]; exact hr.len) q hq
    exact ⟨by show g.at_ + _ < _; omega, h2, hd⟩
/-- The book behind a commit that went through. -/
theorem commit_rep (ok : g.Ok K.length) (hr : Rep g K l sl P) (hn : ks.Nodup) (hk : ∀ p ∈ ks, p < g.k) : Rep g (setR g K (g.commN ch l sl ks) (1 - l)) (1 - l) (stepsS ks sl) (fun p => if p ∈ ks then (cpy g.z ((ch p).getD [])).take (g.z - 16) else P p) := by
  have hnd := commN_nodup (ch := ch) ok hr hn hk
  have hf := ok.fit
  have hrm := ok.room
  have htwo := hr.two
  have hlen : (stepsS ks sl).length = g.M * g.z := by rw [stepsS_length]; exact hr.len
  have hso : ∀ q, slotOf (stepsS ks sl) q = if q ∈ ks then freeS (slotOf sl q) else slotOf sl q := slotOf_steps ks sl hn (fun p hp => (hr.slot ok (hk p hp)).2)
  refine ⟨sec_root (by omega), by omega, slots_made hlen fun j hj => ?_, hlen, fun p hp => ?_, fun p hp => ?_⟩
  · have hle := listP_le (l := 1 - l) ok (by omega) hj
    have hlp := ok.lp (l := 1 - l) (by omega)
    exact sec_made (by omega) hnd (List.mem_append_right _ (List.mem_map.2 ⟨j, List.mem_range.2 hj, rfl⟩)) (by omega)
  · rw [hso]
    by_cases hm : p ∈ ks
    · rw [if_pos hm]
      have := (freeS_cases (slotOf sl p)).1
      exact .inr ⟨by omega, hk p hm⟩
    · rw [if_neg hm]
      exact hr.ok p (by rw [stepsS_length] at hp; exact hp)
  · unfold BG.page
    rw [hso]
    by_cases hm : p ∈ ks
    · have hfc := freeS_cases (slotOf sl p)
      have hs := slotP_lt ok hp hfc.1
      simp only [if_pos hm]
      rw [if_neg hfc.2.1, sec_made (by omega) hnd (List.mem_append_left _ (List.mem_map.2 ⟨p, hm, rfl⟩)) (by omega)]
    · simp only [if_neg hm]
      rw [hr.page p hp]
      unfold BG.page
      by_cases h0 : slotOf sl p = 0
      · rw [if_pos h0, if_pos h0]
      · rw [if_neg h0, if_neg h0]
        have hle := (hr.slot ok hp).1
        have hs := slotP_lt ok hp (v := slotOf sl p) (by omega)
        rw [sec_other (by omega) (fun q hq e => (commN_ok ok hr hk q hq).2.2.2 (.inr (.inr ⟨p, hp, h0, e⟩)))]
end
end Go.Proofs.YtnhojcldeloigaaGreat
namespace Go.Proofs.YtnhojcldeloigaaGreat
open Go.RowKit
set_option maxRecDepth 100000

def inBook (g : BG) (i : Nat) : Prop := g.at_ ≤ i ∧ i < g.at_ + g.n
theorem Rep.congr {g : BG} {K : List (List UInt8)} {l : Nat} {sl : List UInt8} {P Q : Nat → List UInt8} (h : Rep g K l sl P) (e : ∀ p, p < g.k → Q p = P p) : Rep g K l sl Q := ⟨h.root, h.two, h.slots, h.len, h.ok, fun p hp => (e p hp).trans (h.page p hp)⟩
theorem D.sync_same {t : D} (ho : t.off = false) (hp : t.pend = []) : t.sync = (0, t) := by
  obtain ⟨a, b, c, d, e, f, k⟩ := t
  simp only at ho hp
  subst ho hp
  simp [D.sync, D.seen, applyL]
/-- A disk with a book, between calls: all that was asked of it lies there. -/
structure Rest (g : BG) (s : D) (P : Nat → List UInt8) : Prop where
  on : s.off = false
  pend : s.pend = []
  size : g.z = s.size
  ok : g.Ok s.kept.length
  rep : ∃ l sl, Rep g s.kept l sl P
theorem Rest.seen {g : BG} {s : D} {P : Nat → List UInt8} (h : Rest g s P) : s.seen = s.kept := by
  unfold D.seen
  rw [h.pend]
  rfl
theorem format_out {g : BG} {s : D} (hok : s.Ok) (ok : g.Ok s.kept.length) (hz : g.z = s.size) (ho : s.off = false) (hp : s.pend = []) (ha : s.armed = 0) :
    (formD g s).1 = 0 ∧ (formD g s).2.armed = 0 ∧ (formD g s).2.Ok ∧ Rest g (formD g s).2 (fun _ => zpage g.z) ∧ Agree (inBook g) s.kept (formD g s).2.kept := by
  have hl : newL s g.at_ < 2 := by unfold newL; omega
  have hf := ok.fit
  have hr := ok.room
  have hz1 := ok.z1
  have hM := listN_mem (sl := zslots g) ok hl (zslots_len g)
  unfold formD
  rw [turn_fin]
  rcases fin_pure (g := g) (s := s) (T := fun _ => True) (g.listN (newL s g.at_) (zslots g)) (newL s g.at_) hok ho hp (fun q hq => by
    obtain ⟨j, hj, rfl, h1, h2⟩ := hM q hq
    exact ⟨by show g.at_ + _ < _; omega, by rw [← hz]; exact h2, trivial⟩) (by omega) (by rw [rootB_len (by omega)]; exact hz) with h | h
  · have hk : (finD g (s.runs (toI (g.listN (newL s g.at_) (zslots g)))) (newL s g.at_)).2.kept = setR g s.kept (g.listN (newL s g.at_) (zslots g)) (newL s g.at_) := h.kept
    refine ⟨h.zero, by have := h.armed; omega, h.ok, ⟨h.on, h.pend, by rw [h.size]; exact hz, ?_, newL s g.at_, zslots g, ?_⟩, ?_⟩
    · rw [hk]
      unfold setR
      rw [List.length_set, applyL_length]
      exact ok
    · rw [hk]
      exact format_rep ok hl
    · rw [hk]
      exact agree_setR (fun q hq => by
        obtain ⟨j, hj, rfl, h1, h2⟩ := hM q hq
        exact ⟨by show g.at_ ≤ g.at_ + _; omega, by show g.at_ + _ < _; omega⟩) (by omega)
  · exact absurd ha h.armed
theorem dead_in {g : BG} {l : Nat} {sl : List UInt8} {i : Nat} (h : deadT g l sl i) : inBook g i := by
  obtain ⟨⟨j, rfl, h1, _⟩, _⟩ := h
  exact ⟨by omega, by omega⟩
/-- What Commit leaves of a disk and its book. -/
theorem commit_out {g : BG} {s : D} {l : Nat} {sl : List UInt8} {P : Nat → List UInt8} {ch : Nat → Option (List UInt8)} (hok : s.Ok) (ok : g.Ok s.kept.length) (hz : g.z = s.size) (ho : s.off = false) (hp : s.pend = []) (hr : Rep g s.kept l sl P) (hch : ∀ p bs, ch p = some bs → bs.length = g.z - 16) :
    ((commitD g s l sl ch).1 = 0 ∧ (commitD g s l sl ch).2.Ok ∧ Rest g (commitD g s l sl ch).2 (fun p => (ch p).getD (P p)) ∧ (commitD g s l sl ch).2.armed ≤ s.armed ∧ Agree (inBook g) s.kept (commitD g s l sl ch).2.kept) ∨
    ((commitD g s l sl ch).1 = 22 ∧ (commitD g s l sl ch).2.Ok ∧ (commitD g s l sl ch).2.off = true ∧ (commitD g s l sl ch).2.pend = [] ∧ (commitD g s l sl ch).2.size = s.size ∧ Rep g (commitD g s l sl ch).2.kept l sl P ∧ s.armed ≠ 0 ∧ Agree (inBook g) s.kept (commitD g s l sl ch).2.kept) := by
  have hf := ok.fit
  have hrm := ok.room
  have hz1 := ok.z1
  have htwo := hr.two
  have hk : ∀ p ∈ keysOf ch g.k, p < g.k := fun p hp => (keysOf_mem.1 hp).1
  unfold commitD
  by_cases h0 : keysOf ch g.k = []
  · rw [if_pos h0, andD_zero, D.sync_same ho hp]
    refine .inl ⟨rfl, hok, ⟨ho, hp, hz, ok, l, sl, hr.congr fun p hp => ?_⟩, Nat.le_refl _, Agree.refl _ _⟩
    have : ch p = none := by
      cases hc : ch p with
      | none => rfl
      | some b =>
        have := keysOf_mem.2 ⟨hp, show (ch p).isSome = true by rw [hc]; rfl⟩
        rw [h0] at this
        cases this
    rw [this]
    rfl
  · rw [if_neg h0, store_fin g s (1 - l) sl ch _ (keysOf_nodup ch g.k) (fun p hp => (hr.slot ok (hk p hp)).2)]
    have hw := commN_ok (ch := ch) ok hr hk
    rcases fin_pure (g := g) (s := s) (T := deadT g l sl) (g.commN ch l sl (keysOf ch g.k)) (1 - l) hok ho hp (fun q hq => by
      have := hw q hq
      exact ⟨this.1, by rw [← hz]; exact this.2.1, this.2.2⟩) (by omega) (by rw [rootB_len (by omega)]; exact hz) with h | h
    · change Done g s _ _ (finD g (s.runs (toI (g.storeN ch sl (keysOf ch g.k) ++ g.listN (1 - l) (stepsS (keysOf ch g.k) sl)))) (1 - l)) at h
      generalize finD g (s.runs (toI (g.storeN ch sl (keysOf ch g.k) ++ g.listN (1 - l) (stepsS (keysOf ch g.k) sl)))) (1 - l) = r at h ⊢
      have hkp : r.2.kept = setR g s.kept (g.commN ch l sl (keysOf ch g.k)) (1 - l) := h.kept
      rw [andD_ok _ h.zero, D.sync_same h.on h.pend]
      refine .inl ⟨rfl, h.ok, ⟨h.on, h.pend, by rw [h.size]; exact hz, ?_, 1 - l, stepsS (keysOf ch g.k) sl, ?_⟩, h.armed, ?_⟩
      · rw [hkp]
        unfold setR
        rw [List.length_set, applyL_length]
        exact ok
      · rw [hkp]
        refine (commit_rep (ch := ch) ok hr (keysOf_nodup ch g.k) hk).congr fun p hp => ?_
        by_cases hm : p ∈ keysOf ch g.k
        · obtain ⟨b, hb⟩ := Option.isSome_iff_exists.1 (keysOf_mem.1 hm).2
          rw [if_pos hm, hb]
          exact (take_cpy (hch p b hb) (by omega)).symm
        · rw [if_neg hm]
          have : ch p = none := by
            cases hc : ch p with
            | none => rfl
            | some b => exact absurd (keysOf_mem.2 ⟨hp, show (ch p).isSome = true by rw [hc]; rfl⟩) hm
          rw [this]
          rfl
      · rw [hkp]
        exact agree_setR (fun q hq => dead_in (hw q hq).2.2) (by omega)
    · change Down _ s (finD g (s.runs (toI (g.storeN ch sl (keysOf ch g.k) ++ g.listN (1 - l) (stepsS (keysOf ch g.k) sl)))) (1 - l)) at h
      generalize finD g (s.runs (toI (g.storeN ch sl (keysOf ch g.k) ++ g.listN (1 - l) (stepsS (keysOf ch g.k) sl)))) (1 - l) = r at h ⊢
      rw [andD_no _ (by rw [h.down]; decide)]
      exact .inr ⟨h.down, h.ok, h.off, h.pend, h.size, hr.agree h.kept (fun i hi hd => hd.2 hi), h.armed, h.kept.mono fun i hi => dead_in hi⟩
end Go.Proofs.YtnhojcldeloigaaGreat
