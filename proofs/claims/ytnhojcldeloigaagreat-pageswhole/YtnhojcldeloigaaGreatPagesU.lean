/-
  Layer 8, pure: the book that Format and Commit leave.
-/
import Derived.Test.YtnhojcldeloigaaGreatPagesT
namespace Go.Proofs.YtnhojcldeloigaaGreat
open Go.RowKit
set_option maxRecDepth 100000

theorem slots_made {g : BG} {K : List (List UInt8)} {l : Nat} {sl : List UInt8} (hl : sl.length = g.M * g.z) (h : ∀ j, j < g.M → g.sec K (g.listP l + j) = piece g.z sl j) : g.slots K l = sl := by
  unfold BG.slots
  rw [List.map_congr_left (g := piece g.z sl) (fun j hj => h j (List.mem_range.1 hj))]
  exact pieces_flat8 _ _ hl
def setR (g : BG) (K : List (List UInt8)) (ws : List (Nat × List UInt8)) (l : Nat) : List (List UInt8) := (applyL K ws).set g.at_ (rootB g.z g.n g.k l)
section
variable {g : BG} {K : List (List UInt8)} {ws : List (Nat × List UInt8)} {l : Nat}
theorem sec_root (h : g.at_ < K.length) : g.sec (setR g K ws l) 0 = rootB g.z g.n g.k l := by
  simp [BG.sec, setR, List.getD, applyL_length, h]
theorem sec_other {i : Nat} (hi : i ≠ 0) (h : ∀ p ∈ ws, p.1 ≠ g.at_ + i) : g.sec (setR g K ws l) i = g.sec K i := by
  simp only [BG.sec, setR, List.getD]
  rw [List.getElem?_set_ne (by omega), applyL_other ws K _ h]
theorem sec_made {i : Nat} {b : List UInt8} (hi : i ≠ 0) (hn : (ws.map Prod.fst).Nodup) (hm : (g.at_ + i, b) ∈ ws) (hl : g.at_ + i < K.length) : g.sec (setR g K ws l) i = b := by
  have := applyL_mem ws K hn _ hm hl
  simp only [BG.sec, setR, List.getD]
  rw [List.getElem?_set_ne (by omega), this]
  rfl
theorem agree_setR (h : ∀ p ∈ ws, g.at_ ≤ p.1 ∧ p.1 < g.at_ + g.n) (hn : 0 < g.n) : Agree (fun i => g.at_ ≤ i ∧ i < g.at_ + g.n) K (setR g K ws l) :=
  ⟨by simp [setR, applyL_length], fun i hi => by
    unfold setR
    rw [List.getElem?_set_ne (fun e => hi (by omega)), applyL_other ws K i (fun p hp e => hi (e ▸ h p hp))]⟩
end
theorem zslot (g : BG) (p : Nat) : slotOf (zslots g) p = 0 := by
  unfold slotOf
  have : (zslots g).getD (p / 4) 0 = 0 := by
    simp only [zslots, List.getD, List.getElem?_replicate]
    split <;> rfl
  rw [this]
  simp [crumb]
theorem zslots_len (g : BG) : (zslots g).length = g.M * g.z := by simp [zslots]
/-- The writes of a list. -/
theorem listN_mem {g : BG} {N l : Nat} {sl : List UInt8} (ok : g.Ok N) (hl : l < 2) (hsl : sl.length = g.M * g.z) : ∀ p ∈ g.listN l sl, ∃ j, j < g.M ∧ p = (g.at_ + (g.listP l + j), piece g.z sl j) ∧ g.listP l + j < g.n ∧ p.2.length = g.z := fun p hp => by
  obtain ⟨j, hj, rfl⟩ := List.mem_map.1 hp
  have hj := List.mem_range.1 hj
  have h1 := ok.lp hl
  have h2 := ok.room
  have h3 := ok.k1
  exact ⟨j, hj, rfl, by omega, piece_length hsl hj⟩
theorem listN_nodup (g : BG) (l : Nat) (sl : List UInt8) : ((g.listN l sl).map Prod.fst).Nodup := by
  unfold BG.listN
  rw [List.map_map]
  refine List.pairwise_map.2 (List.nodup_range.imp fun {a b} h e => h ?_)
  simp only [Function.comp] at e
  omega
theorem rootB_len {z n k l : Nat} (h : 16 ≤ z) : (rootB z n k l).length = z := by
  simp [rootB, markB, le2]
  omega

/-- What Format leaves is a book of pages of 0. -/
theorem format_rep {g : BG} {K : List (List UInt8)} {l : Nat} (ok : g.Ok K.length) (hl : l < 2) : Rep g (setR g K (g.listN l (zslots g)) l) l (zslots g) (fun _ => zpage g.z) := by
  have hM := listN_mem (sl := zslots g) ok hl (zslots_len g)
  have hP := ok.lp hl
  have hf := ok.fit
  have hr := ok.room
  refine ⟨sec_root (by omega), hl, slots_made (zslots_len g) fun j hj => sec_made (by omega) (listN_nodup _ _ _) (List.mem_map.2 ⟨j, List.mem_range.2 hj, rfl⟩) (by omega), zslots_len g, fun p _ => .inl (zslot g p), fun p _ => ?_⟩
  unfold BG.page
  rw [if_pos (zslot g p)]

/-- Sectors of the book that tell nothing of what it has. -/
def deadT (g : BG) (l : Nat) (sl : List UInt8) (i : Nat) : Prop := (∃ j, i = g.at_ + j ∧ j < g.n ∧ j ≠ 0) ∧ ¬ g.live l sl i
theorem take_cpy {z : Nat} {b : List UInt8} (h : b.length = z - 16) (hz : 16 ≤ z) : (cpy z b).take (z - 16) = b := by
  have e : b.take z = b := List.take_of_length_le (by omega)
  unfold cpy
  rw [e, ← h, List.take_left]
section
variable {g : BG} {K : List (List UInt8)} {l : Nat} {sl : List UInt8} {P : Nat → List UInt8} {ks : List Nat} {ch : Nat → Option (List UInt8)}
theorem slotP_lt {N p v : Nat} (ok : g.Ok N) (hp : p < g.k) (hv : v = 1 ∨ v = 2) : g.slotP p v < g.n ∧ 2 * g.L < g.slotP p v := by
  have h1 := ok.L4
  have h2 := ok.room
  simp only [BG.slotP]
  omega
theorem listP_le {N l j : Nat} (ok : g.Ok N) (hl : l < 2) (hj : j < g.M) : g.listP l + j ≤ 2 * g.L ∧ 1 ≤ g.listP l + j := by
  have h1 := ok.ML
  have h2 : l * g.L ≤ 1 * g.L := Nat.mul_le_mul_right _ (by omega)
  simp only [BG.listP]
  omega
theorem listP_ne {N l j i : Nat} (ok : g.Ok N) (hl : l < 2) (hj : j < g.M) (hi : i < g.M) : g.listP (1 - l) + j ≠ g.listP l + i := by
  have h1 := ok.ML
  simp only [BG.listP]
  rcases (by omega : l = 0 ∨ l = 1) with rfl | rfl
  · simp
    omega
  · simp
    omega
theorem storeN_mem (ok : g.Ok K.length) (hr : Rep g K l sl P) (hk : ∀ p ∈ ks, p < g.k) : ∀ q ∈ g.storeN ch sl ks, ∃ p, p ∈ ks ∧ q = (g.at_ + g.slotP p (freeS (slotOf sl p)), cpy g.z ((ch p).getD [])) ∧ g.slotP p (freeS (slotOf sl p)) < g.n ∧ deadT g l sl q.1 := fun q hq => by
  obtain ⟨p, hp, rfl⟩ := List.mem_map.1 hq
  have hpk := hk p hp
  have hf := freeS_cases (slotOf sl p)
  have hs := slotP_lt ok hpk hf.1
  refine ⟨p, hp, rfl, hs.1, ⟨_, rfl, hs.1, by omega⟩, fun hlive => ?_⟩
  rcases hlive with h | ⟨j, hj, h⟩ | ⟨p', hp', h0, h⟩
  · omega
  · have := listP_le ok hr.two hj
    omega
  · have h' : g.slotP p (freeS (slotOf sl p)) = g.slotP p' (slotOf sl p') := by omega
    have h2 := (hr.slot ok hp').1
    have hf2 := hf.2.2.2
    have hv := hf.1
    simp only [BG.slotP] at h'
    have e : p = p' := by omega
    subst e
    omega
theorem listN_dead (ok : g.Ok K.length) (hr : Rep g K l sl P) {sl' : List UInt8} (hl' : sl'.length = g.M * g.z) : ∀ q ∈ g.listN (1 - l) sl', deadT g l sl q.1 := fun q hq => by
  have htwo := hr.two
  obtain ⟨j, hj, rfl, hn, _⟩ := listN_mem (l := 1 - l) ok (by omega) hl' q hq
  have hle := listP_le (l := 1 - l) ok (by omega) hj
  refine ⟨⟨_, rfl, hn, by omega⟩, fun hlive => ?_⟩
  rcases hlive with h | ⟨i, hi, h⟩ | ⟨p', hp', h0, h⟩
  · have h : g.at_ + (g.listP (1 - l) + j) = g.at_ := h
    omega
  · have h : g.at_ + (g.listP (1 - l) + j) = g.at_ + (g.listP l + i) := h
    exact listP_ne ok htwo hj hi (by omega)
  · have h : g.at_ + (g.listP (1 - l) + j) = g.at_ + g.slotP p' (slotOf sl p') := h
    have h2 := (hr.slot ok hp').1
    have := (slotP_lt ok hp' (v := slotOf sl p') (by omega)).2
    omega
theorem storeN_nodup (hn : ks.Nodup) : ((g.storeN ch sl ks).map Prod.fst).Nodup := by
  unfold BG.storeN
  rw [List.map_map]
  refine List.pairwise_map.2 (hn.imp fun {a b} h e => h ?_)
  simp only [Function.comp, BG.slotP] at e
  have h1 := (freeS_cases (slotOf sl a)).1
  have h2 := (freeS_cases (slotOf sl b)).1
  omega
/-- The writes of a commit. -/
def BG.commN (g : BG) (ch : Nat → Option (List UInt8)) (l : Nat) (sl : List UInt8) (ks : List Nat) : List (Nat × List UInt8) := g.storeN ch sl ks ++ g.listN (1 - l) (stepsS ks sl)
theorem commN_nodup (ok : g.Ok K.length) (hr : Rep g K l sl P) (hn : ks.Nodup) (hk : ∀ p ∈ ks, p < g.k) : ((g.commN ch l sl ks).map Prod.fst).Nodup := by
  unfold BG.commN
  rw [List.map_append]
  refine List.nodup_append.2 ⟨storeN_nodup hn, listN_nodup _ _ _, fun a ha b hb e => ?_⟩
  obtain ⟨q, hq, rfl⟩ := List.mem_map.1 ha
  obtain ⟨q', hq', rfl⟩ := List.mem_map.1 hb
  obtain ⟨p, hp, rfl, _⟩ := storeN_mem ok hr hk q hq
  have htwo := hr.two
  obtain ⟨j, hj, rfl, _⟩ := listN_mem (l := 1 - l) ok (by omega) (by rw [stepsS_length]; exact hr.len) q' hq'
  have h1 := (slotP_lt ok (hk p hp) (freeS_cases (slotOf sl p)).1).2
  have h2 := listP_le (l := 1 - l) ok (by omega) hj
  have e : g.at_ + g.slotP p (freeS (slotOf sl p)) = g.at_ + (g.listP (1 - l) + j) := e
  omega
theorem commN_ok (ok : g.Ok K.length) (hr : Rep g K l sl P) (hk : ∀ p ∈ ks, p < g.k) : ∀ q ∈ g.commN ch l sl ks, q.1 < K.length ∧ q.2.length = g.z ∧ deadT g l sl q.1 := fun q hq => by
  have hf := ok.fit
  have htwo := hr.two
  rcases List.mem_append.1 hq with hq | hq
  · obtain ⟨p, hp, rfl, h1, h2⟩ := storeN_mem ok hr hk q hq
    exact ⟨by show g.at_ + _ < _; omega, cpy_length _ _, h2⟩
  · have hd := listN_dead ok hr (by rw [stepsS_length]; exact hr.len) q hq
    obtain ⟨j, hj, rfl, h1, h2⟩ := listN_mem (l := 1 - l) ok (by omega) (by rw [stepsS_length]; exact hr.len) q hq
    exact ⟨by show g.at_ + _ < _; omega, h2, hd⟩
/-- The book behind a commit that went through. -/
theorem commit_rep (ok : g.Ok K.length) (hr : Rep g K l sl P) (hn : ks.Nodup) (hk : ∀ p ∈ ks, p < g.k) : Rep g (setR g K (g.commN ch l sl ks) (1 - l)) (1 - l) (stepsS ks sl) (fun p => if p ∈ ks then (cpy g.z ((ch p).getD [])).take (g.z - 16) else P p) := by
  have hnd := commN_nodup (ch := ch) ok hr hn hk
  have hf := ok.fit
  have hrm := ok.room
  have htwo := hr.two
  have hlen : (stepsS ks sl).length = g.M * g.z := by rw [stepsS_length]; exact hr.len
  have hso : ∀ q, slotOf (stepsS ks sl) q = if q ∈ ks then freeS (slotOf sl q) else slotOf sl q := slotOf_steps ks sl hn (fun p hp => (hr.slot ok (hk p hp)).2)
  refine ⟨sec_root (by omega), by omega, slots_made hlen fun j hj => ?_, hlen, fun p hp => ?_, fun p hp => ?_⟩
  · have hle := listP_le (l := 1 - l) ok (by omega) hj
    have hlp := ok.lp (l := 1 - l) (by omega)
    exact sec_made (by omega) hnd (List.mem_append_right _ (List.mem_map.2 ⟨j, List.mem_range.2 hj, rfl⟩)) (by omega)
  · rw [hso]
    by_cases hm : p ∈ ks
    · rw [if_pos hm]
      have := (freeS_cases (slotOf sl p)).1
      exact .inr ⟨by omega, hk p hm⟩
    · rw [if_neg hm]
      exact hr.ok p (by rw [stepsS_length] at hp; exact hp)
  · unfold BG.page
    rw [hso]
    by_cases hm : p ∈ ks
    · have hfc := freeS_cases (slotOf sl p)
      have hs := slotP_lt ok hp hfc.1
      simp only [if_pos hm]
      rw [if_neg hfc.2.1, sec_made (by omega) hnd (List.mem_append_left _ (List.mem_map.2 ⟨p, hm, rfl⟩)) (by omega)]
    · simp only [if_neg hm]
      rw [hr.page p hp]
      unfold BG.page
      by_cases h0 : slotOf sl p = 0
      · rw [if_pos h0, if_pos h0]
      · rw [if_neg h0, if_neg h0]
        have hle := (hr.slot ok hp).1
        have hs := slotP_lt ok hp (v := slotOf sl p) (by omega)
        rw [sec_other (by omega) (fun q hq e => (commN_ok ok hr hk q hq).2.2.2 (.inr (.inr ⟨p, hp, h0, e⟩)))]
end
end Go.Proofs.YtnhojcldeloigaaGreat
