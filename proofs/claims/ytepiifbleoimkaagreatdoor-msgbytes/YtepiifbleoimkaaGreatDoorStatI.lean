/-
  Package stat: All and Keep; the second reading's Size and Keep; what a record is as the second reading has it.
-/
import Derived.Test.YtepiifbleoimkaaGreatDoorStatH
import Derived.Test.YtepiifbleoimkaaGreatDoorRefQid
namespace Go.Proofs.YtepiifbleoimkaaGreatDoor
open Go.RowKit
set_option maxRecDepth 100000

theorem allOf_errs {f : Nat} {bs : List UInt8} {e : Int} (h : allOf f bs = .error e) : e = 4 ∨ e = 2 := by
  induction f generalizing bs with
  | zero => cases h
  | succ f ih =>
    rw [allOf] at h
    split at h
    · cases h
    · split at h
      · rename_i hr
        injection h with h
        subst h
        exact firstOf_err hr
      · split at h
        · rename_i hr
          injection h with h
          subst h
          exact ih hr
        · cases h
/-- What All answers (the element's type is t). -/
def AllStep (t : TypeId) (w : World) (bs : List UInt8) (e : Ending) (w' : World) : Prop :=
  match allOf bs.length bs with
  | .ok L => ∃ v, e = .returned (.tuple #[v, .int .i64 0]) ∧ w'.ownsRow w.heap.size t 13 v L.length (rowsOf L) ∧ Below w.heap.size w w'
  | .error er => e = .returned (.tuple #[.slice none 0 0, .int .i64 er]) ∧ Below w.heap.size w w'

/-- What a change leaves as it is. -/
def S11.keep : S11 := ⟨65535, 4294967295, ⟨255, 4294967295, 18446744073709551615⟩, 4294967295, 4294967295, 4294967295, 18446744073709551615, [], [], [], []⟩
theorem Tryz.refStatSize13 : (Tryz.prog.info? 41).map (·.size) = some 13 := by kernel_rfl

/-- Are its texts short? -/
def S11.isFew (s : S11) : Prop := s.n.length ≤ 200 ∧ s.u.length ≤ 200 ∧ s.g.length ≤ 200 ∧ s.x.length ≤ 200
/-- Its cells in one row of facts. -/
theorem Has.flat13 {w : World} {b : Nat} {t : TypeId} {s : S11} (h : Has w b t s.cells) :
    w.cell? ⟨b, 0, none⟩ = some (.int .u16 (s.k : Int)) ∧ w.cell? ⟨b, 1, none⟩ = some (.int .u32 (s.d : Int)) ∧ w.cell? ⟨b, 2, none⟩ = some (.int .u8 (s.q.t : Int)) ∧ w.cell? ⟨b, 3, none⟩ = some (.int .u32 (s.q.v : Int)) ∧ w.cell? ⟨b, 4, none⟩ = some (.int .u64 (s.q.p : Int)) ∧
    w.cell? ⟨b, 5, none⟩ = some (.int .u32 (s.m : Int)) ∧ w.cell? ⟨b, 6, none⟩ = some (.int .u32 (s.a : Int)) ∧ w.cell? ⟨b, 7, none⟩ = some (.int .u32 (s.c : Int)) ∧ w.cell? ⟨b, 8, none⟩ = some (.int .u64 (s.l : Int)) ∧
    w.cell? ⟨b, 9, none⟩ = some (.string (strOf s.n)) ∧ w.cell? ⟨b, 10, none⟩ = some (.string (strOf s.u)) ∧ w.cell? ⟨b, 11, none⟩ = some (.string (strOf s.g)) ∧ w.cell? ⟨b, 12, none⟩ = some (.string (strOf s.x)) :=
  ⟨h.cell 0, h.cell 1, h.cell 2, h.cell 3, h.cell 4, h.cell 5, h.cell 6, h.cell 7, h.cell 8, h.cell 9, h.cell 10, h.cell 11, h.cell 12⟩

set_option maxHeartbeats 400000 in
theorem of4_any (s : S11) (w : World) : Calls Tryz.prog 26 #[s.val] w fun e w' => e = .returned s.val ∧ Below w.heap.size w w' := by
  have A0 := Lib.hid ((Has.new w 32 s.cells).alloc (.cells S11.zero.cells 41))
  have Z0 : Hid (Has ((w.alloc (.cells s.cells 32)).alloc (.cells S11.zero.cells 41)) (w.heap.size + 1) 41 S11.zero.cells) := Lib.hid (by
    have := Has.new (w.alloc (.cells s.cells 32)) 41 S11.zero.cells
    simpa using this)
  have B0 := Lib.hid (((Below.refl w.heap.size w).alloc (Nat.le_refl _) (.cells s.cells 32)).alloc (by simp) (.cells S11.zero.cells 41))
  have CO : Hid (∀ W, Calls Tryz.prog 25 #[.agg #[.int .u8 (s.q.t : Int), .int .u32 (s.q.v : Int), .int .u64 (s.q.p : Int)]] W fun e w' => e = .returned s.q.val ∧ Below W.heap.size W w') := fun W => law3of_any s.q W
  unfold S11.val
  go_enter Tryz.func26, Tryz.ntmps26
  unfold S11.cells
  go_wp2_with fail
  refine wp_region_held_drew (S := fun w' => w'.cell? ⟨w.heap.size, 0, none⟩ = some (.int .u16 (s.k : Int)) ∧ w'.cell? ⟨w.heap.size, 1, none⟩ = some (.int .u32 (s.d : Int)) ∧ w'.cell? ⟨w.heap.size, 2, none⟩ = some (.int .u8 (s.q.t : Int)) ∧ w'.cell? ⟨w.heap.size, 3, none⟩ = some (.int .u32 (s.q.v : Int)) ∧ w'.cell? ⟨w.heap.size, 4, none⟩ = some (.int .u64 (s.q.p : Int)) ∧ w'.cell? ⟨w.heap.size, 5, none⟩ = some (.int .u32 (s.m : Int)) ∧ w'.cell? ⟨w.heap.size, 6, none⟩ = some (.int .u32 (s.a : Int)) ∧ w'.cell? ⟨w.heap.size, 7, none⟩ = some (.int .u32 (s.c : Int)) ∧ w'.cell? ⟨w.heap.size, 8, none⟩ = some (.int .u64 (s.l : Int)) ∧ w'.cell? ⟨w.heap.size, 9, none⟩ = some (.string (strOf s.n)) ∧ w'.cell? ⟨w.heap.size, 10, none⟩ = some (.string (strOf s.u)) ∧ w'.cell? ⟨w.heap.size, 11, none⟩ = some (.string (strOf s.g)) ∧ w'.cell? ⟨w.heap.size, 12, none⟩ = some (.string (strOf s.x))) (by kernel_rfl) ?_ (fun hHeld => ?_)
  · exact (A0.out.drew).flat13
  refine takeH (i := 0) (d := 3) (v := ?_) (by kernel_rfl) (by kernel_rfl) (by kernel_rfl) rfl (fun _ _ _ h => h) (by rfl) ?_ hHeld ?_
  rotate_left
  · intro o ho w hSw
    cases ho
    go_simp
    try with_reducible rfl
  simp only [Act.put, List.setIfInBounds_toArray, List.set_cons_zero, List.set_cons_succ]
  refine takeH (i := 1) (d := 4) (v := ?_) (by kernel_rfl) (by kernel_rfl) (by kernel_rfl) rfl (fun _ _ _ h => h) (by rfl) ?_ hHeld ?_
  rotate_left
  · intro o ho w hSw
    cases ho
    go_simp
    try with_reducible rfl
  simp only [Act.put, List.setIfInBounds_toArray, List.set_cons_zero, List.set_cons_succ]
  refine takeH (i := 2) (d := 5) (v := ?_) (by kernel_rfl) (by kernel_rfl) (by kernel_rfl) rfl (fun _ _ _ h => h) (by rfl) ?_ hHeld ?_
  rotate_left
  · intro o ho w hSw
    cases ho
    go_simp
    try with_reducible rfl
  simp only [Act.put, List.setIfInBounds_toArray, List.set_cons_zero, List.set_cons_succ]
  refine takeH (i := 3) (d := 6) (v := ?_) (by kernel_rfl) (by kernel_rfl) (by kernel_rfl) rfl (fun _ _ _ h => h) (by rfl) ?_ hHeld ?_
  rotate_left
  · intro o ho w hSw
    cases ho
    go_simp
    try with_reducible rfl
  simp only [Act.put, List.setIfInBounds_toArray, List.set_cons_zero, List.set_cons_succ]
  refine takeH (i := 4) (d := 7) (v := ?_) (by kernel_rfl) (by kernel_rfl) (by kernel_rfl) rfl (fun _ _ _ h => h) (by rfl) ?_ hHeld ?_
  rotate_left
  · intro o ho w hSw
    cases ho
    go_simp
    try with_reducible rfl
  simp only [Act.put, List.setIfInBounds_toArray, List.set_cons_zero, List.set_cons_succ]
  refine takeH (i := 5) (d := 8) (v := ?_) (by kernel_rfl) (by kernel_rfl) (by kernel_rfl) rfl (fun _ _ _ h => h) (by rfl) ?_ hHeld ?_
  rotate_left
  · intro o ho w hSw
    cases ho
    go_simp
    try with_reducible rfl
  simp only [Act.put, List.setIfInBounds_toArray, List.set_cons_zero, List.set_cons_succ]
  refine takeH (i := 7) (d := 10) (v := ?_) (by kernel_rfl) (by kernel_rfl) (by kernel_rfl) rfl (fun _ _ _ h => h) (by rfl) ?_ hHeld ?_
  rotate_left
  · intro o ho w hSw
    cases ho
    go_simp
    try with_reducible rfl
  simp only [Act.put, List.setIfInBounds_toArray, List.set_cons_zero, List.set_cons_succ]
  refine takeH (i := 8) (d := 11) (v := ?_) (by kernel_rfl) (by kernel_rfl) (by kernel_rfl) rfl (fun _ _ _ h => h) (by rfl) ?_ hHeld ?_
  rotate_left
  · intro o ho w hSw
    cases ho
    go_simp
    try with_reducible rfl
  simp only [Act.put, List.setIfInBounds_toArray, List.set_cons_zero, List.set_cons_succ]
  refine takeH (i := 9) (d := 12) (v := ?_) (by kernel_rfl) (by kernel_rfl) (by kernel_rfl) rfl (fun _ _ _ h => h) (by rfl) ?_ hHeld ?_
  rotate_left
  · intro o ho w hSw
    cases ho
    go_simp
    try with_reducible rfl
  simp only [Act.put, List.setIfInBounds_toArray, List.set_cons_zero, List.set_cons_succ]
  refine takeH (i := 10) (d := 13) (v := ?_) (by kernel_rfl) (by kernel_rfl) (by kernel_rfl) rfl (fun _ _ _ h => h) (by rfl) ?_ hHeld ?_
  rotate_left
  · intro o ho w hSw
    cases ho
    go_simp
    try with_reducible rfl
  simp only [Act.put, List.setIfInBounds_toArray, List.set_cons_zero, List.set_cons_succ]
  refine takeH (i := 11) (d := 14) (v := ?_) (by kernel_rfl) (by kernel_rfl) (by kernel_rfl) rfl (fun _ _ _ h => h) (by rfl) ?_ hHeld ?_
  rotate_left
  · intro o ho w hSw
    cases ho
    go_simp
    try with_reducible rfl
  simp only [Act.put, List.setIfInBounds_toArray, List.set_cons_zero, List.set_cons_succ]
  refine takeH (i := 12) (d := 15) (v := ?_) (by kernel_rfl) (by kernel_rfl) (by kernel_rfl) rfl (fun _ _ _ h => h) (by rfl) ?_ hHeld ?_
  rotate_left
  · intro o ho w hSw
    cases ho
    go_simp
    try with_reducible rfl
  simp only [Act.put, List.setIfInBounds_toArray, List.set_cons_zero, List.set_cons_succ]
  refine takeH (i := 13) (d := 16) (v := ?_) (by kernel_rfl) (by kernel_rfl) (by kernel_rfl) rfl (fun _ _ _ h => h) (by rfl) ?_ hHeld ?_
  rotate_left
  · intro o ho w hSw
    cases ho
    go_simp
    try with_reducible rfl
  simp only [Act.put, List.setIfInBounds_toArray, List.set_cons_zero, List.set_cons_succ]
  refine takeH (i := 14) (d := 17) (v := ?_) (by kernel_rfl) (by kernel_rfl) (by kernel_rfl) rfl (fun _ _ _ h => h) (by rfl) ?_ hHeld ?_
  rotate_left
  · intro o ho w hSw
    cases ho
    go_simp
    try with_reducible rfl
  simp only [Act.put, List.setIfInBounds_toArray, List.set_cons_zero, List.set_cons_succ]
  refine takeH (i := 15) (d := 18) (v := ?_) (by kernel_rfl) (by kernel_rfl) (by kernel_rfl) rfl (fun _ _ _ h => h) (by rfl) ?_ hHeld ?_
  rotate_left
  · intro o ho w hSw
    cases ho
    go_simp
    try with_reducible rfl
  simp only [Act.put, List.setIfInBounds_toArray, List.set_cons_zero, List.set_cons_succ]
  refine takeH (i := 16) (d := 19) (v := ?_) (by kernel_rfl) (by kernel_rfl) (by kernel_rfl) rfl (fun _ _ _ h => h) (by rfl) ?_ hHeld ?_
  rotate_left
  · intro o ho w hSw
    cases ho
    go_simp
    try with_reducible rfl
  simp only [Act.put, List.setIfInBounds_toArray, List.set_cons_zero, List.set_cons_succ]
  refine takeH (i := 17) (d := 20) (v := ?_) (by kernel_rfl) (by kernel_rfl) (by kernel_rfl) rfl (fun _ _ _ h => h) (by rfl) ?_ hHeld ?_
  rotate_left
  · intro o ho w hSw
    cases ho
    go_simp
    try with_reducible rfl
  simp only [Act.put, List.setIfInBounds_toArray, List.set_cons_zero, List.set_cons_succ]
  refine takeH (i := 18) (d := 21) (v := ?_) (by kernel_rfl) (by kernel_rfl) (by kernel_rfl) rfl (fun _ _ _ h => h) (by rfl) ?_ hHeld ?_
  rotate_left
  · intro o ho w hSw
    cases ho
    go_simp
    try with_reducible rfl
  simp only [Act.put, List.setIfInBounds_toArray, List.set_cons_zero, List.set_cons_succ]
  refine takeH (i := 19) (d := 22) (v := ?_) (by kernel_rfl) (by kernel_rfl) (by kernel_rfl) rfl (fun _ _ _ h => h) (by rfl) ?_ hHeld ?_
  rotate_left
  · intro o ho w hSw
    cases ho
    go_simp
    try with_reducible rfl
  simp only [Act.put, List.setIfInBounds_toArray, List.set_cons_zero, List.set_cons_succ]
  refine takeH (i := 20) (d := 23) (v := ?_) (by kernel_rfl) (by kernel_rfl) (by kernel_rfl) rfl (fun _ _ _ h => h) (by rfl) ?_ hHeld ?_
  rotate_left
  · intro o ho w hSw
    cases ho
    go_simp
    try with_reducible rfl
  simp only [Act.put, List.setIfInBounds_toArray, List.set_cons_zero, List.set_cons_succ]
  refine takeH (i := 21) (d := 24) (v := ?_) (by kernel_rfl) (by kernel_rfl) (by kernel_rfl) rfl (fun _ _ _ h => h) (by rfl) ?_ hHeld ?_
  rotate_left
  · intro o ho w hSw
    cases ho
    go_simp
    try with_reducible rfl
  simp only [Act.put, List.setIfInBounds_toArray, List.set_cons_zero, List.set_cons_succ]
  refine takeH (i := 22) (d := 25) (v := ?_) (by kernel_rfl) (by kernel_rfl) (by kernel_rfl) rfl (fun _ _ _ h => h) (by rfl) ?_ hHeld ?_
  rotate_left
  · intro o ho w hSw
    cases ho
    go_simp
    try with_reducible rfl
  simp only [Act.put, List.setIfInBounds_toArray, List.set_cons_zero, List.set_cons_succ]
  refine wpAnyH_ready (rs := [6]) (by kernel_rfl) (by simp) ?_
  refine AllReadyH.cons rfl (fun K hK => ?_) AllReadyH.nil
  go_simp
  refine (CO.out _).mono ?_
  rintro e w4 ⟨rfl, k4⟩
  have A4 := Lib.hid (A0.out.drew.only (Only.of_below k4) (by simp; omega))
  have Z4 := Lib.hid (Z0.out.drew.only (Only.of_below k4) (by simp))
  have B4 := Lib.hid (B0.out.drew.trans (k4.mono (by simp; omega)))
  clear k4 CO A0 Z0 B0
  unfold Q3.val
  try go_wp2_with fail
  refine hK.out _ _ ?_ (fun hHeld => ?_)
  · exact A4.out.flat13
  clear hK K
  refine takeH (i := 23) (d := 26) (v := ?_) (by kernel_rfl) (by kernel_rfl) (by kernel_rfl) rfl (fun _ _ _ h => h) (by rfl) ?_ hHeld ?_
  rotate_left
  · intro o ho w hSw
    cases ho
    go_simp
    try with_reducible rfl
  simp only [Act.put, List.setIfInBounds_toArray, List.set_cons_zero, List.set_cons_succ]
  refine wpAnyH_ready (rs := [24]) (by kernel_rfl) (by simp) ?_
  refine AllReadyH.cons rfl (fun K hK => ?_) AllReadyH.nil
  rw [if_pos (by rfl)]
  refine wp_store_row 41 _ _ rfl (w.heap.size + 1) s.cells rfl rfl 41 S11.zero.cells Z4.out Tryz.refStatSize13 rfl s.one ?_
  refine hK.out _ _ ?_ (fun hHeld => ?_)
  · exact ((A4.out.only ((Only.refl (fun i => i = w.heap.size + 1) w4).setRow (fun _ => rfl) s.cells) (by omega)).flat13)
  clear hK K
  simp only [Act.put]
  refine wpAnyH_done (by kernel_rfl) ?_ _
  go_wp2_with fail
  refine bodyPost_ret (results_cell_row rfl _ _ (w.heap.size + 1) 41 _ (0, 0) _ rfl (Z4.out.setRow s.cells) Tryz.underlying41 rfl Tryz.refStatSize13) rfl ?_
  exact ⟨rfl, B4.out.trans (((Only.refl (fun i => i = w.heap.size + 1) w4).setRow (fun _ => rfl) s.cells).below B4.out.size (fun i hi h => by omega))⟩
end Go.Proofs.YtepiifbleoimkaaGreatDoor
