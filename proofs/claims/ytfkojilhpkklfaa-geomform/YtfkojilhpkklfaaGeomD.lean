/-
  Package geom: Inode.
-/
import Derived.Test.YtfkojilhpkklfaaGeomC
namespace Go.Proofs.Ytfkojilhpkklfaa
open Go.RowKit Go.Lib
set_option maxRecDepth 100000

/-- The block and the byte of the inode behind q others. -/
def inoB (B N I q : Nat) : Nat := 1 + s1 B N + s2 B I + q * 64 / B
def inoA (B q : Nat) : Nat := q * 64 % B
set_option maxHeartbeats 4000000 in
theorem inode_any {B N I : Nat} (h : May B N I) (q : Nat) (hq : q < I) (w : World) : Calls Try.prog 12 #[(gN B N I).val, .int .i64 ((q : Int) + 1)] w fun e w' => e = .returned (.tuple #[.int .i64 (inoB B N I q : Int), .int .i64 (inoA B q : Int)]) ∧ Still w w' := by
  obtain ⟨z1, z2, z3, z4, z5, z6⟩ := h.sizes
  have hr := h.range
  have hi := h.i
  have C : Hid (∀ W, Calls Try.prog 21 #[.agg #[.int .i64 (B : Int), .int .i64 (N : Int), .int .i64 (I : Int)]] W fun e w' => e = .returned (.bool true) ∧ Still W w') := Lib.hid (fun W => by
    have := may_any (gN B N I) W
    rw [h.yes] at this
    exact this)
  have D : Hid (∀ W, Calls Try.prog 11 #[.agg #[.int .i64 (B : Int), .int .i64 (N : Int), .int .i64 (I : Int)]] W fun e w' => e = .returned (.agg (partsCells B N I)) ∧ Still W w') := Lib.hid (fun W => parts_any h W)
  have hd : q * 64 / B ≤ q * 64 := Nat.div_le_self _ _
  have hx : Hid (∀ x y : Int, x = 1 + (s1 B N : Int) + (s2 B I : Int) + (q : Int) * 64 / (B : Int) → y = (q : Int) * 64 % (B : Int) → Ending.returned (.tuple #[.int .i64 x, .int .i64 y]) = .returned (.tuple #[.int .i64 (inoB B N I q : Int), .int .i64 (inoA B q : Int)])) := Lib.hid (fun x y e1 e2 => by
    rw [e1, e2]
    unfold inoB inoA
    simp)
  unfold partsCells at D
  generalize s1 B N = a1 at *
  generalize s2 B I = a2 at *
  generalize s3 B I = a3 at *
  have hdI : (q : Int) * 64 / (B : Int) ≤ 262144 := by
    have e : (q : Int) * 64 / (B : Int) = ((q * 64 / B : Nat) : Int) := by simp
    omega
  have hdI0 : 0 ≤ (q : Int) * 64 / (B : Int) := by
    have e : (q : Int) * 64 / (B : Int) = ((q * 64 / B : Nat) : Int) := by simp
    rw [e]
    exact Int.natCast_nonneg _
  show Calls Try.prog 12 #[.agg #[.int .i64 (B : Int), .int .i64 (N : Int), .int .i64 (I : Int)], .int .i64 ((q : Int) + 1)] w _
  have d1 : decide ((q : Int) + 1 < 1) = false := decide_eq_false (by omega)
  have d2 : decide ((I : Int) < (q : Int) + 1) = false := decide_eq_false (by omega)
  have n0 : ¬ ((B : Int) = 0) := by omega
  have j3 : ∀ w, (Instr.index 39 (.agg #[.int .i64 0, .int .i64 1, .int .i64 1, .int .i64 (a1 : Int), .int .i64 (1 + (a1 : Int)), .int .i64 (a2 : Int), .int .i64 (1 + (a1 : Int) + (a2 : Int)), .int .i64 (a3 : Int)]) (.int .i64 3)).run Try.prog w = .ok (.agg #[.int .i64 (1 + (a1 : Int) + (a2 : Int)), .int .i64 (a3 : Int)]) w := fun _ => by kernel_rfl
  have j4 : ∀ w, (Instr.field 38 (.agg #[.int .i64 (1 + (a1 : Int) + (a2 : Int)), .int .i64 (a3 : Int)]) 0).run Try.prog w = .ok (.int .i64 (1 + (a1 : Int) + (a2 : Int))) w := fun _ => by kernel_rfl
  have hw1 : IntKind.i64.wrap (((q : Int) * 64).tdiv (B : Int)) = (q : Int) * 64 / (B : Int) := IntWalk.i64_quo _ _ ⟨by omega, by omega, by omega⟩
  have hw2 : ((q : Int) * 64).tmod (B : Int) = (q : Int) * 64 % (B : Int) := Int.tmod_eq_emod_of_nonneg (by omega)
  have n1 : ¬ (B = 0) := by omega
  have hw3 : IntKind.i64.wrap (1 + (a1 : Int) + (a2 : Int) + (q : Int) * 64 / (B : Int)) = 1 + (a1 : Int) + (a2 : Int) + (q : Int) * 64 / (B : Int) := IntWalk.i64_in _ (by omega)
  clear h
  go_enter Try.func12, Try.ntmps12
  go_wp2_with fail
  refine (C.out _).mono ?_
  rintro e w1 ⟨rfl, k1⟩
  obtain ⟨⟨c0, c1, c2⟩, q1⟩ := box_facts k1
  have Q1 := Lib.hid q1
  have QR : Hid (∀ W W', Still w1 W → Still W W' → Still w W') := Lib.hid (fun W W' a b => (Q1.out.trans a).trans b)
  have QC : Hid (∀ W W', Still w1 W → Still W W' → W'.cell? ⟨w.heap.size, 0, none⟩ = some (.int .i64 (B : Int)) ∧ W'.cell? ⟨w.heap.size, 1, none⟩ = some (.int .i64 (N : Int)) ∧ W'.cell? ⟨w.heap.size, 2, none⟩ = some (.int .i64 (I : Int))) := Lib.hid (fun W W' a b => (box_facts ((k1.trans a).trans b)).1)
  clear k1 q1 C
  go_wp2
  refine wp_region_held_drew (S := fun w' => w'.cell? ⟨w.heap.size, 0, none⟩ = some (.int .i64 (B : Int)) ∧ w'.cell? ⟨w.heap.size, 1, none⟩ = some (.int .i64 (N : Int)) ∧ w'.cell? ⟨w.heap.size, 2, none⟩ = some (.int .i64 (I : Int))) (by kernel_rfl) ?_ (fun hHeld => ?_)
  · exact ⟨c0, c1, c2⟩
  refine takeH (i := 0) (d := 23) (v := ?_) (by kernel_rfl) (by kernel_rfl) (by kernel_rfl) rfl (fun _ _ _ h => h) (by rfl) ?_ hHeld ?_
  rotate_left
  · intro o ho w hSw
    cases ho
    go_simp
    try with_reducible rfl
  simp only [Act.put, List.setIfInBounds_toArray, List.set_cons_zero, List.set_cons_succ]
  refine takeH (i := 4) (d := 27) (v := ?_) (by kernel_rfl) (by kernel_rfl) (by kernel_rfl) rfl (fun _ _ _ h => h) (by rfl) ?_ hHeld ?_
  rotate_left
  · intro o ho w hSw
    cases ho
    go_simp
    try with_reducible rfl
  simp only [Act.put, List.setIfInBounds_toArray, List.set_cons_zero, List.set_cons_succ]
  refine takeH (i := 5) (d := 28) (v := ?_) (by kernel_rfl) (by kernel_rfl) (by kernel_rfl) rfl (fun _ _ _ h => h) (by rfl) ?_ hHeld ?_
  rotate_left
  · intro o ho w hSw
    cases ho
    go_simp
    try with_reducible rfl
  simp only [Act.put, List.setIfInBounds_toArray, List.set_cons_zero, List.set_cons_succ]
  refine takeH (i := 6) (d := 29) (v := ?_) (by kernel_rfl) (by kernel_rfl) (by kernel_rfl) rfl (fun _ _ _ h => h) (by rfl) ?_ hHeld ?_
  rotate_left
  · intro o ho w hSw
    cases ho
    go_simp
    try with_reducible rfl
  simp only [Act.put, List.setIfInBounds_toArray, List.set_cons_zero, List.set_cons_succ]
  refine takeH (i := 7) (d := 30) (v := ?_) (by kernel_rfl) (by kernel_rfl) (by kernel_rfl) rfl (fun _ _ _ h => h) (by rfl) ?_ hHeld ?_
  rotate_left
  · intro o ho w hSw
    cases ho
    go_simp
    try with_reducible rfl
  simp only [Act.put, List.setIfInBounds_toArray, List.set_cons_zero, List.set_cons_succ]
  refine takeH (i := 9) (d := 32) (v := ?_) (by kernel_rfl) (by kernel_rfl) (by kernel_rfl) rfl (fun _ _ _ h => h) (by rfl) ?_ hHeld ?_
  rotate_left
  · intro o ho w hSw
    cases ho
    go_simp
    try with_reducible rfl
  simp only [Act.put, List.setIfInBounds_toArray, List.set_cons_zero, List.set_cons_succ]
  refine takeH (i := 10) (d := 33) (v := ?_) (by kernel_rfl) (by kernel_rfl) (by kernel_rfl) rfl (fun _ _ _ h => h) (by rfl) ?_ hHeld ?_
  rotate_left
  · intro o ho w hSw
    cases ho
    go_simp
    try with_reducible rfl
  simp only [Act.put, List.setIfInBounds_toArray, List.set_cons_zero, List.set_cons_succ]
  refine takeH (i := 11) (d := 34) (v := ?_) (by kernel_rfl) (by kernel_rfl) (by kernel_rfl) rfl (fun _ _ _ h => h) (by rfl) ?_ hHeld ?_
  rotate_left
  · intro o ho w hSw
    cases ho
    go_simp
    try with_reducible rfl
  simp only [Act.put, List.setIfInBounds_toArray, List.set_cons_zero, List.set_cons_succ]
  refine takeH (i := 12) (d := 35) (v := ?_) (by kernel_rfl) (by kernel_rfl) (by kernel_rfl) rfl (fun _ _ _ h => h) (by rfl) ?_ hHeld ?_
  rotate_left
  · intro o ho w hSw
    cases ho
    go_simp
    try with_reducible rfl
  simp only [Act.put, List.setIfInBounds_toArray, List.set_cons_zero, List.set_cons_succ]
  refine wpAnyH_ready (rs := [1]) (by kernel_rfl) (by simp) ?_
  refine AllReadyH.cons rfl (fun K hK => ?_) AllReadyH.nil
  go_simp
  with_reducible refine (D.out _).mono ?_
  rintro e w2 ⟨rfl, k2⟩
  obtain ⟨c0, c1, c2⟩ := QC.out _ w2 (Only.drew (Still.refl w1)) k2
  have R := Lib.hid (QR.out _ w2 (Only.drew (Still.refl w1)) k2)
  clear k2
  try go_wp2_with fail
  refine hK.out _ _ ?_ (fun hHeld => ?_)
  · exact ⟨c0, c1, c2⟩
  clear hK K
  refine takeH (i := 2) (d := 25) (v := ?_) (by kernel_rfl) (by kernel_rfl) (by kernel_rfl) rfl (fun _ _ _ h => h) (by rfl) ?_ hHeld ?_
  rotate_left
  · intro o ho w hSw
    cases ho
    go_simp
    try with_reducible rfl
  simp only [Act.put, List.setIfInBounds_toArray, List.set_cons_zero, List.set_cons_succ]
  refine takeH (i := 3) (d := 26) (v := ?_) (by kernel_rfl) (by kernel_rfl) (by kernel_rfl) rfl (fun _ _ _ h => h) (by rfl) ?_ hHeld ?_
  rotate_left
  · intro o ho w hSw
    cases ho
    go_simp
    try with_reducible rfl
  simp only [Act.put, List.setIfInBounds_toArray, List.set_cons_zero, List.set_cons_succ]
  refine takeH (i := 8) (d := 31) (v := ?_) (by kernel_rfl) (by kernel_rfl) (by kernel_rfl) rfl (fun _ _ _ h => h) (by rfl) ?_ hHeld ?_
  rotate_left
  · intro o ho w hSw
    cases ho
    go_simp
    try with_reducible rfl
  simp only [Act.put, List.setIfInBounds_toArray, List.set_cons_zero, List.set_cons_succ]
  refine takeH (i := 13) (d := 4) (v := ?_) (by kernel_rfl) (by kernel_rfl) (by kernel_rfl) rfl (fun _ _ _ h => h) (by rfl) ?_ hHeld ?_
  rotate_left
  · intro o ho w hSw
    cases ho
    go_simp
    try with_reducible rfl
  simp only [Act.put, List.setIfInBounds_toArray, List.set_cons_zero, List.set_cons_succ]
  refine takeH (i := 14) (d := 5) (v := ?_) (by kernel_rfl) (by kernel_rfl) (by kernel_rfl) rfl (fun _ _ _ h => h) (by rfl) ?_ hHeld ?_
  rotate_left
  · intro o ho w hSw
    cases ho
    go_simp
    try with_reducible rfl
  simp only [Act.put, List.setIfInBounds_toArray, List.set_cons_zero, List.set_cons_succ]
  refine wpAnyH_done (by kernel_rfl) ?_ _
  go_wp2
  go_ret2
  exact ⟨hx.out _ _ rfl rfl, R.out⟩
end Go.Proofs.Ytfkojilhpkklfaa
