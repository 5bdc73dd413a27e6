/-
  BlocksBack: any road, and the place it leads to, or that it is none.
-/
import Derived.Test.YtddpedodbjibiaaLaw12Known
namespace Go.Proofs.Ytddpedodbjibiaa
open Go.RowKit Go.Lib
set_option maxRecDepth 100000

set_option maxHeartbeats 1000000 in
theorem back12_0_1 (a y t b : Int) (hB : ¬ Isb b)  (w : World) : Calls Try.prog 4 #[.agg #[.int .i64 1, .int .i64 a, .int .i64 y, .int .i64 t], .int .i64 b] w fun e w' => e = .returned (.bool true) ∧ Still w w' := by
  have no : ¬ RoadOk ⟨1, a, y, t⟩ b := by
    unfold RoadOk NumOk
    dsimp only
    intro h
    exact hB h.1
  have E1 : backE ⟨1, a, y, t⟩ b = 1 := if_neg no
  have E2 : backO ⟨1, a, y, t⟩ b = 0 := if_neg no
  have CB : Hid (∀ W, Calls Try.prog 12 #[.agg #[.int .i64 1, .int .i64 a, .int .i64 y, .int .i64 t], .int .i64 b] W fun e w' => e = .returned (.tuple #[.int .u64 0, .int .i64 1]) ∧ Still W w') := Lib.hid (fun W => by
    have := bback_any ⟨1, a, y, t⟩ b W
    rw [E1, E2] at this
    exact this)
  have CG : Hid (∀ W, Calls Try.prog 11 #[.int .i64 b] W fun e w' => e = .returned (.bool false) ∧ W = w') := Lib.hid (good12_no hB)
  clear E1 E2 no hB
  go_enter Try.func4, Try.ntmps4
  go_wp2_with fail
  refine (known12_any _).mono ?_
  rintro e w1 ⟨rfl, k1⟩
  have G1 := Lib.hid (k1.has (Has.new w 25 #[.int .i64 1, .int .i64 a, .int .i64 y, .int .i64 t]))
  have K1 := Lib.hid (((Still.refl w).alloc (.cells #[.int .i64 1, .int .i64 a, .int .i64 y, .int .i64 t] 25)).trans k1)
  obtain ⟨x0, x1, x2, x3⟩ := G1.out.cells4
  clear k1
  go_wp2_with fail
  refine (CB.out _).mono ?_
  rintro e w2 ⟨rfl, k2⟩
  have G2 := Lib.hid (k2.has G1.out)
  have K2 := Lib.hid (K1.out.trans k2)
  clear x0 x1 x2 x3 k2 G1 K1 CB
  obtain ⟨x0, x1, x2, x3⟩ := G2.out.cells4
  go_wp2_with fail
  refine (CG.out _).mono ?_
  rintro e w' ⟨rfl, rfl⟩
  clear CG
  go_wp2
  go_ret
  exact ⟨rfl, K2.out⟩
set_option maxHeartbeats 1000000 in
theorem back12_0_2 (a y t b : Int) (hB : ¬ Isb b)  (w : World) : Calls Try.prog 4 #[.agg #[.int .i64 2, .int .i64 a, .int .i64 y, .int .i64 t], .int .i64 b] w fun e w' => e = .returned (.bool true) ∧ Still w w' := by
  have no : ¬ RoadOk ⟨2, a, y, t⟩ b := by
    unfold RoadOk NumOk
    dsimp only
    intro h
    exact hB h.1
  have E1 : backE ⟨2, a, y, t⟩ b = 1 := if_neg no
  have E2 : backO ⟨2, a, y, t⟩ b = 0 := if_neg no
  have CB : Hid (∀ W, Calls Try.prog 12 #[.agg #[.int .i64 2, .int .i64 a, .int .i64 y, .int .i64 t], .int .i64 b] W fun e w' => e = .returned (.tuple #[.int .u64 0, .int .i64 1]) ∧ Still W w') := Lib.hid (fun W => by
    have := bback_any ⟨2, a, y, t⟩ b W
    rw [E1, E2] at this
    exact this)
  have CG : Hid (∀ W, Calls Try.prog 11 #[.int .i64 b] W fun e w' => e = .returned (.bool false) ∧ W = w') := Lib.hid (good12_no hB)
  clear E1 E2 no hB
  go_enter Try.func4, Try.ntmps4
  go_wp2_with fail
  refine (known12_any _).mono ?_
  rintro e w1 ⟨rfl, k1⟩
  have G1 := Lib.hid (k1.has (Has.new w 25 #[.int .i64 2, .int .i64 a, .int .i64 y, .int .i64 t]))
  have K1 := Lib.hid (((Still.refl w).alloc (.cells #[.int .i64 2, .int .i64 a, .int .i64 y, .int .i64 t] 25)).trans k1)
  obtain ⟨x0, x1, x2, x3⟩ := G1.out.cells4
  clear k1
  go_wp2_with fail
  refine (CB.out _).mono ?_
  rintro e w2 ⟨rfl, k2⟩
  have G2 := Lib.hid (k2.has G1.out)
  have K2 := Lib.hid (K1.out.trans k2)
  clear x0 x1 x2 x3 k2 G1 K1 CB
  obtain ⟨x0, x1, x2, x3⟩ := G2.out.cells4
  go_wp2_with fail
  refine (CG.out _).mono ?_
  rintro e w' ⟨rfl, rfl⟩
  clear CG
  go_wp2
  go_ret
  exact ⟨rfl, K2.out⟩
set_option maxHeartbeats 1000000 in
theorem back12_0_3 (a y t b : Int) (hB : ¬ Isb b)  (w : World) : Calls Try.prog 4 #[.agg #[.int .i64 3, .int .i64 a, .int .i64 y, .int .i64 t], .int .i64 b] w fun e w' => e = .returned (.bool true) ∧ Still w w' := by
  have no : ¬ RoadOk ⟨3, a, y, t⟩ b := by
    unfold RoadOk NumOk
    dsimp only
    intro h
    exact hB h.1
  have E1 : backE ⟨3, a, y, t⟩ b = 1 := if_neg no
  have E2 : backO ⟨3, a, y, t⟩ b = 0 := if_neg no
  have CB : Hid (∀ W, Calls Try.prog 12 #[.agg #[.int .i64 3, .int .i64 a, .int .i64 y, .int .i64 t], .int .i64 b] W fun e w' => e = .returned (.tuple #[.int .u64 0, .int .i64 1]) ∧ Still W w') := Lib.hid (fun W => by
    have := bback_any ⟨3, a, y, t⟩ b W
    rw [E1, E2] at this
    exact this)
  have CG : Hid (∀ W, Calls Try.prog 11 #[.int .i64 b] W fun e w' => e = .returned (.bool false) ∧ W = w') := Lib.hid (good12_no hB)
  clear E1 E2 no hB
  go_enter Try.func4, Try.ntmps4
  go_wp2_with fail
  refine (known12_any _).mono ?_
  rintro e w1 ⟨rfl, k1⟩
  have G1 := Lib.hid (k1.has (Has.new w 25 #[.int .i64 3, .int .i64 a, .int .i64 y, .int .i64 t]))
  have K1 := Lib.hid (((Still.refl w).alloc (.cells #[.int .i64 3, .int .i64 a, .int .i64 y, .int .i64 t] 25)).trans k1)
  obtain ⟨x0, x1, x2, x3⟩ := G1.out.cells4
  clear k1
  go_wp2_with fail
  refine (CB.out _).mono ?_
  rintro e w2 ⟨rfl, k2⟩
  have G2 := Lib.hid (k2.has G1.out)
  have K2 := Lib.hid (K1.out.trans k2)
  clear x0 x1 x2 x3 k2 G1 K1 CB
  obtain ⟨x0, x1, x2, x3⟩ := G2.out.cells4
  go_wp2_with fail
  refine (CG.out _).mono ?_
  rintro e w' ⟨rfl, rfl⟩
  clear CG
  go_wp2
  go_ret
  exact ⟨rfl, K2.out⟩
set_option maxHeartbeats 1000000 in
theorem back12_0_o (k a y t b : Int) (hB : ¬ Isb b) (g1 : ¬ k = 1) (g2 : ¬ k = 2) (g3 : ¬ k = 3) (w : World) : Calls Try.prog 4 #[.agg #[.int .i64 k, .int .i64 a, .int .i64 y, .int .i64 t], .int .i64 b] w fun e w' => e = .returned (.bool true) ∧ Still w w' := by
  have no : ¬ RoadOk ⟨k, a, y, t⟩ b := by
    unfold RoadOk NumOk
    dsimp only
    intro h
    exact hB h.1
  have E1 : backE ⟨k, a, y, t⟩ b = 1 := if_neg no
  have E2 : backO ⟨k, a, y, t⟩ b = 0 := if_neg no
  have CB : Hid (∀ W, Calls Try.prog 12 #[.agg #[.int .i64 k, .int .i64 a, .int .i64 y, .int .i64 t], .int .i64 b] W fun e w' => e = .returned (.tuple #[.int .u64 0, .int .i64 1]) ∧ Still W w') := Lib.hid (fun W => by
    have := bback_any ⟨k, a, y, t⟩ b W
    rw [E1, E2] at this
    exact this)
  have CG : Hid (∀ W, Calls Try.prog 11 #[.int .i64 b] W fun e w' => e = .returned (.bool false) ∧ W = w') := Lib.hid (good12_no hB)
  clear E1 E2 no hB
  have e1 : (k == 1) = false := by simpa using g1
  have e2 : (k == 2) = false := by simpa using g2
  have e3 : (k == 3) = false := by simpa using g3
  go_enter Try.func4, Try.ntmps4
  go_wp2_with fail
  refine (known12_any _).mono ?_
  rintro e w1 ⟨rfl, k1⟩
  have G1 := Lib.hid (k1.has (Has.new w 25 #[.int .i64 k, .int .i64 a, .int .i64 y, .int .i64 t]))
  have K1 := Lib.hid (((Still.refl w).alloc (.cells #[.int .i64 k, .int .i64 a, .int .i64 y, .int .i64 t] 25)).trans k1)
  obtain ⟨x0, x1, x2, x3⟩ := G1.out.cells4
  clear k1
  go_wp2_with fail
  refine (CB.out _).mono ?_
  rintro e w2 ⟨rfl, k2⟩
  have G2 := Lib.hid (k2.has G1.out)
  have K2 := Lib.hid (K1.out.trans k2)
  clear x0 x1 x2 x3 k2 G1 K1 CB
  obtain ⟨x0, x1, x2, x3⟩ := G2.out.cells4
  go_wp2_with fail
  refine (CG.out _).mono ?_
  rintro e w' ⟨rfl, rfl⟩
  clear CG
  go_wp2
  go_ret
  exact ⟨rfl, K2.out⟩
set_option maxHeartbeats 1000000 in
theorem back12_1_1 (a y t b : Int) (hB : Isb b) (h1 : ¬ 0 ≤ t)  (w : World) : Calls Try.prog 4 #[.agg #[.int .i64 1, .int .i64 a, .int .i64 y, .int .i64 t], .int .i64 b] w fun e w' => e = .returned (.bool true) ∧ Still w w' := by
  have no : ¬ RoadOk ⟨1, a, y, t⟩ b := by
    unfold RoadOk NumOk
    dsimp only
    intro h
    omega
  have E1 : backE ⟨1, a, y, t⟩ b = 1 := if_neg no
  have E2 : backO ⟨1, a, y, t⟩ b = 0 := if_neg no
  have CB : Hid (∀ W, Calls Try.prog 12 #[.agg #[.int .i64 1, .int .i64 a, .int .i64 y, .int .i64 t], .int .i64 b] W fun e w' => e = .returned (.tuple #[.int .u64 0, .int .i64 1]) ∧ Still W w') := Lib.hid (fun W => by
    have := bback_any ⟨1, a, y, t⟩ b W
    rw [E1, E2] at this
    exact this)
  have CG : Hid (∀ W, Calls Try.prog 11 #[.int .i64 b] W fun e w' => e = .returned (.bool true) ∧ W = w') := Lib.hid (good12_yes hB)
  obtain ⟨n0, n1, w0⟩ := most_b hB
  obtain ⟨b0, b1⟩ := hB.range
  have tn : b.tdiv 4 = b / 4 := Int.tdiv_eq_ediv_of_nonneg (by omega)
  clear E1 E2 no hB w0
  generalize b / 4 = n at *
  have d1 : decide (0 ≤ t) = false := decide_eq_false h1
  go_enter Try.func4, Try.ntmps4
  go_wp2_with fail
  refine (known12_any _).mono ?_
  rintro e w1 ⟨rfl, k1⟩
  have G1 := Lib.hid (k1.has (Has.new w 25 #[.int .i64 1, .int .i64 a, .int .i64 y, .int .i64 t]))
  have K1 := Lib.hid (((Still.refl w).alloc (.cells #[.int .i64 1, .int .i64 a, .int .i64 y, .int .i64 t] 25)).trans k1)
  obtain ⟨x0, x1, x2, x3⟩ := G1.out.cells4
  clear k1
  go_wp2_with fail
  refine (CB.out _).mono ?_
  rintro e w2 ⟨rfl, k2⟩
  have G2 := Lib.hid (k2.has G1.out)
  have K2 := Lib.hid (K1.out.trans k2)
  clear x0 x1 x2 x3 k2 G1 K1 CB
  obtain ⟨x0, x1, x2, x3⟩ := G2.out.cells4
  go_wp2_with fail
  refine (CG.out _).mono ?_
  rintro e w' ⟨rfl, rfl⟩
  clear CG
  go_wp2
  go_ret
  exact ⟨rfl, K2.out⟩
set_option maxHeartbeats 1000000 in
theorem back12_1_2 (a y t b : Int) (hB : Isb b) (h1 : ¬ 0 ≤ t)  (w : World) : Calls Try.prog 4 #[.agg #[.int .i64 2, .int .i64 a, .int .i64 y, .int .i64 t], .int .i64 b] w fun e w' => e = .returned (.bool true) ∧ Still w w' := by
  have no : ¬ RoadOk ⟨2, a, y, t⟩ b := by
    unfold RoadOk NumOk
    dsimp only
    intro h
    omega
  have E1 : backE ⟨2, a, y, t⟩ b = 1 := if_neg no
  have E2 : backO ⟨2, a, y, t⟩ b = 0 := if_neg no
  have CB : Hid (∀ W, Calls Try.prog 12 #[.agg #[.int .i64 2, .int .i64 a, .int .i64 y, .int .i64 t], .int .i64 b] W fun e w' => e = .returned (.tuple #[.int .u64 0, .int .i64 1]) ∧ Still W w') := Lib.hid (fun W => by
    have := bback_any ⟨2, a, y, t⟩ b W
    rw [E1, E2] at this
    exact this)
  have CG : Hid (∀ W, Calls Try.prog 11 #[.int .i64 b] W fun e w' => e = .returned (.bool true) ∧ W = w') := Lib.hid (good12_yes hB)
  obtain ⟨n0, n1, w0⟩ := most_b hB
  obtain ⟨b0, b1⟩ := hB.range
  have tn : b.tdiv 4 = b / 4 := Int.tdiv_eq_ediv_of_nonneg (by omega)
  clear E1 E2 no hB w0
  generalize b / 4 = n at *
  have d1 : decide (0 ≤ t) = false := decide_eq_false h1
  go_enter Try.func4, Try.ntmps4
  go_wp2_with fail
  refine (known12_any _).mono ?_
  rintro e w1 ⟨rfl, k1⟩
  have G1 := Lib.hid (k1.has (Has.new w 25 #[.int .i64 2, .int .i64 a, .int .i64 y, .int .i64 t]))
  have K1 := Lib.hid (((Still.refl w).alloc (.cells #[.int .i64 2, .int .i64 a, .int .i64 y, .int .i64 t] 25)).trans k1)
  obtain ⟨x0, x1, x2, x3⟩ := G1.out.cells4
  clear k1
  go_wp2_with fail
  refine (CB.out _).mono ?_
  rintro e w2 ⟨rfl, k2⟩
  have G2 := Lib.hid (k2.has G1.out)
  have K2 := Lib.hid (K1.out.trans k2)
  clear x0 x1 x2 x3 k2 G1 K1 CB
  obtain ⟨x0, x1, x2, x3⟩ := G2.out.cells4
  go_wp2_with fail
  refine (CG.out _).mono ?_
  rintro e w' ⟨rfl, rfl⟩
  clear CG
  go_wp2
  go_ret
  exact ⟨rfl, K2.out⟩
set_option maxHeartbeats 1000000 in
theorem back12_1_3 (a y t b : Int) (hB : Isb b) (h1 : ¬ 0 ≤ t)  (w : World) : Calls Try.prog 4 #[.agg #[.int .i64 3, .int .i64 a, .int .i64 y, .int .i64 t], .int .i64 b] w fun e w' => e = .returned (.bool true) ∧ Still w w' := by
  have no : ¬ RoadOk ⟨3, a, y, t⟩ b := by
    unfold RoadOk NumOk
    dsimp only
    intro h
    omega
  have E1 : backE ⟨3, a, y, t⟩ b = 1 := if_neg no
  have E2 : backO ⟨3, a, y, t⟩ b = 0 := if_neg no
  have CB : Hid (∀ W, Calls Try.prog 12 #[.agg #[.int .i64 3, .int .i64 a, .int .i64 y, .int .i64 t], .int .i64 b] W fun e w' => e = .returned (.tuple #[.int .u64 0, .int .i64 1]) ∧ Still W w') := Lib.hid (fun W => by
    have := bback_any ⟨3, a, y, t⟩ b W
    rw [E1, E2] at this
    exact this)
  have CG : Hid (∀ W, Calls Try.prog 11 #[.int .i64 b] W fun e w' => e = .returned (.bool true) ∧ W = w') := Lib.hid (good12_yes hB)
  obtain ⟨n0, n1, w0⟩ := most_b hB
  obtain ⟨b0, b1⟩ := hB.range
  have tn : b.tdiv 4 = b / 4 := Int.tdiv_eq_ediv_of_nonneg (by omega)
  clear E1 E2 no hB w0
  generalize b / 4 = n at *
  have d1 : decide (0 ≤ t) = false := decide_eq_false h1
  go_enter Try.func4, Try.ntmps4
  go_wp2_with fail
  refine (known12_any _).mono ?_
  rintro e w1 ⟨rfl, k1⟩
  have G1 := Lib.hid (k1.has (Has.new w 25 #[.int .i64 3, .int .i64 a, .int .i64 y, .int .i64 t]))
  have K1 := Lib.hid (((Still.refl w).alloc (.cells #[.int .i64 3, .int .i64 a, .int .i64 y, .int .i64 t] 25)).trans k1)
  obtain ⟨x0, x1, x2, x3⟩ := G1.out.cells4
  clear k1
  go_wp2_with fail
  refine (CB.out _).mono ?_
  rintro e w2 ⟨rfl, k2⟩
  have G2 := Lib.hid (k2.has G1.out)
  have K2 := Lib.hid (K1.out.trans k2)
  clear x0 x1 x2 x3 k2 G1 K1 CB
  obtain ⟨x0, x1, x2, x3⟩ := G2.out.cells4
  go_wp2_with fail
  refine (CG.out _).mono ?_
  rintro e w' ⟨rfl, rfl⟩
  clear CG
  go_wp2
  go_ret
  exact ⟨rfl, K2.out⟩
set_option maxHeartbeats 1000000 in
theorem back12_1_o (k a y t b : Int) (hB : Isb b) (h1 : ¬ 0 ≤ t) (g1 : ¬ k = 1) (g2 : ¬ k = 2) (g3 : ¬ k = 3) (w : World) : Calls Try.prog 4 #[.agg #[.int .i64 k, .int .i64 a, .int .i64 y, .int .i64 t], .int .i64 b] w fun e w' => e = .returned (.bool true) ∧ Still w w' := by
  have no : ¬ RoadOk ⟨k, a, y, t⟩ b := by
    unfold RoadOk NumOk
    dsimp only
    intro h
    omega
  have E1 : backE ⟨k, a, y, t⟩ b = 1 := if_neg no
  have E2 : backO ⟨k, a, y, t⟩ b = 0 := if_neg no
  have CB : Hid (∀ W, Calls Try.prog 12 #[.agg #[.int .i64 k, .int .i64 a, .int .i64 y, .int .i64 t], .int .i64 b] W fun e w' => e = .returned (.tuple #[.int .u64 0, .int .i64 1]) ∧ Still W w') := Lib.hid (fun W => by
    have := bback_any ⟨k, a, y, t⟩ b W
    rw [E1, E2] at this
    exact this)
  have CG : Hid (∀ W, Calls Try.prog 11 #[.int .i64 b] W fun e w' => e = .returned (.bool true) ∧ W = w') := Lib.hid (good12_yes hB)
  obtain ⟨n0, n1, w0⟩ := most_b hB
  obtain ⟨b0, b1⟩ := hB.range
  have tn : b.tdiv 4 = b / 4 := Int.tdiv_eq_ediv_of_nonneg (by omega)
  clear E1 E2 no hB w0
  generalize b / 4 = n at *
  have d1 : decide (0 ≤ t) = false := decide_eq_false h1
  have e1 : (k == 1) = false := by simpa using g1
  have e2 : (k == 2) = false := by simpa using g2
  have e3 : (k == 3) = false := by simpa using g3
  go_enter Try.func4, Try.ntmps4
  go_wp2_with fail
  refine (known12_any _).mono ?_
  rintro e w1 ⟨rfl, k1⟩
  have G1 := Lib.hid (k1.has (Has.new w 25 #[.int .i64 k, .int .i64 a, .int .i64 y, .int .i64 t]))
  have K1 := Lib.hid (((Still.refl w).alloc (.cells #[.int .i64 k, .int .i64 a, .int .i64 y, .int .i64 t] 25)).trans k1)
  obtain ⟨x0, x1, x2, x3⟩ := G1.out.cells4
  clear k1
  go_wp2_with fail
  refine (CB.out _).mono ?_
  rintro e w2 ⟨rfl, k2⟩
  have G2 := Lib.hid (k2.has G1.out)
  have K2 := Lib.hid (K1.out.trans k2)
  clear x0 x1 x2 x3 k2 G1 K1 CB
  obtain ⟨x0, x1, x2, x3⟩ := G2.out.cells4
  go_wp2_with fail
  refine (CG.out _).mono ?_
  rintro e w' ⟨rfl, rfl⟩
  clear CG
  go_wp2
  go_ret
  exact ⟨rfl, K2.out⟩
set_option maxHeartbeats 1000000 in
theorem back12_2_1 (a y t b : Int) (hB : Isb b) (h1 : 0 ≤ t) (h2 : ¬ t < b)  (w : World) : Calls Try.prog 4 #[.agg #[.int .i64 1, .int .i64 a, .int .i64 y, .int .i64 t], .int .i64 b] w fun e w' => e = .returned (.bool true) ∧ Still w w' := by
  have no : ¬ RoadOk ⟨1, a, y, t⟩ b := by
    unfold RoadOk NumOk
    dsimp only
    intro h
    omega
  have E1 : backE ⟨1, a, y, t⟩ b = 1 := if_neg no
  have E2 : backO ⟨1, a, y, t⟩ b = 0 := if_neg no
  have CB : Hid (∀ W, Calls Try.prog 12 #[.agg #[.int .i64 1, .int .i64 a, .int .i64 y, .int .i64 t], .int .i64 b] W fun e w' => e = .returned (.tuple #[.int .u64 0, .int .i64 1]) ∧ Still W w') := Lib.hid (fun W => by
    have := bback_any ⟨1, a, y, t⟩ b W
    rw [E1, E2] at this
    exact this)
  have CG : Hid (∀ W, Calls Try.prog 11 #[.int .i64 b] W fun e w' => e = .returned (.bool true) ∧ W = w') := Lib.hid (good12_yes hB)
  obtain ⟨n0, n1, w0⟩ := most_b hB
  obtain ⟨b0, b1⟩ := hB.range
  have tn : b.tdiv 4 = b / 4 := Int.tdiv_eq_ediv_of_nonneg (by omega)
  clear E1 E2 no hB w0
  generalize b / 4 = n at *
  have d1 : decide (0 ≤ t) = true := decide_eq_true h1
  have d2 : decide (t < b) = false := decide_eq_false h2
  go_enter Try.func4, Try.ntmps4
  go_wp2_with fail
  refine (known12_any _).mono ?_
  rintro e w1 ⟨rfl, k1⟩
  have G1 := Lib.hid (k1.has (Has.new w 25 #[.int .i64 1, .int .i64 a, .int .i64 y, .int .i64 t]))
  have K1 := Lib.hid (((Still.refl w).alloc (.cells #[.int .i64 1, .int .i64 a, .int .i64 y, .int .i64 t] 25)).trans k1)
  obtain ⟨x0, x1, x2, x3⟩ := G1.out.cells4
  clear k1
  go_wp2_with fail
  refine (CB.out _).mono ?_
  rintro e w2 ⟨rfl, k2⟩
  have G2 := Lib.hid (k2.has G1.out)
  have K2 := Lib.hid (K1.out.trans k2)
  clear x0 x1 x2 x3 k2 G1 K1 CB
  obtain ⟨x0, x1, x2, x3⟩ := G2.out.cells4
  go_wp2_with fail
  refine (CG.out _).mono ?_
  rintro e w' ⟨rfl, rfl⟩
  clear CG
  go_wp2
  go_ret
  exact ⟨rfl, K2.out⟩
set_option maxHeartbeats 1000000 in
theorem back12_2_2 (a y t b : Int) (hB : Isb b) (h1 : 0 ≤ t) (h2 : ¬ t < b)  (w : World) : Calls Try.prog 4 #[.agg #[.int .i64 2, .int .i64 a, .int .i64 y, .int .i64 t], .int .i64 b] w fun e w' => e = .returned (.bool true) ∧ Still w w' := by
  have no : ¬ RoadOk ⟨2, a, y, t⟩ b := by
    unfold RoadOk NumOk
    dsimp only
    intro h
    omega
  have E1 : backE ⟨2, a, y, t⟩ b = 1 := if_neg no
  have E2 : backO ⟨2, a, y, t⟩ b = 0 := if_neg no
  have CB : Hid (∀ W, Calls Try.prog 12 #[.agg #[.int .i64 2, .int .i64 a, .int .i64 y, .int .i64 t], .int .i64 b] W fun e w' => e = .returned (.tuple #[.int .u64 0, .int .i64 1]) ∧ Still W w') := Lib.hid (fun W => by
    have := bback_any ⟨2, a, y, t⟩ b W
    rw [E1, E2] at this
    exact this)
  have CG : Hid (∀ W, Calls Try.prog 11 #[.int .i64 b] W fun e w' => e = .returned (.bool true) ∧ W = w') := Lib.hid (good12_yes hB)
  obtain ⟨n0, n1, w0⟩ := most_b hB
  obtain ⟨b0, b1⟩ := hB.range
  have tn : b.tdiv 4 = b / 4 := Int.tdiv_eq_ediv_of_nonneg (by omega)
  clear E1 E2 no hB w0
  generalize b / 4 = n at *
  have d1 : decide (0 ≤ t) = true := decide_eq_true h1
  have d2 : decide (t < b) = false := decide_eq_false h2
  go_enter Try.func4, Try.ntmps4
  go_wp2_with fail
  refine (known12_any _).mono ?_
  rintro e w1 ⟨rfl, k1⟩
  have G1 := Lib.hid (k1.has (Has.new w 25 #[.int .i64 2, .int .i64 a, .int .i64 y, .int .i64 t]))
  have K1 := Lib.hid (((Still.refl w).alloc (.cells #[.int .i64 2, .int .i64 a, .int .i64 y, .int .i64 t] 25)).trans k1)
  obtain ⟨x0, x1, x2, x3⟩ := G1.out.cells4
  clear k1
  go_wp2_with fail
  refine (CB.out _).mono ?_
  rintro e w2 ⟨rfl, k2⟩
  have G2 := Lib.hid (k2.has G1.out)
  have K2 := Lib.hid (K1.out.trans k2)
  clear x0 x1 x2 x3 k2 G1 K1 CB
  obtain ⟨x0, x1, x2, x3⟩ := G2.out.cells4
  go_wp2_with fail
  refine (CG.out _).mono ?_
  rintro e w' ⟨rfl, rfl⟩
  clear CG
  go_wp2
  go_ret
  exact ⟨rfl, K2.out⟩
set_option maxHeartbeats 1000000 in
theorem back12_2_3 (a y t b : Int) (hB : Isb b) (h1 : 0 ≤ t) (h2 : ¬ t < b)  (w : World) : Calls Try.prog 4 #[.agg #[.int .i64 3, .int .i64 a, .int .i64 y, .int .i64 t], .int .i64 b] w fun e w' => e = .returned (.bool true) ∧ Still w w' := by
  have no : ¬ RoadOk ⟨3, a, y, t⟩ b := by
    unfold RoadOk NumOk
    dsimp only
    intro h
    omega
  have E1 : backE ⟨3, a, y, t⟩ b = 1 := if_neg no
  have E2 : backO ⟨3, a, y, t⟩ b = 0 := if_neg no
  have CB : Hid (∀ W, Calls Try.prog 12 #[.agg #[.int .i64 3, .int .i64 a, .int .i64 y, .int .i64 t], .int .i64 b] W fun e w' => e = .returned (.tuple #[.int .u64 0, .int .i64 1]) ∧ Still W w') := Lib.hid (fun W => by
    have := bback_any ⟨3, a, y, t⟩ b W
    rw [E1, E2] at this
    exact this)
  have CG : Hid (∀ W, Calls Try.prog 11 #[.int .i64 b] W fun e w' => e = .returned (.bool true) ∧ W = w') := Lib.hid (good12_yes hB)
  obtain ⟨n0, n1, w0⟩ := most_b hB
  obtain ⟨b0, b1⟩ := hB.range
  have tn : b.tdiv 4 = b / 4 := Int.tdiv_eq_ediv_of_nonneg (by omega)
  clear E1 E2 no hB w0
  generalize b / 4 = n at *
  have d1 : decide (0 ≤ t) = true := decide_eq_true h1
  have d2 : decide (t < b) = false := decide_eq_false h2
  go_enter Try.func4, Try.ntmps4
  go_wp2_with fail
  refine (known12_any _).mono ?_
  rintro e w1 ⟨rfl, k1⟩
  have G1 := Lib.hid (k1.has (Has.new w 25 #[.int .i64 3, .int .i64 a, .int .i64 y, .int .i64 t]))
  have K1 := Lib.hid (((Still.refl w).alloc (.cells #[.int .i64 3, .int .i64 a, .int .i64 y, .int .i64 t] 25)).trans k1)
  obtain ⟨x0, x1, x2, x3⟩ := G1.out.cells4
  clear k1
  go_wp2_with fail
  refine (CB.out _).mono ?_
  rintro e w2 ⟨rfl, k2⟩
  have G2 := Lib.hid (k2.has G1.out)
  have K2 := Lib.hid (K1.out.trans k2)
  clear x0 x1 x2 x3 k2 G1 K1 CB
  obtain ⟨x0, x1, x2, x3⟩ := G2.out.cells4
  go_wp2_with fail
  refine (CG.out _).mono ?_
  rintro e w' ⟨rfl, rfl⟩
  clear CG
  go_wp2
  go_ret
  exact ⟨rfl, K2.out⟩
set_option maxHeartbeats 1000000 in
theorem back12_2_o (k a y t b : Int) (hB : Isb b) (h1 : 0 ≤ t) (h2 : ¬ t < b) (g1 : ¬ k = 1) (g2 : ¬ k = 2) (g3 : ¬ k = 3) (w : World) : Calls Try.prog 4 #[.agg #[.int .i64 k, .int .i64 a, .int .i64 y, .int .i64 t], .int .i64 b] w fun e w' => e = .returned (.bool true) ∧ Still w w' := by
  have no : ¬ RoadOk ⟨k, a, y, t⟩ b := by
    unfold RoadOk NumOk
    dsimp only
    intro h
    omega
  have E1 : backE ⟨k, a, y, t⟩ b = 1 := if_neg no
  have E2 : backO ⟨k, a, y, t⟩ b = 0 := if_neg no
  have CB : Hid (∀ W, Calls Try.prog 12 #[.agg #[.int .i64 k, .int .i64 a, .int .i64 y, .int .i64 t], .int .i64 b] W fun e w' => e = .returned (.tuple #[.int .u64 0, .int .i64 1]) ∧ Still W w') := Lib.hid (fun W => by
    have := bback_any ⟨k, a, y, t⟩ b W
    rw [E1, E2] at this
    exact this)
  have CG : Hid (∀ W, Calls Try.prog 11 #[.int .i64 b] W fun e w' => e = .returned (.bool true) ∧ W = w') := Lib.hid (good12_yes hB)
  obtain ⟨n0, n1, w0⟩ := most_b hB
  obtain ⟨b0, b1⟩ := hB.range
  have tn : b.tdiv 4 = b / 4 := Int.tdiv_eq_ediv_of_nonneg (by omega)
  clear E1 E2 no hB w0
  generalize b / 4 = n at *
  have d1 : decide (0 ≤ t) = true := decide_eq_true h1
  have d2 : decide (t < b) = false := decide_eq_false h2
  have e1 : (k == 1) = false := by simpa using g1
  have e2 : (k == 2) = false := by simpa using g2
  have e3 : (k == 3) = false := by simpa using g3
  go_enter Try.func4, Try.ntmps4
  go_wp2_with fail
  refine (known12_any _).mono ?_
  rintro e w1 ⟨rfl, k1⟩
  have G1 := Lib.hid (k1.has (Has.new w 25 #[.int .i64 k, .int .i64 a, .int .i64 y, .int .i64 t]))
  have K1 := Lib.hid (((Still.refl w).alloc (.cells #[.int .i64 k, .int .i64 a, .int .i64 y, .int .i64 t] 25)).trans k1)
  obtain ⟨x0, x1, x2, x3⟩ := G1.out.cells4
  clear k1
  go_wp2_with fail
  refine (CB.out _).mono ?_
  rintro e w2 ⟨rfl, k2⟩
  have G2 := Lib.hid (k2.has G1.out)
  have K2 := Lib.hid (K1.out.trans k2)
  clear x0 x1 x2 x3 k2 G1 K1 CB
  obtain ⟨x0, x1, x2, x3⟩ := G2.out.cells4
  go_wp2_with fail
  refine (CG.out _).mono ?_
  rintro e w' ⟨rfl, rfl⟩
  clear CG
  go_wp2
  go_ret
  exact ⟨rfl, K2.out⟩
set_option maxHeartbeats 1000000 in
theorem back12_3_1 (a y t b : Int) (hB : Isb b) (h1 : 0 ≤ t) (h2 : t < b) (h3 : ¬ 0 ≤ a)  (w : World) : Calls Try.prog 4 #[.agg #[.int .i64 1, .int .i64 a, .int .i64 y, .int .i64 t], .int .i64 b] w fun e w' => e = .returned (.bool true) ∧ Still w w' := by
  have no : ¬ RoadOk ⟨1, a, y, t⟩ b := by
    unfold RoadOk NumOk
    dsimp only
    intro h
    omega
  have E1 : backE ⟨1, a, y, t⟩ b = 1 := if_neg no
  have E2 : backO ⟨1, a, y, t⟩ b = 0 := if_neg no
  have CB : Hid (∀ W, Calls Try.prog 12 #[.agg #[.int .i64 1, .int .i64 a, .int .i64 y, .int .i64 t], .int .i64 b] W fun e w' => e = .returned (.tuple #[.int .u64 0, .int .i64 1]) ∧ Still W w') := Lib.hid (fun W => by
    have := bback_any ⟨1, a, y, t⟩ b W
    rw [E1, E2] at this
    exact this)
  have CG : Hid (∀ W, Calls Try.prog 11 #[.int .i64 b] W fun e w' => e = .returned (.bool true) ∧ W = w') := Lib.hid (good12_yes hB)
  obtain ⟨n0, n1, w0⟩ := most_b hB
  obtain ⟨b0, b1⟩ := hB.range
  have tn : b.tdiv 4 = b / 4 := Int.tdiv_eq_ediv_of_nonneg (by omega)
  clear E1 E2 no hB w0
  generalize b / 4 = n at *
  have d1 : decide (0 ≤ t) = true := decide_eq_true h1
  have d2 : decide (t < b) = true := decide_eq_true h2
  have d3 : decide (0 ≤ a) = false := decide_eq_false h3
  go_enter Try.func4, Try.ntmps4
  go_wp2_with fail
  refine (known12_any _).mono ?_
  rintro e w1 ⟨rfl, k1⟩
  have G1 := Lib.hid (k1.has (Has.new w 25 #[.int .i64 1, .int .i64 a, .int .i64 y, .int .i64 t]))
  have K1 := Lib.hid (((Still.refl w).alloc (.cells #[.int .i64 1, .int .i64 a, .int .i64 y, .int .i64 t] 25)).trans k1)
  obtain ⟨x0, x1, x2, x3⟩ := G1.out.cells4
  clear k1
  go_wp2_with fail
  refine (CB.out _).mono ?_
  rintro e w2 ⟨rfl, k2⟩
  have G2 := Lib.hid (k2.has G1.out)
  have K2 := Lib.hid (K1.out.trans k2)
  clear x0 x1 x2 x3 k2 G1 K1 CB
  obtain ⟨x0, x1, x2, x3⟩ := G2.out.cells4
  go_wp2_with fail
  refine (CG.out _).mono ?_
  rintro e w' ⟨rfl, rfl⟩
  clear CG
  go_wp2
  go_ret
  exact ⟨rfl, K2.out⟩
set_option maxHeartbeats 1000000 in
theorem back12_3_2 (a y t b : Int) (hB : Isb b) (h1 : 0 ≤ t) (h2 : t < b) (h3 : ¬ 0 ≤ a)  (w : World) : Calls Try.prog 4 #[.agg #[.int .i64 2, .int .i64 a, .int .i64 y, .int .i64 t], .int .i64 b] w fun e w' => e = .returned (.bool true) ∧ Still w w' := by
  have no : ¬ RoadOk ⟨2, a, y, t⟩ b := by
    unfold RoadOk NumOk
    dsimp only
    intro h
    omega
  have E1 : backE ⟨2, a, y, t⟩ b = 1 := if_neg no
  have E2 : backO ⟨2, a, y, t⟩ b = 0 := if_neg no
  have CB : Hid (∀ W, Calls Try.prog 12 #[.agg #[.int .i64 2, .int .i64 a, .int .i64 y, .int .i64 t], .int .i64 b] W fun e w' => e = .returned (.tuple #[.int .u64 0, .int .i64 1]) ∧ Still W w') := Lib.hid (fun W => by
    have := bback_any ⟨2, a, y, t⟩ b W
    rw [E1, E2] at this
    exact this)
  have CG : Hid (∀ W, Calls Try.prog 11 #[.int .i64 b] W fun e w' => e = .returned (.bool true) ∧ W = w') := Lib.hid (good12_yes hB)
  obtain ⟨n0, n1, w0⟩ := most_b hB
  obtain ⟨b0, b1⟩ := hB.range
  have tn : b.tdiv 4 = b / 4 := Int.tdiv_eq_ediv_of_nonneg (by omega)
  clear E1 E2 no hB w0
  generalize b / 4 = n at *
  have d1 : decide (0 ≤ t) = true := decide_eq_true h1
  have d2 : decide (t < b) = true := decide_eq_true h2
  have d3 : decide (0 ≤ a) = false := decide_eq_false h3
  go_enter Try.func4, Try.ntmps4
  go_wp2_with fail
  refine (known12_any _).mono ?_
  rintro e w1 ⟨rfl, k1⟩
  have G1 := Lib.hid (k1.has (Has.new w 25 #[.int .i64 2, .int .i64 a, .int .i64 y, .int .i64 t]))
  have K1 := Lib.hid (((Still.refl w).alloc (.cells #[.int .i64 2, .int .i64 a, .int .i64 y, .int .i64 t] 25)).trans k1)
  obtain ⟨x0, x1, x2, x3⟩ := G1.out.cells4
  clear k1
  go_wp2_with fail
  refine (CB.out _).mono ?_
  rintro e w2 ⟨rfl, k2⟩
  have G2 := Lib.hid (k2.has G1.out)
  have K2 := Lib.hid (K1.out.trans k2)
  clear x0 x1 x2 x3 k2 G1 K1 CB
  obtain ⟨x0, x1, x2, x3⟩ := G2.out.cells4
  go_wp2_with fail
  refine (CG.out _).mono ?_
  rintro e w' ⟨rfl, rfl⟩
  clear CG
  go_wp2
  go_ret
  exact ⟨rfl, K2.out⟩
set_option maxHeartbeats 1000000 in
theorem back12_3_3 (a y t b : Int) (hB : Isb b) (h1 : 0 ≤ t) (h2 : t < b) (h3 : ¬ 0 ≤ a)  (w : World) : Calls Try.prog 4 #[.agg #[.int .i64 3, .int .i64 a, .int .i64 y, .int .i64 t], .int .i64 b] w fun e w' => e = .returned (.bool true) ∧ Still w w' := by
  have no : ¬ RoadOk ⟨3, a, y, t⟩ b := by
    unfold RoadOk NumOk
    dsimp only
    intro h
    omega
  have E1 : backE ⟨3, a, y, t⟩ b = 1 := if_neg no
  have E2 : backO ⟨3, a, y, t⟩ b = 0 := if_neg no
  have CB : Hid (∀ W, Calls Try.prog 12 #[.agg #[.int .i64 3, .int .i64 a, .int .i64 y, .int .i64 t], .int .i64 b] W fun e w' => e = .returned (.tuple #[.int .u64 0, .int .i64 1]) ∧ Still W w') := Lib.hid (fun W => by
    have := bback_any ⟨3, a, y, t⟩ b W
    rw [E1, E2] at this
    exact this)
  have CG : Hid (∀ W, Calls Try.prog 11 #[.int .i64 b] W fun e w' => e = .returned (.bool true) ∧ W = w') := Lib.hid (good12_yes hB)
  obtain ⟨n0, n1, w0⟩ := most_b hB
  obtain ⟨b0, b1⟩ := hB.range
  have tn : b.tdiv 4 = b / 4 := Int.tdiv_eq_ediv_of_nonneg (by omega)
  clear E1 E2 no hB w0
  generalize b / 4 = n at *
  have d1 : decide (0 ≤ t) = true := decide_eq_true h1
  have d2 : decide (t < b) = true := decide_eq_true h2
  have d3 : decide (0 ≤ a) = false := decide_eq_false h3
  go_enter Try.func4, Try.ntmps4
  go_wp2_with fail
  refine (known12_any _).mono ?_
  rintro e w1 ⟨rfl, k1⟩
  have G1 := Lib.hid (k1.has (Has.new w 25 #[.int .i64 3, .int .i64 a, .int .i64 y, .int .i64 t]))
  have K1 := Lib.hid (((Still.refl w).alloc (.cells #[.int .i64 3, .int .i64 a, .int .i64 y, .int .i64 t] 25)).trans k1)
  obtain ⟨x0, x1, x2, x3⟩ := G1.out.cells4
  clear k1
  go_wp2_with fail
  refine (CB.out _).mono ?_
  rintro e w2 ⟨rfl, k2⟩
  have G2 := Lib.hid (k2.has G1.out)
  have K2 := Lib.hid (K1.out.trans k2)
  clear x0 x1 x2 x3 k2 G1 K1 CB
  obtain ⟨x0, x1, x2, x3⟩ := G2.out.cells4
  go_wp2_with fail
  refine (CG.out _).mono ?_
  rintro e w' ⟨rfl, rfl⟩
  clear CG
  go_wp2
  go_ret
  exact ⟨rfl, K2.out⟩
set_option maxHeartbeats 1000000 in
theorem back12_3_o (k a y t b : Int) (hB : Isb b) (h1 : 0 ≤ t) (h2 : t < b) (h3 : ¬ 0 ≤ a) (g1 : ¬ k = 1) (g2 : ¬ k = 2) (g3 : ¬ k = 3) (w : World) : Calls Try.prog 4 #[.agg #[.int .i64 k, .int .i64 a, .int .i64 y, .int .i64 t], .int .i64 b] w fun e w' => e = .returned (.bool true) ∧ Still w w' := by
  have no : ¬ RoadOk ⟨k, a, y, t⟩ b := by
    unfold RoadOk NumOk
    dsimp only
    intro h
    omega
  have E1 : backE ⟨k, a, y, t⟩ b = 1 := if_neg no
  have E2 : backO ⟨k, a, y, t⟩ b = 0 := if_neg no
  have CB : Hid (∀ W, Calls Try.prog 12 #[.agg #[.int .i64 k, .int .i64 a, .int .i64 y, .int .i64 t], .int .i64 b] W fun e w' => e = .returned (.tuple #[.int .u64 0, .int .i64 1]) ∧ Still W w') := Lib.hid (fun W => by
    have := bback_any ⟨k, a, y, t⟩ b W
    rw [E1, E2] at this
    exact this)
  have CG : Hid (∀ W, Calls Try.prog 11 #[.int .i64 b] W fun e w' => e = .returned (.bool true) ∧ W = w') := Lib.hid (good12_yes hB)
  obtain ⟨n0, n1, w0⟩ := most_b hB
  obtain ⟨b0, b1⟩ := hB.range
  have tn : b.tdiv 4 = b / 4 := Int.tdiv_eq_ediv_of_nonneg (by omega)
  clear E1 E2 no hB w0
  generalize b / 4 = n at *
  have d1 : decide (0 ≤ t) = true := decide_eq_true h1
  have d2 : decide (t < b) = true := decide_eq_true h2
  have d3 : decide (0 ≤ a) = false := decide_eq_false h3
  have e1 : (k == 1) = false := by simpa using g1
  have e2 : (k == 2) = false := by simpa using g2
  have e3 : (k == 3) = false := by simpa using g3
  go_enter Try.func4, Try.ntmps4
  go_wp2_with fail
  refine (known12_any _).mono ?_
  rintro e w1 ⟨rfl, k1⟩
  have G1 := Lib.hid (k1.has (Has.new w 25 #[.int .i64 k, .int .i64 a, .int .i64 y, .int .i64 t]))
  have K1 := Lib.hid (((Still.refl w).alloc (.cells #[.int .i64 k, .int .i64 a, .int .i64 y, .int .i64 t] 25)).trans k1)
  obtain ⟨x0, x1, x2, x3⟩ := G1.out.cells4
  clear k1
  go_wp2_with fail
  refine (CB.out _).mono ?_
  rintro e w2 ⟨rfl, k2⟩
  have G2 := Lib.hid (k2.has G1.out)
  have K2 := Lib.hid (K1.out.trans k2)
  clear x0 x1 x2 x3 k2 G1 K1 CB
  obtain ⟨x0, x1, x2, x3⟩ := G2.out.cells4
  go_wp2_with fail
  refine (CG.out _).mono ?_
  rintro e w' ⟨rfl, rfl⟩
  clear CG
  go_wp2
  go_ret
  exact ⟨rfl, K2.out⟩
set_option maxHeartbeats 1000000 in
theorem back12_4_1 (a y t b : Int) (hB : Isb b) (h1 : 0 ≤ t) (h2 : t < b) (h3 : 0 ≤ a) (h4 : ¬ 0 ≤ y)  (w : World) : Calls Try.prog 4 #[.agg #[.int .i64 1, .int .i64 a, .int .i64 y, .int .i64 t], .int .i64 b] w fun e w' => e = .returned (.bool true) ∧ Still w w' := by
  have no : ¬ RoadOk ⟨1, a, y, t⟩ b := by
    unfold RoadOk NumOk
    dsimp only
    intro h
    omega
  have E1 : backE ⟨1, a, y, t⟩ b = 1 := if_neg no
  have E2 : backO ⟨1, a, y, t⟩ b = 0 := if_neg no
  have CB : Hid (∀ W, Calls Try.prog 12 #[.agg #[.int .i64 1, .int .i64 a, .int .i64 y, .int .i64 t], .int .i64 b] W fun e w' => e = .returned (.tuple #[.int .u64 0, .int .i64 1]) ∧ Still W w') := Lib.hid (fun W => by
    have := bback_any ⟨1, a, y, t⟩ b W
    rw [E1, E2] at this
    exact this)
  have CG : Hid (∀ W, Calls Try.prog 11 #[.int .i64 b] W fun e w' => e = .returned (.bool true) ∧ W = w') := Lib.hid (good12_yes hB)
  obtain ⟨n0, n1, w0⟩ := most_b hB
  obtain ⟨b0, b1⟩ := hB.range
  have tn : b.tdiv 4 = b / 4 := Int.tdiv_eq_ediv_of_nonneg (by omega)
  clear E1 E2 no hB w0
  generalize b / 4 = n at *
  have d1 : decide (0 ≤ t) = true := decide_eq_true h1
  have d2 : decide (t < b) = true := decide_eq_true h2
  have d3 : decide (0 ≤ a) = true := decide_eq_true h3
  have d4 : decide (0 ≤ y) = false := decide_eq_false h4
  go_enter Try.func4, Try.ntmps4
  go_wp2_with fail
  refine (known12_any _).mono ?_
  rintro e w1 ⟨rfl, k1⟩
  have G1 := Lib.hid (k1.has (Has.new w 25 #[.int .i64 1, .int .i64 a, .int .i64 y, .int .i64 t]))
  have K1 := Lib.hid (((Still.refl w).alloc (.cells #[.int .i64 1, .int .i64 a, .int .i64 y, .int .i64 t] 25)).trans k1)
  obtain ⟨x0, x1, x2, x3⟩ := G1.out.cells4
  clear k1
  go_wp2_with fail
  refine (CB.out _).mono ?_
  rintro e w2 ⟨rfl, k2⟩
  have G2 := Lib.hid (k2.has G1.out)
  have K2 := Lib.hid (K1.out.trans k2)
  clear x0 x1 x2 x3 k2 G1 K1 CB
  obtain ⟨x0, x1, x2, x3⟩ := G2.out.cells4
  go_wp2_with fail
  refine (CG.out _).mono ?_
  rintro e w' ⟨rfl, rfl⟩
  clear CG
  go_wp2
  go_ret
  exact ⟨rfl, K2.out⟩
set_option maxHeartbeats 1000000 in
theorem back12_4_2 (a y t b : Int) (hB : Isb b) (h1 : 0 ≤ t) (h2 : t < b) (h3 : 0 ≤ a) (h4 : ¬ 0 ≤ y)  (w : World) : Calls Try.prog 4 #[.agg #[.int .i64 2, .int .i64 a, .int .i64 y, .int .i64 t], .int .i64 b] w fun e w' => e = .returned (.bool true) ∧ Still w w' := by
  have no : ¬ RoadOk ⟨2, a, y, t⟩ b := by
    unfold RoadOk NumOk
    dsimp only
    intro h
    omega
  have E1 : backE ⟨2, a, y, t⟩ b = 1 := if_neg no
  have E2 : backO ⟨2, a, y, t⟩ b = 0 := if_neg no
  have CB : Hid (∀ W, Calls Try.prog 12 #[.agg #[.int .i64 2, .int .i64 a, .int .i64 y, .int .i64 t], .int .i64 b] W fun e w' => e = .returned (.tuple #[.int .u64 0, .int .i64 1]) ∧ Still W w') := Lib.hid (fun W => by
    have := bback_any ⟨2, a, y, t⟩ b W
    rw [E1, E2] at this
    exact this)
  have CG : Hid (∀ W, Calls Try.prog 11 #[.int .i64 b] W fun e w' => e = .returned (.bool true) ∧ W = w') := Lib.hid (good12_yes hB)
  obtain ⟨n0, n1, w0⟩ := most_b hB
  obtain ⟨b0, b1⟩ := hB.range
  have tn : b.tdiv 4 = b / 4 := Int.tdiv_eq_ediv_of_nonneg (by omega)
  clear E1 E2 no hB w0
  generalize b / 4 = n at *
  have d1 : decide (0 ≤ t) = true := decide_eq_true h1
  have d2 : decide (t < b) = true := decide_eq_true h2
  have d3 : decide (0 ≤ a) = true := decide_eq_true h3
  have d4 : decide (0 ≤ y) = false := decide_eq_false h4
  go_enter Try.func4, Try.ntmps4
  go_wp2_with fail
  refine (known12_any _).mono ?_
  rintro e w1 ⟨rfl, k1⟩
  have G1 := Lib.hid (k1.has (Has.new w 25 #[.int .i64 2, .int .i64 a, .int .i64 y, .int .i64 t]))
  have K1 := Lib.hid (((Still.refl w).alloc (.cells #[.int .i64 2, .int .i64 a, .int .i64 y, .int .i64 t] 25)).trans k1)
  obtain ⟨x0, x1, x2, x3⟩ := G1.out.cells4
  clear k1
  go_wp2_with fail
  refine (CB.out _).mono ?_
  rintro e w2 ⟨rfl, k2⟩
  have G2 := Lib.hid (k2.has G1.out)
  have K2 := Lib.hid (K1.out.trans k2)
  clear x0 x1 x2 x3 k2 G1 K1 CB
  obtain ⟨x0, x1, x2, x3⟩ := G2.out.cells4
  go_wp2_with fail
  refine (CG.out _).mono ?_
  rintro e w' ⟨rfl, rfl⟩
  clear CG
  go_wp2
  go_ret
  exact ⟨rfl, K2.out⟩
set_option maxHeartbeats 1000000 in
theorem back12_4_3 (a y t b : Int) (hB : Isb b) (h1 : 0 ≤ t) (h2 : t < b) (h3 : 0 ≤ a) (h4 : ¬ 0 ≤ y)  (w : World) : Calls Try.prog 4 #[.agg #[.int .i64 3, .int .i64 a, .int .i64 y, .int .i64 t], .int .i64 b] w fun e w' => e = .returned (.bool true) ∧ Still w w' := by
  have no : ¬ RoadOk ⟨3, a, y, t⟩ b := by
    unfold RoadOk NumOk
    dsimp only
    intro h
    omega
  have E1 : backE ⟨3, a, y, t⟩ b = 1 := if_neg no
  have E2 : backO ⟨3, a, y, t⟩ b = 0 := if_neg no
  have CB : Hid (∀ W, Calls Try.prog 12 #[.agg #[.int .i64 3, .int .i64 a, .int .i64 y, .int .i64 t], .int .i64 b] W fun e w' => e = .returned (.tuple #[.int .u64 0, .int .i64 1]) ∧ Still W w') := Lib.hid (fun W => by
    have := bback_any ⟨3, a, y, t⟩ b W
    rw [E1, E2] at this
    exact this)
  have CG : Hid (∀ W, Calls Try.prog 11 #[.int .i64 b] W fun e w' => e = .returned (.bool true) ∧ W = w') := Lib.hid (good12_yes hB)
  obtain ⟨n0, n1, w0⟩ := most_b hB
  obtain ⟨b0, b1⟩ := hB.range
  have tn : b.tdiv 4 = b / 4 := Int.tdiv_eq_ediv_of_nonneg (by omega)
  clear E1 E2 no hB w0
  generalize b / 4 = n at *
  have d1 : decide (0 ≤ t) = true := decide_eq_true h1
  have d2 : decide (t < b) = true := decide_eq_true h2
  have d3 : decide (0 ≤ a) = true := decide_eq_true h3
  have d4 : decide (0 ≤ y) = false := decide_eq_false h4
  go_enter Try.func4, Try.ntmps4
  go_wp2_with fail
  refine (known12_any _).mono ?_
  rintro e w1 ⟨rfl, k1⟩
  have G1 := Lib.hid (k1.has (Has.new w 25 #[.int .i64 3, .int .i64 a, .int .i64 y, .int .i64 t]))
  have K1 := Lib.hid (((Still.refl w).alloc (.cells #[.int .i64 3, .int .i64 a, .int .i64 y, .int .i64 t] 25)).trans k1)
  obtain ⟨x0, x1, x2, x3⟩ := G1.out.cells4
  clear k1
  go_wp2_with fail
  refine (CB.out _).mono ?_
  rintro e w2 ⟨rfl, k2⟩
  have G2 := Lib.hid (k2.has G1.out)
  have K2 := Lib.hid (K1.out.trans k2)
  clear x0 x1 x2 x3 k2 G1 K1 CB
  obtain ⟨x0, x1, x2, x3⟩ := G2.out.cells4
  go_wp2_with fail
  refine (CG.out _).mono ?_
  rintro e w' ⟨rfl, rfl⟩
  clear CG
  go_wp2
  go_ret
  exact ⟨rfl, K2.out⟩
set_option maxHeartbeats 1000000 in
theorem back12_4_o (k a y t b : Int) (hB : Isb b) (h1 : 0 ≤ t) (h2 : t < b) (h3 : 0 ≤ a) (h4 : ¬ 0 ≤ y) (g1 : ¬ k = 1) (g2 : ¬ k = 2) (g3 : ¬ k = 3) (w : World) : Calls Try.prog 4 #[.agg #[.int .i64 k, .int .i64 a, .int .i64 y, .int .i64 t], .int .i64 b] w fun e w' => e = .returned (.bool true) ∧ Still w w' := by
  have no : ¬ RoadOk ⟨k, a, y, t⟩ b := by
    unfold RoadOk NumOk
    dsimp only
    intro h
    omega
  have E1 : backE ⟨k, a, y, t⟩ b = 1 := if_neg no
  have E2 : backO ⟨k, a, y, t⟩ b = 0 := if_neg no
  have CB : Hid (∀ W, Calls Try.prog 12 #[.agg #[.int .i64 k, .int .i64 a, .int .i64 y, .int .i64 t], .int .i64 b] W fun e w' => e = .returned (.tuple #[.int .u64 0, .int .i64 1]) ∧ Still W w') := Lib.hid (fun W => by
    have := bback_any ⟨k, a, y, t⟩ b W
    rw [E1, E2] at this
    exact this)
  have CG : Hid (∀ W, Calls Try.prog 11 #[.int .i64 b] W fun e w' => e = .returned (.bool true) ∧ W = w') := Lib.hid (good12_yes hB)
  obtain ⟨n0, n1, w0⟩ := most_b hB
  obtain ⟨b0, b1⟩ := hB.range
  have tn : b.tdiv 4 = b / 4 := Int.tdiv_eq_ediv_of_nonneg (by omega)
  clear E1 E2 no hB w0
  generalize b / 4 = n at *
  have d1 : decide (0 ≤ t) = true := decide_eq_true h1
  have d2 : decide (t < b) = true := decide_eq_true h2
  have d3 : decide (0 ≤ a) = true := decide_eq_true h3
  have d4 : decide (0 ≤ y) = false := decide_eq_false h4
  have e1 : (k == 1) = false := by simpa using g1
  have e2 : (k == 2) = false := by simpa using g2
  have e3 : (k == 3) = false := by simpa using g3
  go_enter Try.func4, Try.ntmps4
  go_wp2_with fail
  refine (known12_any _).mono ?_
  rintro e w1 ⟨rfl, k1⟩
  have G1 := Lib.hid (k1.has (Has.new w 25 #[.int .i64 k, .int .i64 a, .int .i64 y, .int .i64 t]))
  have K1 := Lib.hid (((Still.refl w).alloc (.cells #[.int .i64 k, .int .i64 a, .int .i64 y, .int .i64 t] 25)).trans k1)
  obtain ⟨x0, x1, x2, x3⟩ := G1.out.cells4
  clear k1
  go_wp2_with fail
  refine (CB.out _).mono ?_
  rintro e w2 ⟨rfl, k2⟩
  have G2 := Lib.hid (k2.has G1.out)
  have K2 := Lib.hid (K1.out.trans k2)
  clear x0 x1 x2 x3 k2 G1 K1 CB
  obtain ⟨x0, x1, x2, x3⟩ := G2.out.cells4
  go_wp2_with fail
  refine (CG.out _).mono ?_
  rintro e w' ⟨rfl, rfl⟩
  clear CG
  go_wp2
  go_ret
  exact ⟨rfl, K2.out⟩
set_option maxHeartbeats 1000000 in
theorem back12_5_1a (a y t b : Int) (hB : Isb b) (h1 : 0 ≤ t) (h2 : t < b) (h3 : 0 ≤ a) (h4 : 0 ≤ y) (h5 : ¬ a < 8) (w : World) : Calls Try.prog 4 #[.agg #[.int .i64 1, .int .i64 a, .int .i64 y, .int .i64 t], .int .i64 b] w fun e w' => e = .returned (.bool true) ∧ Still w w' := by
  have no : ¬ RoadOk ⟨1, a, y, t⟩ b := by
    unfold RoadOk NumOk
    dsimp only
    intro h
    omega
  have E1 : backE ⟨1, a, y, t⟩ b = 1 := if_neg no
  have E2 : backO ⟨1, a, y, t⟩ b = 0 := if_neg no
  have CB : Hid (∀ W, Calls Try.prog 12 #[.agg #[.int .i64 1, .int .i64 a, .int .i64 y, .int .i64 t], .int .i64 b] W fun e w' => e = .returned (.tuple #[.int .u64 0, .int .i64 1]) ∧ Still W w') := Lib.hid (fun W => by
    have := bback_any ⟨1, a, y, t⟩ b W
    rw [E1, E2] at this
    exact this)
  have CG : Hid (∀ W, Calls Try.prog 11 #[.int .i64 b] W fun e w' => e = .returned (.bool true) ∧ W = w') := Lib.hid (good12_yes hB)
  obtain ⟨n0, n1, w0⟩ := most_b hB
  obtain ⟨b0, b1⟩ := hB.range
  have tn : b.tdiv 4 = b / 4 := Int.tdiv_eq_ediv_of_nonneg (by omega)
  clear E1 E2 no hB w0
  generalize b / 4 = n at *
  have d1 : decide (0 ≤ t) = true := decide_eq_true h1
  have d2 : decide (t < b) = true := decide_eq_true h2
  have d3 : decide (0 ≤ a) = true := decide_eq_true h3
  have d4 : decide (0 ≤ y) = true := decide_eq_true h4
  have d5 : decide (a < 8) = false := decide_eq_false h5
  go_enter Try.func4, Try.ntmps4
  go_wp2_with fail
  refine (known12_any _).mono ?_
  rintro e w1 ⟨rfl, k1⟩
  have G1 := Lib.hid (k1.has (Has.new w 25 #[.int .i64 1, .int .i64 a, .int .i64 y, .int .i64 t]))
  have K1 := Lib.hid (((Still.refl w).alloc (.cells #[.int .i64 1, .int .i64 a, .int .i64 y, .int .i64 t] 25)).trans k1)
  obtain ⟨x0, x1, x2, x3⟩ := G1.out.cells4
  clear k1
  go_wp2_with fail
  refine (CB.out _).mono ?_
  rintro e w2 ⟨rfl, k2⟩
  have G2 := Lib.hid (k2.has G1.out)
  have K2 := Lib.hid (K1.out.trans k2)
  clear x0 x1 x2 x3 k2 G1 K1 CB
  obtain ⟨x0, x1, x2, x3⟩ := G2.out.cells4
  go_wp2_with fail
  refine (CG.out _).mono ?_
  rintro e w' ⟨rfl, rfl⟩
  clear CG
  go_wp2
  go_ret
  exact ⟨rfl, K2.out⟩
set_option maxHeartbeats 1000000 in
theorem back12_5_1y (a y t b : Int) (hB : Isb b) (h1 : 0 ≤ t) (h2 : t < b) (h3 : 0 ≤ a) (h4 : 0 ≤ y) (h5 : a < 8) (h6 : ¬ y = 0) (w : World) : Calls Try.prog 4 #[.agg #[.int .i64 1, .int .i64 a, .int .i64 y, .int .i64 t], .int .i64 b] w fun e w' => e = .returned (.bool true) ∧ Still w w' := by
  have no : ¬ RoadOk ⟨1, a, y, t⟩ b := by
    unfold RoadOk NumOk
    dsimp only
    intro h
    omega
  have E1 : backE ⟨1, a, y, t⟩ b = 1 := if_neg no
  have E2 : backO ⟨1, a, y, t⟩ b = 0 := if_neg no
  have CB : Hid (∀ W, Calls Try.prog 12 #[.agg #[.int .i64 1, .int .i64 a, .int .i64 y, .int .i64 t], .int .i64 b] W fun e w' => e = .returned (.tuple #[.int .u64 0, .int .i64 1]) ∧ Still W w') := Lib.hid (fun W => by
    have := bback_any ⟨1, a, y, t⟩ b W
    rw [E1, E2] at this
    exact this)
  have CG : Hid (∀ W, Calls Try.prog 11 #[.int .i64 b] W fun e w' => e = .returned (.bool true) ∧ W = w') := Lib.hid (good12_yes hB)
  obtain ⟨n0, n1, w0⟩ := most_b hB
  obtain ⟨b0, b1⟩ := hB.range
  have tn : b.tdiv 4 = b / 4 := Int.tdiv_eq_ediv_of_nonneg (by omega)
  clear E1 E2 no hB w0
  generalize b / 4 = n at *
  have d1 : decide (0 ≤ t) = true := decide_eq_true h1
  have d2 : decide (t < b) = true := decide_eq_true h2
  have d3 : decide (0 ≤ a) = true := decide_eq_true h3
  have d4 : decide (0 ≤ y) = true := decide_eq_true h4
  have d5 : decide (a < 8) = true := decide_eq_true h5
  have d6 : (y == 0) = false := by simpa using h6
  go_enter Try.func4, Try.ntmps4
  go_wp2_with fail
  refine (known12_any _).mono ?_
  rintro e w1 ⟨rfl, k1⟩
  have G1 := Lib.hid (k1.has (Has.new w 25 #[.int .i64 1, .int .i64 a, .int .i64 y, .int .i64 t]))
  have K1 := Lib.hid (((Still.refl w).alloc (.cells #[.int .i64 1, .int .i64 a, .int .i64 y, .int .i64 t] 25)).trans k1)
  obtain ⟨x0, x1, x2, x3⟩ := G1.out.cells4
  clear k1
  go_wp2_with fail
  refine (CB.out _).mono ?_
  rintro e w2 ⟨rfl, k2⟩
  have G2 := Lib.hid (k2.has G1.out)
  have K2 := Lib.hid (K1.out.trans k2)
  clear x0 x1 x2 x3 k2 G1 K1 CB
  obtain ⟨x0, x1, x2, x3⟩ := G2.out.cells4
  go_wp2_with fail
  refine (CG.out _).mono ?_
  rintro e w' ⟨rfl, rfl⟩
  clear CG
  go_wp2
  go_ret
  exact ⟨rfl, K2.out⟩
set_option maxHeartbeats 1000000 in
theorem back12_5_2a (a y t b : Int) (hB : Isb b) (h1 : 0 ≤ t) (h2 : t < b) (h3 : 0 ≤ a) (h4 : 0 ≤ y) (h5 : ¬ a < b / 4) (w : World) : Calls Try.prog 4 #[.agg #[.int .i64 2, .int .i64 a, .int .i64 y, .int .i64 t], .int .i64 b] w fun e w' => e = .returned (.bool true) ∧ Still w w' := by
  have no : ¬ RoadOk ⟨2, a, y, t⟩ b := by
    unfold RoadOk NumOk
    dsimp only
    intro h
    omega
  have E1 : backE ⟨2, a, y, t⟩ b = 1 := if_neg no
  have E2 : backO ⟨2, a, y, t⟩ b = 0 := if_neg no
  have CB : Hid (∀ W, Calls Try.prog 12 #[.agg #[.int .i64 2, .int .i64 a, .int .i64 y, .int .i64 t], .int .i64 b] W fun e w' => e = .returned (.tuple #[.int .u64 0, .int .i64 1]) ∧ Still W w') := Lib.hid (fun W => by
    have := bback_any ⟨2, a, y, t⟩ b W
    rw [E1, E2] at this
    exact this)
  have CG : Hid (∀ W, Calls Try.prog 11 #[.int .i64 b] W fun e w' => e = .returned (.bool true) ∧ W = w') := Lib.hid (good12_yes hB)
  obtain ⟨n0, n1, w0⟩ := most_b hB
  obtain ⟨b0, b1⟩ := hB.range
  have tn : b.tdiv 4 = b / 4 := Int.tdiv_eq_ediv_of_nonneg (by omega)
  clear E1 E2 no hB w0
  generalize b / 4 = n at *
  have d1 : decide (0 ≤ t) = true := decide_eq_true h1
  have d2 : decide (t < b) = true := decide_eq_true h2
  have d3 : decide (0 ≤ a) = true := decide_eq_true h3
  have d4 : decide (0 ≤ y) = true := decide_eq_true h4
  have d5 : decide (a < n) = false := decide_eq_false h5
  go_enter Try.func4, Try.ntmps4
  go_wp2_with fail
  refine (known12_any _).mono ?_
  rintro e w1 ⟨rfl, k1⟩
  have G1 := Lib.hid (k1.has (Has.new w 25 #[.int .i64 2, .int .i64 a, .int .i64 y, .int .i64 t]))
  have K1 := Lib.hid (((Still.refl w).alloc (.cells #[.int .i64 2, .int .i64 a, .int .i64 y, .int .i64 t] 25)).trans k1)
  obtain ⟨x0, x1, x2, x3⟩ := G1.out.cells4
  clear k1
  go_wp2_with fail
  refine (CB.out _).mono ?_
  rintro e w2 ⟨rfl, k2⟩
  have G2 := Lib.hid (k2.has G1.out)
  have K2 := Lib.hid (K1.out.trans k2)
  clear x0 x1 x2 x3 k2 G1 K1 CB
  obtain ⟨x0, x1, x2, x3⟩ := G2.out.cells4
  go_wp2_with fail
  refine (CG.out _).mono ?_
  rintro e w' ⟨rfl, rfl⟩
  clear CG
  go_wp2
  go_ret
  exact ⟨rfl, K2.out⟩
set_option maxHeartbeats 1000000 in
theorem back12_5_2y (a y t b : Int) (hB : Isb b) (h1 : 0 ≤ t) (h2 : t < b) (h3 : 0 ≤ a) (h4 : 0 ≤ y) (h5 : a < b / 4) (h6 : ¬ y = 0) (w : World) : Calls Try.prog 4 #[.agg #[.int .i64 2, .int .i64 a, .int .i64 y, .int .i64 t], .int .i64 b] w fun e w' => e = .returned (.bool true) ∧ Still w w' := by
  have no : ¬ RoadOk ⟨2, a, y, t⟩ b := by
    unfold RoadOk NumOk
    dsimp only
    intro h
    omega
  have E1 : backE ⟨2, a, y, t⟩ b = 1 := if_neg no
  have E2 : backO ⟨2, a, y, t⟩ b = 0 := if_neg no
  have CB : Hid (∀ W, Calls Try.prog 12 #[.agg #[.int .i64 2, .int .i64 a, .int .i64 y, .int .i64 t], .int .i64 b] W fun e w' => e = .returned (.tuple #[.int .u64 0, .int .i64 1]) ∧ Still W w') := Lib.hid (fun W => by
    have := bback_any ⟨2, a, y, t⟩ b W
    rw [E1, E2] at this
    exact this)
  have CG : Hid (∀ W, Calls Try.prog 11 #[.int .i64 b] W fun e w' => e = .returned (.bool true) ∧ W = w') := Lib.hid (good12_yes hB)
  obtain ⟨n0, n1, w0⟩ := most_b hB
  obtain ⟨b0, b1⟩ := hB.range
  have tn : b.tdiv 4 = b / 4 := Int.tdiv_eq_ediv_of_nonneg (by omega)
  clear E1 E2 no hB w0
  generalize b / 4 = n at *
  have d1 : decide (0 ≤ t) = true := decide_eq_true h1
  have d2 : decide (t < b) = true := decide_eq_true h2
  have d3 : decide (0 ≤ a) = true := decide_eq_true h3
  have d4 : decide (0 ≤ y) = true := decide_eq_true h4
  have d5 : decide (a < n) = true := decide_eq_true h5
  have d6 : (y == 0) = false := by simpa using h6
  go_enter Try.func4, Try.ntmps4
  go_wp2_with fail
  refine (known12_any _).mono ?_
  rintro e w1 ⟨rfl, k1⟩
  have G1 := Lib.hid (k1.has (Has.new w 25 #[.int .i64 2, .int .i64 a, .int .i64 y, .int .i64 t]))
  have K1 := Lib.hid (((Still.refl w).alloc (.cells #[.int .i64 2, .int .i64 a, .int .i64 y, .int .i64 t] 25)).trans k1)
  obtain ⟨x0, x1, x2, x3⟩ := G1.out.cells4
  clear k1
  go_wp2_with fail
  refine (CB.out _).mono ?_
  rintro e w2 ⟨rfl, k2⟩
  have G2 := Lib.hid (k2.has G1.out)
  have K2 := Lib.hid (K1.out.trans k2)
  clear x0 x1 x2 x3 k2 G1 K1 CB
  obtain ⟨x0, x1, x2, x3⟩ := G2.out.cells4
  go_wp2_with fail
  refine (CG.out _).mono ?_
  rintro e w' ⟨rfl, rfl⟩
  clear CG
  go_wp2
  go_ret
  exact ⟨rfl, K2.out⟩
set_option maxHeartbeats 1000000 in
theorem back12_5_3a (a y t b : Int) (hB : Isb b) (h1 : 0 ≤ t) (h2 : t < b) (h3 : 0 ≤ a) (h4 : 0 ≤ y) (h5 : ¬ a < b / 4) (w : World) : Calls Try.prog 4 #[.agg #[.int .i64 3, .int .i64 a, .int .i64 y, .int .i64 t], .int .i64 b] w fun e w' => e = .returned (.bool true) ∧ Still w w' := by
  have no : ¬ RoadOk ⟨3, a, y, t⟩ b := by
    unfold RoadOk NumOk
    dsimp only
    intro h
    omega
  have E1 : backE ⟨3, a, y, t⟩ b = 1 := if_neg no
  have E2 : backO ⟨3, a, y, t⟩ b = 0 := if_neg no
  have CB : Hid (∀ W, Calls Try.prog 12 #[.agg #[.int .i64 3, .int .i64 a, .int .i64 y, .int .i64 t], .int .i64 b] W fun e w' => e = .returned (.tuple #[.int .u64 0, .int .i64 1]) ∧ Still W w') := Lib.hid (fun W => by
    have := bback_any ⟨3, a, y, t⟩ b W
    rw [E1, E2] at this
    exact this)
  have CG : Hid (∀ W, Calls Try.prog 11 #[.int .i64 b] W fun e w' => e = .returned (.bool true) ∧ W = w') := Lib.hid (good12_yes hB)
  obtain ⟨n0, n1, w0⟩ := most_b hB
  obtain ⟨b0, b1⟩ := hB.range
  have tn : b.tdiv 4 = b / 4 := Int.tdiv_eq_ediv_of_nonneg (by omega)
  clear E1 E2 no hB w0
  generalize b / 4 = n at *
  have d1 : decide (0 ≤ t) = true := decide_eq_true h1
  have d2 : decide (t < b) = true := decide_eq_true h2
  have d3 : decide (0 ≤ a) = true := decide_eq_true h3
  have d4 : decide (0 ≤ y) = true := decide_eq_true h4
  have d5 : decide (a < n) = false := decide_eq_false h5
  go_enter Try.func4, Try.ntmps4
  go_wp2_with fail
  refine (known12_any _).mono ?_
  rintro e w1 ⟨rfl, k1⟩
  have G1 := Lib.hid (k1.has (Has.new w 25 #[.int .i64 3, .int .i64 a, .int .i64 y, .int .i64 t]))
  have K1 := Lib.hid (((Still.refl w).alloc (.cells #[.int .i64 3, .int .i64 a, .int .i64 y, .int .i64 t] 25)).trans k1)
  obtain ⟨x0, x1, x2, x3⟩ := G1.out.cells4
  clear k1
  go_wp2_with fail
  refine (CB.out _).mono ?_
  rintro e w2 ⟨rfl, k2⟩
  have G2 := Lib.hid (k2.has G1.out)
  have K2 := Lib.hid (K1.out.trans k2)
  clear x0 x1 x2 x3 k2 G1 K1 CB
  obtain ⟨x0, x1, x2, x3⟩ := G2.out.cells4
  go_wp2_with fail
  refine (CG.out _).mono ?_
  rintro e w' ⟨rfl, rfl⟩
  clear CG
  go_wp2
  go_ret
  exact ⟨rfl, K2.out⟩
set_option maxHeartbeats 1000000 in
theorem back12_5_3y (a y t b : Int) (hB : Isb b) (h1 : 0 ≤ t) (h2 : t < b) (h3 : 0 ≤ a) (h4 : 0 ≤ y) (h5 : a < b / 4) (h6 : ¬ y < b / 4) (w : World) : Calls Try.prog 4 #[.agg #[.int .i64 3, .int .i64 a, .int .i64 y, .int .i64 t], .int .i64 b] w fun e w' => e = .returned (.bool true) ∧ Still w w' := by
  have no : ¬ RoadOk ⟨3, a, y, t⟩ b := by
    unfold RoadOk NumOk
    dsimp only
    intro h
    omega
  have E1 : backE ⟨3, a, y, t⟩ b = 1 := if_neg no
  have E2 : backO ⟨3, a, y, t⟩ b = 0 := if_neg no
  have CB : Hid (∀ W, Calls Try.prog 12 #[.agg #[.int .i64 3, .int .i64 a, .int .i64 y, .int .i64 t], .int .i64 b] W fun e w' => e = .returned (.tuple #[.int .u64 0, .int .i64 1]) ∧ Still W w') := Lib.hid (fun W => by
    have := bback_any ⟨3, a, y, t⟩ b W
    rw [E1, E2] at this
    exact this)
  have CG : Hid (∀ W, Calls Try.prog 11 #[.int .i64 b] W fun e w' => e = .returned (.bool true) ∧ W = w') := Lib.hid (good12_yes hB)
  obtain ⟨n0, n1, w0⟩ := most_b hB
  obtain ⟨b0, b1⟩ := hB.range
  have tn : b.tdiv 4 = b / 4 := Int.tdiv_eq_ediv_of_nonneg (by omega)
  clear E1 E2 no hB w0
  generalize b / 4 = n at *
  have d1 : decide (0 ≤ t) = true := decide_eq_true h1
  have d2 : decide (t < b) = true := decide_eq_true h2
  have d3 : decide (0 ≤ a) = true := decide_eq_true h3
  have d4 : decide (0 ≤ y) = true := decide_eq_true h4
  have d5 : decide (a < n) = true := decide_eq_true h5
  have d6 : decide (y < n) = false := decide_eq_false h6
  go_enter Try.func4, Try.ntmps4
  go_wp2_with fail
  refine (known12_any _).mono ?_
  rintro e w1 ⟨rfl, k1⟩
  have G1 := Lib.hid (k1.has (Has.new w 25 #[.int .i64 3, .int .i64 a, .int .i64 y, .int .i64 t]))
  have K1 := Lib.hid (((Still.refl w).alloc (.cells #[.int .i64 3, .int .i64 a, .int .i64 y, .int .i64 t] 25)).trans k1)
  obtain ⟨x0, x1, x2, x3⟩ := G1.out.cells4
  clear k1
  go_wp2_with fail
  refine (CB.out _).mono ?_
  rintro e w2 ⟨rfl, k2⟩
  have G2 := Lib.hid (k2.has G1.out)
  have K2 := Lib.hid (K1.out.trans k2)
  clear x0 x1 x2 x3 k2 G1 K1 CB
  obtain ⟨x0, x1, x2, x3⟩ := G2.out.cells4
  go_wp2_with fail
  refine (CG.out _).mono ?_
  rintro e w' ⟨rfl, rfl⟩
  clear CG
  go_wp2
  go_ret
  exact ⟨rfl, K2.out⟩
set_option maxHeartbeats 1000000 in
theorem back12_5_o (k a y t b : Int) (hB : Isb b) (h1 : 0 ≤ t) (h2 : t < b) (h3 : 0 ≤ a) (h4 : 0 ≤ y) (g1 : ¬ k = 1) (g2 : ¬ k = 2) (g3 : ¬ k = 3) (w : World) : Calls Try.prog 4 #[.agg #[.int .i64 k, .int .i64 a, .int .i64 y, .int .i64 t], .int .i64 b] w fun e w' => e = .returned (.bool true) ∧ Still w w' := by
  have no : ¬ RoadOk ⟨k, a, y, t⟩ b := by
    unfold RoadOk NumOk
    dsimp only
    intro h
    omega
  have E1 : backE ⟨k, a, y, t⟩ b = 1 := if_neg no
  have E2 : backO ⟨k, a, y, t⟩ b = 0 := if_neg no
  have CB : Hid (∀ W, Calls Try.prog 12 #[.agg #[.int .i64 k, .int .i64 a, .int .i64 y, .int .i64 t], .int .i64 b] W fun e w' => e = .returned (.tuple #[.int .u64 0, .int .i64 1]) ∧ Still W w') := Lib.hid (fun W => by
    have := bback_any ⟨k, a, y, t⟩ b W
    rw [E1, E2] at this
    exact this)
  have CG : Hid (∀ W, Calls Try.prog 11 #[.int .i64 b] W fun e w' => e = .returned (.bool true) ∧ W = w') := Lib.hid (good12_yes hB)
  obtain ⟨n0, n1, w0⟩ := most_b hB
  obtain ⟨b0, b1⟩ := hB.range
  have tn : b.tdiv 4 = b / 4 := Int.tdiv_eq_ediv_of_nonneg (by omega)
  clear E1 E2 no hB w0
  generalize b / 4 = n at *
  have d1 : decide (0 ≤ t) = true := decide_eq_true h1
  have d2 : decide (t < b) = true := decide_eq_true h2
  have d3 : decide (0 ≤ a) = true := decide_eq_true h3
  have d4 : decide (0 ≤ y) = true := decide_eq_true h4
  have e1 : (k == 1) = false := by simpa using g1
  have e2 : (k == 2) = false := by simpa using g2
  have e3 : (k == 3) = false := by simpa using g3
  go_enter Try.func4, Try.ntmps4
  go_wp2_with fail
  refine (known12_any _).mono ?_
  rintro e w1 ⟨rfl, k1⟩
  have G1 := Lib.hid (k1.has (Has.new w 25 #[.int .i64 k, .int .i64 a, .int .i64 y, .int .i64 t]))
  have K1 := Lib.hid (((Still.refl w).alloc (.cells #[.int .i64 k, .int .i64 a, .int .i64 y, .int .i64 t] 25)).trans k1)
  obtain ⟨x0, x1, x2, x3⟩ := G1.out.cells4
  clear k1
  go_wp2_with fail
  refine (CB.out _).mono ?_
  rintro e w2 ⟨rfl, k2⟩
  have G2 := Lib.hid (k2.has G1.out)
  have K2 := Lib.hid (K1.out.trans k2)
  clear x0 x1 x2 x3 k2 G1 K1 CB
  obtain ⟨x0, x1, x2, x3⟩ := G2.out.cells4
  go_wp2_with fail
  refine (CG.out _).mono ?_
  rintro e w' ⟨rfl, rfl⟩
  clear CG
  go_wp2
  go_ret
  exact ⟨rfl, K2.out⟩
set_option maxHeartbeats 1000000 in
theorem back12_1 (a t b : Int) (hB : Isb b) (h1 : 0 ≤ t) (h2 : t < b) (h3 : 0 ≤ a)  (h5 : a < 8) (w : World) : Calls Try.prog 4 #[.agg #[.int .i64 1, .int .i64 a, .int .i64 0, .int .i64 t], .int .i64 b] w fun e w' => e = .returned (.bool true) ∧ Still w w' := by
  have ok : RoadOk ⟨1, a, 0, t⟩ b := by
    unfold RoadOk NumOk
    dsimp only
    exact ⟨hB, by omega, by omega, by omega⟩
  have E1 : backE ⟨1, a, 0, t⟩ b = 0 := if_pos ok
  have E2 : backO ⟨1, a, 0, t⟩ b = numN ⟨1, a, 0, t⟩ (b / 4) * b + t := if_pos ok
  obtain ⟨o0, o1, o2⟩ := back_road ok
  generalize hO : numN ⟨1, a, 0, t⟩ (b / 4) * b + t = O at *
  have F1 : findE O b = 0 := by unfold findE; rw [if_pos hB, if_pos o1]
  have F2 : findR O b = ⟨1, a, 0, t⟩ := (if_pos F1).trans o2
  have CB : Hid (∀ W, Calls Try.prog 12 #[.agg #[.int .i64 1, .int .i64 a, .int .i64 0, .int .i64 t], .int .i64 b] W fun e w' => e = .returned (.tuple #[.int .u64 O, .int .i64 0]) ∧ Still W w') := Lib.hid (fun W => by
    have := bback_any ⟨1, a, 0, t⟩ b W
    rw [E1, E2] at this
    exact this)
  have CG : Hid (∀ W, Calls Try.prog 11 #[.int .i64 b] W fun e w' => e = .returned (.bool true) ∧ W = w') := Lib.hid (good12_yes hB)
  have CF : Hid (∀ W, Calls Try.prog 8 #[.int .u64 O, .int .i64 b] W fun e w' => e = .returned (.tuple #[.agg #[.int .i64 1, .int .i64 a, .int .i64 0, .int .i64 t], .int .i64 0]) ∧ Still W w') := Lib.hid (fun W => by
    have := bfind_any O b o0 W
    rw [F1, F2] at this
    exact this)
  obtain ⟨n0, n1, w0⟩ := most_b hB
  obtain ⟨b0, b1⟩ := hB.range
  have tn : b.tdiv 4 = b / 4 := Int.tdiv_eq_ediv_of_nonneg (by omega)
  clear E1 E2 F1 F2 ok hO o0 o1 o2 hB w0
  generalize b / 4 = n at *
  have d1 : decide (0 ≤ t) = true := decide_eq_true h1
  have d2 : decide (t < b) = true := decide_eq_true h2
  have d3 : decide (0 ≤ a) = true := decide_eq_true h3
  have d5 : decide (a < 8) = true := decide_eq_true h5
  go_enter Try.func4, Try.ntmps4
  go_wp2_with fail
  refine (known12_any _).mono ?_
  rintro e w1 ⟨rfl, k1⟩
  have G1 := Lib.hid (k1.has (Has.new w 25 #[.int .i64 1, .int .i64 a, .int .i64 0, .int .i64 t]))
  have K1 := Lib.hid (((Still.refl w).alloc (.cells #[.int .i64 1, .int .i64 a, .int .i64 0, .int .i64 t] 25)).trans k1)
  obtain ⟨x0, x1, x2, x3⟩ := G1.out.cells4
  clear k1
  go_wp2_with fail
  refine (CB.out _).mono ?_
  rintro e w2 ⟨rfl, k2⟩
  have G2 := Lib.hid (k2.has G1.out)
  have K2 := Lib.hid (K1.out.trans k2)
  clear x0 x1 x2 x3 k2 G1 K1 CB
  obtain ⟨x0, x1, x2, x3⟩ := G2.out.cells4
  go_wp2_with fail
  refine (CG.out _).mono ?_
  rintro e w' ⟨rfl, rfl⟩
  clear CG
  go_wp2_with fail
  refine (CF.out _).mono ?_
  rintro e w3 ⟨rfl, k3⟩
  have K3 := Lib.hid ((K2.out.trans k3).alloc (.cells #[.int .i64 1, .int .i64 a, .int .i64 0, .int .i64 t] 25))
  clear x0 x1 x2 x3
  obtain ⟨x0, x1, x2, x3⟩ := ((k3.has G2.out).alloc (.cells #[.int .i64 1, .int .i64 a, .int .i64 0, .int .i64 t] 25)).cells4
  clear k3 G2 K2 CF
  go_wp2
  go_ret
  exact ⟨rfl, K3.out⟩
set_option maxHeartbeats 1000000 in
theorem back12_2 (a t b : Int) (hB : Isb b) (h1 : 0 ≤ t) (h2 : t < b) (h3 : 0 ≤ a)  (h5 : a < b / 4) (w : World) : Calls Try.prog 4 #[.agg #[.int .i64 2, .int .i64 a, .int .i64 0, .int .i64 t], .int .i64 b] w fun e w' => e = .returned (.bool true) ∧ Still w w' := by
  have ok : RoadOk ⟨2, a, 0, t⟩ b := by
    unfold RoadOk NumOk
    dsimp only
    exact ⟨hB, by omega, by omega, by omega⟩
  have E1 : backE ⟨2, a, 0, t⟩ b = 0 := if_pos ok
  have E2 : backO ⟨2, a, 0, t⟩ b = numN ⟨2, a, 0, t⟩ (b / 4) * b + t := if_pos ok
  obtain ⟨o0, o1, o2⟩ := back_road ok
  generalize hO : numN ⟨2, a, 0, t⟩ (b / 4) * b + t = O at *
  have F1 : findE O b = 0 := by unfold findE; rw [if_pos hB, if_pos o1]
  have F2 : findR O b = ⟨2, a, 0, t⟩ := (if_pos F1).trans o2
  have CB : Hid (∀ W, Calls Try.prog 12 #[.agg #[.int .i64 2, .int .i64 a, .int .i64 0, .int .i64 t], .int .i64 b] W fun e w' => e = .returned (.tuple #[.int .u64 O, .int .i64 0]) ∧ Still W w') := Lib.hid (fun W => by
    have := bback_any ⟨2, a, 0, t⟩ b W
    rw [E1, E2] at this
    exact this)
  have CG : Hid (∀ W, Calls Try.prog 11 #[.int .i64 b] W fun e w' => e = .returned (.bool true) ∧ W = w') := Lib.hid (good12_yes hB)
  have CF : Hid (∀ W, Calls Try.prog 8 #[.int .u64 O, .int .i64 b] W fun e w' => e = .returned (.tuple #[.agg #[.int .i64 2, .int .i64 a, .int .i64 0, .int .i64 t], .int .i64 0]) ∧ Still W w') := Lib.hid (fun W => by
    have := bfind_any O b o0 W
    rw [F1, F2] at this
    exact this)
  obtain ⟨n0, n1, w0⟩ := most_b hB
  obtain ⟨b0, b1⟩ := hB.range
  have tn : b.tdiv 4 = b / 4 := Int.tdiv_eq_ediv_of_nonneg (by omega)
  clear E1 E2 F1 F2 ok hO o0 o1 o2 hB w0
  generalize b / 4 = n at *
  have d1 : decide (0 ≤ t) = true := decide_eq_true h1
  have d2 : decide (t < b) = true := decide_eq_true h2
  have d3 : decide (0 ≤ a) = true := decide_eq_true h3
  have d5 : decide (a < n) = true := decide_eq_true h5
  go_enter Try.func4, Try.ntmps4
  go_wp2_with fail
  refine (known12_any _).mono ?_
  rintro e w1 ⟨rfl, k1⟩
  have G1 := Lib.hid (k1.has (Has.new w 25 #[.int .i64 2, .int .i64 a, .int .i64 0, .int .i64 t]))
  have K1 := Lib.hid (((Still.refl w).alloc (.cells #[.int .i64 2, .int .i64 a, .int .i64 0, .int .i64 t] 25)).trans k1)
  obtain ⟨x0, x1, x2, x3⟩ := G1.out.cells4
  clear k1
  go_wp2_with fail
  refine (CB.out _).mono ?_
  rintro e w2 ⟨rfl, k2⟩
  have G2 := Lib.hid (k2.has G1.out)
  have K2 := Lib.hid (K1.out.trans k2)
  clear x0 x1 x2 x3 k2 G1 K1 CB
  obtain ⟨x0, x1, x2, x3⟩ := G2.out.cells4
  go_wp2_with fail
  refine (CG.out _).mono ?_
  rintro e w' ⟨rfl, rfl⟩
  clear CG
  go_wp2_with fail
  refine (CF.out _).mono ?_
  rintro e w3 ⟨rfl, k3⟩
  have K3 := Lib.hid ((K2.out.trans k3).alloc (.cells #[.int .i64 2, .int .i64 a, .int .i64 0, .int .i64 t] 25))
  clear x0 x1 x2 x3
  obtain ⟨x0, x1, x2, x3⟩ := ((k3.has G2.out).alloc (.cells #[.int .i64 2, .int .i64 a, .int .i64 0, .int .i64 t] 25)).cells4
  clear k3 G2 K2 CF
  go_wp2
  go_ret
  exact ⟨rfl, K3.out⟩
set_option maxHeartbeats 1000000 in
theorem back12_3 (a y t b : Int) (hB : Isb b) (h1 : 0 ≤ t) (h2 : t < b) (h3 : 0 ≤ a) (h4 : 0 ≤ y) (h5 : a < b / 4) (h6 : y < b / 4) (w : World) : Calls Try.prog 4 #[.agg #[.int .i64 3, .int .i64 a, .int .i64 y, .int .i64 t], .int .i64 b] w fun e w' => e = .returned (.bool true) ∧ Still w w' := by
  have ok : RoadOk ⟨3, a, y, t⟩ b := by
    unfold RoadOk NumOk
    dsimp only
    exact ⟨hB, by omega, by omega, by omega⟩
  have E1 : backE ⟨3, a, y, t⟩ b = 0 := if_pos ok
  have E2 : backO ⟨3, a, y, t⟩ b = numN ⟨3, a, y, t⟩ (b / 4) * b + t := if_pos ok
  obtain ⟨o0, o1, o2⟩ := back_road ok
  generalize hO : numN ⟨3, a, y, t⟩ (b / 4) * b + t = O at *
  have F1 : findE O b = 0 := by unfold findE; rw [if_pos hB, if_pos o1]
  have F2 : findR O b = ⟨3, a, y, t⟩ := (if_pos F1).trans o2
  have CB : Hid (∀ W, Calls Try.prog 12 #[.agg #[.int .i64 3, .int .i64 a, .int .i64 y, .int .i64 t], .int .i64 b] W fun e w' => e = .returned (.tuple #[.int .u64 O, .int .i64 0]) ∧ Still W w') := Lib.hid (fun W => by
    have := bback_any ⟨3, a, y, t⟩ b W
    rw [E1, E2] at this
    exact this)
  have CG : Hid (∀ W, Calls Try.prog 11 #[.int .i64 b] W fun e w' => e = .returned (.bool true) ∧ W = w') := Lib.hid (good12_yes hB)
  have CF : Hid (∀ W, Calls Try.prog 8 #[.int .u64 O, .int .i64 b] W fun e w' => e = .returned (.tuple #[.agg #[.int .i64 3, .int .i64 a, .int .i64 y, .int .i64 t], .int .i64 0]) ∧ Still W w') := Lib.hid (fun W => by
    have := bfind_any O b o0 W
    rw [F1, F2] at this
    exact this)
  obtain ⟨n0, n1, w0⟩ := most_b hB
  obtain ⟨b0, b1⟩ := hB.range
  have tn : b.tdiv 4 = b / 4 := Int.tdiv_eq_ediv_of_nonneg (by omega)
  clear E1 E2 F1 F2 ok hO o0 o1 o2 hB w0
  generalize b / 4 = n at *
  have d1 : decide (0 ≤ t) = true := decide_eq_true h1
  have d2 : decide (t < b) = true := decide_eq_true h2
  have d3 : decide (0 ≤ a) = true := decide_eq_true h3
  have d4 : decide (0 ≤ y) = true := decide_eq_true h4
  have d5 : decide (a < n) = true := decide_eq_true h5
  have d6 : decide (y < n) = true := decide_eq_true h6
  go_enter Try.func4, Try.ntmps4
  go_wp2_with fail
  refine (known12_any _).mono ?_
  rintro e w1 ⟨rfl, k1⟩
  have G1 := Lib.hid (k1.has (Has.new w 25 #[.int .i64 3, .int .i64 a, .int .i64 y, .int .i64 t]))
  have K1 := Lib.hid (((Still.refl w).alloc (.cells #[.int .i64 3, .int .i64 a, .int .i64 y, .int .i64 t] 25)).trans k1)
  obtain ⟨x0, x1, x2, x3⟩ := G1.out.cells4
  clear k1
  go_wp2_with fail
  refine (CB.out _).mono ?_
  rintro e w2 ⟨rfl, k2⟩
  have G2 := Lib.hid (k2.has G1.out)
  have K2 := Lib.hid (K1.out.trans k2)
  clear x0 x1 x2 x3 k2 G1 K1 CB
  obtain ⟨x0, x1, x2, x3⟩ := G2.out.cells4
  go_wp2_with fail
  refine (CG.out _).mono ?_
  rintro e w' ⟨rfl, rfl⟩
  clear CG
  go_wp2_with fail
  refine (CF.out _).mono ?_
  rintro e w3 ⟨rfl, k3⟩
  have K3 := Lib.hid ((K2.out.trans k3).alloc (.cells #[.int .i64 3, .int .i64 a, .int .i64 y, .int .i64 t] 25))
  clear x0 x1 x2 x3
  obtain ⟨x0, x1, x2, x3⟩ := ((k3.has G2.out).alloc (.cells #[.int .i64 3, .int .i64 a, .int .i64 y, .int .i64 t] 25)).cells4
  clear k3 G2 K2 CF
  go_wp2
  go_ret
  exact ⟨rfl, K3.out⟩
theorem back12_any (r : R4) (b : Int) (w : World) : Calls Try.prog 4 #[r.val, .int .i64 b] w fun e w' => e = .returned (.bool true) ∧ Still w w' := by
  obtain ⟨k, a, y, t⟩ := r
  show Calls Try.prog 4 #[.agg #[.int .i64 k, .int .i64 a, .int .i64 y, .int .i64 t], .int .i64 b] w _
  by_cases hB : Isb b
  rotate_left
  · skip
    by_cases g1 : k = 1
    · subst g1
      exact back12_0_1 a y t b hB w
    by_cases g2 : k = 2
    · subst g2
      exact back12_0_2 a y t b hB w
    by_cases g3 : k = 3
    · subst g3
      exact back12_0_3 a y t b hB w
    exact back12_0_o k a y t b hB g1 g2 g3 w
  by_cases h1 : 0 ≤ t
  rotate_left
  · skip
    by_cases g1 : k = 1
    · subst g1
      exact back12_1_1 a y t b hB h1 w
    by_cases g2 : k = 2
    · subst g2
      exact back12_1_2 a y t b hB h1 w
    by_cases g3 : k = 3
    · subst g3
      exact back12_1_3 a y t b hB h1 w
    exact back12_1_o k a y t b hB h1 g1 g2 g3 w
  by_cases h2 : t < b
  rotate_left
  · skip
    by_cases g1 : k = 1
    · subst g1
      exact back12_2_1 a y t b hB h1 h2 w
    by_cases g2 : k = 2
    · subst g2
      exact back12_2_2 a y t b hB h1 h2 w
    by_cases g3 : k = 3
    · subst g3
      exact back12_2_3 a y t b hB h1 h2 w
    exact back12_2_o k a y t b hB h1 h2 g1 g2 g3 w
  by_cases h3 : 0 ≤ a
  rotate_left
  · skip
    by_cases g1 : k = 1
    · subst g1
      exact back12_3_1 a y t b hB h1 h2 h3 w
    by_cases g2 : k = 2
    · subst g2
      exact back12_3_2 a y t b hB h1 h2 h3 w
    by_cases g3 : k = 3
    · subst g3
      exact back12_3_3 a y t b hB h1 h2 h3 w
    exact back12_3_o k a y t b hB h1 h2 h3 g1 g2 g3 w
  by_cases h4 : 0 ≤ y
  rotate_left
  · skip
    by_cases g1 : k = 1
    · subst g1
      exact back12_4_1 a y t b hB h1 h2 h3 h4 w
    by_cases g2 : k = 2
    · subst g2
      exact back12_4_2 a y t b hB h1 h2 h3 h4 w
    by_cases g3 : k = 3
    · subst g3
      exact back12_4_3 a y t b hB h1 h2 h3 h4 w
    exact back12_4_o k a y t b hB h1 h2 h3 h4 g1 g2 g3 w
  by_cases g1 : k = 1
  · subst g1
    by_cases h5 : a < 8
    · by_cases h6 : y = 0
      · subst h6
        exact back12_1 a t b hB h1 h2 h3 h5 w
      · exact back12_5_1y a y t b hB h1 h2 h3 h4 h5 h6 w
    · exact back12_5_1a a y t b hB h1 h2 h3 h4 h5 w
  by_cases g2 : k = 2
  · subst g2
    by_cases h5 : a < b / 4
    · by_cases h6 : y = 0
      · subst h6
        exact back12_2 a t b hB h1 h2 h3 h5 w
      · exact back12_5_2y a y t b hB h1 h2 h3 h4 h5 h6 w
    · exact back12_5_2a a y t b hB h1 h2 h3 h4 h5 w
  by_cases g3 : k = 3
  · subst g3
    by_cases h5 : a < b / 4
    · by_cases h6 : y < b / 4
      · exact back12_3 a y t b hB h1 h2 h3 h4 h5 h6 w
      · exact back12_5_3y a y t b hB h1 h2 h3 h4 h5 h6 w
    · exact back12_5_3a a y t b hB h1 h2 h3 h4 h5 w
  exact back12_5_o k a y t b hB h1 h2 h3 h4 g1 g2 g3 w
end Go.Proofs.Ytddpedodbjibiaa
