/-
  BlocksFind: any place of a file, and its road.
-/
import Derived.Test.YtddpedodbjibiaaLaw12Known
namespace Go.Proofs.Ytddpedodbjibiaa
open Go.RowKit Go.Lib
set_option maxRecDepth 100000

set_option maxHeartbeats 1000000 in
theorem find12_none (o b : Int) (h0 : 0 ≤ o) (hB : ¬ Isb b) (w : World) : Calls Try.prog 3 #[.int .u64 o, .int .i64 b] w fun e w' => e = .returned (.bool true) ∧ Still w w' := by
  have E1 : findE o b = 1 := if_neg hB
  have E2 : findR o b = R4.zero := if_neg (by rw [E1]; decide)
  have CF : Hid (∀ W, Calls Try.prog 8 #[.int .u64 o, .int .i64 b] W fun e w' => e = .returned (.tuple #[.agg #[.int .i64 0, .int .i64 0, .int .i64 0, .int .i64 0], .int .i64 1]) ∧ Still W w') := Lib.hid (fun W => by
    have := bfind_any o b h0 W
    rw [E1, E2] at this
    exact this)
  have CM : Hid (∀ W, Calls Try.prog 9 #[.int .i64 b] W fun e w' => e = .returned (.int .u64 (mostN b)) ∧ W = w') := Lib.hid (bmost_any b)
  have CW : Hid (∀ W, Calls Try.prog 10 #[.int .i64 b] W fun e w' => e = .returned (.int .u64 (mostN b)) ∧ W = w') := Lib.hid (most12_any b)
  have CG : Hid (∀ W, Calls Try.prog 11 #[.int .i64 b] W fun e w' => e = .returned (.bool false) ∧ W = w') := Lib.hid (good12_no hB)
  generalize mostN b = m at *
  clear hB E1 E2 h0
  go_enter Try.func3, Try.ntmps3
  go_wp2_with fail
  refine (known12_any w).mono ?_
  rintro e w1 ⟨rfl, k1⟩
  have K1 := Lib.hid k1
  clear k1
  go_wp2_with fail
  refine (CF.out _).mono ?_
  rintro e w2 ⟨rfl, k2⟩
  have K2 := Lib.hid ((K1.out.trans k2).alloc (.cells #[.int .i64 0, .int .i64 0, .int .i64 0, .int .i64 0] 25))
  have G2 := Lib.hid (Has.new w2 25 #[.int .i64 0, .int .i64 0, .int .i64 0, .int .i64 0])
  clear k2 K1 CF
  go_wp2_with fail
  refine (CM.out _).mono ?_
  rintro e w' ⟨rfl, rfl⟩
  go_wp2_with fail
  refine (CW.out _).mono ?_
  rintro e w' ⟨rfl, rfl⟩
  go_wp2_with fail
  refine (CG.out _).mono ?_
  rintro e w' ⟨rfl, rfl⟩
  go_wp2
  go_ret
  exact ⟨rfl, K2.out⟩
set_option maxHeartbeats 1000000 in
theorem find12_far (o b : Int) (h0 : 0 ≤ o) (hB : Isb b) (hm : ¬ o < mostN b) (w : World) : Calls Try.prog 3 #[.int .u64 o, .int .i64 b] w fun e w' => e = .returned (.bool true) ∧ Still w w' := by
  have E1 : findE o b = 3 := by unfold findE; rw [if_pos hB, if_neg hm]
  have E2 : findR o b = R4.zero := if_neg (by rw [E1]; decide)
  have dm : decide (mostN b ≤ o) = true := decide_eq_true (by omega)
  have CF : Hid (∀ W, Calls Try.prog 8 #[.int .u64 o, .int .i64 b] W fun e w' => e = .returned (.tuple #[.agg #[.int .i64 0, .int .i64 0, .int .i64 0, .int .i64 0], .int .i64 3]) ∧ Still W w') := Lib.hid (fun W => by
    have := bfind_any o b h0 W
    rw [E1, E2] at this
    exact this)
  have CM : Hid (∀ W, Calls Try.prog 9 #[.int .i64 b] W fun e w' => e = .returned (.int .u64 (mostN b)) ∧ W = w') := Lib.hid (bmost_any b)
  have CW : Hid (∀ W, Calls Try.prog 10 #[.int .i64 b] W fun e w' => e = .returned (.int .u64 (mostN b)) ∧ W = w') := Lib.hid (most12_any b)
  have CG : Hid (∀ W, Calls Try.prog 11 #[.int .i64 b] W fun e w' => e = .returned (.bool true) ∧ W = w') := Lib.hid (good12_yes hB)
  generalize mostN b = m at *
  clear hB hm E1 E2 h0
  go_enter Try.func3, Try.ntmps3
  go_wp2_with fail
  refine (known12_any w).mono ?_
  rintro e w1 ⟨rfl, k1⟩
  have K1 := Lib.hid k1
  clear k1
  go_wp2_with fail
  refine (CF.out _).mono ?_
  rintro e w2 ⟨rfl, k2⟩
  have K2 := Lib.hid ((K1.out.trans k2).alloc (.cells #[.int .i64 0, .int .i64 0, .int .i64 0, .int .i64 0] 25))
  have G2 := Lib.hid (Has.new w2 25 #[.int .i64 0, .int .i64 0, .int .i64 0, .int .i64 0])
  clear k2 K1 CF
  go_wp2_with fail
  refine (CM.out _).mono ?_
  rintro e w' ⟨rfl, rfl⟩
  go_wp2_with fail
  refine (CW.out _).mono ?_
  rintro e w' ⟨rfl, rfl⟩
  go_wp2_with fail
  refine (CG.out _).mono ?_
  rintro e w' ⟨rfl, rfl⟩
  go_wp2_with fail
  refine (CW.out _).mono ?_
  rintro e w' ⟨rfl, rfl⟩
  go_wp2
  go_ret
  exact ⟨rfl, K2.out⟩
set_option maxHeartbeats 2000000 in
theorem find12_near1 (o b : Int) (h0 : 0 ≤ o) (hB : Isb b) (hm : o < mostN b) (k1 : o / b < 8) (w : World) : Calls Try.prog 3 #[.int .u64 o, .int .i64 b] w fun e w' => e = .returned (.bool true) ∧ Still w w' := by
  have E1 : findE o b = 0 := by unfold findE; rw [if_pos hB, if_pos hm]
  have RD : roadN o b = ⟨1, o / b, 0, o % b⟩ := if_pos k1
  have E2 : findR o b = ⟨1, o / b, 0, o % b⟩ := (if_pos E1).trans RD
  obtain ⟨ok, bk⟩ := road_back hB h0 hm
  have B1 : backE (roadN o b) b = 0 := if_pos ok
  have B2 : backO (roadN o b) b = o := (if_pos ok).trans bk
  rw [RD] at B1 B2
  have dm : decide (mostN b ≤ o) = false := decide_eq_false (by omega)
  have CF : Hid (∀ W, Calls Try.prog 8 #[.int .u64 o, .int .i64 b] W fun e w' => e = .returned (.tuple #[.agg #[.int .i64 1, .int .i64 (o / b), .int .i64 0, .int .i64 (o % b)], .int .i64 0]) ∧ Still W w') := Lib.hid (fun W => by
    have := bfind_any o b h0 W
    rw [E1, E2] at this
    exact this)
  have CB : Hid (∀ W, Calls Try.prog 12 #[.agg #[.int .i64 1, .int .i64 (o / b), .int .i64 0, .int .i64 (o % b)], .int .i64 b] W fun e w' => e = .returned (.tuple #[.int .u64 o, .int .i64 0]) ∧ Still W w') := Lib.hid (fun W => by
    have := bback_any ⟨1, o / b, 0, o % b⟩ b W
    rw [B1, B2] at this
    exact this)
  have CM : Hid (∀ W, Calls Try.prog 9 #[.int .i64 b] W fun e w' => e = .returned (.int .u64 (mostN b)) ∧ W = w') := Lib.hid (bmost_any b)
  have CW : Hid (∀ W, Calls Try.prog 10 #[.int .i64 b] W fun e w' => e = .returned (.int .u64 (mostN b)) ∧ W = w') := Lib.hid (most12_any b)
  have CG : Hid (∀ W, Calls Try.prog 11 #[.int .i64 b] W fun e w' => e = .returned (.bool true) ∧ W = w') := Lib.hid (good12_yes hB)
  obtain ⟨t0, t1, q0, q1, m0, m1, n0, n1, q2⟩ := road_facts hB h0 hm
  obtain ⟨b0, b1⟩ := hB.range
  have tn : b.tdiv 4 = b / 4 := Int.tdiv_eq_ediv_of_nonneg (by omega)
  have w0 : IntKind.u64.wrap b = b := IntWalk.u64_in _ (by omega)
  have hb0 : ¬ b = 0 := by omega
  clear hB E1 E2 RD B1 B2 ok bk hm h0
  generalize mostN b = m at *
  generalize o / b = q at *
  generalize o % b = t at *
  generalize b / 4 = n at *
  have d1 : decide (8 + n ≤ q) = false := decide_eq_false (by omega)
  have d2 : decide (8 ≤ q) = false := decide_eq_false (by omega)
  clear q1
  go_enter Try.func3, Try.ntmps3
  go_wp2_with fail
  refine (known12_any w).mono ?_
  rintro e w1 ⟨rfl, k1⟩
  have K1 := Lib.hid k1
  clear k1
  go_wp2_with fail
  refine (CF.out _).mono ?_
  rintro e w2 ⟨rfl, k2⟩
  have K2 := Lib.hid ((K1.out.trans k2).alloc (.cells #[.int .i64 1, .int .i64 q, .int .i64 0, .int .i64 t] 25))
  have G2 := Lib.hid (Has.new w2 25 #[.int .i64 1, .int .i64 q, .int .i64 0, .int .i64 t])
  clear k2 K1 CF
  go_wp2_with fail
  refine (CM.out _).mono ?_
  rintro e w' ⟨rfl, rfl⟩
  go_wp2_with fail
  refine (CW.out _).mono ?_
  rintro e w' ⟨rfl, rfl⟩
  go_wp2_with fail
  refine (CG.out _).mono ?_
  rintro e w' ⟨rfl, rfl⟩
  go_wp2_with fail
  refine (CW.out _).mono ?_
  rintro e w' ⟨rfl, rfl⟩
  go_wp2_with fail
  refine (CB.out _).mono ?_
  rintro e w3 ⟨rfl, k3⟩
  have K3 := Lib.hid ((K2.out.alloc (.cells #[.int .i64 1, .int .i64 q, .int .i64 0, .int .i64 t] 25)).trans k3)
  obtain ⟨x0, x1, x2, x3⟩ := (k3.has (G2.out.alloc (.cells #[.int .i64 1, .int .i64 q, .int .i64 0, .int .i64 t] 25))).cells4
  have H3 := k3.has (Has.new (w2.alloc (.cells #[.int .i64 1, .int .i64 q, .int .i64 0, .int .i64 t] 25)) 25 #[.int .i64 1, .int .i64 q, .int .i64 0, .int .i64 t])
  have s3 : (w2.alloc (.cells #[.int .i64 1, .int .i64 q, .int .i64 0, .int .i64 t] 25)).heap.size = w2.heap.size + 1 := by simp
  rw [s3] at H3
  obtain ⟨y0, y1, y2, y3⟩ := H3.cells4
  clear k3 K2 G2 H3 s3 CB
  go_wp2
  go_ret
  exact ⟨rfl, K3.out⟩
set_option maxHeartbeats 2000000 in
theorem find12_near2 (o b : Int) (h0 : 0 ≤ o) (hB : Isb b) (hm : o < mostN b) (k1 : ¬ o / b < 8) (k2 : o / b < 8 + b / 4) (w : World) : Calls Try.prog 3 #[.int .u64 o, .int .i64 b] w fun e w' => e = .returned (.bool true) ∧ Still w w' := by
  have E1 : findE o b = 0 := by unfold findE; rw [if_pos hB, if_pos hm]
  have RD : roadN o b = ⟨2, o / b - 8, 0, o % b⟩ := by unfold roadN; rw [if_neg k1, if_pos k2]
  have E2 : findR o b = ⟨2, o / b - 8, 0, o % b⟩ := (if_pos E1).trans RD
  obtain ⟨ok, bk⟩ := road_back hB h0 hm
  have B1 : backE (roadN o b) b = 0 := if_pos ok
  have B2 : backO (roadN o b) b = o := (if_pos ok).trans bk
  rw [RD] at B1 B2
  have dm : decide (mostN b ≤ o) = false := decide_eq_false (by omega)
  have CF : Hid (∀ W, Calls Try.prog 8 #[.int .u64 o, .int .i64 b] W fun e w' => e = .returned (.tuple #[.agg #[.int .i64 2, .int .i64 (o / b - 8), .int .i64 0, .int .i64 (o % b)], .int .i64 0]) ∧ Still W w') := Lib.hid (fun W => by
    have := bfind_any o b h0 W
    rw [E1, E2] at this
    exact this)
  have CB : Hid (∀ W, Calls Try.prog 12 #[.agg #[.int .i64 2, .int .i64 (o / b - 8), .int .i64 0, .int .i64 (o % b)], .int .i64 b] W fun e w' => e = .returned (.tuple #[.int .u64 o, .int .i64 0]) ∧ Still W w') := Lib.hid (fun W => by
    have := bback_any ⟨2, o / b - 8, 0, o % b⟩ b W
    rw [B1, B2] at this
    exact this)
  have CM : Hid (∀ W, Calls Try.prog 9 #[.int .i64 b] W fun e w' => e = .returned (.int .u64 (mostN b)) ∧ W = w') := Lib.hid (bmost_any b)
  have CW : Hid (∀ W, Calls Try.prog 10 #[.int .i64 b] W fun e w' => e = .returned (.int .u64 (mostN b)) ∧ W = w') := Lib.hid (most12_any b)
  have CG : Hid (∀ W, Calls Try.prog 11 #[.int .i64 b] W fun e w' => e = .returned (.bool true) ∧ W = w') := Lib.hid (good12_yes hB)
  obtain ⟨t0, t1, q0, q1, m0, m1, n0, n1, q2⟩ := road_facts hB h0 hm
  obtain ⟨b0, b1⟩ := hB.range
  have tn : b.tdiv 4 = b / 4 := Int.tdiv_eq_ediv_of_nonneg (by omega)
  have w0 : IntKind.u64.wrap b = b := IntWalk.u64_in _ (by omega)
  have hb0 : ¬ b = 0 := by omega
  clear hB E1 E2 RD B1 B2 ok bk hm h0
  generalize mostN b = m at *
  generalize o / b = q at *
  generalize o % b = t at *
  generalize b / 4 = n at *
  have d1 : decide (8 + n ≤ q) = false := decide_eq_false (by omega)
  have d2 : decide (8 ≤ q) = true := decide_eq_true (by omega)
  clear q1
  go_enter Try.func3, Try.ntmps3
  go_wp2_with fail
  refine (known12_any w).mono ?_
  rintro e w1 ⟨rfl, k1⟩
  have K1 := Lib.hid k1
  clear k1
  go_wp2_with fail
  refine (CF.out _).mono ?_
  rintro e w2 ⟨rfl, k2⟩
  have K2 := Lib.hid ((K1.out.trans k2).alloc (.cells #[.int .i64 2, .int .i64 (q - 8), .int .i64 0, .int .i64 t] 25))
  have G2 := Lib.hid (Has.new w2 25 #[.int .i64 2, .int .i64 (q - 8), .int .i64 0, .int .i64 t])
  clear k2 K1 CF
  go_wp2_with fail
  refine (CM.out _).mono ?_
  rintro e w' ⟨rfl, rfl⟩
  go_wp2_with fail
  refine (CW.out _).mono ?_
  rintro e w' ⟨rfl, rfl⟩
  go_wp2_with fail
  refine (CG.out _).mono ?_
  rintro e w' ⟨rfl, rfl⟩
  go_wp2_with fail
  refine (CW.out _).mono ?_
  rintro e w' ⟨rfl, rfl⟩
  go_wp2_with fail
  refine (CB.out _).mono ?_
  rintro e w3 ⟨rfl, k3⟩
  have K3 := Lib.hid ((K2.out.alloc (.cells #[.int .i64 2, .int .i64 (q - 8), .int .i64 0, .int .i64 t] 25)).trans k3)
  obtain ⟨x0, x1, x2, x3⟩ := (k3.has (G2.out.alloc (.cells #[.int .i64 2, .int .i64 (q - 8), .int .i64 0, .int .i64 t] 25))).cells4
  have H3 := k3.has (Has.new (w2.alloc (.cells #[.int .i64 2, .int .i64 (q - 8), .int .i64 0, .int .i64 t] 25)) 25 #[.int .i64 2, .int .i64 (q - 8), .int .i64 0, .int .i64 t])
  have s3 : (w2.alloc (.cells #[.int .i64 2, .int .i64 (q - 8), .int .i64 0, .int .i64 t] 25)).heap.size = w2.heap.size + 1 := by simp
  rw [s3] at H3
  obtain ⟨y0, y1, y2, y3⟩ := H3.cells4
  clear k3 K2 G2 H3 s3 CB
  go_wp2
  go_ret
  exact ⟨rfl, K3.out⟩
set_option maxHeartbeats 2000000 in
theorem find12_near3 (o b : Int) (h0 : 0 ≤ o) (hB : Isb b) (hm : o < mostN b) (k1 : ¬ o / b < 8) (k2 : ¬ o / b < 8 + b / 4) (w : World) : Calls Try.prog 3 #[.int .u64 o, .int .i64 b] w fun e w' => e = .returned (.bool true) ∧ Still w w' := by
  have E1 : findE o b = 0 := by unfold findE; rw [if_pos hB, if_pos hm]
  have RD : roadN o b = ⟨3, (o / b - (8 + b / 4)) / (b / 4), (o / b - (8 + b / 4)) % (b / 4), o % b⟩ := by unfold roadN; rw [if_neg k1, if_neg k2]
  have E2 : findR o b = ⟨3, (o / b - (8 + b / 4)) / (b / 4), (o / b - (8 + b / 4)) % (b / 4), o % b⟩ := (if_pos E1).trans RD
  obtain ⟨ok, bk⟩ := road_back hB h0 hm
  have B1 : backE (roadN o b) b = 0 := if_pos ok
  have B2 : backO (roadN o b) b = o := (if_pos ok).trans bk
  rw [RD] at B1 B2
  have dm : decide (mostN b ≤ o) = false := decide_eq_false (by omega)
  have CF : Hid (∀ W, Calls Try.prog 8 #[.int .u64 o, .int .i64 b] W fun e w' => e = .returned (.tuple #[.agg #[.int .i64 3, .int .i64 ((o / b - (8 + b / 4)) / (b / 4)), .int .i64 ((o / b - (8 + b / 4)) % (b / 4)), .int .i64 (o % b)], .int .i64 0]) ∧ Still W w') := Lib.hid (fun W => by
    have := bfind_any o b h0 W
    rw [E1, E2] at this
    exact this)
  have CB : Hid (∀ W, Calls Try.prog 12 #[.agg #[.int .i64 3, .int .i64 ((o / b - (8 + b / 4)) / (b / 4)), .int .i64 ((o / b - (8 + b / 4)) % (b / 4)), .int .i64 (o % b)], .int .i64 b] W fun e w' => e = .returned (.tuple #[.int .u64 o, .int .i64 0]) ∧ Still W w') := Lib.hid (fun W => by
    have := bback_any ⟨3, (o / b - (8 + b / 4)) / (b / 4), (o / b - (8 + b / 4)) % (b / 4), o % b⟩ b W
    rw [B1, B2] at this
    exact this)
  have CM : Hid (∀ W, Calls Try.prog 9 #[.int .i64 b] W fun e w' => e = .returned (.int .u64 (mostN b)) ∧ W = w') := Lib.hid (bmost_any b)
  have CW : Hid (∀ W, Calls Try.prog 10 #[.int .i64 b] W fun e w' => e = .returned (.int .u64 (mostN b)) ∧ W = w') := Lib.hid (most12_any b)
  have CG : Hid (∀ W, Calls Try.prog 11 #[.int .i64 b] W fun e w' => e = .returned (.bool true) ∧ W = w') := Lib.hid (good12_yes hB)
  obtain ⟨t0, t1, q0, q1, m0, m1, n0, n1, q2⟩ := road_facts hB h0 hm
  obtain ⟨b0, b1⟩ := hB.range
  have tn : b.tdiv 4 = b / 4 := Int.tdiv_eq_ediv_of_nonneg (by omega)
  have w0 : IntKind.u64.wrap b = b := IntWalk.u64_in _ (by omega)
  have hb0 : ¬ b = 0 := by omega
  clear hB E1 E2 RD B1 B2 ok bk hm h0
  generalize mostN b = m at *
  generalize o / b = q at *
  generalize o % b = t at *
  generalize b / 4 = n at *
  have ez : q - 8 - n = q - (8 + n) := by omega
  have u0 : (q - 8 - n).tdiv n = (q - (8 + n)) / n := by rw [ez]; exact Int.tdiv_eq_ediv_of_nonneg (by omega)
  have v0 : (q - 8 - n).tmod n = (q - (8 + n)) % n := by rw [ez]; exact Int.tmod_eq_emod_of_nonneg (by omega)
  have u1 : 0 ≤ (q - (8 + n)) / n := Int.ediv_nonneg (by omega) (by omega)
  have u2 : (q - (8 + n)) / n ≤ 65800 := Int.le_trans (Int.ediv_le_self _ (by omega)) (by omega)
  have v1 : 0 ≤ (q - (8 + n)) % n := Int.emod_nonneg _ (by omega)
  have v2 : (q - (8 + n)) % n < n := Int.emod_lt_of_pos _ (by omega)
  generalize (q - (8 + n)) / n = u at *
  generalize (q - (8 + n)) % n = v at *
  have hn0 : ¬ n = 0 := by omega
  clear ez
  have d1 : decide (8 + n ≤ q) = true := decide_eq_true (by omega)
  clear q1
  go_enter Try.func3, Try.ntmps3
  go_wp2_with fail
  refine (known12_any w).mono ?_
  rintro e w1 ⟨rfl, k1⟩
  have K1 := Lib.hid k1
  clear k1
  go_wp2_with fail
  refine (CF.out _).mono ?_
  rintro e w2 ⟨rfl, k2⟩
  have K2 := Lib.hid ((K1.out.trans k2).alloc (.cells #[.int .i64 3, .int .i64 u, .int .i64 v, .int .i64 t] 25))
  have G2 := Lib.hid (Has.new w2 25 #[.int .i64 3, .int .i64 u, .int .i64 v, .int .i64 t])
  clear k2 K1 CF
  go_wp2_with fail
  refine (CM.out _).mono ?_
  rintro e w' ⟨rfl, rfl⟩
  go_wp2_with fail
  refine (CW.out _).mono ?_
  rintro e w' ⟨rfl, rfl⟩
  go_wp2_with fail
  refine (CG.out _).mono ?_
  rintro e w' ⟨rfl, rfl⟩
  go_wp2_with fail
  refine (CW.out _).mono ?_
  rintro e w' ⟨rfl, rfl⟩
  go_wp2_with fail
  refine (CB.out _).mono ?_
  rintro e w3 ⟨rfl, k3⟩
  have K3 := Lib.hid ((K2.out.alloc (.cells #[.int .i64 3, .int .i64 u, .int .i64 v, .int .i64 t] 25)).trans k3)
  obtain ⟨x0, x1, x2, x3⟩ := (k3.has (G2.out.alloc (.cells #[.int .i64 3, .int .i64 u, .int .i64 v, .int .i64 t] 25))).cells4
  have H3 := k3.has (Has.new (w2.alloc (.cells #[.int .i64 3, .int .i64 u, .int .i64 v, .int .i64 t] 25)) 25 #[.int .i64 3, .int .i64 u, .int .i64 v, .int .i64 t])
  have s3 : (w2.alloc (.cells #[.int .i64 3, .int .i64 u, .int .i64 v, .int .i64 t] 25)).heap.size = w2.heap.size + 1 := by simp
  rw [s3] at H3
  obtain ⟨y0, y1, y2, y3⟩ := H3.cells4
  clear k3 K2 G2 H3 s3 CB
  go_wp2
  go_ret
  exact ⟨rfl, K3.out⟩
theorem find12_any (o b : Int) (h0 : 0 ≤ o) (w : World) : Calls Try.prog 3 #[.int .u64 o, .int .i64 b] w fun e w' => e = .returned (.bool true) ∧ Still w w' := by
  by_cases hB : Isb b
  · by_cases hm : o < mostN b
    · by_cases k1 : o / b < 8
      · exact find12_near1 o b h0 hB hm k1 w
      · by_cases k2 : o / b < 8 + b / 4
        · exact find12_near2 o b h0 hB hm k1 k2 w
        · exact find12_near3 o b h0 hB hm k1 k2 w
    · exact find12_far o b h0 hB hm w
  · exact find12_none o b h0 hB w
end Go.Proofs.Ytddpedodbjibiaa
