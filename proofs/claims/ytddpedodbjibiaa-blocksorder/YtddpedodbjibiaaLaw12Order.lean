/-
  BlocksOrder: two places of one block have one road but for the byte; of different blocks, different ones.
-/
import Derived.Test.YtddpedodbjibiaaLaw12Known
namespace Go.Proofs.Ytddpedodbjibiaa
open Go.RowKit Go.Lib
set_option maxRecDepth 100000

/-- One road but for the byte: one block. -/
theorem road_same {p q b : Int} (h : Isb b) (p0 : 0 ≤ p) (p1 : p < mostN b) (q0 : 0 ≤ q) (q1 : q < mostN b) : ((roadN p b).k = (roadN q b).k ∧ (roadN p b).a = (roadN q b).a ∧ (roadN p b).b = (roadN q b).b) ↔ p / b = q / b := by
  constructor
  · rintro ⟨e1, e2, e3⟩
    obtain ⟨⟨_, _, x0, x1⟩, x2⟩ := road_back h p0 p1
    obtain ⟨⟨_, _, y0, y1⟩, y2⟩ := road_back h q0 q1
    have e : numN (roadN p b) (b / 4) = numN (roadN q b) (b / 4) := by
      unfold numN
      rw [e1, e2, e3]
    rw [← e] at y2
    generalize numN (roadN p b) (b / 4) = N at *
    generalize (roadN p b).t = s at *
    generalize (roadN q b).t = t at *
    clear e e1 e2 e3 p1 q1
    rcases h with rfl | rfl | rfl | rfl | rfl <;> omega
  · intro e
    unfold roadN
    rw [e]
    split
    · exact ⟨rfl, rfl, rfl⟩
    · split
      · exact ⟨rfl, rfl, rfl⟩
      · exact ⟨rfl, rfl, rfl⟩
theorem roadN_t (o b : Int) : (roadN o b).t = o % b := by
  unfold roadN
  split
  · rfl
  · split <;> rfl
theorem roadN_in {o b : Int} (h : Isb b) (h1 : o < mostN b) : findE o b = 0 ∧ findR o b = roadN o b := by
  have E1 : findE o b = 0 := by unfold findE; rw [if_pos h, if_pos h1]
  exact ⟨E1, if_pos E1⟩
set_option maxHeartbeats 1000000 in
theorem order12_none (p q b : Int) (hB : ¬ Isb b) (w : World) : Calls Try.prog 6 #[.int .u32 p, .int .u32 q, .int .i64 b] w fun e w' => e = .returned (.bool true) ∧ Still w w' := by
  have CG : Hid (∀ W, Calls Try.prog 11 #[.int .i64 b] W fun e w' => e = .returned (.bool false) ∧ W = w') := Lib.hid (good12_no hB)
  clear hB
  go_enter Try.func6, Try.ntmps6
  go_wp2_with fail
  refine (known12_any w).mono ?_
  rintro e w1 ⟨rfl, k1⟩
  have K1 := Lib.hid k1
  clear k1
  go_wp2_with fail
  refine (CG.out _).mono ?_
  rintro e w' ⟨rfl, rfl⟩
  go_wp2
  go_ret
  exact ⟨rfl, K1.out⟩
set_option maxHeartbeats 1000000 in
theorem order12_far1 (p q b : Int) (p0 : 0 ≤ p) (p2 : p < 4294967296) (hB : Isb b) (hp : ¬ p < mostN b) (w : World) : Calls Try.prog 6 #[.int .u32 p, .int .u32 q, .int .i64 b] w fun e w' => e = .returned (.bool true) ∧ Still w w' := by
  have wp : IntKind.u64.wrap p = p := IntWalk.u64_in _ (by omega)
  have CG : Hid (∀ W, Calls Try.prog 11 #[.int .i64 b] W fun e w' => e = .returned (.bool true) ∧ W = w') := Lib.hid (good12_yes hB)
  have CW : Hid (∀ W, Calls Try.prog 10 #[.int .i64 b] W fun e w' => e = .returned (.int .u64 (mostN b)) ∧ W = w') := Lib.hid (most12_any b)
  have d1 : decide (mostN b ≤ p) = true := decide_eq_true (by omega)
  generalize mostN b = m at *
  clear hB hp
  go_enter Try.func6, Try.ntmps6
  go_wp2_with fail
  refine (known12_any w).mono ?_
  rintro e w1 ⟨rfl, k1⟩
  have K1 := Lib.hid k1
  clear k1
  go_wp2_with fail
  refine (CG.out _).mono ?_
  rintro e w' ⟨rfl, rfl⟩
  go_wp2_with fail
  refine (CW.out _).mono ?_
  rintro e w' ⟨rfl, rfl⟩
  go_wp2
  go_ret
  exact ⟨rfl, K1.out⟩
set_option maxHeartbeats 1000000 in
theorem order12_far2 (p q b : Int) (p0 : 0 ≤ p) (p2 : p < 4294967296) (q0 : 0 ≤ q) (q2 : q < 4294967296) (hB : Isb b) (hp : p < mostN b) (hq : ¬ q < mostN b) (w : World) : Calls Try.prog 6 #[.int .u32 p, .int .u32 q, .int .i64 b] w fun e w' => e = .returned (.bool true) ∧ Still w w' := by
  have wp : IntKind.u64.wrap p = p := IntWalk.u64_in _ (by omega)
  have wq : IntKind.u64.wrap q = q := IntWalk.u64_in _ (by omega)
  have CG : Hid (∀ W, Calls Try.prog 11 #[.int .i64 b] W fun e w' => e = .returned (.bool true) ∧ W = w') := Lib.hid (good12_yes hB)
  have CW : Hid (∀ W, Calls Try.prog 10 #[.int .i64 b] W fun e w' => e = .returned (.int .u64 (mostN b)) ∧ W = w') := Lib.hid (most12_any b)
  have d1 : decide (mostN b ≤ p) = false := decide_eq_false (by omega)
  have d2 : decide (mostN b ≤ q) = true := decide_eq_true (by omega)
  generalize mostN b = m at *
  clear hB hp hq
  go_enter Try.func6, Try.ntmps6
  go_wp2_with fail
  refine (known12_any w).mono ?_
  rintro e w1 ⟨rfl, k1⟩
  have K1 := Lib.hid k1
  clear k1
  go_wp2_with fail
  refine (CG.out _).mono ?_
  rintro e w' ⟨rfl, rfl⟩
  go_wp2_with fail
  refine (CW.out _).mono ?_
  rintro e w' ⟨rfl, rfl⟩
  go_wp2_with fail
  refine (CW.out _).mono ?_
  rintro e w' ⟨rfl, rfl⟩
  go_wp2
  go_ret
  exact ⟨rfl, K1.out⟩
set_option maxHeartbeats 2000000 in
theorem order12_near0 (p q b : Int) (p0 : 0 ≤ p) (p2 : p < 4294967296) (q0 : 0 ≤ q) (q2 : q < 4294967296) (hB : Isb b) (hp : p < mostN b) (hq : q < mostN b) (e1 : (roadN p b).k = (roadN q b).k) (e2 : (roadN p b).a = (roadN q b).a) (e3 : (roadN p b).b = (roadN q b).b) (w : World) : Calls Try.prog 6 #[.int .u32 p, .int .u32 q, .int .i64 b] w fun e w' => e = .returned (.bool true) ∧ Still w w' := by
  have wp : IntKind.u64.wrap p = p := IntWalk.u64_in _ (by omega)
  have wq : IntKind.u64.wrap q = q := IntWalk.u64_in _ (by omega)
  have CG : Hid (∀ W, Calls Try.prog 11 #[.int .i64 b] W fun e w' => e = .returned (.bool true) ∧ W = w') := Lib.hid (good12_yes hB)
  have CW : Hid (∀ W, Calls Try.prog 10 #[.int .i64 b] W fun e w' => e = .returned (.int .u64 (mostN b)) ∧ W = w') := Lib.hid (most12_any b)
  have Cp : Hid (∀ W, Calls Try.prog 8 #[.int .u64 p, .int .i64 b] W fun e w' => e = .returned (.tuple #[.agg #[.int .i64 (roadN p b).k, .int .i64 (roadN p b).a, .int .i64 (roadN p b).b, .int .i64 (roadN p b).t], .int .i64 0]) ∧ Still W w') := Lib.hid (fun W => by
    have := bfind_any p b p0 W
    obtain ⟨E1, E2⟩ := roadN_in hB hp
    rw [E1, E2] at this
    exact this)
  have Cq : Hid (∀ W, Calls Try.prog 8 #[.int .u64 q, .int .i64 b] W fun e w' => e = .returned (.tuple #[.agg #[.int .i64 (roadN q b).k, .int .i64 (roadN q b).a, .int .i64 (roadN q b).b, .int .i64 (roadN q b).t], .int .i64 0]) ∧ Still W w') := Lib.hid (fun W => by
    have := bfind_any q b q0 W
    obtain ⟨E1, E2⟩ := roadN_in hB hq
    rw [E1, E2] at this
    exact this)
  have PQ : p / b = q / b := (road_same hB p0 hp q0 hq).1 ⟨e1, e2, e3⟩
  have d1 : decide (mostN b ≤ p) = false := decide_eq_false (by omega)
  have d2 : decide (mostN b ≤ q) = false := decide_eq_false (by omega)
  obtain ⟨b0, b1⟩ := hB.range
  obtain ⟨tp, _, u0, _, _, _, _, _, u1⟩ := road_facts hB p0 hp
  obtain ⟨tq, _, v0, _, _, _, _, _, v1⟩ := road_facts hB q0 hq
  have hb0 : ¬ b = 0 := by omega
  have ET : (roadN p b).t - (roadN q b).t = p - q := by
    rw [roadN_t, roadN_t]
    have x := Int.mul_ediv_add_emod p b
    have y := Int.mul_ediv_add_emod q b
    rw [PQ] at x
    omega
  generalize roadN p b = x at *
  generalize roadN q b = y at *
  obtain ⟨xk, xa, xb, xt⟩ := x
  obtain ⟨yk, ya, yb, yt⟩ := y
  simp only at e1 e2 e3 ET Cp Cq
  subst e1 e2 e3
  have ee : (xt - yt == p - q) = true := by rw [ET]; exact beq_self_eq_true _
  have ws : IntKind.i64.wrap (xt - yt) = p - q := by rw [ET]; exact IntWalk.i64_in _ (by omega)
  have wt : IntKind.i64.wrap (p - q) = p - q := IntWalk.i64_in _ (by omega)
  generalize mostN b = m at *
  clear hB hp hq
  rw [PQ] at tp u0 u1
  clear PQ ET
  generalize q / b = z at *
  have wz : IntKind.i64.wrap z = z := IntWalk.i64_in _ (by omega)
  have i1 : IntKind.i64.wrap p = p := IntWalk.i64_in _ (by omega)
  have i2 : IntKind.i64.wrap q = q := IntWalk.i64_in _ (by omega)
  go_enter Try.func6, Try.ntmps6
  go_wp2_with fail
  refine (known12_any w).mono ?_
  rintro e w1 ⟨rfl, k1⟩
  have K1 := Lib.hid k1
  clear k1
  go_wp2_with fail
  refine (CG.out _).mono ?_
  rintro e w' ⟨rfl, rfl⟩
  go_wp2_with fail
  refine (CW.out _).mono ?_
  rintro e w' ⟨rfl, rfl⟩
  go_wp2_with fail
  refine (CW.out _).mono ?_
  rintro e w' ⟨rfl, rfl⟩
  go_wp2_with fail
  refine (Cp.out _).mono ?_
  rintro e w2 ⟨rfl, k2⟩
  have K2 := Lib.hid ((K1.out.trans k2).alloc (.cells #[.int .i64 xk, .int .i64 xa, .int .i64 xb, .int .i64 xt] 25))
  have G2 := Lib.hid (Has.new w2 25 #[.int .i64 xk, .int .i64 xa, .int .i64 xb, .int .i64 xt])
  clear k2 K1 Cp
  go_wp2_with fail
  refine (Cq.out _).mono ?_
  rintro e w3 ⟨rfl, k3⟩
  have K3 := Lib.hid ((K2.out.trans k3).alloc (.cells #[.int .i64 xk, .int .i64 xa, .int .i64 xb, .int .i64 yt] 25))
  have G3 := (k3.has G2.out).alloc (.cells #[.int .i64 xk, .int .i64 xa, .int .i64 xb, .int .i64 yt] 25)
  have H3 := Has.new w3 25 #[.int .i64 xk, .int .i64 xa, .int .i64 xb, .int .i64 yt]
  obtain ⟨x0, x1, x2, x3⟩ := G3.cells4
  obtain ⟨y0, y1, y2, y3⟩ := H3.cells4
  clear k3 K2 G2 Cq G3 H3
  go_wp2_with fail
  go_quiet (fail)
  go_wp2
  go_ret
  exact ⟨rfl, K3.out.drewN _⟩
set_option maxHeartbeats 2000000 in
theorem order12_near1 (p q b : Int) (p0 : 0 ≤ p) (p2 : p < 4294967296) (q0 : 0 ≤ q) (q2 : q < 4294967296) (hB : Isb b) (hp : p < mostN b) (hq : q < mostN b) (e1 : ¬ (roadN p b).k = (roadN q b).k) (w : World) : Calls Try.prog 6 #[.int .u32 p, .int .u32 q, .int .i64 b] w fun e w' => e = .returned (.bool true) ∧ Still w w' := by
  have wp : IntKind.u64.wrap p = p := IntWalk.u64_in _ (by omega)
  have wq : IntKind.u64.wrap q = q := IntWalk.u64_in _ (by omega)
  have CG : Hid (∀ W, Calls Try.prog 11 #[.int .i64 b] W fun e w' => e = .returned (.bool true) ∧ W = w') := Lib.hid (good12_yes hB)
  have CW : Hid (∀ W, Calls Try.prog 10 #[.int .i64 b] W fun e w' => e = .returned (.int .u64 (mostN b)) ∧ W = w') := Lib.hid (most12_any b)
  have Cp : Hid (∀ W, Calls Try.prog 8 #[.int .u64 p, .int .i64 b] W fun e w' => e = .returned (.tuple #[.agg #[.int .i64 (roadN p b).k, .int .i64 (roadN p b).a, .int .i64 (roadN p b).b, .int .i64 (roadN p b).t], .int .i64 0]) ∧ Still W w') := Lib.hid (fun W => by
    have := bfind_any p b p0 W
    obtain ⟨E1, E2⟩ := roadN_in hB hp
    rw [E1, E2] at this
    exact this)
  have Cq : Hid (∀ W, Calls Try.prog 8 #[.int .u64 q, .int .i64 b] W fun e w' => e = .returned (.tuple #[.agg #[.int .i64 (roadN q b).k, .int .i64 (roadN q b).a, .int .i64 (roadN q b).b, .int .i64 (roadN q b).t], .int .i64 0]) ∧ Still W w') := Lib.hid (fun W => by
    have := bfind_any q b q0 W
    obtain ⟨E1, E2⟩ := roadN_in hB hq
    rw [E1, E2] at this
    exact this)
  have PQ : ¬ p / b = q / b := fun e => e1 ((road_same hB p0 hp q0 hq).2 e).1
  have d1 : decide (mostN b ≤ p) = false := decide_eq_false (by omega)
  have d2 : decide (mostN b ≤ q) = false := decide_eq_false (by omega)
  obtain ⟨b0, b1⟩ := hB.range
  obtain ⟨tp, _, u0, _, _, _, _, _, u1⟩ := road_facts hB p0 hp
  obtain ⟨tq, _, v0, _, _, _, _, _, v1⟩ := road_facts hB q0 hq
  have hb0 : ¬ b = 0 := by omega
  generalize roadN p b = x at *
  generalize roadN q b = y at *
  obtain ⟨xk, xa, xb, xt⟩ := x
  obtain ⟨yk, ya, yb, yt⟩ := y
  simp only at e1 Cp Cq
  have f1 : (xk == yk) = false := by simpa using e1
  generalize mostN b = m at *
  clear hB hp hq
  generalize p / b = z at *
  generalize q / b = v at *
  have wz : IntKind.i64.wrap z = z := IntWalk.i64_in _ (by omega)
  have wv : IntKind.i64.wrap v = v := IntWalk.i64_in _ (by omega)
  have zv : (z == v) = false := by simpa using PQ
  have i1 : IntKind.i64.wrap p = p := IntWalk.i64_in _ (by omega)
  have i2 : IntKind.i64.wrap q = q := IntWalk.i64_in _ (by omega)
  go_enter Try.func6, Try.ntmps6
  go_wp2_with fail
  refine (known12_any w).mono ?_
  rintro e w1 ⟨rfl, k1⟩
  have K1 := Lib.hid k1
  clear k1
  go_wp2_with fail
  refine (CG.out _).mono ?_
  rintro e w' ⟨rfl, rfl⟩
  go_wp2_with fail
  refine (CW.out _).mono ?_
  rintro e w' ⟨rfl, rfl⟩
  go_wp2_with fail
  refine (CW.out _).mono ?_
  rintro e w' ⟨rfl, rfl⟩
  go_wp2_with fail
  refine (Cp.out _).mono ?_
  rintro e w2 ⟨rfl, k2⟩
  have K2 := Lib.hid ((K1.out.trans k2).alloc (.cells #[.int .i64 xk, .int .i64 xa, .int .i64 xb, .int .i64 xt] 25))
  have G2 := Lib.hid (Has.new w2 25 #[.int .i64 xk, .int .i64 xa, .int .i64 xb, .int .i64 xt])
  clear k2 K1 Cp
  go_wp2_with fail
  refine (Cq.out _).mono ?_
  rintro e w3 ⟨rfl, k3⟩
  have K3 := Lib.hid ((K2.out.trans k3).alloc (.cells #[.int .i64 yk, .int .i64 ya, .int .i64 yb, .int .i64 yt] 25))
  have G3 := (k3.has G2.out).alloc (.cells #[.int .i64 yk, .int .i64 ya, .int .i64 yb, .int .i64 yt] 25)
  have H3 := Has.new w3 25 #[.int .i64 yk, .int .i64 ya, .int .i64 yb, .int .i64 yt]
  obtain ⟨x0, x1, x2, x3⟩ := G3.cells4
  obtain ⟨y0, y1, y2, y3⟩ := H3.cells4
  clear k3 K2 G2 Cq G3 H3
  go_wp2_with fail
  go_quiet (fail)
  go_wp2
  go_ret
  exact ⟨rfl, K3.out.drewN _⟩
set_option maxHeartbeats 2000000 in
theorem order12_near2 (p q b : Int) (p0 : 0 ≤ p) (p2 : p < 4294967296) (q0 : 0 ≤ q) (q2 : q < 4294967296) (hB : Isb b) (hp : p < mostN b) (hq : q < mostN b) (e1 : (roadN p b).k = (roadN q b).k) (e2 : ¬ (roadN p b).a = (roadN q b).a) (w : World) : Calls Try.prog 6 #[.int .u32 p, .int .u32 q, .int .i64 b] w fun e w' => e = .returned (.bool true) ∧ Still w w' := by
  have wp : IntKind.u64.wrap p = p := IntWalk.u64_in _ (by omega)
  have wq : IntKind.u64.wrap q = q := IntWalk.u64_in _ (by omega)
  have CG : Hid (∀ W, Calls Try.prog 11 #[.int .i64 b] W fun e w' => e = .returned (.bool true) ∧ W = w') := Lib.hid (good12_yes hB)
  have CW : Hid (∀ W, Calls Try.prog 10 #[.int .i64 b] W fun e w' => e = .returned (.int .u64 (mostN b)) ∧ W = w') := Lib.hid (most12_any b)
  have Cp : Hid (∀ W, Calls Try.prog 8 #[.int .u64 p, .int .i64 b] W fun e w' => e = .returned (.tuple #[.agg #[.int .i64 (roadN p b).k, .int .i64 (roadN p b).a, .int .i64 (roadN p b).b, .int .i64 (roadN p b).t], .int .i64 0]) ∧ Still W w') := Lib.hid (fun W => by
    have := bfind_any p b p0 W
    obtain ⟨E1, E2⟩ := roadN_in hB hp
    rw [E1, E2] at this
    exact this)
  have Cq : Hid (∀ W, Calls Try.prog 8 #[.int .u64 q, .int .i64 b] W fun e w' => e = .returned (.tuple #[.agg #[.int .i64 (roadN q b).k, .int .i64 (roadN q b).a, .int .i64 (roadN q b).b, .int .i64 (roadN q b).t], .int .i64 0]) ∧ Still W w') := Lib.hid (fun W => by
    have := bfind_any q b q0 W
    obtain ⟨E1, E2⟩ := roadN_in hB hq
    rw [E1, E2] at this
    exact this)
  have PQ : ¬ p / b = q / b := fun e => e2 ((road_same hB p0 hp q0 hq).2 e).2.1
  have d1 : decide (mostN b ≤ p) = false := decide_eq_false (by omega)
  have d2 : decide (mostN b ≤ q) = false := decide_eq_false (by omega)
  obtain ⟨b0, b1⟩ := hB.range
  obtain ⟨tp, _, u0, _, _, _, _, _, u1⟩ := road_facts hB p0 hp
  obtain ⟨tq, _, v0, _, _, _, _, _, v1⟩ := road_facts hB q0 hq
  have hb0 : ¬ b = 0 := by omega
  generalize roadN p b = x at *
  generalize roadN q b = y at *
  obtain ⟨xk, xa, xb, xt⟩ := x
  obtain ⟨yk, ya, yb, yt⟩ := y
  simp only at e1 e2 Cp Cq
  subst e1
  have f1 : (xa == ya) = false := by simpa using e2
  generalize mostN b = m at *
  clear hB hp hq
  generalize p / b = z at *
  generalize q / b = v at *
  have wz : IntKind.i64.wrap z = z := IntWalk.i64_in _ (by omega)
  have wv : IntKind.i64.wrap v = v := IntWalk.i64_in _ (by omega)
  have zv : (z == v) = false := by simpa using PQ
  have i1 : IntKind.i64.wrap p = p := IntWalk.i64_in _ (by omega)
  have i2 : IntKind.i64.wrap q = q := IntWalk.i64_in _ (by omega)
  go_enter Try.func6, Try.ntmps6
  go_wp2_with fail
  refine (known12_any w).mono ?_
  rintro e w1 ⟨rfl, k1⟩
  have K1 := Lib.hid k1
  clear k1
  go_wp2_with fail
  refine (CG.out _).mono ?_
  rintro e w' ⟨rfl, rfl⟩
  go_wp2_with fail
  refine (CW.out _).mono ?_
  rintro e w' ⟨rfl, rfl⟩
  go_wp2_with fail
  refine (CW.out _).mono ?_
  rintro e w' ⟨rfl, rfl⟩
  go_wp2_with fail
  refine (Cp.out _).mono ?_
  rintro e w2 ⟨rfl, k2⟩
  have K2 := Lib.hid ((K1.out.trans k2).alloc (.cells #[.int .i64 xk, .int .i64 xa, .int .i64 xb, .int .i64 xt] 25))
  have G2 := Lib.hid (Has.new w2 25 #[.int .i64 xk, .int .i64 xa, .int .i64 xb, .int .i64 xt])
  clear k2 K1 Cp
  go_wp2_with fail
  refine (Cq.out _).mono ?_
  rintro e w3 ⟨rfl, k3⟩
  have K3 := Lib.hid ((K2.out.trans k3).alloc (.cells #[.int .i64 xk, .int .i64 ya, .int .i64 yb, .int .i64 yt] 25))
  have G3 := (k3.has G2.out).alloc (.cells #[.int .i64 xk, .int .i64 ya, .int .i64 yb, .int .i64 yt] 25)
  have H3 := Has.new w3 25 #[.int .i64 xk, .int .i64 ya, .int .i64 yb, .int .i64 yt]
  obtain ⟨x0, x1, x2, x3⟩ := G3.cells4
  obtain ⟨y0, y1, y2, y3⟩ := H3.cells4
  clear k3 K2 G2 Cq G3 H3
  go_wp2_with fail
  go_quiet (fail)
  go_wp2
  go_ret
  exact ⟨rfl, K3.out.drewN _⟩
set_option maxHeartbeats 2000000 in
theorem order12_near3 (p q b : Int) (p0 : 0 ≤ p) (p2 : p < 4294967296) (q0 : 0 ≤ q) (q2 : q < 4294967296) (hB : Isb b) (hp : p < mostN b) (hq : q < mostN b) (e1 : (roadN p b).k = (roadN q b).k) (e2 : (roadN p b).a = (roadN q b).a) (e3 : ¬ (roadN p b).b = (roadN q b).b) (w : World) : Calls Try.prog 6 #[.int .u32 p, .int .u32 q, .int .i64 b] w fun e w' => e = .returned (.bool true) ∧ Still w w' := by
  have wp : IntKind.u64.wrap p = p := IntWalk.u64_in _ (by omega)
  have wq : IntKind.u64.wrap q = q := IntWalk.u64_in _ (by omega)
  have CG : Hid (∀ W, Calls Try.prog 11 #[.int .i64 b] W fun e w' => e = .returned (.bool true) ∧ W = w') := Lib.hid (good12_yes hB)
  have CW : Hid (∀ W, Calls Try.prog 10 #[.int .i64 b] W fun e w' => e = .returned (.int .u64 (mostN b)) ∧ W = w') := Lib.hid (most12_any b)
  have Cp : Hid (∀ W, Calls Try.prog 8 #[.int .u64 p, .int .i64 b] W fun e w' => e = .returned (.tuple #[.agg #[.int .i64 (roadN p b).k, .int .i64 (roadN p b).a, .int .i64 (roadN p b).b, .int .i64 (roadN p b).t], .int .i64 0]) ∧ Still W w') := Lib.hid (fun W => by
    have := bfind_any p b p0 W
    obtain ⟨E1, E2⟩ := roadN_in hB hp
    rw [E1, E2] at this
    exact this)
  have Cq : Hid (∀ W, Calls Try.prog 8 #[.int .u64 q, .int .i64 b] W fun e w' => e = .returned (.tuple #[.agg #[.int .i64 (roadN q b).k, .int .i64 (roadN q b).a, .int .i64 (roadN q b).b, .int .i64 (roadN q b).t], .int .i64 0]) ∧ Still W w') := Lib.hid (fun W => by
    have := bfind_any q b q0 W
    obtain ⟨E1, E2⟩ := roadN_in hB hq
    rw [E1, E2] at this
    exact this)
  have PQ : ¬ p / b = q / b := fun e => e3 ((road_same hB p0 hp q0 hq).2 e).2.2
  have d1 : decide (mostN b ≤ p) = false := decide_eq_false (by omega)
  have d2 : decide (mostN b ≤ q) = false := decide_eq_false (by omega)
  obtain ⟨b0, b1⟩ := hB.range
  obtain ⟨tp, _, u0, _, _, _, _, _, u1⟩ := road_facts hB p0 hp
  obtain ⟨tq, _, v0, _, _, _, _, _, v1⟩ := road_facts hB q0 hq
  have hb0 : ¬ b = 0 := by omega
  generalize roadN p b = x at *
  generalize roadN q b = y at *
  obtain ⟨xk, xa, xb, xt⟩ := x
  obtain ⟨yk, ya, yb, yt⟩ := y
  simp only at e1 e2 e3 Cp Cq
  subst e1 e2
  have f1 : (xb == yb) = false := by simpa using e3
  generalize mostN b = m at *
  clear hB hp hq
  generalize p / b = z at *
  generalize q / b = v at *
  have wz : IntKind.i64.wrap z = z := IntWalk.i64_in _ (by omega)
  have wv : IntKind.i64.wrap v = v := IntWalk.i64_in _ (by omega)
  have zv : (z == v) = false := by simpa using PQ
  have i1 : IntKind.i64.wrap p = p := IntWalk.i64_in _ (by omega)
  have i2 : IntKind.i64.wrap q = q := IntWalk.i64_in _ (by omega)
  go_enter Try.func6, Try.ntmps6
  go_wp2_with fail
  refine (known12_any w).mono ?_
  rintro e w1 ⟨rfl, k1⟩
  have K1 := Lib.hid k1
  clear k1
  go_wp2_with fail
  refine (CG.out _).mono ?_
  rintro e w' ⟨rfl, rfl⟩
  go_wp2_with fail
  refine (CW.out _).mono ?_
  rintro e w' ⟨rfl, rfl⟩
  go_wp2_with fail
  refine (CW.out _).mono ?_
  rintro e w' ⟨rfl, rfl⟩
  go_wp2_with fail
  refine (Cp.out _).mono ?_
  rintro e w2 ⟨rfl, k2⟩
  have K2 := Lib.hid ((K1.out.trans k2).alloc (.cells #[.int .i64 xk, .int .i64 xa, .int .i64 xb, .int .i64 xt] 25))
  have G2 := Lib.hid (Has.new w2 25 #[.int .i64 xk, .int .i64 xa, .int .i64 xb, .int .i64 xt])
  clear k2 K1 Cp
  go_wp2_with fail
  refine (Cq.out _).mono ?_
  rintro e w3 ⟨rfl, k3⟩
  have K3 := Lib.hid ((K2.out.trans k3).alloc (.cells #[.int .i64 xk, .int .i64 xa, .int .i64 yb, .int .i64 yt] 25))
  have G3 := (k3.has G2.out).alloc (.cells #[.int .i64 xk, .int .i64 xa, .int .i64 yb, .int .i64 yt] 25)
  have H3 := Has.new w3 25 #[.int .i64 xk, .int .i64 xa, .int .i64 yb, .int .i64 yt]
  obtain ⟨x0, x1, x2, x3⟩ := G3.cells4
  obtain ⟨y0, y1, y2, y3⟩ := H3.cells4
  clear k3 K2 G2 Cq G3 H3
  go_wp2_with fail
  go_quiet (fail)
  go_wp2
  go_ret
  exact ⟨rfl, K3.out.drewN _⟩
theorem order12_any (p q b : Int) (p0 : 0 ≤ p) (p2 : p < 4294967296) (q0 : 0 ≤ q) (q2 : q < 4294967296) (w : World) : Calls Try.prog 6 #[.int .u32 p, .int .u32 q, .int .i64 b] w fun e w' => e = .returned (.bool true) ∧ Still w w' := by
  by_cases hB : Isb b
  rotate_left
  · exact order12_none p q b hB w
  by_cases hp : p < mostN b
  rotate_left
  · exact order12_far1 p q b p0 p2 hB hp w
  by_cases hq : q < mostN b
  rotate_left
  · exact order12_far2 p q b p0 p2 q0 q2 hB hp hq w
  by_cases e1 : (roadN p b).k = (roadN q b).k
  rotate_left
  · exact order12_near1 p q b p0 p2 q0 q2 hB hp hq e1 w
  by_cases e2 : (roadN p b).a = (roadN q b).a
  rotate_left
  · exact order12_near2 p q b p0 p2 q0 q2 hB hp hq e1 e2 w
  by_cases e3 : (roadN p b).b = (roadN q b).b
  · exact order12_near0 p q b p0 p2 q0 q2 hB hp hq e1 e2 e3 w
  · exact order12_near3 p q b p0 p2 q0 q2 hB hp hq e1 e2 e3 w
end Go.Proofs.Ytddpedodbjibiaa
