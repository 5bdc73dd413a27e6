/-
  Layer 12's own functions: good, most, tables, known; roads and places, there and back.
-/
import Derived.Test.YtddpedodbjibiaaBlkF
namespace Go.Proofs.Ytddpedodbjibiaa
open Go.RowKit Go.Lib
set_option maxRecDepth 100000

/-! ### there and back -/
theorem mostN_of {b : Int} (h : Isb b) : (b = 64 ∧ mostN b = 17920) ∨ (b = 128 ∧ mostN b = 136192) ∨ (b = 256 ∧ mostN b = 1067008) ∨ (b = 512 ∧ mostN b = 8458240) ∨ (b = 1024 ∧ mostN b = 67379200) := by
  rcases h with rfl | rfl | rfl | rfl | rfl
  · exact .inl ⟨rfl, by decide⟩
  · exact .inr (.inl ⟨rfl, by decide⟩)
  · exact .inr (.inr (.inl ⟨rfl, by decide⟩))
  · exact .inr (.inr (.inr (.inl ⟨rfl, by decide⟩)))
  · exact .inr (.inr (.inr (.inr ⟨rfl, by decide⟩)))
/-- A place's road is a road, and leads back. -/
theorem road_back {o b : Int} (h : Isb b) (h0 : 0 ≤ o) (h1 : o < mostN b) : RoadOk (roadN o b) b ∧ numN (roadN o b) (b / 4) * b + (roadN o b).t = o := by
  refine ⟨⟨h, ?_⟩, ?_⟩
  · rcases mostN_of h with ⟨rfl, e⟩ | ⟨rfl, e⟩ | ⟨rfl, e⟩ | ⟨rfl, e⟩ | ⟨rfl, e⟩
    all_goals
      rw [e] at h1
      unfold roadN NumOk
      split
      · dsimp only
        omega
      · split
        · dsimp only
          omega
        · dsimp only
          omega
  · rcases mostN_of h with ⟨rfl, e⟩ | ⟨rfl, e⟩ | ⟨rfl, e⟩ | ⟨rfl, e⟩ | ⟨rfl, e⟩
    all_goals
      rw [e] at h1
      unfold roadN numN
      split
      · simp
        omega
      · split
        · simp
          omega
        · simp
          omega
/-- A road's place can be reached, and has this road. -/
theorem back_road {r : R4} {b : Int} (h : RoadOk r b) : 0 ≤ numN r (b / 4) * b + r.t ∧ numN r (b / 4) * b + r.t < mostN b ∧ roadN (numN r (b / 4) * b + r.t) b = r := by
  obtain ⟨hB, hN, t0, t1⟩ := h
  obtain ⟨k, x, y, t⟩ := r
  unfold NumOk at hN
  dsimp only at hN t0 t1
  rcases hN with ⟨rfl, hx0, hx1, hy0, hy1⟩ | ⟨rfl, hx0, hx1, hy0, hy1⟩ | ⟨rfl, hx0, hx1, hy0, hy1⟩
  · obtain rfl : y = 0 := by omega
    show 0 ≤ x * b + t ∧ x * b + t < mostN b ∧ roadN (x * b + t) b = ⟨1, x, 0, t⟩
    unfold roadN
    rcases mostN_of hB with ⟨rfl, e⟩ | ⟨rfl, e⟩ | ⟨rfl, e⟩ | ⟨rfl, e⟩ | ⟨rfl, e⟩
    all_goals
      rw [e]
      refine ⟨by omega, by omega, ?_⟩
      rw [if_pos (by omega)]
      congr 1 <;> omega
  · obtain rfl : y = 0 := by omega
    show 0 ≤ (8 + x) * b + t ∧ (8 + x) * b + t < mostN b ∧ roadN ((8 + x) * b + t) b = ⟨2, x, 0, t⟩
    unfold roadN
    rcases mostN_of hB with ⟨rfl, e⟩ | ⟨rfl, e⟩ | ⟨rfl, e⟩ | ⟨rfl, e⟩ | ⟨rfl, e⟩
    all_goals
      rw [e]
      refine ⟨by omega, by omega, ?_⟩
      rw [if_neg (by omega), if_pos (by omega)]
      congr 1 <;> omega
  · show 0 ≤ (8 + b / 4 + x * (b / 4) + y) * b + t ∧ (8 + b / 4 + x * (b / 4) + y) * b + t < mostN b ∧ roadN ((8 + b / 4 + x * (b / 4) + y) * b + t) b = ⟨3, x, y, t⟩
    unfold roadN
    rcases mostN_of hB with ⟨rfl, e⟩ | ⟨rfl, e⟩ | ⟨rfl, e⟩ | ⟨rfl, e⟩ | ⟨rfl, e⟩
    all_goals
      rw [e]
      refine ⟨by omega, by omega, ?_⟩
      rw [if_neg (by omega), if_neg (by omega)]
      congr 1 <;> omega

/-! ### the law's own -/
set_option maxHeartbeats 1000000 in
theorem good12_yes {b : Int} (h : Isb b) (w : World) : Calls Try.prog 11 #[.int .i64 b] w fun e w' => e = .returned (.bool true) ∧ w = w' := by
  rcases h with rfl | rfl | rfl | rfl | rfl
  all_goals
    go_enter Try.func11, Try.ntmps11
    go_wp2
    refine wp_loop_rounds 6 ?_
    repeat (rw [rounds_succ]; go_wp2)
    go_ret
    exact ⟨rfl, rfl⟩
set_option maxHeartbeats 1000000 in
theorem good12_no {b : Int} (h : ¬ Isb b) (w : World) : Calls Try.prog 11 #[.int .i64 b] w fun e w' => e = .returned (.bool false) ∧ w = w' := by
  have e1 : (64 == b) = false := by simpa using fun e => h (.inl e.symm)
  have e2 : (128 == b) = false := by simpa using fun e => h (.inr (.inl e.symm))
  have e3 : (256 == b) = false := by simpa using fun e => h (.inr (.inr (.inl e.symm)))
  have e4 : (512 == b) = false := by simpa using fun e => h (.inr (.inr (.inr (.inl e.symm))))
  have e5 : (1024 == b) = false := by simpa using fun e => h (.inr (.inr (.inr (.inr e.symm))))
  have n1 : ¬ 64 = b := by simpa using e1
  have n2 : ¬ 128 = b := by simpa using e2
  have n3 : ¬ 256 = b := by simpa using e3
  have n4 : ¬ 512 = b := by simpa using e4
  have n5 : ¬ 1024 = b := by simpa using e5
  clear h
  go_enter Try.func11, Try.ntmps11
  go_wp2
  refine wp_loop_rounds 6 ?_
  repeat (rw [rounds_succ]; go_wp2)
  go_ret
  exact ⟨rfl, rfl⟩
theorem most12_any (b : Int) (w : World) : Calls Try.prog 10 #[.int .i64 b] w fun e w' => e = .returned (.int .u64 (mostN b)) ∧ w = w' := by
  by_cases h : Isb b
  · have C1 : Hid (∀ W, Calls Try.prog 11 #[.int .i64 b] W fun e w' => e = .returned (.bool true) ∧ W = w') := Lib.hid (good12_yes h)
    rcases mostN_of h with ⟨rfl, e⟩ | ⟨rfl, e⟩ | ⟨rfl, e⟩ | ⟨rfl, e⟩ | ⟨rfl, e⟩
    all_goals
      rw [e]
      go_enter Try.func10, Try.ntmps10
      go_wp2_with fail
      refine (C1.out _).mono ?_
      rintro e w' ⟨rfl, rfl⟩
      go_wp2
      go_ret
      exact ⟨rfl, rfl⟩
  · have C1 : Hid (∀ W, Calls Try.prog 11 #[.int .i64 b] W fun e w' => e = .returned (.bool false) ∧ W = w') := Lib.hid (good12_no h)
    rw [mostN_none h]
    clear h
    go_enter Try.func10, Try.ntmps10
    go_wp2_with fail
    refine (C1.out _).mono ?_
    rintro e w' ⟨rfl, rfl⟩
    go_wp2
    go_ret
    exact ⟨rfl, rfl⟩
theorem known12_f1 : findR 70 64 = ⟨1, 1, 0, 6⟩ := by kernel_rfl
theorem known12_e1 : findE 70 64 = 0 := by kernel_rfl
theorem known12_f2 : findR 1601 64 = ⟨3, 0, 1, 1⟩ := by kernel_rfl
theorem known12_e2 : findE 1601 64 = 0 := by kernel_rfl
theorem known12_b1 : backO ⟨3, 0, 1, 1⟩ 64 = 1601 := by kernel_rfl
theorem known12_b2 : backE ⟨3, 0, 1, 1⟩ 64 = 0 := by kernel_rfl
theorem known12_t1 : tabN 513 64 = 1 := by kernel_rfl
set_option maxHeartbeats 2000000 in
theorem known12_any (w : World) : Calls Try.prog 7 #[] w fun e w' => e = .returned (.bool true) ∧ Still w w' := by
  have C1 : Hid (∀ W, Calls Try.prog 8 #[.int .u64 70, .int .i64 64] W fun e w' => e = .returned (.tuple #[.agg #[.int .i64 1, .int .i64 1, .int .i64 0, .int .i64 6], .int .i64 0]) ∧ Still W w') := Lib.hid (fun W => by
    have := bfind_any 70 64 (by decide) W
    rw [known12_f1, known12_e1] at this
    exact this)
  have C2 : Hid (∀ W, Calls Try.prog 8 #[.int .u64 1601, .int .i64 64] W fun e w' => e = .returned (.tuple #[.agg #[.int .i64 3, .int .i64 0, .int .i64 1, .int .i64 1], .int .i64 0]) ∧ Still W w') := Lib.hid (fun W => by
    have := bfind_any 1601 64 (by decide) W
    rw [known12_f2, known12_e2] at this
    exact this)
  have C3 : Hid (∀ W, Calls Try.prog 12 #[.agg #[.int .i64 3, .int .i64 0, .int .i64 1, .int .i64 1], .int .i64 64] W fun e w' => e = .returned (.tuple #[.int .u64 1601, .int .i64 0]) ∧ Still W w') := Lib.hid (fun W => by
    have := bback_any ⟨3, 0, 1, 1⟩ 64 W
    rw [known12_b1, known12_b2] at this
    exact this)
  have C4 : Hid (∀ W, Calls Try.prog 9 #[.int .i64 64] W fun e w' => e = .returned (.int .u64 17920) ∧ W = w') := Lib.hid (fun W => bmost_any 64 W)
  have C5 : Hid (∀ W, Calls Try.prog 13 #[.int .u64 513, .int .i64 64] W fun e w' => e = .returned (.int .i64 1) ∧ Still W w') := Lib.hid (fun W => by
    have := btables_any 513 64 (by decide) W
    rw [known12_t1] at this
    exact this)
  go_enter Try.func7, Try.ntmps7
  go_wp2_with fail
  refine (C1.out _).mono ?_
  rintro e w1 ⟨rfl, k1⟩
  have K1 := Lib.hid (k1.alloc (.cells #[.int .i64 1, .int .i64 1, .int .i64 0, .int .i64 6] 25))
  have G1 := Lib.hid (Has.new w1 25 #[.int .i64 1, .int .i64 1, .int .i64 0, .int .i64 6])
  clear k1 C1
  go_wp2_with fail
  refine (C2.out _).mono ?_
  rintro e w2 ⟨rfl, k2⟩
  have K2 := Lib.hid ((K1.out.trans k2).alloc (.cells #[.int .i64 3, .int .i64 0, .int .i64 1, .int .i64 1] 25))
  have G2 := Lib.hid ((k2.has G1.out).alloc (.cells #[.int .i64 3, .int .i64 0, .int .i64 1, .int .i64 1] 25))
  have H2 := Lib.hid (Has.new w2 25 #[.int .i64 3, .int .i64 0, .int .i64 1, .int .i64 1])
  clear k2 C2 K1 G1
  go_wp2_with fail
  refine (C3.out _).mono ?_
  rintro e w3 ⟨rfl, k3⟩
  have K3 := Lib.hid (K2.out.trans k3)
  obtain ⟨x0, x1, x2, x3⟩ := (k3.has G2.out).cells4
  obtain ⟨y0, y1, y2, y3⟩ := (k3.has H2.out).cells4
  clear k3 C3 K2 G2 H2
  go_wp2_with fail
  refine (C4.out _).mono ?_
  rintro e w' ⟨rfl, rfl⟩
  go_wp2_with fail
  refine (C5.out _).mono ?_
  rintro e w4 ⟨rfl, k4⟩
  have K4 := Lib.hid (K3.out.trans k4)
  clear k4 K3 C5 C4 x0 x1 x2 x3 y0 y1 y2 y3
  go_wp2
  go_ret
  exact ⟨rfl, K4.out⟩
end Go.Proofs.Ytddpedodbjibiaa
