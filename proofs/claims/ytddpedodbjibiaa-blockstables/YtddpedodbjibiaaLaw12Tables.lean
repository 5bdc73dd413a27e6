/-
  BlocksTables: how many tables a file of any size has.
-/
import Derived.Test.YtddpedodbjibiaaLaw12Known
namespace Go.Proofs.Ytddpedodbjibiaa
open Go.RowKit Go.Lib
set_option maxRecDepth 100000

/-- The law's own count: n blocks, a table names t. -/
def tabL (n t : Int) : Int := if n ≤ 8 then 0 else if n ≤ 8 + t then 1 else 2 + (n - 8 - 1) / t
set_option maxHeartbeats 1000000 in
theorem tables12_fn {n b : Int} (hB : Isb b) (h0 : 0 ≤ n) (h1 : n ≤ 65800) (w : World) : Calls Try.prog 14 #[.int .i64 n, .int .i64 b] w fun e w' => e = .returned (.int .i64 (tabL n (b / 4))) ∧ w = w' := by
  obtain ⟨t0, t1, _⟩ := most_b hB
  obtain ⟨b0, b1⟩ := hB.range
  have tn : b.tdiv 4 = b / 4 := Int.tdiv_eq_ediv_of_nonneg (by omega)
  unfold tabL
  generalize b / 4 = t at *
  clear hB
  by_cases k1 : n ≤ 8
  · have d1 : decide (n ≤ 8) = true := decide_eq_true k1
    rw [if_pos k1]
    go_enter Try.func14, Try.ntmps14
    go_wp2
    go_ret
    exact ⟨rfl, rfl⟩
  · have d1 : decide (n ≤ 8) = false := decide_eq_false k1
    rw [if_neg k1]
    by_cases k2 : n ≤ 8 + t
    · have d2 : decide (n ≤ 8 + t) = true := decide_eq_true k2
      rw [if_pos k2]
      go_enter Try.func14, Try.ntmps14
      go_wp2
      go_ret
      exact ⟨rfl, rfl⟩
    · have d2 : decide (n ≤ 8 + t) = false := decide_eq_false k2
      rw [if_neg k2]
      have ht : ¬ t = 0 := by omega
      have u0 : (n - 8 - 1).tdiv t = (n - 8 - 1) / t := Int.tdiv_eq_ediv_of_nonneg (by omega)
      have u1 : 0 ≤ (n - 8 - 1) / t := Int.ediv_nonneg (by omega) (by omega)
      have u2 : (n - 8 - 1) / t ≤ 65800 := Int.le_trans (Int.ediv_le_self _ (by omega)) (by omega)
      generalize (n - 8 - 1) / t = u at *
      go_enter Try.func14, Try.ntmps14
      go_wp2
      go_ret
      exact ⟨rfl, rfl⟩
/-- Both counts are one. -/
theorem tab_two {x b : Int} (hB : Isb b) (h0 : 0 ≤ x) (h1 : x ≤ mostN b) : tabL ((x + b - 1) / b) (b / 4) = if x = 0 then 0 else tabR (roadN (x - 1) b) := by
  unfold tabL tabR roadN
  rcases mostN_of hB with ⟨rfl, e⟩ | ⟨rfl, e⟩ | ⟨rfl, e⟩ | ⟨rfl, e⟩ | ⟨rfl, e⟩
  · rw [e] at h1
    by_cases hx : x = 0
    · subst hx
      decide
    · rw [if_neg hx]
      by_cases k1 : (x - 1) / 64 < 8
      · rw [if_pos k1, if_pos (by omega)]
        simp
      · rw [if_neg k1]
        by_cases k2 : (x - 1) / 64 < 8 + 64 / 4
        · rw [if_pos k2, if_neg (by omega), if_pos (by omega)]
          simp
        · rw [if_neg k2, if_neg (by omega), if_neg (by omega)]
          simp
          omega
  · rw [e] at h1
    by_cases hx : x = 0
    · subst hx
      decide
    · rw [if_neg hx]
      by_cases k1 : (x - 1) / 128 < 8
      · rw [if_pos k1, if_pos (by omega)]
        simp
      · rw [if_neg k1]
        by_cases k2 : (x - 1) / 128 < 8 + 128 / 4
        · rw [if_pos k2, if_neg (by omega), if_pos (by omega)]
          simp
        · rw [if_neg k2, if_neg (by omega), if_neg (by omega)]
          simp
          omega
  · rw [e] at h1
    by_cases hx : x = 0
    · subst hx
      decide
    · rw [if_neg hx]
      by_cases k1 : (x - 1) / 256 < 8
      · rw [if_pos k1, if_pos (by omega)]
        simp
      · rw [if_neg k1]
        by_cases k2 : (x - 1) / 256 < 8 + 256 / 4
        · rw [if_pos k2, if_neg (by omega), if_pos (by omega)]
          simp
        · rw [if_neg k2, if_neg (by omega), if_neg (by omega)]
          simp
          omega
  · rw [e] at h1
    by_cases hx : x = 0
    · subst hx
      decide
    · rw [if_neg hx]
      by_cases k1 : (x - 1) / 512 < 8
      · rw [if_pos k1, if_pos (by omega)]
        simp
      · rw [if_neg k1]
        by_cases k2 : (x - 1) / 512 < 8 + 512 / 4
        · rw [if_pos k2, if_neg (by omega), if_pos (by omega)]
          simp
        · rw [if_neg k2, if_neg (by omega), if_neg (by omega)]
          simp
          omega
  · rw [e] at h1
    by_cases hx : x = 0
    · subst hx
      decide
    · rw [if_neg hx]
      by_cases k1 : (x - 1) / 1024 < 8
      · rw [if_pos k1, if_pos (by omega)]
        simp
      · rw [if_neg k1]
        by_cases k2 : (x - 1) / 1024 < 8 + 1024 / 4
        · rw [if_pos k2, if_neg (by omega), if_pos (by omega)]
          simp
        · rw [if_neg k2, if_neg (by omega), if_neg (by omega)]
          simp
          omega
theorem topN_none {s b : Int} (hB : ¬ Isb b) (h0 : 0 ≤ s) : tabN s b = 0 := by
  unfold tabN topN
  rw [mostN_none hB]
  exact if_pos (by split <;> omega)
theorem cnt_range {x b : Int} (hB : Isb b) (h0 : 0 ≤ x) (h1 : x ≤ mostN b) : 0 ≤ (x + b - 1) / b ∧ (x + b - 1) / b ≤ 65800 := by
  rcases mostN_of hB with ⟨rfl, e⟩ | ⟨rfl, e⟩ | ⟨rfl, e⟩ | ⟨rfl, e⟩ | ⟨rfl, e⟩
  all_goals
    rw [e] at h1
    omega
set_option maxHeartbeats 1000000 in
theorem tables12_none (s b : Int) (h0 : 0 ≤ s) (hB : ¬ Isb b) (w : World) : Calls Try.prog 5 #[.int .u64 s, .int .i64 b] w fun e w' => e = .returned (.bool true) ∧ Still w w' := by
  have CT : Hid (∀ W, Calls Try.prog 13 #[.int .u64 s, .int .i64 b] W fun e w' => e = .returned (.int .i64 0) ∧ Still W w') := Lib.hid (fun W => by
    have := btables_any s b h0 W
    rw [topN_none hB h0] at this
    exact this)
  have CG : Hid (∀ W, Calls Try.prog 11 #[.int .i64 b] W fun e w' => e = .returned (.bool false) ∧ W = w') := Lib.hid (good12_no hB)
  clear hB h0
  go_enter Try.func5, Try.ntmps5
  go_wp2_with fail
  refine (known12_any w).mono ?_
  rintro e w1 ⟨rfl, k1⟩
  have K1 := Lib.hid k1
  clear k1
  go_wp2_with fail
  refine (CT.out _).mono ?_
  rintro e w2 ⟨rfl, k2⟩
  have K2 := Lib.hid (K1.out.trans k2)
  clear k2 K1 CT
  go_wp2_with fail
  refine (CG.out _).mono ?_
  rintro e w' ⟨rfl, rfl⟩
  go_wp2
  go_ret
  exact ⟨rfl, K2.out⟩
set_option maxHeartbeats 1000000 in
theorem tables12_far (s b : Int) (h0 : 0 ≤ s) (hB : Isb b) (hm : mostN b < s) (w : World) : Calls Try.prog 5 #[.int .u64 s, .int .i64 b] w fun e w' => e = .returned (.bool true) ∧ Still w w' := by
  have ht : topN s b = mostN b := if_pos hm
  obtain ⟨t0, t1, t2⟩ := topN_range s b h0
  rw [ht] at t0 t1 t2
  have E : tabN s b = tabL ((mostN b + b - 1) / b) (b / 4) := by
    rw [tab_two hB t0 t1]
    unfold tabN
    rw [ht]
  obtain ⟨c0, c1⟩ := cnt_range hB t0 t1
  have CT : Hid (∀ W, Calls Try.prog 13 #[.int .u64 s, .int .i64 b] W fun e w' => e = .returned (.int .i64 (tabL ((mostN b + b - 1) / b) (b / 4))) ∧ Still W w') := Lib.hid (fun W => by
    have := btables_any s b h0 W
    rw [E] at this
    exact this)
  have CG : Hid (∀ W, Calls Try.prog 11 #[.int .i64 b] W fun e w' => e = .returned (.bool true) ∧ W = w') := Lib.hid (good12_yes hB)
  have CW : Hid (∀ W, Calls Try.prog 10 #[.int .i64 b] W fun e w' => e = .returned (.int .u64 (mostN b)) ∧ W = w') := Lib.hid (most12_any b)
  have CL : Hid (∀ W, Calls Try.prog 14 #[.int .i64 ((mostN b + b - 1) / b), .int .i64 b] W fun e w' => e = .returned (.int .i64 (tabL ((mostN b + b - 1) / b) (b / 4))) ∧ W = w') := Lib.hid (tables12_fn hB c0 c1)
  obtain ⟨b0, b1⟩ := hB.range
  have w0 : IntKind.u64.wrap b = b := IntWalk.u64_in _ (by omega)
  have hb0 : ¬ b = 0 := by omega
  have q0 : (mostN b + b - 1).tdiv b = (mostN b + b - 1) / b := Int.tdiv_eq_ediv_of_nonneg (by omega)
  have dm : decide (mostN b < s) = true := decide_eq_true hm
  generalize tabL ((mostN b + b - 1) / b) (b / 4) = r at *
  clear hB E ht h0
  generalize mostN b = m at *
  have hw1 : IntKind.u64.wrap (m + b) = m + b := IntWalk.u64_in _ (by omega)
  have hw2 : IntKind.u64.wrap (m + b - 1) = m + b - 1 := IntWalk.u64_in _ (by omega)
  generalize (m + b - 1) / b = c at *
  have hw3 : IntKind.u64.wrap c = c := IntWalk.u64_in _ (by omega)
  go_enter Try.func5, Try.ntmps5
  go_wp2_with fail
  refine (known12_any w).mono ?_
  rintro e w1 ⟨rfl, k1⟩
  have K1 := Lib.hid k1
  clear k1
  go_wp2_with fail
  refine (CT.out _).mono ?_
  rintro e w2 ⟨rfl, k2⟩
  have K2 := Lib.hid (K1.out.trans k2)
  clear k2 K1 CT
  go_wp2_with fail
  refine (CG.out _).mono ?_
  rintro e w' ⟨rfl, rfl⟩
  go_wp2_with fail
  refine (CW.out _).mono ?_
  rintro e w' ⟨rfl, rfl⟩
  go_wp2_with fail
  refine (CW.out _).mono ?_
  rintro e w' ⟨rfl, rfl⟩
  go_wp2_with fail
  refine (CL.out _).mono ?_
  rintro e w' ⟨rfl, rfl⟩
  go_wp2
  go_ret
  exact ⟨rfl, K2.out⟩
set_option maxHeartbeats 1000000 in
theorem tables12_near (s b : Int) (h0 : 0 ≤ s) (hB : Isb b) (hm : ¬ mostN b < s) (w : World) : Calls Try.prog 5 #[.int .u64 s, .int .i64 b] w fun e w' => e = .returned (.bool true) ∧ Still w w' := by
  have ht : topN s b = s := if_neg hm
  obtain ⟨t0, t1, t2⟩ := topN_range s b h0
  rw [ht] at t0 t1 t2
  have E : tabN s b = tabL ((s + b - 1) / b) (b / 4) := by
    rw [tab_two hB t0 t1]
    unfold tabN
    rw [ht]
  obtain ⟨c0, c1⟩ := cnt_range hB t0 t1
  have CT : Hid (∀ W, Calls Try.prog 13 #[.int .u64 s, .int .i64 b] W fun e w' => e = .returned (.int .i64 (tabL ((s + b - 1) / b) (b / 4))) ∧ Still W w') := Lib.hid (fun W => by
    have := btables_any s b h0 W
    rw [E] at this
    exact this)
  have CG : Hid (∀ W, Calls Try.prog 11 #[.int .i64 b] W fun e w' => e = .returned (.bool true) ∧ W = w') := Lib.hid (good12_yes hB)
  have CW : Hid (∀ W, Calls Try.prog 10 #[.int .i64 b] W fun e w' => e = .returned (.int .u64 (mostN b)) ∧ W = w') := Lib.hid (most12_any b)
  have CL : Hid (∀ W, Calls Try.prog 14 #[.int .i64 ((s + b - 1) / b), .int .i64 b] W fun e w' => e = .returned (.int .i64 (tabL ((s + b - 1) / b) (b / 4))) ∧ W = w') := Lib.hid (tables12_fn hB c0 c1)
  obtain ⟨b0, b1⟩ := hB.range
  have w0 : IntKind.u64.wrap b = b := IntWalk.u64_in _ (by omega)
  have hb0 : ¬ b = 0 := by omega
  have q0 : (s + b - 1).tdiv b = (s + b - 1) / b := Int.tdiv_eq_ediv_of_nonneg (by omega)
  have dm : decide (mostN b < s) = false := decide_eq_false hm
  generalize tabL ((s + b - 1) / b) (b / 4) = r at *
  clear hB E ht h0
  generalize mostN b = m at *
  have hw1 : IntKind.u64.wrap (s + b) = s + b := IntWalk.u64_in _ (by omega)
  have hw2 : IntKind.u64.wrap (s + b - 1) = s + b - 1 := IntWalk.u64_in _ (by omega)
  generalize (s + b - 1) / b = c at *
  have hw3 : IntKind.u64.wrap c = c := IntWalk.u64_in _ (by omega)
  go_enter Try.func5, Try.ntmps5
  go_wp2_with fail
  refine (known12_any w).mono ?_
  rintro e w1 ⟨rfl, k1⟩
  have K1 := Lib.hid k1
  clear k1
  go_wp2_with fail
  refine (CT.out _).mono ?_
  rintro e w2 ⟨rfl, k2⟩
  have K2 := Lib.hid (K1.out.trans k2)
  clear k2 K1 CT
  go_wp2_with fail
  refine (CG.out _).mono ?_
  rintro e w' ⟨rfl, rfl⟩
  go_wp2_with fail
  refine (CW.out _).mono ?_
  rintro e w' ⟨rfl, rfl⟩
  go_wp2_with fail
  refine (CL.out _).mono ?_
  rintro e w' ⟨rfl, rfl⟩
  go_wp2
  go_ret
  exact ⟨rfl, K2.out⟩
theorem tables12_any (s b : Int) (h0 : 0 ≤ s) (w : World) : Calls Try.prog 5 #[.int .u64 s, .int .i64 b] w fun e w' => e = .returned (.bool true) ∧ Still w w' := by
  by_cases hB : Isb b
  · by_cases hm : mostN b < s
    · exact tables12_far s b h0 hB hm w
    · exact tables12_near s b h0 hB hm w
  · exact tables12_none s b h0 hB w
end Go.Proofs.Ytddpedodbjibiaa
