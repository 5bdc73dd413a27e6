/-
  DiskPlays where nothing is played: too many calls or sectors, or a shape that may not be.
-/
import Derived.Test.YtddllgbficjaoaaLaw7Known
namespace Go.Proofs.Ytddllgbficjaoaa
open Go.RowKit Go.Lib
set_option maxRecDepth 100000

theorem plays_big (n z : Int) (A : Option Addr) (l c : Nat) (w : World) (h : 60 < l ∨ (50 < n ∧ n ≤ 16384)) :
    Calls Try.prog 3 #[.int .i64 n, .int .i64 z, .slice A l c] w fun e w' => e = .returned (.bool true) ∧ Below w.heap.size w w' := by
  by_cases h1 : 60 < l
  · have d1 : (60 : Int) < (l : Int) := by omega
    have d2 : decide (60 < l) = true := decide_eq_true h1
    go_enter Try.func3, Try.ntmps3
    go_wp2_with fail
    refine (known7_any w).mono ?_
    rintro e w1 ⟨rfl, k1⟩
    have K1 := Lib.hid k1
    clear k1 h
    go_wp2
    go_ret
    exact ⟨rfl, K1.out⟩
  · have d1 : ¬ (60 : Int) < (l : Int) := by omega
    have d2 : decide (60 < l) = false := decide_eq_false h1
    have d3 : 50 < n := by omega
    have d4 : n ≤ 16384 := by omega
    have d5 : decide (50 < n) = true := decide_eq_true d3
    have d6 : decide (n ≤ 16384) = true := decide_eq_true d4
    go_enter Try.func3, Try.ntmps3
    go_wp2_with fail
    refine (known7_any w).mono ?_
    rintro e w1 ⟨rfl, k1⟩
    have K1 := Lib.hid k1
    clear k1 h
    go_wp2
    go_ret
    exact ⟨rfl, K1.out⟩

theorem plays_not (n z : Int) (A : Option Addr) (l c : Nat) (w : World) (h1 : ¬ 60 < l) (h2 : ¬ (50 < n ∧ n ≤ 16384)) (hm : mayB n z = false) :
    Calls Try.prog 3 #[.int .i64 n, .int .i64 z, .slice A l c] w fun e w' => e = .returned (.bool true) ∧ Below w.heap.size w w' := by
  have hno : ¬ (1 ≤ n ∧ n ≤ 16384 ∧ 64 ≤ z ∧ z ≤ 1024) := of_decide_eq_false hm
  have HM := Lib.hid hm
  have d1 : ¬ (60 : Int) < (l : Int) := by omega
  have d2 : decide (60 < l) = false := decide_eq_false h1
  clear hm h1
  by_cases c1 : n < 1
  · have e1 : ¬ (50 < n) := by omega
    have e2 : decide (50 < n) = false := decide_eq_false e1
    have e3 : decide (1 ≤ n) = false := decide_eq_false (by omega)
    have e4 : ¬ (1 ≤ n) := by omega
    clear hno h2 c1
    
    go_enter Try.func3, Try.ntmps3
    go_wp2_with fail
    refine (known7_any w).mono ?_
    rintro e w1 ⟨rfl, k1⟩
    have K1 := Lib.hid k1
    clear k1
    go_wp2_with fail
    refine (disknew_any n z w1).mono ?_
    intro e w2 hN
    rw [NewAns, if_neg (by rw [HM.out]; decide)] at hN
    obtain ⟨rfl, rfl⟩ := hN
    go_wp2
    go_ret
    exact ⟨rfl, K1.out⟩
  · by_cases c2 : 16384 < n
    · have e1 : 50 < n := by omega
      have e2 : decide (50 < n) = true := decide_eq_true e1
      have e3 : decide (1 ≤ n) = true := decide_eq_true (by omega)
      have e4 : 1 ≤ n := by omega
      have e5 : decide (n ≤ 16384) = false := decide_eq_false (by omega)
      have e6 : ¬ (n ≤ 16384) := by omega
      clear hno h2 c1 c2
      
      go_enter Try.func3, Try.ntmps3
      go_wp2_with fail
      refine (known7_any w).mono ?_
      rintro e w1 ⟨rfl, k1⟩
      have K1 := Lib.hid k1
      clear k1
      go_wp2_with fail
      refine (disknew_any n z w1).mono ?_
      intro e w2 hN
      rw [NewAns, if_neg (by rw [HM.out]; decide)] at hN
      obtain ⟨rfl, rfl⟩ := hN
      go_wp2
      go_ret
      exact ⟨rfl, K1.out⟩
    · by_cases c3 : z < 64
      · have e1 : ¬ (50 < n) := by omega
        have e2 : decide (50 < n) = false := decide_eq_false e1
        have e3 : decide (1 ≤ n) = true := decide_eq_true (by omega)
        have e4 : 1 ≤ n := by omega
        have e5 : decide (n ≤ 16384) = true := decide_eq_true (by omega)
        have e6 : n ≤ 16384 := by omega
        have e7 : decide (64 ≤ z) = false := decide_eq_false (by omega)
        have e8 : ¬ (64 ≤ z) := by omega
        clear hno h2 c1 c2 c3
        
        go_enter Try.func3, Try.ntmps3
        go_wp2_with fail
        refine (known7_any w).mono ?_
        rintro e w1 ⟨rfl, k1⟩
        have K1 := Lib.hid k1
        clear k1
        go_wp2_with fail
        refine (disknew_any n z w1).mono ?_
        intro e w2 hN
        rw [NewAns, if_neg (by rw [HM.out]; decide)] at hN
        obtain ⟨rfl, rfl⟩ := hN
        go_wp2
        go_ret
        exact ⟨rfl, K1.out⟩
      · have e1 : ¬ (50 < n) := by omega
        have e2 : decide (50 < n) = false := decide_eq_false e1
        have e3 : decide (1 ≤ n) = true := decide_eq_true (by omega)
        have e4 : 1 ≤ n := by omega
        have e5 : decide (n ≤ 16384) = true := decide_eq_true (by omega)
        have e6 : n ≤ 16384 := by omega
        have e7 : decide (64 ≤ z) = true := decide_eq_true (by omega)
        have e8 : 64 ≤ z := by omega
        have e9 : decide (z ≤ 1024) = false := decide_eq_false (by omega)
        have e10 : ¬ (z ≤ 1024) := by omega
        clear hno h2 c1 c2 c3
        
        go_enter Try.func3, Try.ntmps3
        go_wp2_with fail
        refine (known7_any w).mono ?_
        rintro e w1 ⟨rfl, k1⟩
        have K1 := Lib.hid k1
        clear k1
        go_wp2_with fail
        refine (disknew_any n z w1).mono ?_
        intro e w2 hN
        rw [NewAns, if_neg (by rw [HM.out]; decide)] at hN
        obtain ⟨rfl, rfl⟩ := hN
        go_wp2
        go_ret
        exact ⟨rfl, K1.out⟩
end Go.Proofs.Ytddllgbficjaoaa
