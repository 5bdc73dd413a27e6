/-
  DiskSyncs where its lists are too long to be played.
-/
import Derived.Test.YtddllgbficjaoaaLaw7Known
namespace Go.Proofs.Ytddllgbficjaoaa
open Go.RowKit Go.Lib
set_option maxRecDepth 100000

theorem syncs_big (A : Option Addr) (n c : Nat) (A1 : Option Addr) (n1 c1 : Nat) (A2 : Option Addr) (n2 c2 : Nat) (w : World) (h : 40 < n ∨ 40 < n1 ∨ 60 < n2) :
    Calls Try.prog 5 #[.slice A n c, .slice A1 n1 c1, .slice A2 n2 c2] w fun e w' => e = .returned (.bool true) ∧ Below w.heap.size w w' := by
  by_cases h1 : 40 < n
  · have d1 : (40 : Int) < (n : Int) := by omega
    go_enter Try.func5, Try.ntmps5
    go_wp2_with fail
    refine (known7_any w).mono ?_
    rintro e w1 ⟨rfl, k1⟩
    have K1 := Lib.hid k1
    clear k1 h
    go_wp2
    go_ret
    exact ⟨rfl, K1.out⟩
  · have d1 : ¬ (40 : Int) < (n : Int) := by omega
    by_cases h2 : 40 < n1
    · have d2 : (40 : Int) < (n1 : Int) := by omega
      go_enter Try.func5, Try.ntmps5
      go_wp2_with fail
      refine (known7_any w).mono ?_
      rintro e w1 ⟨rfl, k1⟩
      have K1 := Lib.hid k1
      clear k1 h
      go_wp2
      go_ret
      exact ⟨rfl, K1.out⟩
    · have d2 : ¬ (40 : Int) < (n1 : Int) := by omega
      have d3 : (60 : Int) < (n2 : Int) := by omega
      go_enter Try.func5, Try.ntmps5
      go_wp2_with fail
      refine (known7_any w).mono ?_
      rintro e w1 ⟨rfl, k1⟩
      have K1 := Lib.hid k1
      clear k1 h
      go_wp2
      go_ret
      exact ⟨rfl, K1.out⟩
end Go.Proofs.Ytddllgbficjaoaa
