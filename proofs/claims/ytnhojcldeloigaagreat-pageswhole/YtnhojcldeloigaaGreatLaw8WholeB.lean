/-
  PagesWhole: rows that are too long.
-/
import Derived.Test.YtnhojcldeloigaaGreatPagesX
namespace Go.Proofs.YtnhojcldeloigaaGreat
open Go.RowKit Go.Lib Go.Maps
set_option maxRecDepth 100000
set_option maxHeartbeats 1000000 in
theorem whole_big (n : Int) (A Ak : Option Addr) (m c mk ck : Nat) (w : World) (h : 20 < m ∨ 60 < mk) : Calls Tryz.prog 6 #[.int .u8 n, .slice A m c, .slice Ak mk ck] w fun e w' => e = .returned (.bool true) ∧ Below w.heap.size w w' := by
  have CK := Lib.hid (known8_any w)
  by_cases h1 : 20 < m
  · have i1 : (20 : Int) < (m : Int) := by omega
    clear h h1
    go_enter Tryz.func6, Tryz.ntmps6
    go_wp2_with fail
    refine CK.out.mono ?_
    rintro e w1 ⟨rfl, b1⟩
    have R := Lib.hid b1
    clear b1
    go_wp2
    go_ret
    exact ⟨rfl, R.out⟩
  · have d1 : decide ((20 : Int) < (m : Int)) = false := decide_eq_false (by omega)
    have i2 : (60 : Int) < (mk : Int) := by omega
    clear h h1
    go_enter Tryz.func6, Tryz.ntmps6
    go_wp2_with fail
    refine CK.out.mono ?_
    rintro e w1 ⟨rfl, b1⟩
    have R := Lib.hid b1
    clear b1
    go_wp2
    go_ret
    exact ⟨rfl, R.out⟩
end Go.Proofs.YtnhojcldeloigaaGreat
