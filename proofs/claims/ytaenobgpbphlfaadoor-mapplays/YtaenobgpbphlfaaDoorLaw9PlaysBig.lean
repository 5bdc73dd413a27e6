/-
  MapPlays: calls that are too many, numbers that are not played, numbers that may not be.
-/
import Derived.Test.YtaenobgpbphlfaaDoorLaw9Known
namespace Go.Proofs.YtaenobgpbphlfaaDoor
open Go.RowKit Go.Lib
set_option maxRecDepth 100000
section
variable (z : Int) (A : Option Addr) (m c : Nat) (w : World) (hT : Tz w)
include hT
set_option maxHeartbeats 1000000 in
theorem plays_big (hm : 80 < m) : Calls Tryd.prog 3 #[.int .i64 z, .slice A m c] w fun e w' => e = .returned (.bool true) ∧ Below w.heap.size w w' := by
  have CK := Lib.hid (known9_any w hT)
  clear hT
  go_enter Tryd.func3, Tryd.ntmps3
  go_wp2_with fail
  refine CK.out.mono ?_
  rintro e w1 ⟨rfl, b1⟩
  have R := Lib.hid b1
  clear b1 CK
  go_wp2
  go_ret
  exact ⟨rfl, R.out⟩
set_option maxHeartbeats 1000000 in
theorem plays_many (hm : m ≤ 80) (h1 : 300 < z) (h2 : z ≤ 65536) : Calls Tryd.prog 3 #[.int .i64 z, .slice A m c] w fun e w' => e = .returned (.bool true) ∧ Below w.heap.size w w' := by
  have CK := Lib.hid (known9_any w hT)
  have d1 : decide ((80 : Int) < (m : Int)) = false := decide_eq_false (by omega)
  clear hT
  go_enter Tryd.func3, Tryd.ntmps3
  go_wp2_with fail
  refine CK.out.mono ?_
  rintro e w1 ⟨rfl, b1⟩
  have R := Lib.hid b1
  clear b1 CK
  go_wp2
  go_ret
  exact ⟨rfl, R.out⟩
set_option maxHeartbeats 1000000 in
theorem plays_arg (hm : m ≤ 80) (hz : z < 1 ∨ 65536 < z) : Calls Tryd.prog 3 #[.int .i64 z, .slice A m c] w fun e w' => e = .returned (.bool true) ∧ Below w.heap.size w w' := by
  have CK := Lib.hid (known9_any w hT)
  have d1 : decide ((80 : Int) < (m : Int)) = false := decide_eq_false (by omega)
  have CN := Lib.hid (fun W => new_no z hz W)
  clear hT
  by_cases h1 : z < 1
  · have d2 : decide ((300 : Int) < z) = false := decide_eq_false (by omega)
    have d3 : decide ((1 : Int) ≤ z) = false := decide_eq_false (by omega)
    clear hz
    go_enter Tryd.func3, Tryd.ntmps3
    go_wp2_with fail
    refine CK.out.mono ?_
    rintro e w1 ⟨rfl, b1⟩
    have R := Lib.hid b1
    have D1 := Lib.hid (CN.out w1)
    clear b1 CK CN
    go_wp2_with fail
    refine D1.out.mono ?_
    rintro e w2 ⟨rfl, rfl⟩
    clear D1
    go_wp2
    go_ret
    exact ⟨rfl, R.out⟩
  · have h2 : 65536 < z := by omega
    have d2 : decide ((300 : Int) < z) = true := decide_eq_true (by omega)
    have d3 : decide ((1 : Int) ≤ z) = true := decide_eq_true (by omega)
    have d4 : decide (z ≤ (65536 : Int)) = false := decide_eq_false (by omega)
    clear hz
    go_enter Tryd.func3, Tryd.ntmps3
    go_wp2_with fail
    refine CK.out.mono ?_
    rintro e w1 ⟨rfl, b1⟩
    have R := Lib.hid b1
    have D1 := Lib.hid (CN.out w1)
    clear b1 CK CN
    go_wp2_with fail
    refine D1.out.mono ?_
    rintro e w2 ⟨rfl, rfl⟩
    clear D1
    go_wp2
    go_ret
    exact ⟨rfl, R.out⟩
end
end Go.Proofs.YtaenobgpbphlfaaDoor
