/-
  EntryPlays, whole: what is too long is not played.
-/
import Derived.Test.YtkhgaolaaiekjaaDoorLaw13Plays
namespace Go.Proofs.YtkhgaolaaiekjaaDoor
open Go.RowKit Go.Lib
set_option maxRecDepth 100000

set_option maxHeartbeats 2000000 in
theorem plays13_any (HE : EncSpec) (HD : DecSpec) (HP : PutSpec) (HC : CutSpec) (HF : FindSpec) (A : Option Addr) (c : Nat) (xs : List A13) (m : List UInt8) (w : World) (hT : Tabs w) (hX : ActsAt13 w A xs) :
    Calls Tryd.prog 6 #[.slice A xs.length c, .string (strOf m)] w fun e w' => e = .returned (.bool true) ∧ Still w w' := by
  have HK : ∀ w, Tabs w → Calls Tryd.prog 8 #[] w fun e w' => e = .returned (.bool true) ∧ Still w w' := fun w h => known13_any HE HD HP HC HF w h
  by_cases h1 : xs.length ≤ 60
  · by_cases h2 : m.length ≤ 100
    · exact plays_walk13 HP HC HF HK A c xs m w hT hX h1 h2
    · have K0 := Lib.hid (HK w hT)
      have d1 : decide (60 < (xs.length : Int)) = false := decide_eq_false (by omega)
      have szm : (strOf m).size = m.length := rfl
      have d2 : decide (100 < (m.length : Int)) = true := decide_eq_true (by omega)
      clear HK HP HC HF HD HE hX hT
      go_enter Tryd.func6, Tryd.ntmps6
      go_wp2_with fail
      refine K0.out.mono ?_
      rintro e w1 ⟨rfl, k1⟩
      have K1 := Lib.hid k1
      clear k1 K0
      go_wp2
      go_ret
      exact ⟨rfl, K1.out⟩
  · have K0 := Lib.hid (HK w hT)
    have d1 : decide (60 < (xs.length : Int)) = true := decide_eq_true (by omega)
    clear HK HP HC HF HD HE hX hT
    go_enter Tryd.func6, Tryd.ntmps6
    go_wp2_with fail
    refine K0.out.mono ?_
    rintro e w1 ⟨rfl, k1⟩
    have K1 := Lib.hid k1
    clear k1 K0
    go_wp2
    go_ret
    exact ⟨rfl, K1.out⟩
end Go.Proofs.YtkhgaolaaiekjaaDoor
