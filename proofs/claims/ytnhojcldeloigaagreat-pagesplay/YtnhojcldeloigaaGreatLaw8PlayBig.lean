/-
  PagesPlay: rows that are too many.
-/
import Derived.Test.YtnhojcldeloigaaGreatLaw8Few
import Derived.Test.YtnhojcldeloigaaGreatLaw8Shows
namespace Go.Proofs.YtnhojcldeloigaaGreat
open Go.RowKit Go.Lib Go.Maps
set_option maxRecDepth 100000
set_option maxHeartbeats 1000000 in
theorem play_big (n : Int) (A : Option Addr) (c : Nat) (xs : List A8) (w : World) (hA : ActsAt8 w A xs) (hf : ¬ fewOk xs) :
    Calls Tryz.prog 3 #[.int .u8 n, .slice A xs.length c] w fun e w' => e = .returned (.bool true) ∧ Below w.heap.size w w' := by
  have CK := Lib.hid (known8_any w)
  have CF : Hid (∀ w1, Below w.heap.size w w1 → Calls Tryz.prog 8 #[.slice A xs.length c] w1 fun e w' => e = .returned (.bool false) ∧ ∃ m, w' = w1.drewN m) := fun w1 b1 => (few8_any A c xs w1 (hA.only b1)).mono fun e w' hh => by
    obtain ⟨⟨b, rfl, hb⟩, m, rfl⟩ := hh
    have e : b = false := by
      cases b with
      | false => rfl
      | true => exact absurd (hb.1 rfl) hf
    exact ⟨by rw [e], m, rfl⟩
  clear hA hf
  go_enter Tryz.func3, Tryz.ntmps3
  go_wp2_with fail
  refine CK.out.mono ?_
  rintro e w1 ⟨rfl, b1⟩
  have D0 := Lib.hid (CF.out w1 b1)
  have B1 := Lib.hid b1
  clear b1 CF CK
  go_wp2_with fail
  refine D0.out.mono ?_
  rintro e w1' ⟨rfl, m, rfl⟩
  have R := Lib.hid (Below.drewN B1.out m)
  clear D0
  go_wp2
  go_ret
  exact ⟨rfl, R.out⟩
end Go.Proofs.YtnhojcldeloigaaGreat
