/-
  The library's bytes.Equal.
-/
import Derived.Test.YtjlipfddbpgglaaNumA
namespace Go.Proofs.Ytjlipfddbpgglaa
open Go.RowKit
set_option maxRecDepth 100000

/-- What a comparison answers. -/
def Tells (w : World) (p : Prop) (e : Ending) (w' : World) : Prop := (∃ b : Bool, e = .returned (.bool b) ∧ (b = true ↔ p)) ∧ Below w.heap.size w w'
theorem Tells.of {w : World} {p q : Prop} {e : Ending} {w' : World} (h : Tells w p e w') (hpq : p ↔ q) : Tells w q e w' := by
  obtain ⟨⟨b, he, hb⟩, k⟩ := h
  exact ⟨⟨b, he, hb.trans hpq⟩, k⟩
set_option maxHeartbeats 400000 in
theorem equalb_any (lo hi lo' hi' : Nat) (v v' : Value) (b d : List UInt8) (w : World) (h1 : SlIs w lo hi v b) (h2 : SlIs w lo' hi' v' d) : Calls Try.prog 33 #[v, v'] w (Tells w (b = d)) := by
  have r1 := run_str v b lo hi w h1
  have r2 := run_str v' d lo' hi' w h2
  clear h1 h2
  go_enter Try.func33, Try.ntmps33
  go_wp2
  go_ret
  exact ⟨⟨_, rfl, by simp [strOf_list]⟩, Below.refl _ _⟩
set_option maxHeartbeats 400000 in
theorem equalb_is (lo hi lo' hi' : Nat) (v v' : Value) (b d : List UInt8) (w : World) (h1 : SlIs w lo hi v b) (h2 : SlIs w lo' hi' v' d) : Calls Try.prog 33 #[v, v'] w fun e w' => e = .returned (.bool (decide (b = d))) ∧ w = w' := by
  have r1 := run_str v b lo hi w h1
  have r2 := run_str v' d lo' hi' w h2
  clear h1 h2
  go_enter Try.func33, Try.ntmps33
  go_wp2
  go_ret
  refine ⟨?_, rfl⟩
  congr 2
  simp only [strOf_list]
  show Value.bool (b == d) = Value.bool (decide (b = d))
  congr 1
  rw [Bool.eq_iff_iff]
  simp
end Go.Proofs.Ytjlipfddbpgglaa
