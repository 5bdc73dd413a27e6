/-
  Package num: what is put and what is taken again; the Out that a statement makes.
-/
import Derived.Test.YtkhgaolaaiekjaaDoorNumG
namespace Go.Proofs.YtkhgaolaaiekjaaDoor
open Go.RowKit

/-- The Out that each statement makes. -/
theorem new_out (w : World) : OutAt (w.alloc (.cells #[.slice none 0 0] 61)) w.heap.size w.heap.size (.slice none 0 0) [] := ⟨Has.new _ _ _, World.ownsRow_nil _ _ _ _, Nat.le_refl _⟩

theorem raw_item (bs rest : List UInt8) : rawSt (bs.length : Int) (bs ++ rest) 0 = (bs, rest, 0) := by
  rw [rawSt, if_neg (by simp), if_neg (by omega), if_neg (by rw [List.length_append]; omega)]
  simp
theorem take_item (n v : Nat) (rest : List UInt8) (h1 : 1 ≤ n) (h8 : n ≤ 8) : takeSt (n : Int) (putB n v ++ rest) 0 = (v % 256 ^ n, rest, 0) := by
  have hl := putB_length n v
  rw [takeSt, if_neg (by simp), if_neg (by omega), if_neg (by rw [List.length_append, hl]; omega), ← le_putB]
  simp only [Int.toNat_natCast]
  rw [List.take_left' hl, List.drop_left' hl]

end Go.Proofs.YtkhgaolaaiekjaaDoor
