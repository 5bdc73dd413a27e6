/-
  A number's four bytes, as the laws reckon them; one byte turned. Nothing of the program but putB is used here.
-/
import Derived.Test.YtjlipfddbpgglaaNumI
namespace Go.Proofs.Ytjlipfddbpgglaa
open Go.RowKit Go.Lib
set_option maxRecDepth 100000

theorem four_of (x : Nat) : ∃ c0 c1 c2 c3 : UInt8, putB 4 x = [c0, c1, c2, c3] ∧ IntKind.u8.wrap (x : Int) = (c0.toNat : Int) ∧ IntKind.u8.wrap ((x : Int) / 256) = (c1.toNat : Int) ∧ IntKind.u8.wrap ((x : Int) / 65536) = (c2.toNat : Int) ∧ IntKind.u8.wrap ((x : Int) / 16777216) = (c3.toNat : Int) := by
  have h : ∀ k m : Nat, 2 ^ (8 * k) = m → IntKind.u8.wrap ((x : Int) / (m : Int)) = ((UInt8.ofNat (x >>> (8 * k))).toNat : Int) := by
    intro k m hm
    rw [IntKind.wrap_u8', Nat.shiftRight_eq_div_pow, hm]
    simp [UInt8.toNat_ofNat']
  refine ⟨UInt8.ofNat (x >>> (8 * 0)), UInt8.ofNat (x >>> (8 * 1)), UInt8.ofNat (x >>> (8 * 2)), UInt8.ofNat (x >>> (8 * 3)), rfl, ?_, h 1 256 (by decide), h 2 65536 (by decide), h 3 16777216 (by decide)⟩
  have := h 0 1 (by decide)
  simpa using this
/-- One byte turned by 0x80 is another. -/
theorem xor_128 (c : UInt8) : bits .xor .u8 (c.toNat : Int) 128 = ((c ^^^ 128).toNat : Int) := by
  have h := c.toNat_lt
  have := u8_xor_nat c.toNat 128 (by omega) (by omega)
  rw [show (128 : Int) = ((128 : Nat) : Int) from rfl, this]
  simp
theorem xor_ne (c : UInt8) : c ^^^ 128 ≠ c := by
  intro h
  have : c ^^^ (c ^^^ 128) = c ^^^ c := by rw [h]
  rw [← UInt8.xor_assoc] at this
  simp at this
end Go.Proofs.Ytjlipfddbpgglaa
