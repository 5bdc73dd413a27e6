/-
  Layer 10's GeomForm: its pure part; what Check refuses.
-/
import Derived.Test.YtfkojilhpkklfaaLaw10Bytes
import Derived.Test.YtfkojilhpkklfaaLaw10Check
import Derived.Test.YtfkojilhpkklfaaAppZeros
namespace Go.Proofs.Ytfkojilhpkklfaa
open Go.RowKit Go.Lib
set_option maxRecDepth 100000

set_option maxHeartbeats 1000000 in
theorem gform_no (g : G3) (h : g.chk ≠ 0) (w : World) : Calls Try.prog 4 #[g.val] w fun e w' => e = .returned (.bool true) ∧ Still w w' := by
  have K0 := Lib.hid ((Still.refl w).alloc (.cells #[.int .i64 g.b, .int .i64 g.n, .int .i64 g.i] 23))
  have CK : Hid (∀ W, Calls Try.prog 8 #[.agg #[.int .i64 g.b, .int .i64 g.n, .int .i64 g.i]] W fun e w' => e = .returned (.int .i64 g.chk) ∧ Still W w') := Lib.hid (fun W => check_any g W)
  have d1 : (g.chk != 0) = true := by simpa using h
  show Calls Try.prog 4 #[.agg #[.int .i64 g.b, .int .i64 g.n, .int .i64 g.i]] w _
  generalize g.chk = r at *
  clear h
  go_enter Try.func4, Try.ntmps4
  go_wp2_with fail
  refine (known10_any _).mono ?_
  rintro e w1 ⟨rfl, k1⟩
  obtain ⟨⟨c0, c1, c2⟩, q1⟩ := box_facts k1
  have K1 := Lib.hid q1
  clear k1 q1 K0
  go_wp2_with fail
  refine (CK.out _).mono ?_
  rintro e w2 ⟨rfl, k2⟩
  have R := Lib.hid (K1.out.trans k2)
  clear k2 K1 CK c0 c1 c2
  go_wp2
  go_ret
  exact ⟨rfl, R.out⟩

/-! ### a number's four bytes, as the law reckons them -/
theorem four_of (x : Nat) : ∃ c0 c1 c2 c3 : UInt8, putB 4 x = [c0, c1, c2, c3] ∧ IntKind.u8.wrap (x : Int) = (c0.toNat : Int) ∧ IntKind.u8.wrap ((x : Int) / 256) = (c1.toNat : Int) ∧ IntKind.u8.wrap ((x : Int) / 65536) = (c2.toNat : Int) ∧ IntKind.u8.wrap ((x : Int) / 16777216) = (c3.toNat : Int) := by
  have h : ∀ k m : Nat, 2 ^ (8 * k) = m → IntKind.u8.wrap ((x : Int) / (m : Int)) = ((UInt8.ofNat (x >>> (8 * k))).toNat : Int) := by
    intro k m hm
    rw [IntKind.wrap_u8', Nat.shiftRight_eq_div_pow, hm]
    simp [UInt8.toNat_ofNat']
  refine ⟨UInt8.ofNat (x >>> (8 * 0)), UInt8.ofNat (x >>> (8 * 1)), UInt8.ofNat (x >>> (8 * 2)), UInt8.ofNat (x >>> (8 * 3)), rfl, ?_, h 1 256 (by decide), h 2 65536 (by decide), h 3 16777216 (by decide)⟩
  have := h 0 1 (by decide)
  simpa using this
set_option maxHeartbeats 400000 in
theorem Try.eqGeom {x y : G3} (h : x ≠ y) : ∀ w, (binOp .eql 23 (.agg #[.int .i64 x.b, .int .i64 x.n, .int .i64 x.i]) (.agg #[.int .i64 y.b, .int .i64 y.n, .int .i64 y.i])).run Try.prog w = .ok (.bool false) w := by
  intro w
  go_simp
  intro h1 h2 h3
  apply h
  cases x
  cases y
  simp only at h1 h2 h3
  rw [h1, h2, h3]
/-- One byte turned by 0x80 is another. -/
theorem xor_128 (c : UInt8) : bits .xor .u8 (c.toNat : Int) 128 = ((c ^^^ 128).toNat : Int) := by
  have h := c.toNat_lt
  have := u8_xor_nat c.toNat 128 (by omega) (by omega)
  rw [show (128 : Int) = ((128 : Nat) : Int) from rfl, this]
  simp
theorem xor_ne (c : UInt8) : c ^^^ 128 ≠ c := by
  intro h
  have : c ^^^ (c ^^^ 128) = c ^^^ c := by rw [h]
  rw [← UInt8.xor_assoc] at this
  simp at this
end Go.Proofs.Ytfkojilhpkklfaa
