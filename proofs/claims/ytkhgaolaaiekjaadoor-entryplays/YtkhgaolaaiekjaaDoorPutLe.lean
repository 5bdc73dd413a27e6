/-
  A number as bytes, the lowest first, and back. Nothing of the program is used here.
-/
import Derived.Test.YtkhgaolaaiekjaaDoorMem
namespace Go.Proofs.YtkhgaolaaiekjaaDoor
open Go.RowKit

/-- The lowest k bytes of x, the lowest first. -/
def putB (k x : Nat) : List UInt8 := (List.range k).map fun j => UInt8.ofNat (x >>> (8 * j))
theorem putB_succ (k x : Nat) : putB (k + 1) x = putB k x ++ [UInt8.ofNat (x >>> (8 * k))] := by simp [putB, List.range_succ]
theorem putB_length (k x : Nat) : (putB k x).length = k := by simp [putB]

/-- The number that bytes make, the lowest first. -/
def le : List UInt8 → Nat
  | [] => 0
  | c :: l => c.toNat + 256 * le l
theorem le_snoc (l : List UInt8) (c : UInt8) : le (l ++ [c]) = le l + c.toNat * 256 ^ l.length := by
  induction l with
  | nil => simp [le]
  | cons d l ih => simp only [List.cons_append, le, ih, List.length_cons, Nat.pow_succ, Nat.mul_add]; rw [Nat.add_assoc]; congr 2; rw [Nat.mul_left_comm, Nat.mul_comm 256]
theorem le_lt (l : List UInt8) : le l < 256 ^ l.length := by
  induction l with
  | nil => simp [le]
  | cons d l ih =>
    have := d.toNat_lt
    simp only [le, List.length_cons, Nat.pow_succ]
    omega
theorem pow8 (k : Nat) : 256 ^ k = 2 ^ (8 * k) := by rw [Nat.pow_mul]
theorem le_lt64 (l : List UInt8) (h : l.length ≤ 8) : le l < 18446744073709551616 := by
  have h1 := le_lt l
  have h2 : 256 ^ l.length ≤ 256 ^ 8 := Nat.pow_le_pow_right (by omega) h
  omega

/-- Put, then read: the lowest bytes. -/
theorem le_putB (n x : Nat) : le (putB n x) = x % 256 ^ n := by
  induction n with
  | zero => simp [putB, le, Nat.mod_one]
  | succ n ih =>
    rw [putB_succ, le_snoc, ih, putB_length, Nat.mod_pow_succ, Nat.shiftRight_eq_div_pow, ← pow8]
    simp [UInt8.toNat_ofNat', Nat.mul_comm]

/-! What is one has just those bytes. -/
theorem putB_cons (n x : Nat) : putB (n + 1) x = UInt8.ofNat x :: putB n (x / 256) := by
  unfold putB
  rw [List.range_succ_eq_map, List.map_cons, List.map_map]
  congr 1
  apply List.map_congr_left
  intro j _
  simp only [Function.comp]
  congr 1
  rw [show 8 * (j + 1) = 8 + 8 * j from by omega, Nat.shiftRight_add]
  congr 1
  rw [Nat.shiftRight_eq_div_pow]
theorem putB_le (l : List UInt8) : putB l.length (le l) = l := by
  induction l with
  | nil => rfl
  | cons c l ih =>
    rw [List.length_cons, putB_cons, le]
    have hc := c.toNat_lt
    rw [show (c.toNat + 256 * le l) / 256 = le l from by omega, ih]
    congr 1
    apply UInt8.toNat_inj.1
    rw [UInt8.toNat_ofNat']
    omega

/-- What Put(n, x) adds. -/
def putI (n x : Int) : List UInt8 := if 1 ≤ n ∧ n ≤ 8 then putB n.toNat x.toNat else []
theorem putI_length (n x : Int) : (putI n x).length ≤ 8 := by
  unfold putI
  split
  · rw [putB_length]; omega
  · simp
end Go.Proofs.YtkhgaolaaiekjaaDoor
