/-
  The second reading of layer 1: a number in so many bytes.
-/
import Derived.Test.YtkhgaolaaiekjaaDoorFault
import Derived.Test.YtkhgaolaaiekjaaDoorPutLe
namespace Go.Proofs.YtkhgaolaaiekjaaDoor
open Go.RowKit

/-- A new list of bytes. -/
def NewBytes (w : World) (bs : List UInt8) (e : Ending) (w' : World) : Prop := ∃ v, e = .returned v ∧ w'.ownsRow w.heap.size 5 1 v bs.length (b8s bs) ∧ Below w.heap.size w w'

def NumInv (w : World) (x : Nat) (v : Value) (k : Nat) (wr : World) : Prop := wr.ownsRow w.heap.size 5 1 v (putB k x).length (b8s (putB k x)) ∧ Below w.heap.size w wr

theorem byte_of2 (x k : Nat) : ∃ (X : Int) (c : UInt8), (x : Int) / 2 ^ (8 * k) = X ∧ IntKind.u8.wrap X = (c.toNat : Int) ∧ UInt8.ofNat (x >>> (8 * k)) = c := by
  refine ⟨((x >>> (8 * k) : Nat) : Int), _, ?_, ?_, rfl⟩
  · rw [Nat.shiftRight_eq_div_pow]
    simp
  · rw [IntKind.wrap_u8']
    simp [UInt8.toNat_ofNat']

set_option maxHeartbeats 400000 in
theorem refnum_no (n x : Int) (w : World) (hn : n < 1 ∨ 8 < n) : Calls Tryd.prog 25 #[.int .i64 n, .int .u64 x] w (NewBytes w []) := by
  have R : Hid (NewBytes w [] (.returned (.slice none 0 0)) w) := ⟨_, rfl, World.ownsRow_nil _ _ _ _, Below.refl _ _⟩
  by_cases h1 : n < 1
  · clear hn
    go_enter Tryd.func25, Tryd.ntmps25
    go_wp2
    go_ret
    exact R.out
  · have h2 : 8 < n := by omega
    have h3 : 1 ≤ n := by omega
    clear hn
    go_enter Tryd.func25, Tryd.ntmps25
    go_wp2
    go_ret
    exact R.out

set_option maxHeartbeats 1000000 in
theorem refnum_yes (n x : Nat) (w : World) (h1 : 1 ≤ n) (h8 : n ≤ 8) : Calls Tryd.prog 25 #[.int .i64 (n : Int), .int .u64 (x : Int)] w (NewBytes w (putB n x)) := by
  obtain ⟨i0, hi0, hz0, hz1, hz2⟩ := info_parts Tryd.info8
  have H0 : Hid (NumInv w x (.slice none 0 0) 0 w) := ⟨World.ownsRow_nil _ _ _ _, Below.refl _ _⟩
  have d1 : decide ((n : Int) < 1) = false := decide_eq_false (by omega)
  have d2 : decide ((8 : Int) < (n : Int)) = false := decide_eq_false (by omega)
  go_enter Tryd.func25, Tryd.ntmps25
  go_wp2
  go_loopw [5, 6] (fun v i wr => ∃ k : Nat, k ≤ n ∧ i = .int .i64 k ∧ Hid (NumInv w x v k wr)) (fun _ i _ => n - (intOf i).toNat)
  case atStart => exact ⟨0, Nat.zero_le _, rfl, H0⟩
  case round =>
    obtain ⟨k, hk, rfl, hrel⟩ := hrel
    clear H0
    by_cases hlt : k < n
    · obtain ⟨X, cb, hX, hcb, HC⟩ := byte_of2 x k
      replace HC := Lib.hid HC
      have hw9 : IntKind.u64.wrap (8 * (k : Int)) = 8 * (k : Int) := IntWalk.u64_in _ (by omega)
      go_wp2_with (at_builtin; go_must (refine wpList_append_bytes _ rfl (.tmp 19) (.tmp 26) 25 rfl w.heap.size 5 i0 Tryd.underlying25 hi0 hz0 hz1 hz2 _ (putB k x) [cb] rfl (hrel.out.1.alloc _) _ _ _ rfl (lit_SlIs wr 5 (0, 0) [cb] 1 rfl (by simp [maxLen])) (by rw [List.length_append, putB_length]; simp; omega) (by have := hrel.out.2.size; simp; omega) ?_))
      intro v' w1 a1 b1 _
      have R : Hid (NumInv w x v' (k + 1) w1) := by
        refine ⟨?_, (hrel.out.2.alloc hrel.out.2.size _).grown b1 (by have := hrel.out.2.size; simp; omega) (fun i hi => (hrel.out.1.lt i hi).1)⟩
        rw [putB_succ, HC.out]
        simpa using a1
      clear a1 b1 hrel
      go_wp2
      go_roundw
      case rel => exact ⟨k + 1, by omega, by go_num, R⟩
      case measure => simp [intOf]; omega
    · have : k = n := by omega
      subst this
      go_wp2
      go_ret
      exact ⟨_, rfl, hrel.out.1, hrel.out.2⟩

theorem refnum_any (n x : Int) (w : World) (hx : 0 ≤ x) : Calls Tryd.prog 25 #[.int .i64 n, .int .u64 x] w (NewBytes w (putI n x)) := by
  by_cases hn : 1 ≤ n ∧ n ≤ 8
  · obtain ⟨m, rfl⟩ : ∃ m : Nat, n = (m : Int) := ⟨n.toNat, by omega⟩
    obtain ⟨y, rfl⟩ : ∃ y : Nat, x = (y : Int) := ⟨x.toNat, by omega⟩
    have e : putI (m : Int) (y : Int) = putB m y := by rw [putI, if_pos hn]; simp
    rw [e]
    exact refnum_yes m y w (by omega) (by omega)
  · have e : putI n x = [] := by rw [putI, if_neg hn]
    rw [e]
    exact refnum_no n x w (by omega)
end Go.Proofs.YtkhgaolaaiekjaaDoor
