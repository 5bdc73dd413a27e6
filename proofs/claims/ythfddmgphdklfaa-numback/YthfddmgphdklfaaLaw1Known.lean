/-
  The fixed example at the head of each statement of layer 1: it answers true and leaves what was there.
-/
import Derived.Test.YthfddmgphdklfaaNumG
namespace Go.Proofs.Ythfddmgphdklfaa
open Go.RowKit

set_option maxHeartbeats 1000000 in
theorem known1 (w : World) : Calls Try.prog 6 #[] w fun e w' => e = .returned (.bool true) ∧ Below w.heap.size w w' := by
  have hO : OutAt (w.alloc (.cells #[.slice none 0 0] 27)) w.heap.size w.heap.size (.slice none 0 0) [] := ⟨Has.new _ _ _, World.ownsRow_nil _ _ _ _, Nat.le_refl _⟩
  have H1 := Lib.hid (put_any w.heap.size w.heap.size _ [] 2 4660 _ hO (by omega) (by omega) (by simp))
  clear hO
  go_enter Try.func6, Try.ntmps6
  go_wp2_with fail
  refine H1.out.mono ?_
  rintro e w1 ⟨v1, rfl, o1, f1, g1⟩
  have k1 : Below w.heap.size w w1 := ((Below.refl _ w).alloc (Nat.le_refl _) _).trans (f1.below (by simp) (fun i hi h => by rcases h with h | h; omega; simp [Value.ownBlock] at h))
  clear f1 g1 H1
  have kc := fun (w : World) (C : Array Value) (n c : Nat) => Lib.run_convert_bytes_const (P := Try.prog) w 25 5 C n c Try.underlying25 Try.underlying5
  have O1 := Lib.hid o1
  have K1 := Lib.hid k1
  clear o1 k1
  go_wp2_with fail
  have hx := lit_SlIs w1 5 (2, 3) [97, 98] 2 rfl (by simp [maxLen])
  have o1' := O1.out.only ((Only.refl (fun _ => False) w1).alloc (.cells (b8s [97, 98]).toArray 5 (2, 3))) (fun _ _ h => h)
  refine (outraw_any _ _ _ _ _ [97, 98] _ _ _ o1' hx (by decide)).mono ?_
  rintro e w2 ⟨v2, rfl, o2, f2, g2⟩
  have k2 : Below w.heap.size w w2 := (K1.out.alloc K1.out.size _).trans (f2.below (by have := K1.out.size; simp; omega) (fun i hi h => by have := o1'.foot_lt h; omega))
  rw [show ([] ++ putI 2 4660 ++ [97, 98] : List UInt8) = [52, 18, 97, 98] from by decide] at o2
  have O2 := Lib.hid o2
  have K2 := Lib.hid k2
  clear hx o1' o2 k2 f2 g2 O1 K1 kc
  go_wp2_with fail
  refine (bytes_any _ _ _ _ w2 O2.out (by decide)).mono ?_
  rintro e w3 ⟨v3, rfl, a3, b3⟩
  have o3 := O2.out.only (Only.of_below b3) (fun i h => by have := O2.out.foot_lt h; omega)
  have O3 := Lib.hid o3
  have K3 := Lib.hid (K2.out.trans (b3.mono K2.out.size))
  have A3 := Lib.hid (owns_SlIs a3)
  clear a3 b3 o3 O2 K2
  go_wp2_with fail
  refine (of_any v3 _ _ _ w3 A3.out (Nat.le_refl _) (by decide)).mono ?_
  rintro e w4 ⟨g, rfl, a4, b4⟩
  have hg := a4.lt
  have O4 := Lib.hid (O3.out.only (Only.of_below b4) (fun i h => by have := O3.out.foot_lt h; omega))
  have K4 := Lib.hid (K3.out.trans (b4.mono K3.out.size))
  have I4 := Lib.hid a4
  have hf : ∀ i, Foot w.heap.size v2 i → i < w3.heap.size := fun i h => (O3.out.foot_lt h).2
  have HF := Lib.hid hf
  have hws := K3.out.size
  clear a4 b4 O3 K3 A3 hf
  go_wp2_with fail
  refine (take_any _ g 2 _ 0 w4 I4.out).mono ?_
  rintro e w5 ⟨rfl, a5, b5⟩
  rw [show takeSt 2 [52, 18, 97, 98] 0 = (4660, [97, 98], 0) from by decide] at a5 ⊢
  have O5 := Lib.hid (O4.out.only b5 (fun i h => by have := HF.out i h; omega))
  have K5 := Lib.hid (K4.out.trans (b5.below (B := w.heap.size) (by have := K4.out.size; omega) (fun i hi h => by omega)))
  have I5 := Lib.hid a5
  have s5 := b5.size
  clear a5 b5 O4 K4 I4
  go_wp2_with fail
  refine (raw_any _ g 2 _ 0 w5 I5.out (by decide)).mono ?_
  rintro e w6 ⟨v6, rfl, r6, a6, b6⟩
  rw [show rawSt 2 [97, 98] 0 = ([97, 98], [], 0) from by decide] at a6 r6
  have O6 := Lib.hid (O5.out.only b6 (fun i h => by have := HF.out i h; omega))
  have K6 := Lib.hid (K5.out.trans (b6.below (B := w.heap.size) (by have := K5.out.size; omega) (fun i hi h => by omega)))
  have I6 := Lib.hid a6
  have R6 := Lib.hid r6
  have s6 := b6.size
  clear a6 b6 r6 O5 K5 I5
  go_wp2_with fail
  refine (take_any _ g 1 _ 0 w6 I6.out).mono ?_
  rintro e w7 ⟨rfl, a7, b7⟩
  rw [show takeSt 1 [] 0 = (0, [], 4) from by decide] at a7 ⊢
  have O7 := Lib.hid (O6.out.only b7 (fun i h => by have := HF.out i h; omega))
  have K7 := Lib.hid (K6.out.trans (b7.below (B := w.heap.size) (by have := K6.out.size; omega) (fun i hi h => by omega)))
  have I7 := Lib.hid a7
  have R7 := Lib.hid (owns_only R6.out b7 (fun i h => by have := R6.out.lt i h; omega))
  have s7 := b7.size
  clear a7 b7 O6 K6 I6 R6
  go_wp2_with fail
  refine (bytes_any _ _ _ _ w7 O7.out (by decide)).mono ?_
  rintro e w8 ⟨v8, rfl, r8, b8⟩
  have K8 := Lib.hid (K7.out.trans (b8.mono K7.out.size))
  have I8 := Lib.hid (I7.out.only (Only.of_below b8) (fun i _ hi h => by have := I7.out.lt; omega))
  have e1 := run_str v8 _ _ _ w8 (owns_SlIs r8)
  have e2 := run_str v6 _ _ _ w8 (owns_SlIs (owns_only R7.out (Only.of_below b8) (fun i h => by have := R7.out.lt i h; omega)))
  have t1 := strOf_list [52, 18, 97, 98]
  have t2 := strOf_list [97, 98]
  clear r8 b8 O7 K7 I7 R7
  go_wp2_with fail
  refine (err_any _ _ _ _ w8 I8.out).mono ?_
  rintro e w' ⟨rfl, rfl⟩
  go_wp2_with fail
  refine (left_any _ _ _ _ w8 I8.out).mono ?_
  rintro e w' ⟨rfl, rfl⟩
  go_wp2
  go_ret
  exact ⟨rfl, K8.out⟩
end Go.Proofs.Ythfddmgphdklfaa
