/-
  Layer 3's QidShort: whatever qid and whatever cut, it answers true and leaves what was there.
-/
import Derived.Test.YthdjpbhmdfojeaaLaw3Known
import Derived.Test.YthdjpbhmdfojeaaRefQid
namespace Go.Proofs.Ythdjpbhmdfojeaa
open Go.RowKit
set_option maxRecDepth 100000

set_option maxHeartbeats 1000000 in
theorem short_neg (q : Q3) (cut : Int) (w : World) (h : cut < 0) : Calls Try.prog 4 #[q.val, .int .i64 cut] w fun e w' => e = .returned (.bool true) ∧ Below w.heap.size w w' := by
  have d : decide (cut < 0) = true := decide_eq_true h
  unfold Q3.val
  clear h
  go_enter Try.func4, Try.ntmps4
  go_wp2_with fail
  refine (known3 _).mono ?_
  rintro e w1 ⟨rfl, k1⟩
  have K1 : Hid (Below w.heap.size w w1) := ((Below.refl _ w).alloc (Nat.le_refl _) _).trans (k1.mono (by simp))
  clear k1
  go_wp2
  go_ret
  exact ⟨rfl, K1.out⟩

set_option maxHeartbeats 1000000 in
theorem short_walk (q : Q3) (n : Nat) (w : World) (hq : q.Ok) : Calls Try.prog 4 #[q.val, .int .i64 (n : Int)] w fun e w' => e = .returned (.bool true) ∧ Below w.heap.size w w' := by
  have d : decide ((n : Int) < 0) = false := decide_eq_false (by omega)
  obtain ⟨k, hk, hk13⟩ : ∃ k : Nat, (n : Int) % 13 = (k : Int) ∧ k < 13 := ⟨n % 13, by omega, by omega⟩
  have hv : q.val = .agg #[.int .u8 (q.t : Int), .int .u32 (q.v : Int), .int .u64 (q.p : Int)] := rfl
  have CO : Hid (∀ W, Calls Try.prog 12 #[.agg #[.int .u8 (q.t : Int), .int .u32 (q.v : Int), .int .u64 (q.p : Int)]] W fun e w' => e = .returned q.val ∧ Below W.heap.size W w') := fun W => law3of_any q W
  have CB : Hid (∀ W, Calls Try.prog 11 #[q.val] W (NewBytes W (qidB q))) := fun W => refqid_any q W hq
  have hl := qidB_length q
  obtain ⟨z1, z2⟩ := qTake_short ((qidB q).take k) (by rw [List.length_take]; omega)
  have Z1 := Lib.hid z1
  have Z2 := Lib.hid z2
  have B0 := Lib.hid (Has.new w 25 #[.int .u8 (q.t : Int), .int .u32 (q.v : Int), .int .u64 (q.p : Int)])
  have i0 : (0 : Int) ≤ (k : Int) := by omega
  rw [hv]
  clear hv z1 z2
  go_enter Try.func4, Try.ntmps4
  go_wp2_with fail
  refine (known3 _).mono ?_
  rintro e w1 ⟨rfl, k1⟩
  have b1 := B0.out.only (Only.of_below k1) (by simp)
  have x0 := b1.cell 0
  have x1 := b1.cell 1
  have x2 := b1.cell 2
  simp at x0 x1 x2
  have K1 : Hid (Below w.heap.size w w1) := ((Below.refl _ w).alloc (Nat.le_refl _) _).trans (k1.mono (by simp))
  clear k1 b1 B0
  go_wp2_with fail
  refine (CO.out w1).mono ?_
  rintro e w2 ⟨rfl, k2⟩
  have K2 := Lib.hid (K1.out.trans (k2.mono K1.out.size))
  clear k2 K1 CO x0 x1 x2
  go_wp2_with fail
  refine (CB.out w2).mono ?_
  rintro e w3 ⟨v3, rfl, a3, k3⟩
  have K3 := Lib.hid (K2.out.trans (k3.mono K2.out.size))
  obtain ⟨A, c, rfl, hc1, hc2, hr⟩ := owns_slice a3
  have S3 : Hid (SlIs w3 w2.heap.size w3.heap.size (.slice A k c) ((qidB q).take k)) := by
    refine ⟨A, c, ?_, ?_, hc2, hr.take k⟩
    · rw [List.length_take, hl, Nat.min_eq_left (by omega)]
    · rw [List.length_take]; omega
  have i1 : (k : Int) ≤ (c : Int) := by omega
  rw [hl] at hc1 ⊢
  clear a3 k3 K2 CB hr
  go_wp2_with fail
  refine (of_any _ _ _ _ w3 S3.out (Nat.le_refl _) (by rw [List.length_take]; omega)).mono ?_
  rintro e w4 ⟨g, rfl, a4, b4⟩
  have hg := a4.lt
  have I4 := Lib.hid a4
  have K4 := Lib.hid (K3.out.trans (b4.mono K3.out.size))
  have hk3 := K3.out.size
  clear a4 b4 K3 S3
  go_wp2_with fail
  refine (qidtake_any _ g _ 0 w4 I4.out).mono ?_
  rintro e w5 ⟨rfl, a5, b5⟩
  rw [Z1.out]
  rw [Z2.out] at a5
  have I5 := Lib.hid a5
  have K5 := Lib.hid (K4.out.trans (b5.below (B := w.heap.size) (by have := K4.out.size; omega) (fun i hi h => by omega)))
  have hz : Q3.zero.val = .agg #[.int .u8 0, .int .u32 0, .int .u64 0] := rfl
  rw [hz]
  clear a5 b5 I4 K4 Z1 Z2 hz
  go_wp2_with fail
  refine (err_any _ _ _ _ _ (I5.out.only ((Only.refl (fun _ => False) _).alloc _) (fun _ _ _ h => h))).mono ?_
  rintro e w' ⟨rfl, rfl⟩
  have K6 := Lib.hid (K5.out.alloc K5.out.size (.cells #[.int .u8 0, .int .u32 0, .int .u64 0] 25))
  go_wp2
  go_ret
  exact ⟨rfl, K6.out⟩
end Go.Proofs.Ythdjpbhmdfojeaa
