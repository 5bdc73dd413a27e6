/-
  Proved: for every number v and every width n, NumWide answers true (P101: a number put in n bytes and taken back is its lowest bytes; a width that there is not puts nothing); no condition.
-/
import Derived.Test.YthfddmgphdklfaaLaw1Known
import Derived.ProofKit
import Derived.OpenShut
namespace Go.Proofs.Ythfddmgphdklfaa
open Go.RowKit

/-- Put, then read: the lowest bytes. -/
theorem le_putB (n x : Nat) : le (putB n x) = x % 256 ^ n := by
  induction n with
  | zero => simp [putB, le, Nat.mod_one]
  | succ n ih =>
    rw [putB_succ, le_snoc, ih, putB_length, Nat.mod_pow_succ, Nat.shiftRight_eq_div_pow, ← pow8]
    simp [UInt8.toNat_ofNat', Nat.mul_comm]

/-- The Out that each statement makes. -/
theorem new_out (w : World) : OutAt (w.alloc (.cells #[.slice none 0 0] 27)) w.heap.size w.heap.size (.slice none 0 0) [] := ⟨Has.new _ _ _, World.ownsRow_nil _ _ _ _, Nat.le_refl _⟩

set_option maxHeartbeats 1000000 in
theorem wide_no (x n : Int) (w : World) (hx0 : 0 ≤ x) (hx : x < 18446744073709551616) (hn : n < 1 ∨ 8 < n) :
    Calls Try.prog 5 #[.int .u64 x, .int .i64 n] w fun e w' => e = .returned (.bool true) ∧ Below w.heap.size w w' := by
  have HX := Lib.hid hx
  have HN := Lib.hid hn
  clear hx
  by_cases h1 : n < 1
  all_goals
    go_enter Try.func5, Try.ntmps5
    go_wp2_with fail
    refine (known1 w).mono ?_
    rintro e w1 ⟨rfl, k1⟩
    have K1 := Lib.hid k1
    clear k1
    go_wp2_with fail
    refine (put_any _ _ _ _ n x _ (new_out w1) hx0 HX.out (by simp)).mono ?_
    rintro e w2 ⟨v2, rfl, o2, f2, g2⟩
    rw [show putI n x = [] from by rw [putI, if_neg (by have := HN.out; omega)], List.append_nil] at o2
    have K2 := Lib.hid ((K1.out.alloc K1.out.size (.cells #[.slice none 0 0] 27)).trans (f2.below (by have := K1.out.size; simp; omega) (fun i hi h => by have := (new_out w1).foot_lt h; have := K1.out.size; omega)))
    have O2 := Lib.hid o2
    clear o2 f2 g2 K1
    go_wp2_with fail
    refine (bytes_any _ _ _ _ w2 O2.out (by simp)).mono ?_
    rintro e w3 ⟨v3, rfl, a3, b3⟩
    have K3 := Lib.hid (K2.out.trans (b3.mono K2.out.size))
    obtain ⟨A, c, rfl, _⟩ := owns_slice a3
    clear a3 b3 O2 K2
  · go_wp2
    go_ret
    exact ⟨rfl, K3.out⟩
  · have h2 : 8 < n := by have := HN.out; omega
    have h3 : 1 ≤ n := by omega
    go_wp2
    go_ret
    exact ⟨rfl, K3.out⟩

/-- The number's lowest n bytes, as the machine reckons them. -/
theorem mod_of (x n : Nat) (h : n < 8) : ∃ M : Int, IntKind.u64.wrap (2 ^ (8 * n)) = M ∧ ¬ M = 0 ∧ ((x % 256 ^ n : Nat) : Int) = (x : Int) % M := by
  have h1 : 256 ^ n ≤ 256 ^ 7 := Nat.pow_le_pow_right (by omega) (by omega)
  have h2 : 0 < 256 ^ n := Nat.pow_pos (by omega)
  have e : ((2 : Int) ^ (8 * n)) = ((256 ^ n : Nat) : Int) := by rw [pow8]; simp
  refine ⟨((256 ^ n : Nat) : Int), ?_, by omega, by simp⟩
  rw [e, IntWalk.u64_in _ (by omega)]

theorem take_back (n x r : Nat) (h1 : 1 ≤ n) (h8 : n ≤ 8) (hr : r = le (putB n x)) : takeSt (n : Int) (putB n x ++ [7]) 0 = (r, [7], 0) := by
  have hl := putB_length n x
  rw [takeSt, if_neg (by simp), if_neg (by omega), if_neg (by rw [List.length_append, hl]; simp; omega), hr]
  simp only [Int.toNat_natCast]
  rw [List.take_left' hl, List.drop_left' hl]

set_option maxHeartbeats 2000000 in
theorem wide_yes (x n : Nat) (w : World) (hx : x < 18446744073709551616) (h1 : 1 ≤ n) (h8 : n ≤ 8) :
    Calls Try.prog 5 #[.int .u64 (x : Int), .int .i64 (n : Int)] w fun e w' => e = .returned (.bool true) ∧ Below w.heap.size w w' := by
  have HX := Lib.hid hx
  obtain ⟨i0, hi0, hz0, hz1, hz2⟩ := info_parts Try.info8
  clear hx
  by_cases hlt : n < 8
  all_goals
    go_enter Try.func5, Try.ntmps5
    go_wp2_with fail
    refine (known1 w).mono ?_
    rintro e w1 ⟨rfl, k1⟩
    have K1 := Lib.hid k1
    clear k1
    go_wp2_with fail
    refine (put_any _ _ _ _ n x _ (new_out w1) (by omega) (by have := HX.out; omega) (by simp)).mono ?_
    rintro e w2 ⟨v2, rfl, o2, f2, g2⟩
    rw [show putI n x = putB n x from by rw [putI, if_pos (by omega)]; simp, List.nil_append] at o2
    have K2 := Lib.hid ((K1.out.alloc K1.out.size (.cells #[.slice none 0 0] 27)).trans (f2.below (by have := K1.out.size; simp; omega) (fun i hi h => by have := (new_out w1).foot_lt h; have := K1.out.size; omega)))
    have O2 := Lib.hid o2
    clear o2 f2 g2 K1
    go_wp2_with fail
    refine (bytes_any _ _ _ _ w2 O2.out (by rw [putB_length]; omega)).mono ?_
    rintro e w3 ⟨v3, rfl, a3, b3⟩
    have K3 := Lib.hid (K2.out.trans (b3.mono K2.out.size))
    obtain ⟨A, c, rfl, _⟩ := owns_slice a3
    have A3 := Lib.hid (owns_SlIs a3)
    rw [putB_length]
    have hown : (w3.alloc (.cells #[] 5)).ownsRow w3.heap.size 5 1 (.slice (some ⟨w3.heap.size, 0, none⟩) 0 0) ([] : List UInt8).length (b8s []) := World.ownsRow_made w3 #[] 0 (Nat.le_refl _) (by simp [maxLen]) (by simp)
    have H1 := Lib.hid hown
    have H2 := Lib.hid (SlIs.alloc (o := .cells #[] 5) A3.out (Nat.le_refl _))
    rw [putB_length] at H2
    obtain ⟨r, hr⟩ : ∃ r, r = le (putB n x) := ⟨_, rfl⟩
    have hrx := le_putB n x
    rw [← hr] at hrx
    have HR := Lib.hid hr
    clear a3 b3 O2 K2 hown hr A3
  · obtain ⟨M, hM, hM0, hMr⟩ := mod_of x n hlt
    rw [← hrx] at hMr
    have hq : ((r : Int) == (x : Int) % M) = true := by simpa using hMr
    clear hrx hMr
    go_wp2_with (at_builtin; go_must (refine wpList_append_bytes _ rfl (.tmp 37) (.tmp 38) 25 rfl w3.heap.size 5 i0 Try.underlying25 hi0 hz0 hz1 hz2 _ [] (putB n x) rfl H1.out _ _ _ rfl H2.out (by rw [List.nil_append, putB_length]; omega) (by simp) ?_))
    intro v4 w4 a4 b4 c4
    have K4 := Lib.hid ((K3.out.alloc K3.out.size (.cells #[] 5)).grown b4 (by have := K3.out.size; simp; omega) (fun k hk => by have := K3.out.size; simp [Value.ownBlock] at hk; omega))
    have s3 := K3.out.size
    have s4 := b4.size
    simp at s4
    have hl4 : (b8s (putB n x)).length = n := by rw [b8s_length, putB_length]
    have a4 : w4.ownsRow w3.heap.size 5 1 v4 (putB n x).length (b8s (putB n x)) := by simpa using a4
    have A4 := Lib.hid (a4.alloc (.cells #[.int .u8 7] 5))
    have X4 := Lib.hid (lit_SlIs w4 5 (0, 0) [7] 1 rfl (by simp [maxLen]))
    clear a4 b4 c4 hl4 H1 H2 K3
    go_wp2_with (at_builtin; go_must (refine wpList_append_bytes _ rfl (.tmp 39) (.tmp 40) 25 rfl w3.heap.size 5 i0 Try.underlying25 hi0 hz0 hz1 hz2 _ (putB n x) [7] rfl A4.out _ _ _ rfl X4.out (by rw [List.length_append, putB_length]; simp; omega) (by simp; omega) ?_))
    intro v5 w5 a5 b5 c5
    have a5 : w5.ownsRow w3.heap.size 5 1 v5 (putB n x ++ [7]).length (b8s (putB n x ++ [7])) := by simpa using a5
    have K5 := Lib.hid ((K4.out.alloc K4.out.size (.cells #[.int .u8 7] 5)).grown b5 (by have := K4.out.size; simp; omega) (fun k hk => by have := A4.out.lt k hk; omega))
    have A5 := Lib.hid (owns_SlIs a5)
    clear a5 b5 c5 A4 X4 K4
    go_wp2_with fail
    refine (of_any v5 _ _ _ w5 A5.out (Nat.le_refl _) (by rw [List.length_append, putB_length]; simp; omega)).mono ?_
    rintro e w6 ⟨g, rfl, a6, b6⟩
    have K6 := Lib.hid (K5.out.trans (b6.mono K5.out.size))
    have I6 := Lib.hid a6
    have s6 := b6.size
    have s5 := K5.out.size
    clear a6 b6 K5 A5
    go_wp2_with fail
    refine (take_any _ g n _ 0 w6 I6.out).mono ?_
    rintro e w7 ⟨rfl, a7, b7⟩
    rw [take_back n x r h1 h8 HR.out] at a7 ⊢
    have K7 := Lib.hid (K6.out.trans (b7.below (B := w.heap.size) (by have := K6.out.size; omega) (fun i hi h => by have := I6.out.lt; omega)))
    have I7 := Lib.hid a7
    clear a7 b7 K6 I6
    go_wp2_with fail
    refine (left_any _ _ _ _ w7 I7.out).mono ?_
    rintro e w' ⟨rfl, rfl⟩
    go_wp2_with fail
    refine (take_any _ g 1 _ 0 w7 I7.out).mono ?_
    rintro e w8 ⟨rfl, a8, b8⟩
    rw [show takeSt 1 [7] 0 = (7, [], 0) from by decide] at a8 ⊢
    have K8 := Lib.hid (K7.out.trans (b8.below (B := w.heap.size) (by have := K7.out.size; omega) (fun i hi h => by have := I7.out.lt; omega)))
    have I8 := Lib.hid a8
    clear a8 b8 K7 I7
    go_wp2_with fail
    refine (err_any _ _ _ _ w8 I8.out).mono ?_
    rintro e w' ⟨rfl, rfl⟩
    go_wp2
    go_ret
    exact ⟨rfl, K8.out⟩
  · have e8 : n = 8 := by omega
    have hq : ((r : Int) == (x : Int)) = true := by
      have := HX.out
      rw [e8] at hrx
      simp only [beq_iff_eq]
      omega
    have h8' : 8 ≤ n := by omega
    clear hrx e8
    go_wp2_with (at_builtin; go_must (refine wpList_append_bytes _ rfl (.tmp 37) (.tmp 38) 25 rfl w3.heap.size 5 i0 Try.underlying25 hi0 hz0 hz1 hz2 _ [] (putB n x) rfl H1.out _ _ _ rfl H2.out (by rw [List.nil_append, putB_length]; omega) (by simp) ?_))
    intro v4 w4 a4 b4 c4
    have K4 := Lib.hid ((K3.out.alloc K3.out.size (.cells #[] 5)).grown b4 (by have := K3.out.size; simp; omega) (fun k hk => by have := K3.out.size; simp [Value.ownBlock] at hk; omega))
    have s3 := K3.out.size
    have s4 := b4.size
    simp at s4
    have hl4 : (b8s (putB n x)).length = n := by rw [b8s_length, putB_length]
    have a4 : w4.ownsRow w3.heap.size 5 1 v4 (putB n x).length (b8s (putB n x)) := by simpa using a4
    have A4 := Lib.hid (a4.alloc (.cells #[.int .u8 7] 5))
    have X4 := Lib.hid (lit_SlIs w4 5 (0, 0) [7] 1 rfl (by simp [maxLen]))
    clear a4 b4 c4 hl4 H1 H2 K3
    go_wp2_with (at_builtin; go_must (refine wpList_append_bytes _ rfl (.tmp 39) (.tmp 40) 25 rfl w3.heap.size 5 i0 Try.underlying25 hi0 hz0 hz1 hz2 _ (putB n x) [7] rfl A4.out _ _ _ rfl X4.out (by rw [List.length_append, putB_length]; simp; omega) (by simp; omega) ?_))
    intro v5 w5 a5 b5 c5
    have a5 : w5.ownsRow w3.heap.size 5 1 v5 (putB n x ++ [7]).length (b8s (putB n x ++ [7])) := by simpa using a5
    have K5 := Lib.hid ((K4.out.alloc K4.out.size (.cells #[.int .u8 7] 5)).grown b5 (by have := K4.out.size; simp; omega) (fun k hk => by have := A4.out.lt k hk; omega))
    have A5 := Lib.hid (owns_SlIs a5)
    clear a5 b5 c5 A4 X4 K4
    go_wp2_with fail
    refine (of_any v5 _ _ _ w5 A5.out (Nat.le_refl _) (by rw [List.length_append, putB_length]; simp; omega)).mono ?_
    rintro e w6 ⟨g, rfl, a6, b6⟩
    have K6 := Lib.hid (K5.out.trans (b6.mono K5.out.size))
    have I6 := Lib.hid a6
    have s6 := b6.size
    have s5 := K5.out.size
    clear a6 b6 K5 A5
    go_wp2_with fail
    refine (take_any _ g n _ 0 w6 I6.out).mono ?_
    rintro e w7 ⟨rfl, a7, b7⟩
    rw [take_back n x r h1 h8 HR.out] at a7 ⊢
    have K7 := Lib.hid (K6.out.trans (b7.below (B := w.heap.size) (by have := K6.out.size; omega) (fun i hi h => by have := I6.out.lt; omega)))
    have I7 := Lib.hid a7
    clear a7 b7 K6 I6
    go_wp2_with fail
    refine (left_any _ _ _ _ w7 I7.out).mono ?_
    rintro e w' ⟨rfl, rfl⟩
    go_wp2_with fail
    refine (take_any _ g 1 _ 0 w7 I7.out).mono ?_
    rintro e w8 ⟨rfl, a8, b8⟩
    rw [show takeSt 1 [7] 0 = (7, [], 0) from by decide] at a8 ⊢
    have K8 := Lib.hid (K7.out.trans (b8.below (B := w.heap.size) (by have := K7.out.size; omega) (fun i hi h => by have := I7.out.lt; omega)))
    have I8 := Lib.hid a8
    clear a8 b8 K7 I7
    go_wp2_with fail
    refine (err_any _ _ _ _ w8 I8.out).mono ?_
    rintro e w' ⟨rfl, rfl⟩
    go_wp2
    go_ret
    exact ⟨rfl, K8.out⟩
end Go.Proofs.Ythfddmgphdklfaa
