/-
  FrameSizes: a size below seven, or above what was agreed, ends a stream as soon as it is there; the walk.
-/
import Derived.Test.YtfldgoggaadohaaLaw6Known
namespace Go.Proofs.Ytfldgoggaadohaa
open Go.RowKit
set_option maxRecDepth 100000

theorem sizes_cells (n : Nat) (hn : n < 4294967296) :
    (#[.int .u8 ((n : Int) % 256), .int .u8 ((n : Int) / 256 % 256), .int .u8 ((n : Int) / 65536 % 256), .int .u8 ((n : Int) / 16777216)] : Array Value) = (b8s (putB 4 n)).toArray := by
  have e : putB 4 n = [UInt8.ofNat (n >>> 0), UInt8.ofNat (n >>> 8), UInt8.ofNat (n >>> 16), UInt8.ofNat (n >>> 24)] := rfl
  rw [e]
  simp only [b8s, List.map_cons, List.map_nil, b8, UInt8.toNat_ofNat', Nat.shiftRight_eq_div_pow]
  have a0 : (n : Int) % 256 = ((n / 2 ^ 0 % 2 ^ 8 : Nat) : Int) := by omega
  have a1 : (n : Int) / 256 % 256 = ((n / 2 ^ 8 % 2 ^ 8 : Nat) : Int) := by omega
  have a2 : (n : Int) / 65536 % 256 = ((n / 2 ^ 16 % 2 ^ 8 : Nat) : Int) := by omega
  have a3 : (n : Int) / 16777216 = ((n / 2 ^ 24 % 2 ^ 8 : Nat) : Int) := by omega
  rw [a0, a1, a2, a3]
/-- The two Feeds. -/
theorem sizes_one (n m : Nat) : feedS (m : Int) [] false ((putB 4 n).take 3) = ([], (putB 4 n).take 3, false) := by
  have hl := putB_length 4 n
  show cut (m : Int) ([] ++ (putB 4 n).take 3) = _
  rw [List.nil_append, cut_short (by rw [List.length_take]; omega)]
theorem sizes_two (n m : Nat) (hn : n < 4294967296) : feedS (m : Int) ((putB 4 n).take 3) false ((putB 4 n).drop 3) = if 7 ≤ n ∧ n ≤ m then ([], putB 4 n, false) else ([], [], true) := by
  have hl := putB_length 4 n
  have hh : hd (putB 4 n) = n := by
    unfold hd
    rw [List.take_of_length_le (by omega), le_putB]
    exact Nat.mod_eq_of_lt (by omega)
  show cut (m : Int) ((putB 4 n).take 3 ++ (putB 4 n).drop 3) = _
  rw [List.take_append_drop]
  by_cases h : 7 ≤ n ∧ n ≤ m
  · rw [if_pos h, cut_wait (by omega) (by rw [hh]; omega) (by rw [hh]; omega)]
  · rw [if_neg h, cut_dead (by omega) (by rw [hh]; omega)]

set_option maxHeartbeats 4000000 in
theorem sizes_walk (n m : Nat) (w : World) (hn : n < 4294967296) (hm : m < 65536) :
    Calls Try.prog 5 #[.int .u32 (n : Int), .int .u16 (m : Int)] w fun e w' => e = .returned (.bool true) ∧ Below w.heap.size w w' := by
  go_enter Try.func5, Try.ntmps5
  go_wp2_with fail
  refine (known6 w).mono ?_
  rintro e w1 ⟨rfl, b1⟩
  have B1 := Lib.hid b1
  have hs1 := b1.size
  clear b1
  go_wp2_with fail
  refine (new_any w1).mono ?_
  rintro e w2 ⟨rfl, rfl⟩
  have S2 := Lib.hid (StAt.new (t := 47) w1 w.heap.size hs1)
  have B2 := Lib.hid (B1.out.alloc hs1 (.cells #[.slice none 0 0, .bool false] 47))
  obtain ⟨w2, hw2⟩ : ∃ w2, w2 = w1.alloc (.cells #[.slice none 0 0, .bool false] 47) := ⟨_, rfl⟩
  have hs2 : w2.heap.size = w1.heap.size + 1 := by rw [hw2]; simp
  rw [← hw2] at S2 B2
  obtain ⟨g, hg⟩ : ∃ g, g = w1.heap.size := ⟨_, rfl⟩
  rw [← hw2, ← hg]
  rw [← hg] at S2 hs2
  have hgl : g < w2.heap.size := by omega
  have hlo : w.heap.size ≤ w2.heap.size := by omega
  clear hw2 B1 hs2 hg
  have ec := sizes_cells n hn
  have hl4 := putB_length 4 n
  have X3 := lit_SlIs w2 5 (0, 0) (putB 4 n) 4 hl4.symm (by simp [maxLen])
  have kW : Only (fun _ => False) w2 (w2.alloc (.cells (b8s (putB 4 n)).toArray 5)) := (Only.refl _ w2).alloc _
  have S3 := Lib.hid (S2.out.only kW (fun _ _ h => h))
  have B3 := Lib.hid (B2.out.alloc hlo (.cells (b8s (putB 4 n)).toArray 5))
  have hs3 : (w2.alloc (.cells (b8s (putB 4 n)).toArray 5)).heap.size = w2.heap.size + 1 := by simp
  have Xa : SlIs (w2.alloc (.cells (b8s (putB 4 n)).toArray 5)) w2.heap.size (w2.heap.size + 1) (.slice (some ⟨w2.heap.size, 0, none⟩) 3 4) ((putB 4 n).take 3) := by
    obtain ⟨A', c', e, q1, q2, q3⟩ := X3
    injection e with e1 _ e2
    subst e1 e2
    exact ⟨_, 4, by rw [List.length_take, hl4]; rfl, by rw [List.length_take]; omega, q2, q3.take 3⟩
  have Xb : SlIs (w2.alloc (.cells (b8s (putB 4 n)).toArray 5)) w2.heap.size (w2.heap.size + 1) (.slice (some ⟨w2.heap.size, 3, none⟩) 1 1) ((putB 4 n).drop 3) := by
    obtain ⟨A', c', e, q1, q2, q3⟩ := X3
    injection e with e1 _ e2
    subst e1 e2
    exact ⟨_, 1, by rw [List.length_drop, hl4]; rfl, by rw [List.length_drop]; omega, by simp [maxLen], q3.drop (k := 3) (cap := 4) (by omega) (by omega)⟩
  have C3 := Lib.hid (feed_any w.heap.size g _ _ [] _ false m _ _ _ S3.out Xa (by omega) (by rw [List.length_take]; simp; omega))
  rw [sizes_one] at C3
  have XB := Lib.hid Xb
  have HT := Lib.hid (sizes_two n m hn)
  have HL := Lib.hid hl4
  rw [← ec] at C3 XB B3 hs3 S3
  clear ec X3 kW S2 B2 Xa Xb hl4
  go_wp2_with fail
  obtain ⟨w3, hw3⟩ : ∃ w3, w3 = w2.alloc (.cells #[.int .u8 ((n : Int) % 256), .int .u8 ((n : Int) / 256 % 256), .int .u8 ((n : Int) / 65536 % 256), .int .u8 ((n : Int) / 16777216)] 5) := ⟨_, rfl⟩
  rw [← hw3] at C3 XB B3 hs3 S3 ⊢
  refine C3.out.mono ?_
  rintro e w4 ⟨a, hv4, rfl, l4, s4, k4, f4⟩
  obtain ⟨Aa, ca, rfl⟩ := l4.form
  rw [List.length_nil]
  have hs4 := k4.size
  have B4 := Lib.hid (B3.out.trans (k4.below (by omega) (fun i hi h => by have := S3.out.foot_lt h; omega)))
  have X4 := XB.out.only k4 (by omega) (fun i h1 h2 h => by
    rcases h with h | h
    · omega
    · cases h)
  have CD := Lib.hid (dead_any _ _ _ _ _ w4 s4)
  have C5 := Lib.hid (feed_any w.heap.size g _ _ _ _ false m _ _ _ s4 X4 (by omega) (by have := HL.out; simp only [List.length_take, List.length_drop]; omega))
  rw [HT.out] at C5
  have S4 := Lib.hid s4
  have hlo4 : w.heap.size ≤ w4.heap.size := by omega
  clear hw3 C3 XB B3 hs3 S3 l4 s4 k4 f4 X4 HT hs4
  go_wp2_with fail
  refine CD.out.mono ?_
  rintro e w' ⟨rfl, rfl⟩
  clear CD
  go_wp2_with fail
  refine C5.out.mono ?_
  rintro e w5 ⟨b, hv5, rfl, l5, s5, k5, f5⟩
  have B5 := Lib.hid (B4.out.trans (k5.below hlo4 (fun i hi h => by have := S4.out.foot_lt h; omega)))
  clear C5 k5 f5 S4 B4
  by_cases hok : 7 ≤ n ∧ n ≤ m
  · rw [if_pos hok] at l5 s5
    obtain ⟨Ab, cb, rfl⟩ := l5.form
    rw [List.length_nil]
    have CD := Lib.hid (dead_any _ _ _ _ _ w5 s5)
    have CH := Lib.hid (held_any _ _ _ _ _ w5 s5)
    rw [HL.out] at CH
    have d1 : (7 : Int) ≤ (n : Int) := by omega
    have d2 : n ≤ m := hok.2
    clear l5 s5 hok HL
    go_wp2_with (first | (go_at_call 13; refine CD.out.mono ?_; rintro e w' ⟨rfl, rfl⟩) | (go_at_call 14; refine CH.out.mono ?_; rintro e w' ⟨rfl, rfl⟩) | fail)
    go_ret
    exact ⟨rfl, B5.out⟩
  · rw [if_neg hok] at l5 s5
    obtain ⟨Ab, cb, rfl⟩ := l5.form
    rw [List.length_nil]
    have CD := Lib.hid (dead_any _ _ _ _ _ w5 s5)
    have CH := Lib.hid (held_any _ _ _ _ _ w5 s5)
    rw [List.length_nil] at CH
    clear l5 s5 HL
    by_cases h7 : 7 ≤ n
    · have d1 : (7 : Int) ≤ (n : Int) := by omega
      have d2 : ¬ n ≤ m := by omega
      clear hok
      go_wp2_with (first | (go_at_call 13; refine CD.out.mono ?_; rintro e w' ⟨rfl, rfl⟩) | (go_at_call 14; refine CH.out.mono ?_; rintro e w' ⟨rfl, rfl⟩) | fail)
      go_ret
      exact ⟨rfl, B5.out⟩
    · have d1 : ¬ (7 : Int) ≤ (n : Int) := by omega
      clear hok
      go_wp2_with (first | (go_at_call 13; refine CD.out.mono ?_; rintro e w' ⟨rfl, rfl⟩) | (go_at_call 14; refine CH.out.mono ?_; rintro e w' ⟨rfl, rfl⟩) | fail)
      go_ret
      exact ⟨rfl, B5.out⟩
end Go.Proofs.Ytfldgoggaadohaa
