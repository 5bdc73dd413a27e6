/-
  Layer 4's StatCut: whatever record, whatever cut, whatever bytes behind it, it answers true and leaves what was there.
-/
import Derived.Test.YtbfigbbenaoaeaaDoorLaw4Keep
namespace Go.Proofs.YtbfigbbenaoaeaaDoor
open Go.RowKit
set_option maxRecDepth 100000
attribute [local go_sem ↓] Go.wp_at_zero Go.wp_at_succ

set_option maxHeartbeats 1000000 in
theorem cut4_early (s : S11) (n : Int) (A2 : Option Addr) (m c2 : Nat) (w : World) (hT : Tabs w) (h : ¬ s.isFew ∨ n < 0 ∨ 300 < m) :
    Calls Tryd.prog 5 #[s.val, .int .i64 n, .slice A2 m c2] w fun e w' => e = .returned (.bool true) ∧ Below w.heap.size w w' := by
  have K0 := Lib.hid (KR.new w s)
  have C0 := Lib.hid (known4 _ (K0.out.tabs hT))
  obtain ⟨fb, hfb⟩ : ∃ fb : Bool, (fb = true ∧ s.isFew) ∨ (fb = false ∧ ¬ s.isFew) := by
    by_cases hf : s.isFew
    · exact ⟨true, .inl ⟨rfl, hf⟩⟩
    · exact ⟨false, .inr ⟨rfl, hf⟩⟩
  have HF : Hid (∀ W, Calls Tryd.prog 7 #[s.val] W fun e w' => e = .returned (.bool fb) ∧ Below W.heap.size W w') := fun W => by
    rcases hfb with ⟨rfl, hf⟩ | ⟨rfl, hf⟩
    · exact few_yes s W hf
    · exact few_no s W hf
  unfold S11.val at HF ⊢
  unfold S11.cells at C0 HF ⊢
  clear hT
  go_enter Tryd.func5, Tryd.ntmps5
  go_wp2_with fail
  refine C0.out.mono ?_
  rintro e w1 ⟨rfl, b1⟩
  have k1 : KR w w1 s := K0.out.next b1
  have K1 := Lib.hid k1
  obtain ⟨⟨d0, d1, d2, d3, d4⟩, ⟨d5, d6, d7, d8⟩, ⟨d9, d10, d11, d12⟩⟩ := k1.row.cells13
  clear k1 b1 C0 K0
  go_wp2_with fail
  refine (HF.out w1).mono ?_
  rintro e w2 ⟨rfl, b2⟩
  have R := Lib.hid (K1.out.next b2).low
  clear b2 K1 HF d0 d1 d2 d3 d4 d5 d6 d7 d8 d9 d10 d11 d12
  rcases hfb with ⟨rfl, hf⟩ | ⟨rfl, hf⟩
  · by_cases hn : n < 0
    · have dn : decide (n < 0) = true := decide_eq_true hn
      clear h
      go_wp2
      go_ret
      exact ⟨rfl, R.out⟩
    · have dn : decide (n < 0) = false := decide_eq_false hn
      have hm : 300 < m := by rcases h with h | h | h <;> first | exact absurd hf h | exact absurd h hn | exact h
      have dm : decide ((300 : Int) < (m : Int)) = true := decide_eq_true (by omega)
      clear h
      go_wp2
      go_ret
      exact ⟨rfl, R.out⟩
  · clear h
    go_wp2
    go_ret
    exact ⟨rfl, R.out⟩

set_option maxHeartbeats 2000000 in
theorem cut4_walk (s : S11) (k : Nat) (A2 : Option Addr) (c2 : Nat) (more : List UInt8) (w : World) (hT : Tabs w) (hn : s.Num) (hf : s.isFew) (hm : more.length ≤ 300) (hs2 : SlIs w 0 w.heap.size (.slice A2 more.length c2) more) :
    Calls Tryd.prog 5 #[s.val, .int .i64 (k : Int), .slice A2 more.length c2] w fun e w' => e = .returned (.bool true) ∧ Below w.heap.size w w' := by
  obtain ⟨hF, hsz⟩ := isFew_few hf
  have hsz0 := size_ge s
  have K0 := Lib.hid (KR.new w s)
  have C0 := Lib.hid (known4 _ (K0.out.tabs hT))
  have HE := Lib.hid (fun W (k : KR w W s) => encode_kept s w W k hn hF hT)
  have HF : Hid (∀ W, Calls Tryd.prog 7 #[s.val] W fun e w' => e = .returned (.bool true) ∧ Below W.heap.size W w') := fun W => few_yes s W hf
  have HT := Lib.hid hT
  have HNm := Lib.hid hn
  have HM := Lib.hid hs2
  have dk : decide ((k : Int) < 0) = false := decide_eq_false (by omega)
  have dm : decide ((300 : Int) < (more.length : Int)) = false := decide_eq_false (by omega)
  obtain ⟨i0, hi0, hz0, hz1, hz2⟩ := info_parts Tryd.info8
  unfold S11.val at HF HE ⊢
  unfold S11.cells at C0 HF HE ⊢
  clear hT hs2 hn hF
  go_enter Tryd.func5, Tryd.ntmps5
  go_wp2_with fail
  refine C0.out.mono ?_
  rintro e w1 ⟨rfl, b1⟩
  have k1 : KR w w1 s := K0.out.next b1
  have K1 := Lib.hid k1
  obtain ⟨⟨d0, d1, d2, d3, d4⟩, ⟨d5, d6, d7, d8⟩, ⟨d9, d10, d11, d12⟩⟩ := k1.row.cells13
  clear k1 b1 C0 K0
  go_wp2_with fail
  refine (HF.out w1).mono ?_
  rintro e w2 ⟨rfl, b2⟩
  have k2 := K1.out.next b2
  have K2 := Lib.hid k2
  clear d0 d1 d2 d3 d4 d5 d6 d7 d8 d9 d10 d11 d12
  obtain ⟨⟨d0, d1, d2, d3, d4⟩, ⟨d5, d6, d7, d8⟩, ⟨d9, d10, d11, d12⟩⟩ := k2.row.cells13
  clear b2 k2 K1 HF
  go_wp2_with fail
  refine (HE.out w2 K2.out).mono ?_
  intro e w3 st
  clear d0 d1 d2 d3 d4 d5 d6 d7 d8 d9 d10 d11 d12 K2 HE
  rcases st with ⟨h0, A, c, rfl, hc1, hc2, k3⟩ | ⟨h0, rfl, k3⟩
  · obtain ⟨hi, hhi⟩ : ∃ hi, hi = w3.heap.size := ⟨_, rfl⟩
    rw [← hhi] at k3
    obtain ⟨m, hmd⟩ : ∃ m, m = k % s.size := ⟨_, rfl⟩
    have hml : m < s.size := by rw [hmd]; exact Nat.mod_lt _ (by omega)
    have hrem : (k : Int).tmod (s.size : Int) = (m : Int) := by rw [hmd, Int.tmod_eq_emod_of_nonneg (by omega)]; omega
    have hq3 : SlIs w3 (w.heap.size + 1) hi (.slice A m c) ((recB s).take m) := by
      obtain ⟨A', c', he, h1, h2, h3⟩ := k3.src
      injection he with he1 he2 he3
      subst he1
      subst he3
      exact ⟨A, c, by rw [List.length_take, recB_length h0, Nat.min_eq_left (by omega)], by rw [List.length_take]; omega, h2, h3.take m⟩
    have c3 := decode_any (.slice A m c) ((recB s).take m) (w.heap.size + 1) hi w3 hq3 k3.top (by rw [List.length_take, recB_length h0]; omega) (k3.1.tabs HT.out)
    unfold DecodeStep at c3
    rw [dec_cut m h0 hml] at c3
    have C3 := Lib.hid c3
    have K3 := Lib.hid k3
    have ds : ((s.size : Int) == 0) = false := by simp; omega
    have dz : (s.size : Int) ≠ 0 := by omega
    simp only [maxLen] at hc2
    have hmc : (m : Int) ≤ (c : Int) := by omega
    have hm0 : (0 : Int) ≤ (m : Int) := by omega
    clear c3 k3 hhi hq3 hmd
    go_wp2_with fail
    refine C3.out.mono ?_
    rintro e w4 ⟨rfl, b4⟩
    have k4 := K3.out.next b4
    have b5 : Below w4.heap.size w4 ((w4.alloc (.cells #[.int .u16 0, .int .u32 0, .int .u8 0, .int .u32 0, .int .u64 0, .int .u32 0, .int .u32 0, .int .u32 0, .int .u64 0, .string (strOf []), .string (strOf []), .string (strOf []), .string (strOf [])] 28)).alloc (.cells #[] 5)) := ((Below.refl _ w4).alloc (Nat.le_refl _) _).alloc (by simp) _
    have k5 := k4.next b5
    have o5 : ((w4.alloc (.cells #[.int .u16 0, .int .u32 0, .int .u8 0, .int .u32 0, .int .u64 0, .int .u32 0, .int .u32 0, .int .u32 0, .int .u64 0, .string (strOf []), .string (strOf []), .string (strOf []), .string (strOf [])] 28)).alloc (.cells #[] 5)).ownsRow (w4.heap.size + 1) 5 1 (.slice (some ⟨w4.heap.size + 1, 0, none⟩) 0 0) 0 (b8s []) := by
      refine ⟨rfl, .inr ⟨w4.heap.size + 1, 0, #[], rfl, Nat.le_refl _, ?_, Nat.le_refl _, Nat.zero_le _, rfl, rfl⟩⟩
      have := heap_alloc_new (w4.alloc (.cells #[.int .u16 0, .int .u32 0, .int .u8 0, .int .u32 0, .int .u64 0, .int .u32 0, .int .u32 0, .int .u32 0, .int .u64 0, .string (strOf []), .string (strOf []), .string (strOf []), .string (strOf [])] 28)) (.cells #[] 5)
      simpa using this
    have K4 := Lib.hid k4
    have K5 := Lib.hid k5
    have O5 := Lib.hid o5
    have B5 := Lib.hid b5
    have s4 := k4.1.size
    have hrl := recB_length h0
    clear b4 k4 b5 k5 o5 K3 C3
    unfold S11.val S11.zero S11.cells
    simp only [Q3.zero]
    go_wp2_with (at_builtin; go_must (refine wpList_append_bytes _ rfl (.tmp 55) (.tmp 56) 31 rfl (w4.heap.size + 1) 5 i0 Tryd.underlying31 hi0 hz0 hz1 hz2 _ [] (recB s) rfl O5.out _ _ _ rfl K5.out.src (by rw [List.nil_append, hrl]; omega) (by simp) ?_))
    intro v6 w6 a6 g6 _
    have a6 : w6.ownsRow (w4.heap.size + 1) 5 1 v6 (recB s).length (b8s (recB s)) := by simpa [hrl] using a6
    have b6 : Below w4.heap.size w4 w6 := B5.out.grown g6 B5.out.size (fun i hi => by simp [Value.ownBlock] at hi; omega)
    have k6 := K4.out.next b6
    have m6 : SlIs w6 0 w.heap.size (.slice A2 more.length c2) more := HM.out.only (Only.of_below k6.1.low) (Nat.le_refl _) (fun i _ hi h => by omega)
    have A6 := Lib.hid a6
    have B6 := Lib.hid b6
    have M6 := Lib.hid m6
    have s6 := b6.size
    have sg6 := g6.size
    simp only [World.size_alloc] at sg6
    clear a6 g6 b6 k6 m6 K5 O5 B5
    go_wp2_with (at_builtin; go_must (refine wpList_append_bytes _ rfl (.tmp 57) (.tmp 58) 31 rfl (w4.heap.size + 1) 5 i0 Tryd.underlying31 hi0 hz0 hz1 hz2 v6 (recB s) more rfl A6.out _ _ _ rfl M6.out (by rw [List.length_append, hrl]; omega) (by omega) ?_))
    intro v7 w7 a7 g7 _
    have a7 : w7.ownsRow (w4.heap.size + 1) 5 1 v7 (recB s ++ more).length (b8s (recB s ++ more)) := by simpa [hrl] using a7
    have b7 : Below w4.heap.size w4 w7 := B6.out.grown g7 B6.out.size (fun i hi => by have := (A6.out.lt i hi).1; omega)
    have k7 := K4.out.next b7
    have c7 := decode_any v7 (recB s ++ more) _ _ w7 (owns_SlIs a7) (Nat.le_refl _) (by rw [List.length_append, hrl]; omega) (k7.1.tabs HT.out)
    unfold DecodeStep at c7
    rw [dec_item more HNm.out h0] at c7
    have C7 := Lib.hid c7
    have K7 := Lib.hid k7.1
    clear a7 g7 b7 k7 c7 A6 B6 M6 K4 s6 sg6
    go_wp2_with fail
    refine C7.out.mono ?_
    rintro e w8 ⟨rfl, b8⟩
    have k8 := K7.out.next b8
    have k9 := k8.next ((Below.refl _ w8).alloc (Nat.le_refl _) (.cells s.cells 28))
    have x9 := Has.new w8 28 s.cells
    have R := Lib.hid k9.low
    obtain ⟨⟨d0, d1, d2, d3, d4⟩, ⟨d5, d6, d7, d8⟩, ⟨d9, d10, d11, d12⟩⟩ := k9.row.cells13
    obtain ⟨⟨x0, x1, x2, x3, x4⟩, ⟨x5, x6, x7, x8⟩, ⟨x9, x10, x11, x12⟩⟩ := x9.cells13
    clear b8 k8 k9 C7 K7 HT HNm HM hrl
    unfold S11.val S11.cells
    unfold S11.cells at d0 d1 d2 d3 d4 d5 d6 d7 d8 d9 d10 d11 d12 x0 x1 x2 x3 x4 x5 x6 x7 x8 x9 x10 x11 x12
    unfold S11.cells at R
    go_wp2
    go_ret
    exact ⟨rfl, R.out⟩
  · have hd : (wrongL s.texts != 0) = true := by simpa using h0
    have R := Lib.hid k3.low
    clear k3
    generalize wrongL s.texts = er at h0 hd
    go_wp2
    go_ret
    exact ⟨rfl, R.out⟩
end Go.Proofs.YtbfigbbenaoaeaaDoor
