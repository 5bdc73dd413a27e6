/-
  The fixed example at the head of each statement of layer 4: it answers true and leaves what was there.
-/
import Derived.Test.YtbfigbbenaoaeaaDoorStatI
namespace Go.Proofs.YtbfigbbenaoaeaaDoor
open Go.RowKit
set_option maxRecDepth 100000
attribute [local go_sem ↓] Go.wp_at_zero Go.wp_at_succ

/-- The example's record. -/
def ks : S11 := ⟨0, 0, Q3.zero, 420, 0, 0, 5, [97], [117], [103], [109]⟩
theorem ks_num : ks.Num := ⟨by decide, by decide, ⟨by decide, by decide, by decide⟩, by decide, by decide, by decide, by decide⟩
theorem ks_wrong : wrongL ks.texts = 0 := by decide
theorem ks_few : ks.Few := few_of_wrong ks_wrong
theorem ks_len : (recB ks).length = 53 := by rw [recB_length ks_wrong]; decide
theorem ks_dec : decAns (recB ks) = (ks, 53, 0) := by
  have h := firstOf_item [] ks_num ks_wrong
  rw [List.append_nil] at h
  unfold decAns
  rw [h]
  simp [ks_len]
theorem ks_all : allOf (recB ks ++ recB ks).length (recB ks ++ recB ks) = .ok [ks, ks] := by
  have hl : (recB ks ++ recB ks).length = 106 := by rw [List.length_append, ks_len]
  have hne : recB ks ≠ [] := fun h => by
    have := ks_len
    rw [h] at this
    simp at this
  have h1 := firstOf_item (recB ks) ks_num ks_wrong
  have h2 := firstOf_item [] ks_num ks_wrong
  rw [List.append_nil] at h2
  rw [hl, ← pre_nil (allOf 106 _), allOf_ok (f := 105) (by simp [hne]) h1, allOf_ok (f := 104) hne h2, allOf_nil]
  rfl
theorem ks_cut : decAns ((recB ks).take 26) = (S11.zero, 0, 4) := by
  have h := firstOf_cut 26 ks_wrong (by rw [ks_len]; omega)
  unfold decAns
  rw [h]

/-- The example's cells, written out. -/
theorem Has.ks13 {w : World} {b : Nat} {t : TypeId} (h : Has w b t ks.cells) :
    (w.cell? ⟨b, 0, none⟩ = some (.int .u16 0) ∧ w.cell? ⟨b, 1, none⟩ = some (.int .u32 0) ∧ w.cell? ⟨b, 2, none⟩ = some (.int .u8 0) ∧ w.cell? ⟨b, 3, none⟩ = some (.int .u32 0) ∧ w.cell? ⟨b, 4, none⟩ = some (.int .u64 0)) ∧
    (w.cell? ⟨b, 5, none⟩ = some (.int .u32 420) ∧ w.cell? ⟨b, 6, none⟩ = some (.int .u32 0) ∧ w.cell? ⟨b, 7, none⟩ = some (.int .u32 0) ∧ w.cell? ⟨b, 8, none⟩ = some (.int .u64 5)) ∧
    (w.cell? ⟨b, 9, none⟩ = some (.string ⟨#[97]⟩) ∧ w.cell? ⟨b, 10, none⟩ = some (.string ⟨#[117]⟩) ∧ w.cell? ⟨b, 11, none⟩ = some (.string ⟨#[103]⟩) ∧ w.cell? ⟨b, 12, none⟩ = some (.string ⟨#[109]⟩)) := h.cells13
theorem Tryd.keepMode (w : World) : (Instr.field 28 (.agg #[.int .u16 65535, .int .u32 4294967295, .int .u8 255, .int .u32 4294967295, .int .u64 18446744073709551615, .int .u32 4294967295, .int .u32 4294967295, .int .u32 4294967295, .int .u64 18446744073709551615, .string (strOf []), .string (strOf []), .string (strOf []), .string (strOf [])]) 3).run Tryd.prog w = .ok (.int .u32 4294967295) w := by kernel_rfl
theorem Tryd.keepName (w : World) : (Instr.field 28 (.agg #[.int .u16 65535, .int .u32 4294967295, .int .u8 255, .int .u32 4294967295, .int .u64 18446744073709551615, .int .u32 4294967295, .int .u32 4294967295, .int .u32 4294967295, .int .u64 18446744073709551615, .string (strOf []), .string (strOf []), .string (strOf []), .string (strOf [])]) 7).run Tryd.prog w = .ok (.string ⟨#[]⟩) w := by kernel_rfl
/-- What the example's walk keeps: the record's block, the bytes. -/
structure KW (w W : World) (A : Option Addr) (c hi : Nat) : Prop where
  low : Below w.heap.size w W
  row : Has W w.heap.size 28 ks.cells
  src : SlIs W (w.heap.size + 1) hi (.slice A 53 c) (recB ks)
  top : hi ≤ W.heap.size
theorem KW.next {w W W2 : World} {A : Option Addr} {c hi : Nat} (k : KW w W A c hi) (b : Below W.heap.size W W2) : KW w W2 A c hi :=
  ⟨k.low.trans (b.mono k.low.size), k.row.only (Only.of_below b) (Nat.not_le_of_lt k.row.lt), k.src.only (Only.of_below b) k.top (fun i _ hi h => by have := k.top; omega), Nat.le_trans k.top b.size⟩
theorem KW.tabs {w W : World} {A : Option Addr} {c hi : Nat} (k : KW w W A c hi) (hT : Tabs w) : Tabs W := hT.below k.low

set_option maxHeartbeats 2000000 in
theorem known4 (w : World) (hT : Tabs w) : Calls Tryd.prog 6 #[] w fun e w' => e = .returned (.bool true) ∧ Below w.heap.size w w' := by
  have hlt := hT.lt
  have B0 := Has.new w 28 ks.cells
  have K0 := (Below.refl w.heap.size w).alloc (Nat.le_refl _) (.cells ks.cells 28)
  have c0 := encode_any ks (w.alloc (.cells ks.cells 28)) ks_num ks_few (hT.below K0)
  have C0 : Hid (Calls Tryd.prog 8 #[ks.val] (w.alloc (.cells ks.cells 28)) fun e w1 => ∃ A c, e = .returned (.tuple #[.slice A 53 c, .int .i64 0]) ∧ 53 ≤ c ∧ c ≤ maxLen ∧ KW w w1 A c w1.heap.size) := Lib.hid (c0.mono (by
    rintro e w1 (⟨_, v1, he, a1, b1⟩ | ⟨h, _⟩)
    · obtain ⟨A, c, hv, hc1, hc2, hr⟩ := owns_slice a1
      rw [ks_len] at hv hc1
      refine ⟨A, c, by rw [he, hv], hc1, hc2, K0.trans (b1.mono K0.size), B0.only (Only.of_below b1) (Nat.not_le_of_lt B0.lt), ⟨A, c, by rw [ks_len], by rw [ks_len]; exact hc1, hc2, ?_⟩, Nat.le_refl _⟩
      simpa using hr
    · exact absurd ks_wrong h))
  have HT := Lib.hid hT
  obtain ⟨i0, hi0, hz0, hz1, hz2⟩ := info_parts Tryd.info8
  have e2 : (recB ks ++ recB ks).length = 106 := by rw [List.length_append, ks_len]
  have hl2 : Hid ((recB ks ++ recB ks).length ≤ 140737488355328) := Lib.hid (by omega)
  obtain ⟨⟨d0, d1, d2, d3, d4⟩, ⟨d5, d6, d7, d8⟩, ⟨d9, d10, d11, d12⟩⟩ := B0.ks13
  clear hT B0 K0 c0 e2
  go_enter Tryd.func6, Tryd.ntmps6
  go_wp2_with fail
  refine C0.out.mono ?_
  rintro e w1 ⟨A, c, rfl, hc1, hc2, k1⟩
  clear d0 d1 d2 d3 d4 d5 d6 d7 d8 d9 d10 d11 d12 C0
  obtain ⟨hi, hhi⟩ : ∃ hi, hi = w1.heap.size := ⟨_, rfl⟩
  rw [← hhi] at k1
  have c1 := decode_any (.slice A 53 c) (recB ks) (w.heap.size + 1) hi w1 k1.src k1.top (by rw [ks_len]; omega) (k1.tabs HT.out)
  unfold DecodeStep at c1
  rw [ks_dec] at c1
  have C1 := Lib.hid c1
  have K1 := Lib.hid k1
  clear c1 k1 hhi
  go_wp2_with fail
  refine C1.out.mono ?_
  rintro e w2 ⟨rfl, b2⟩
  have k2 := K1.out.next b2
  have x3 : Has ((w2.alloc (.cells ks.cells 28)).alloc (.cells #[] 5)) w2.heap.size 28 ks.cells := (Has.new w2 _ _).alloc _
  have k3 : KW w ((w2.alloc (.cells ks.cells 28)).alloc (.cells #[] 5)) A c hi := (k2.next ((Below.refl _ w2).alloc (Nat.le_refl _) _)).next ((Below.refl _ _).alloc (Nat.le_refl _) _)
  have o3 : ((w2.alloc (.cells ks.cells 28)).alloc (.cells #[] 5)).ownsRow (w2.heap.size + 1) 5 1 (.slice (some ⟨w2.heap.size + 1, 0, none⟩) 0 0) 0 (b8s []) := by
    refine ⟨rfl, .inr ⟨w2.heap.size + 1, 0, #[], rfl, Nat.le_refl _, ?_, Nat.le_refl _, Nat.zero_le _, rfl, rfl⟩⟩
    have := heap_alloc_new (w2.alloc (.cells ks.cells 28)) (.cells #[] 5)
    simpa using this
  have K2 := Lib.hid k2
  have X3 := Lib.hid x3
  have K3 := Lib.hid k3
  have O3 := Lib.hid o3
  have s2 := k2.low.size
  have hx2 : hi ≤ w2.heap.size := k2.top
  clear b2 k2 x3 k3 o3 K1 C1
  unfold S11.val S11.cells ks
  simp only [Q3.zero]
  go_wp2_with (at_builtin; go_must (refine wpList_append_bytes _ rfl (.tmp 25) (.tmp 26) 31 rfl (w2.heap.size + 1) 5 i0 Tryd.underlying31 hi0 hz0 hz1 hz2 _ [] (recB ks) rfl O3.out _ _ _ rfl K3.out.src (by rw [List.nil_append, ks_len]; omega) (by simp) ?_))
  intro v4 w4 a4 g4 _
  have f4 : Only (fun i => some i = some (w2.heap.size + 1)) ((w2.alloc (.cells ks.cells 28)).alloc (.cells #[] 5)) w4 := Only.of_grown g4
  have b4 : Below w2.heap.size w2 w4 := ((((Below.refl _ w2).alloc (Nat.le_refl _) _).alloc (by simp) _)).trans (f4.below (by simp; omega) (fun i hi h => by injection h with h; omega))
  have a4 : w4.ownsRow (w2.heap.size + 1) 5 1 v4 (recB ks).length (b8s (recB ks)) := by simpa using a4
  have K4 := Lib.hid (K2.out.next b4)
  have X4 := Lib.hid (X3.out.only f4 (fun h => by injection h with h; omega))
  have A4 := Lib.hid a4
  have B4 := Lib.hid b4
  have s4 := b4.size
  clear a4 g4 f4 b4 X3 O3 K3
  go_wp2_with (at_builtin; go_must (refine wpList_append_bytes _ rfl (.tmp 27) (.tmp 28) 31 rfl (w2.heap.size + 1) 5 i0 Tryd.underlying31 hi0 hz0 hz1 hz2 v4 (recB ks) (recB ks) rfl A4.out _ _ _ rfl K4.out.src hl2.out X4.out.lt ?_))
  intro v5 w5 a5 g5 _
  have a5 : w5.ownsRow (w2.heap.size + 1) 5 1 v5 (recB ks ++ recB ks).length (b8s (recB ks ++ recB ks)) := by simpa using a5
  have b5 : Below w2.heap.size w2 w5 := B4.out.grown g5 B4.out.size (fun i hi => by have := (A4.out.lt i hi).1; omega)
  have k5 := K2.out.next b5
  have X5 := Lib.hid (X4.out.only (Only.of_grown g5) (fun h => by have := (A4.out.lt _ h.symm).1; omega))
  have c5 := all_any v5 (recB ks ++ recB ks) _ _ w5 (owns_SlIs a5) (Nat.le_refl _) (by rw [List.length_append, ks_len]; omega) (k5.tabs HT.out)
  unfold AllStep at c5
  rw [ks_all] at c5
  have C5 := Lib.hid c5
  have K5 := Lib.hid k5
  clear a5 g5 b5 k5 c5 K4 X4 A4 B4 K2
  go_wp2_with fail
  refine C5.out.mono ?_
  rintro e w6 ⟨v6, rfl, a6, b6⟩
  obtain ⟨g6, cap6, rfl, _, _⟩ := a6.form (by decide)
  have k6 := K5.out.next b6
  have X6 := Lib.hid (X5.out.only (Only.of_below b6) (Nat.not_le_of_lt X5.out.lt))
  have q6 : SlIs w6 (w.heap.size + 1) hi (.slice A 26 c) ((recB ks).take 26) := by
    obtain ⟨A', c', he, h1, h2, h3⟩ := k6.src
    injection he with he1 he2 he3
    subst he1
    subst he3
    exact ⟨A, c, by rw [List.length_take, ks_len]; rfl, by rw [List.length_take]; omega, h2, h3.take 26⟩
  have c6 := decode_any (.slice A 26 c) ((recB ks).take 26) (w.heap.size + 1) hi w6 q6 k6.top (by rw [List.length_take]; omega) (k6.tabs HT.out)
  unfold DecodeStep at c6
  rw [ks_cut] at c6
  have C6 := Lib.hid c6
  have K6 := Lib.hid k6
  have hq1 : (26 : Int) ≤ (c : Int) := by omega
  simp only [List.length_cons, List.length_nil]
  clear a6 b6 k6 q6 c6 C5 X5 K5
  go_wp2_with fail
  refine C6.out.mono ?_
  rintro e w7 ⟨rfl, b7⟩
  have k7 := K6.out.next b7
  have x7 := X6.out.only (Only.of_below b7) (Nat.not_le_of_lt X6.out.lt)
  have k8 := k7.next ((Below.refl _ w7).alloc (Nat.le_refl _) (.cells #[.int .u16 0, .int .u32 0, .int .u8 0, .int .u32 0, .int .u64 0, .int .u32 0, .int .u32 0, .int .u32 0, .int .u64 0, .string (strOf []), .string (strOf []), .string (strOf []), .string (strOf [])] 28))
  have x8 := x7.alloc (.cells #[.int .u16 0, .int .u32 0, .int .u8 0, .int .u32 0, .int .u64 0, .int .u32 0, .int .u32 0, .int .u32 0, .int .u64 0, .string (strOf []), .string (strOf []), .string (strOf []), .string (strOf [])] 28)
  have c8 : Calls Tryd.prog 11 #[ks.val] (w7.alloc (.cells #[.int .u16 0, .int .u32 0, .int .u8 0, .int .u32 0, .int .u64 0, .int .u32 0, .int .u32 0, .int .u32 0, .int .u64 0, .string (strOf []), .string (strOf []), .string (strOf []), .string (strOf [])] 28)) fun e w' => e = .returned (.int .i64 53) ∧ Below (w7.alloc (.cells #[.int .u16 0, .int .u32 0, .int .u8 0, .int .u32 0, .int .u64 0, .int .u32 0, .int .u32 0, .int .u32 0, .int .u64 0, .string (strOf []), .string (strOf []), .string (strOf []), .string (strOf [])] 28)).heap.size (w7.alloc (.cells #[.int .u16 0, .int .u32 0, .int .u8 0, .int .u32 0, .int .u64 0, .int .u32 0, .int .u32 0, .int .u32 0, .int .u64 0, .string (strOf []), .string (strOf []), .string (strOf []), .string (strOf [])] 28)) w' := size_any ks _ ks_few
  have C8 := Lib.hid c8
  have K8 := Lib.hid k8
  have X8 := Lib.hid x8
  obtain ⟨⟨d0, d1, d2, d3, d4⟩, ⟨d5, d6, d7, d8⟩, ⟨d9, d10, d11, d12⟩⟩ := k8.row.ks13
  clear b7 k7 x7 k8 x8 c8 C6 X6 K6
  unfold S11.val S11.zero S11.cells
  simp only [Q3.zero]
  go_wp2_with fail
  refine C8.out.mono ?_
  rintro e w8 ⟨rfl, b8⟩
  have k9 := K8.out.next b8
  have x9 := X8.out.only (Only.of_below b8) (Nat.not_le_of_lt X8.out.lt)
  have K9 := Lib.hid k9
  clear d0 d1 d2 d3 d4 d5 d6 d7 d8 d9 d10 d11 d12
  obtain ⟨⟨d0, d1, d2, d3, d4⟩, ⟨d5, d6, d7, d8⟩, ⟨d9, d10, d11, d12⟩⟩ := k9.row.ks13
  obtain ⟨⟨x0, x1, x2, x3, x4⟩, ⟨x5, x6, x7, x8⟩, ⟨x9, x10, x11, x12⟩⟩ := x9.ks13
  clear b8 k9 C8 K8 X8
  go_wp2_with fail
  refine (keep_any w8).mono ?_
  rintro e w9 ⟨rfl, b9⟩
  have B9 := Lib.hid (K9.out.low.trans (b9.mono K9.out.low.size))
  clear b9 K9 d0 d1 d2 d3 d4 d5 d6 d7 d8 d9 d10 d11 d12
  have hf3 := Tryd.keepMode w9
  unfold S11.val S11.keep S11.cells
  go_wp2_with fail
  refine (keep_any w9).mono ?_
  rintro e w10 ⟨rfl, b10⟩
  have R := Lib.hid (B9.out.trans (b10.mono B9.out.size))
  have hf7 := Tryd.keepName w10
  clear b10 B9 hf3
  unfold S11.val S11.keep S11.cells
  go_wp2
  go_ret
  exact ⟨rfl, R.out⟩
end Go.Proofs.YtbfigbbenaoaeaaDoor
