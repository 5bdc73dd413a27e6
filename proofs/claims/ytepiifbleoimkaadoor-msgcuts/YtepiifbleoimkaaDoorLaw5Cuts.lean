/-
  Layer 5's MsgCuts: whatever message, cut and byte, it answers true and leaves what was there.
-/
import Derived.Test.YtepiifbleoimkaaDoorMsgS
namespace Go.Proofs.YtepiifbleoimkaaDoor
open Go.RowKit
set_option maxRecDepth 100000

theorem cell22 {W : World} {mb lo hi : Nat} {cs : Array Value} {m : Nat → F} {b : List UInt8} (h : Has W mb 33 cs) (g : MgAt W lo hi cs m) (hb : m 22 = .data b) : ∃ A c, W.cell? ⟨mb, 22, none⟩ = some (.slice A b.length c) := by
  have p := g.lies (.data, 22) (by decide)
  rw [hb] at p
  obtain ⟨v, e, A, c, rfl, _⟩ := p
  exact ⟨A, c, (h.cell 22).trans e⟩
set_option maxHeartbeats 2000000 in
theorem cuts5_early (cs : Array Value) (m : Nat → F) (L : List (List UInt8)) (Q : List Q3) (b ve un an en na : List UInt8) (s : S11) (n : Int) (x : Int) (w : World) (hT : Tabs w) (hm : MgAt w 0 w.heap.size cs m) (P : Parts m L Q b ve un an en na s) (h : ¬ FewP L Q b ve un an en na s ∨ n < 0 ∨ 500 < b.length) :
    Calls Tryd.prog 6 #[.agg cs, .int .i64 n, .int .u8 x] w fun e w' => e = .returned (.bool true) ∧ Below w.heap.size w w' := by
  have K0 := Lib.hid (KM.new hm)
  have C0 := Lib.hid (known5 _ (K0.out.tabs hT))
  have HF := Lib.hid (fun W (k : KM w W cs m) => few5_any 0 w.heap.size cs m L Q b ve un an en na s W k.mg k.low.size P.h11 P.h12 P.h22 P.h3 P.h7 P.h8 P.h9 P.h19 P.h23)
  have HZ := Lib.hid hm.size
  have HD := Lib.hid P.h22
  clear hT hm P
  go_enter Tryd.func6, Tryd.ntmps6
  go_wp2_with fail
  refine C0.out.mono ?_
  rintro e w1 ⟨rfl, b1⟩
  have K1 := Lib.hid (K0.out.next b1)
  clear b1 C0 K0
  go_wp2_with (first
    | (refine load_struct Tryd.underlying33 rfl Tryd.msgSize w.heap.size cs (.tmp 3) rfl rfl rfl K1.out.row HZ.out ?_)
    | fail)
  refine (HF.out w1 K1.out).mono ?_
  rintro e w2 ⟨⟨bb, rfl, hbb⟩, b2⟩
  have K2 := Lib.hid (K1.out.next b2)
  clear b2 K1 HF
  have R := Lib.hid K2.out.low
  obtain ⟨A22, x22, c22⟩ := cell22 K2.out.row K2.out.mg HD.out
  clear HD K2
  by_cases hf : FewP L Q b ve un an en na s
  · have hb1 : bb = true := hbb.2 hf
    subst hb1
    by_cases hn : n < 0
    · have dn : decide (n < 0) = true := decide_eq_true hn
      clear h hbb hf
      go_wp2
      go_ret
      exact ⟨rfl, R.out⟩
    · have dn : decide (n < 0) = false := decide_eq_false hn
      have hl : 500 < b.length := by rcases h with h | h | h <;> first | exact absurd hf h | exact absurd h hn | exact h
      have dm : decide ((500 : Int) < (b.length : Int)) = true := decide_eq_true (by omega)
      clear h hbb hf
      go_wp2
      go_ret
      exact ⟨rfl, R.out⟩
  · have hb1 : bb = false := by
      cases bb with
      | true => exact absurd (hbb.1 rfl) hf
      | false => rfl
    subst hb1
    clear h hbb hf
    go_wp2
    go_ret
    exact ⟨rfl, R.out⟩

set_option maxHeartbeats 4000000 in
theorem cuts5_walk (cs : Array Value) (m : Nat → F) (L : List (List UInt8)) (Q : List Q3) (b ve un an en na : List UInt8) (s : S11) (k x t tag : Nat) (w : World) (hT : Tabs w) (hm : MgAt w 0 w.heap.size cs m) (P : Parts m L Q b ve un an en na s) (hok : ∀ p ∈ places, (m p.2).Ok) (hf : FewP L Q b ve un an en na s) (hb : b.length ≤ 500) (hx : x < 256)
    (h0 : m 0 = .num 1 t) (h1 : m 1 = .num 2 tag) (ht : t < 256) (htag : tag < 65536) :
    Calls Tryd.prog 6 #[.agg cs, .int .i64 (k : Int), .int .u8 (x : Int)] w fun e w' => e = .returned (.bool true) ∧ Below w.heap.size w w' := by
  have K0 := Lib.hid (KM.new hm)
  have C0 := Lib.hid (known5 _ (K0.out.tabs hT))
  have HF := Lib.hid (fun W (k : KM w W cs m) => few5_any 0 w.heap.size cs m L Q b ve un an en na s W k.mg k.low.size P.h11 P.h12 P.h22 P.h3 P.h7 P.h8 P.h9 P.h19 P.h23)
  have HZ := Lib.hid hm.size
  have HD := Lib.hid P.h22
  obtain ⟨l, hl⟩ : ∃ l, (namedOf t).getD [] = l := ⟨_, rfl⟩
  have HE := Lib.hid (fun W (k : KM w W cs m) => k.encode hT h0 h1 ht htag hl hok (few_all hm P hf))
  have hcut : encErr t (fieldsOf m l) = 0 → ∀ n, n < (msgB t tag (fieldsOf m l)).length → decM ((msgB t tag (fieldsOf m l)).take n) = none ∧ ∀ c, decM (msgB t tag (fieldsOf m l) ++ [c]) = none := by
    intro he n hn
    unfold encErr at he
    split at he
    · rename_i hty
      obtain ⟨l', hl'⟩ := Option.isSome_iff_exists.1 (named_some hty)
      rw [hl'] at hl
      have hl2 : l' = l := hl
      subst hl2
      have hks := fields_kinds hm hl'
      have hoks : ∀ f ∈ fieldsOf m l', f.Ok := fun f hf => by
        obtain ⟨p, hp, rfl⟩ := List.mem_map.1 hf
        exact hok p ((named_mem hl').1 p hp)
      refine ⟨decM_cut n hl' ht htag hks hoks he hn, fun c => ?_⟩
      rw [decM_more [c] hl' ht htag hks hoks he, if_neg (by simp)]
    · cases he
  have hlen : encErr t (fieldsOf m l) = 0 → (msgB t tag (fieldsOf m l)).length ≤ 90000 := by
    intro he
    unfold encErr at he
    split at he
    · rename_i hty
      obtain ⟨l', hl'⟩ := Option.isSome_iff_exists.1 (named_some hty)
      rw [hl'] at hl
      have hl2 : l' = l := hl
      subst hl2
      have h4 := (named_std hl').2
      have := fBL_len (fieldsOf m l') he (fun f hf => by
        obtain ⟨p, hp, rfl⟩ := List.mem_map.1 hf
        exact hok p ((named_mem hl').1 p hp))
      have hfl : (fieldsOf m l').length = l'.length := by simp [fieldsOf]
      simp only [msgB, List.length_append, putB_length]
      omega
    · cases he
  have hl3 := msgB_len3 t tag (fieldsOf m l)
  have HC := Lib.hid hcut
  have HL := Lib.hid hlen
  have HT := Lib.hid hT
  have HFw := Lib.hid hf
  obtain ⟨fs, hfs⟩ : ∃ fs, fs = fieldsOf m l := ⟨_, rfl⟩
  rw [← hfs] at HE HC HL hl3
  have dk : decide ((k : Int) < 0) = false := decide_eq_false (by omega)
  have dm : decide ((500 : Int) < (b.length : Int)) = false := decide_eq_false (by omega)
  obtain ⟨i0, hi0, hz0, hz1, hz2⟩ := info_parts Tryd.info8
  clear hT hm P hok hf h0 h1 hl hfs hcut hlen hb
  go_enter Tryd.func6, Tryd.ntmps6
  go_wp2_with fail
  refine C0.out.mono ?_
  rintro e w1 ⟨rfl, b1⟩
  have K1 := Lib.hid (K0.out.next b1)
  clear b1 C0 K0
  go_wp2_with (first
    | (refine load_struct Tryd.underlying33 rfl Tryd.msgSize w.heap.size cs (.tmp 3) rfl rfl rfl K1.out.row HZ.out ?_)
    | fail)
  refine (HF.out w1 K1.out).mono ?_
  rintro e w2 ⟨⟨bb, rfl, hbb⟩, b2⟩
  have K2 := Lib.hid (K1.out.next b2)
  clear b2 K1 HF
  have hb1 : bb = true := hbb.2 HFw.out
  subst hb1
  obtain ⟨A22, x22, c22⟩ := cell22 K2.out.row K2.out.mg HD.out
  clear HD hbb HFw
  go_wp2_with (first
    | (refine load_struct Tryd.underlying33 rfl Tryd.msgSize w.heap.size cs (.tmp 3) rfl rfl rfl K2.out.row HZ.out ?_)
    | fail)
  refine (HE.out w2 K2.out).mono ?_
  intro e w3 st
  clear HE c22
  rcases st with ⟨he, v3, rfl, ow, b3⟩ | ⟨he, rfl, b3⟩
  · have hbl := HL.out he
    have hC := HC.out he
    obtain ⟨B, hB⟩ : ∃ B, B = msgB t tag fs := ⟨_, rfl⟩
    rw [← hB] at hbl hC ow hl3
    have sl := owns_SlIs ow
    obtain ⟨Av, cv, rfl, hc1, hc2, hrd⟩ := owns_slice ow
    obtain ⟨nB, hnB⟩ : ∃ nB, nB = B.length := ⟨_, rfl⟩
    obtain ⟨mm, hmd⟩ : ∃ mm, mm = k % nB := ⟨_, rfl⟩
    have hml : mm < nB := by rw [hmd]; exact Nat.mod_lt _ (by omega)
    have hrem : (k : Int).tmod (nB : Int) = (mm : Int) := by rw [hmd, Int.tmod_eq_emod_of_nonneg (by omega)]; omega
    have hq : SlIs w3 w2.heap.size w3.heap.size (.slice Av mm cv) (B.take mm) := ⟨Av, cv, by rw [List.length_take, Nat.min_eq_left (by omega)], by rw [List.length_take]; omega, hc2, hrd.take mm⟩
    have k3 := K2.out.next b3
    have c3 := decode5_any (.slice Av mm cv) (B.take mm) _ _ w3 hq (Nat.le_refl _) (by rw [List.length_take]; omega) (k3.tabs HT.out)
    rw [(hC mm (by omega)).1] at c3
    have C3 := Lib.hid c3
    have K3 := Lib.hid k3
    have SL := Lib.hid sl
    have HM := Lib.hid (fun c => (hC mm (by omega)).2 c)
    have dz : (nB : Int) ≠ 0 := by omega
    have dz2 : ((nB : Int) == 0) = false := by simp; omega
    have d3 : decide ((nB : Int) < 3) = false := decide_eq_false (by omega)
    simp only [maxLen] at hc2
    have hmc : (mm : Int) ≤ (cv : Int) := by omega
    have hm0 : (0 : Int) ≤ (mm : Int) := by omega
    rw [← hnB] at SL hl3 hbl ⊢
    have HnB := Lib.hid hnB
    clear c3 k3 sl hq ow hrd hC hmd b3 K2 HL HC hB hnB he
    go_wp2_with fail
    refine C3.out.mono ?_
    rintro e w4 ⟨rfl, b4⟩
    have k4 := K3.out.next b4
    have sl4 := SL.out.keep ((Below.onlyNew b4).keeps (Nat.le_refl _) (fun _ _ _ h => h))
    have s34 := b4.size
    have hw4 := k4.size
    obtain ⟨n4, kn4⟩ := new_setRow (w := w4) (t := 33) (cs := zeroCells 0 0) (old := zeroCells 0 0)
    obtain ⟨W4, hW4⟩ : ∃ W, W = (w4.alloc (.cells (zeroCells 0 0) 33)).setRow w4.heap.size (zeroCells 0 0) := ⟨_, rfl⟩
    rw [← hW4] at n4 kn4
    have hz4 : W4.heap.size = w4.heap.size + 1 := by rw [hW4]; simp [World.setRow]
    obtain ⟨W5, hW5⟩ : ∃ W, W = W4.alloc (.cells #[] 5) := ⟨_, rfl⟩
    have hz5 : W5.heap.size = w4.heap.size + 2 := by rw [hW5]; simp [hz4]
    have k45 : Only (fun _ => False) w4 W5 := by rw [hW5]; exact kn4.alloc _
    have o5 : W5.ownsRow (w4.heap.size + 1) 5 1 (.slice (some ⟨w4.heap.size + 1, 0, none⟩) 0 0) 0 (b8s []) := by
      refine ⟨rfl, .inr ⟨w4.heap.size + 1, 0, #[], rfl, Nat.le_refl _, ?_, Nat.le_refl _, Nat.zero_le _, rfl, rfl⟩⟩
      have := heap_alloc_new W4 (.cells #[] 5)
      rw [hz4] at this
      rw [hW5]
      exact this
    have sl5 : SlIs W5 w2.heap.size w3.heap.size (.slice Av nB cv) B := sl4.keep (k45.keeps s34 (fun _ _ _ h => h))
    have HW5 : Hid (W5 = (((w4.alloc (.cells #[.int .u8 0, .int .u16 0, .int .u32 0, .string ⟨#[]⟩, .int .u32 0, .int .u32 0, .int .u32 0, .string ⟨#[]⟩, .string ⟨#[]⟩, .string ⟨#[]⟩, .int .u16 0, .slice none 0 0, .slice none 0 0, .int .u8 0, .int .u32 0, .int .u64 0, .int .u32 0, .int .u8 0, .int .u32 0, .string ⟨#[]⟩, .int .u64 0, .int .u32 0, .slice none 0 0, .int .u16 0, .int .u32 0, .int .u8 0, .int .u32 0, .int .u64 0, .int .u32 0, .int .u32 0, .int .u32 0, .int .u64 0, .string ⟨#[]⟩, .string ⟨#[]⟩, .string ⟨#[]⟩, .string ⟨#[]⟩] 33)).setRow w4.heap.size (zeroCells 0 0)).alloc (.cells #[] 5))) := by rw [hW5, hW4]; exact rfl
    have O5 : Hid ((((w4.alloc (.cells #[.int .u8 0, .int .u16 0, .int .u32 0, .string ⟨#[]⟩, .int .u32 0, .int .u32 0, .int .u32 0, .string ⟨#[]⟩, .string ⟨#[]⟩, .string ⟨#[]⟩, .int .u16 0, .slice none 0 0, .slice none 0 0, .int .u8 0, .int .u32 0, .int .u64 0, .int .u32 0, .int .u8 0, .int .u32 0, .string ⟨#[]⟩, .int .u64 0, .int .u32 0, .slice none 0 0, .int .u16 0, .int .u32 0, .int .u8 0, .int .u32 0, .int .u64 0, .int .u32 0, .int .u32 0, .int .u32 0, .int .u64 0, .string ⟨#[]⟩, .string ⟨#[]⟩, .string ⟨#[]⟩, .string ⟨#[]⟩] 33)).setRow w4.heap.size (zeroCells 0 0)).alloc (.cells #[] 5)).ownsRow (w4.heap.size + 1) 5 1 (.slice (some ⟨w4.heap.size + 1, 0, none⟩) 0 0) 0 (b8s [])) := by rw [← HW5.out]; exact o5
    have SL5 : Hid (SlIs (((w4.alloc (.cells #[.int .u8 0, .int .u16 0, .int .u32 0, .string ⟨#[]⟩, .int .u32 0, .int .u32 0, .int .u32 0, .string ⟨#[]⟩, .string ⟨#[]⟩, .string ⟨#[]⟩, .int .u16 0, .slice none 0 0, .slice none 0 0, .int .u8 0, .int .u32 0, .int .u64 0, .int .u32 0, .int .u8 0, .int .u32 0, .string ⟨#[]⟩, .int .u64 0, .int .u32 0, .slice none 0 0, .int .u16 0, .int .u32 0, .int .u8 0, .int .u32 0, .int .u64 0, .int .u32 0, .int .u32 0, .int .u32 0, .int .u64 0, .string ⟨#[]⟩, .string ⟨#[]⟩, .string ⟨#[]⟩, .string ⟨#[]⟩] 33)).setRow w4.heap.size (zeroCells 0 0)).alloc (.cells #[] 5)) w2.heap.size w3.heap.size (.slice Av nB cv) B) := by rw [← HW5.out]; exact sl5
    have K4 := Lib.hid k4
    have SL4 := Lib.hid sl4
    have K45 := Lib.hid k45
    have hbase : w4.heap.size + 1 ≤ (((w4.alloc (.cells #[.int .u8 0, .int .u16 0, .int .u32 0, .string ⟨#[]⟩, .int .u32 0, .int .u32 0, .int .u32 0, .string ⟨#[]⟩, .string ⟨#[]⟩, .string ⟨#[]⟩, .int .u16 0, .slice none 0 0, .slice none 0 0, .int .u8 0, .int .u32 0, .int .u64 0, .int .u32 0, .int .u8 0, .int .u32 0, .string ⟨#[]⟩, .int .u64 0, .int .u32 0, .slice none 0 0, .int .u16 0, .int .u32 0, .int .u8 0, .int .u32 0, .int .u64 0, .int .u32 0, .int .u32 0, .int .u32 0, .int .u64 0, .string ⟨#[]⟩, .string ⟨#[]⟩, .string ⟨#[]⟩, .string ⟨#[]⟩] 33)).setRow w4.heap.size (zeroCells 0 0)).alloc (.cells #[] 5)).heap.size := by rw [← HW5.out]; omega
    have HBs := Lib.hid hbase
    clear b4 k4 sl4 n4 kn4 hW4 hz4 hW5 k45 o5 sl5 C3 K3 SL hbase
    go_wp2_with (first
      | (refine store_struct Tryd.msgSize w4.heap.size (zeroCells 0 0) (.tmp 9) (.tmp 50) rfl rfl rfl rfl (Has.new w4 33 (zeroCells 0 0)) rfl rfl (zero_one 0 0) ?_)
      | (at_builtin; go_must (refine wpList_append_bytes _ rfl (.tmp 53) (.tmp 54) 29 rfl (w4.heap.size + 1) 5 i0 Tryd.underlying29 hi0 hz0 hz1 hz2 _ [] B rfl O5.out _ _ _ rfl SL5.out (by rw [List.nil_append, ← HnB.out]; omega) HBs.out ?_))
      | fail)
    intro v6 w6 a6 g6 _
    have g6' : Only (fun i => i = w4.heap.size + 1) W5 w6 := by
      have := Only.of_grown g6
      rw [← HW5.out] at this
      exact this.mono (fun i _ h => by simpa [Value.ownBlock] using h)
    have b6 : Below w4.heap.size w4 w6 := (K45.out.below (Nat.le_refl _) (fun _ _ h => h)).trans (g6'.below (by omega) (fun i hi h => by omega))
    have s6 := g6'.size
    obtain ⟨cb, hcb⟩ : ∃ cb : UInt8, b8 cb = .int .u8 (x : Int) := ⟨UInt8.ofNat x, by unfold b8; congr 1; rw [UInt8.toNat_ofNat']; omega⟩
    have a7 : (w6.alloc (.cells #[.int .u8 (x : Int)] 5)).ownsRow (w4.heap.size + 1) 5 1 v6 B.length (b8s B) := owns_only a6 ((Only.refl (fun _ => False) w6).alloc _) (fun _ _ h => h)
    have l7 := lit_SlIs w6 5 (0, 0) [cb] 1 rfl (by simp [maxLen])
    rw [show (b8s [cb]).toArray = #[.int .u8 (x : Int)] from by simp [b8s, hcb]] at l7
    have A7 := Lib.hid a7
    have L7 := Lib.hid l7
    have B6 := Lib.hid b6
    have k6 := K4.out.next b6
    have K6 := Lib.hid k6
    have OB : Hid (∀ i, v6.ownBlock = some i → w4.heap.size + 1 ≤ i) := fun i hi => (a6.lt i hi).1
    clear a6 g6 g6' b6 a7 l7 k6 K4 SL4 K45 O5 SL5 HW5 HBs
    go_wp2_with (at_builtin; go_must (refine wpList_append_bytes _ rfl (.tmp 55) (.tmp 57) 29 rfl (w4.heap.size + 1) 5 i0 Tryd.underlying29 hi0 hz0 hz1 hz2 v6 B [cb] rfl A7.out _ _ _ rfl L7.out (by rw [List.length_append, ← HnB.out]; simp; omega) (by simp; omega) ?_))
    intro v7 w7 a8' g8 _
    have a8 : w7.ownsRow (w4.heap.size + 1) 5 1 v7 (B ++ [cb]).length (b8s (B ++ [cb])) := by rw [List.length_append]; exact a8'
    have g8' : Only (fun i => w4.heap.size + 1 ≤ i) w6 w7 := ((Only.refl (fun i => w4.heap.size + 1 ≤ i) w6).alloc _).trans (Only.of_grown g8) (fun i _ h => OB.out i h.symm)
    have b7 : Below w4.heap.size w4 w7 := B6.out.trans (g8'.below (by omega) (fun i hi h => by omega))
    have k7 : KM w w7 cs m := by
      refine ⟨K6.out.low.trans (g8'.below K6.out.low.size (fun i hi h => by have := K6.out.size; omega)), K6.out.row.only g8' (fun h => by omega), K6.out.mg.keep (g8'.keeps K6.out.low.size (fun i _ hi h => by omega))⟩
    have c8 := decode5_any v7 (B ++ [cb]) _ _ w7 (owns_SlIs a8) (Nat.le_refl _) (by rw [List.length_append, ← HnB.out]; simp; omega) (k7.tabs HT.out)
    rw [HM.out cb] at c8
    have C8 := Lib.hid c8
    have K7 := Lib.hid k7
    obtain ⟨A8, x8, rfl, _⟩ := owns_slice a8
    generalize (B ++ [cb]).length = n8 at C8
    clear a8 a8' g8 g8' b7 k7 c8 A7 L7 B6 K6 OB
    go_wp2_with fail
    refine C8.out.mono ?_
    rintro e w8 ⟨rfl, b8'⟩
    have k8 := K7.out.next b8'
    obtain ⟨n9, kn9⟩ := new_setRow (w := w8) (t := 33) (cs := zeroCells 0 0) (old := zeroCells 0 0)
    have R : Hid (Below w.heap.size w ((w8.alloc (.cells (zeroCells 0 0) 33)).setRow w8.heap.size (zeroCells 0 0))) := (k8.keep kn9).low
    clear b8' k8 n9 kn9 C8 K7
    go_wp2_with (first
      | (refine store_struct Tryd.msgSize w8.heap.size (zeroCells 0 0) (.tmp 11) (.tmp 60) rfl rfl rfl rfl (Has.new w8 33 (zeroCells 0 0)) rfl rfl (zero_one 0 0) ?_)
      | fail)
    go_ret
    exact ⟨rfl, R.out⟩
  · have R := Lib.hid (K2.out.next b3).low
    have hd : (encErr t fs != 0) = true := by simpa using he
    clear b3 K2 HC HL he
    generalize encErr t fs = er at hd
    go_wp2
    go_ret
    exact ⟨rfl, R.out⟩
end Go.Proofs.YtepiifbleoimkaaDoor
