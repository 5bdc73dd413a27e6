/-
  Layer 4's StatBack: whatever record, it answers true and leaves what was there.
-/
import Derived.Test.YtbfigbbenaoaeaaDoorLaw4Keep
import Derived.Test.YtbfigbbenaoaeaaDoorRefStatC
namespace Go.Proofs.YtbfigbbenaoaeaaDoor
open Go.RowKit
set_option maxRecDepth 100000
attribute [local go_sem ↓] Go.wp_at_zero Go.wp_at_succ

theorem SlIs.next {W W2 : World} {v : Value} {B : List UInt8} (h : SlIs W 0 W.heap.size v B) (b : Below W.heap.size W W2) : SlIs W2 0 W2.heap.size v B := by
  obtain ⟨A, c, h1, h3, h4, h5⟩ := h
  exact ⟨A, c, h1, h3, h4, (h5.only (Only.of_below b) (Nat.le_refl _) (fun i _ hi h => by omega)).wide (Nat.le_refl _) b.size⟩
theorem slis_lo {w : World} {lo hi : Nat} {v : Value} {B : List UInt8} (h : SlIs w lo hi v B) (h2 : hi ≤ w.heap.size) : SlIs w 0 w.heap.size v B := by
  obtain ⟨A, c, h1, h3, h4, h5⟩ := h
  exact ⟨A, c, h1, h3, h4, h5.wide (Nat.zero_le _) h2⟩
theorem slis_nil (w : World) : SlIs w 0 w.heap.size (.slice none 0 0) [] := ⟨none, 0, rfl, Nat.le_refl _, by simp [maxLen], Rd.empty _ _ _ _⟩
/-- The record's block, and bytes at two places. -/
structure KY (w W : World) (s : S11) (v3 v5 : Value) (B : List UInt8) : Prop where
  knd : KR w W s
  one : SlIs W 0 W.heap.size v3 B
  two : SlIs W 0 W.heap.size v5 B
theorem KY.next {w W W2 : World} {s : S11} {v3 v5 : Value} {B : List UInt8} (k : KY w W s v3 v5 B) (b : Below W.heap.size W W2) : KY w W2 s v3 v5 B := ⟨k.knd.next b, k.one.next b, k.two.next b⟩
theorem KY.drew {w W : World} {s : S11} {v3 v5 : Value} {B : List UInt8} (k : KY w W s v3 v5 B) : KY w W.drew s v3 v5 B := k.next ⟨rfl, rfl, rfl, Nat.le_refl _, fun _ _ => rfl⟩
theorem KY.held {w W : World} {s : S11} {v3 v5 : Value} {B : List UInt8} (k : KY w W s v3 v5 B) : Has W w.heap.size 28 s.cells ∧ (convert 31 9 v3).run Tryd.prog W = .ok (.string (strOf B)) W ∧ (convert 31 9 v5).run Tryd.prog W = .ok (.string (strOf B)) W :=
  ⟨k.knd.row, run_str _ _ _ _ _ k.one, run_str _ _ _ _ _ k.two⟩

set_option maxHeartbeats 1000000 in
theorem back4_early (s : S11) (w : World) (hT : Tabs w) (h : ¬ s.isFew) : Calls Tryd.prog 3 #[s.val] w fun e w' => e = .returned (.bool true) ∧ Below w.heap.size w w' := by
  have K0 := Lib.hid (KR.new w s)
  have C0 := Lib.hid (known4 _ (K0.out.tabs hT))
  have HF : Hid (∀ W, Calls Tryd.prog 7 #[s.val] W fun e w' => e = .returned (.bool false) ∧ Below W.heap.size W w') := fun W => few_no s W h
  unfold S11.val at HF ⊢
  unfold S11.cells at C0 HF ⊢
  clear hT
  go_enter Tryd.func3, Tryd.ntmps3
  go_wp2_with fail
  refine C0.out.mono ?_
  rintro e w1 ⟨rfl, b1⟩
  have k1 : KR w w1 s := K0.out.next b1
  have K1 := Lib.hid k1
  obtain ⟨⟨d0, d1, d2, d3, d4⟩, ⟨d5, d6, d7, d8⟩, ⟨d9, d10, d11, d12⟩⟩ := k1.row.cells13
  clear k1 b1 C0 K0
  go_wp2_with fail
  refine (HF.out w1).mono ?_
  rintro e w2 ⟨rfl, b2⟩
  have R := Lib.hid (K1.out.next b2).low
  clear b2 K1 HF d0 d1 d2 d3 d4 d5 d6 d7 d8 d9 d10 d11 d12
  go_wp2
  go_ret
  exact ⟨rfl, R.out⟩

set_option maxHeartbeats 2000000 in
theorem back4_walk (s : S11) (w : World) (hT : Tabs w) (hn : s.Num) (hf : s.isFew) : Calls Tryd.prog 3 #[s.val] w fun e w' => e = .returned (.bool true) ∧ Below w.heap.size w w' := by
  obtain ⟨hF, hsz⟩ := isFew_few hf
  have hsz0 := size_ge s
  have K0 := Lib.hid (KR.new w s)
  have C0 := Lib.hid (known4 _ (K0.out.tabs hT))
  have HE := Lib.hid (fun W (k : KR w W s) => encode_kept s w W k hn hF hT)
  have HR := Lib.hid (fun W => refstat_any s W hn hF)
  have HF : Hid (∀ W, Calls Tryd.prog 7 #[s.val] W fun e w' => e = .returned (.bool true) ∧ Below W.heap.size W w') := fun W => few_yes s W hf
  have CS := Lib.hid (fun W => size_any s W hF)
  have CO := Lib.hid (fun W => of4_any s W)
  have CR := Lib.hid (fun W => refsize_any s W hF)
  have HT := Lib.hid hT
  have HNm := Lib.hid hn
  unfold S11.val at HF HE HR CS CO CR ⊢
  unfold S11.cells at C0 HF HE HR CS CO CR ⊢
  clear hT hn hF
  go_enter Tryd.func3, Tryd.ntmps3
  go_wp2_with fail
  refine C0.out.mono ?_
  rintro e w1 ⟨rfl, b1⟩
  have k1 : KR w w1 s := K0.out.next b1
  have K1 := Lib.hid k1
  obtain ⟨⟨d0, d1, d2, d3, d4⟩, ⟨d5, d6, d7, d8⟩, ⟨d9, d10, d11, d12⟩⟩ := k1.row.cells13
  clear k1 b1 C0 K0
  go_wp2_with fail
  refine (HF.out w1).mono ?_
  rintro e w2 ⟨rfl, b2⟩
  have k2 := K1.out.next b2
  have K2 := Lib.hid k2
  clear d0 d1 d2 d3 d4 d5 d6 d7 d8 d9 d10 d11 d12
  obtain ⟨⟨d0, d1, d2, d3, d4⟩, ⟨d5, d6, d7, d8⟩, ⟨d9, d10, d11, d12⟩⟩ := k2.row.cells13
  clear b2 k2 K1 HF
  go_wp2_with fail
  refine (HE.out w2 K2.out).mono ?_
  intro e w3 st
  clear d0 d1 d2 d3 d4 d5 d6 d7 d8 d9 d10 d11 d12 K2 HE
  rcases st with ⟨h0, A, c, rfl, hc1, hc2, k3⟩ | ⟨h0, rfl, k3⟩
  · have q3 := slis_lo k3.src k3.top
    obtain ⟨⟨d0, d1, d2, d3, d4⟩, ⟨d5, d6, d7, d8⟩, ⟨d9, d10, d11, d12⟩⟩ := k3.1.row.cells13
    have K3 := Lib.hid k3.1
    have Q3' := Lib.hid q3
    clear k3 q3
    go_wp2_with fail
    refine (CO.out w3).mono ?_
    rintro e w4 ⟨rfl, b4⟩
    have K4 := Lib.hid (K3.out.next b4)
    have Q4 := Lib.hid (Q3'.out.next b4)
    clear b4 K3 Q3' d0 d1 d2 d3 d4 d5 d6 d7 d8 d9 d10 d11 d12
    go_wp2_with fail
    refine (HR.out w4).mono ?_
    rintro e w5 (⟨_, v5, rfl, a5, b5⟩ | ⟨h, _⟩)
    rotate_left
    · exact absurd h0 h
    obtain ⟨A5, c5, hv5, _⟩ := owns_slice a5
    have KD : Hid (KY w w5.drew s (.slice A s.size c) v5 (recB s)) := Lib.hid (KY.drew ⟨K4.out.next b5, Q4.out.next b5, slis_lo (owns_SlIs a5) (Nat.le_refl _)⟩)
    rw [recB_length h0] at hv5
    subst hv5
    clear a5 b5 K4 Q4 HR
    go_upto_region 7 with fail
    refine wp_region_held_drew (S := fun w' => Has w' w.heap.size 28 s.cells ∧ (convert 31 9 (.slice A s.size c)).run Tryd.prog w' = .ok (.string (strOf (recB s))) w' ∧ (convert 31 9 (.slice A5 s.size c5)).run Tryd.prog w' = .ok (.string (strOf (recB s))) w') (by kernel_rfl) ?_ (fun hHeld => ?_)
    · exact KD.out.held
    refine takeH (i := 0) (d := 26) (v := ?_) (by kernel_rfl) (by kernel_rfl) (by kernel_rfl) rfl (fun _ _ _ h => h) (by rfl) ?_ hHeld ?_
    rotate_left
    · intro o ho w hSw
      cases ho
      go_simp
      try with_reducible rfl
    simp only [Act.put, List.setIfInBounds_toArray, List.set_cons_zero, List.set_cons_succ]
    refine takeH (i := 1) (d := 27) (v := ?_) (by kernel_rfl) (by kernel_rfl) (by kernel_rfl) rfl (fun _ _ _ h => h) (by rfl) ?_ hHeld ?_
    rotate_left
    · intro o ho w hSw
      cases ho
      go_simp
      try with_reducible rfl
    simp only [Act.put, List.setIfInBounds_toArray, List.set_cons_zero, List.set_cons_succ]
    refine takeH (i := 2) (d := 28) (v := ?_) (by kernel_rfl) (by kernel_rfl) (by kernel_rfl) rfl (fun _ _ _ h => h) (by rfl) ?_ hHeld ?_
    rotate_left
    · intro o ho w hSw
      cases ho
      go_simp
      try with_reducible rfl
    simp only [Act.put, List.setIfInBounds_toArray, List.set_cons_zero, List.set_cons_succ]
    refine takeH (i := 3) (d := 29) (v := ?_) (by kernel_rfl) (by kernel_rfl) (by kernel_rfl) rfl (fun _ _ _ h => h) (by rfl) ?_ hHeld ?_
    rotate_left
    · intro o ho w hSw
      cases ho
      go_simp
      try with_reducible rfl
    simp only [Act.put, List.setIfInBounds_toArray, List.set_cons_zero, List.set_cons_succ]
    refine takeH (i := 4) (d := 30) (v := ?_) (by kernel_rfl) (by kernel_rfl) (by kernel_rfl) rfl (fun _ _ _ h => h) (by rfl) ?_ hHeld ?_
    rotate_left
    · intro o ho w hSw
      cases ho
      go_simp
      try with_reducible rfl
    simp only [Act.put, List.setIfInBounds_toArray, List.set_cons_zero, List.set_cons_succ]
    refine takeH (i := 5) (d := 31) (v := ?_) (by kernel_rfl) (by kernel_rfl) (by kernel_rfl) rfl (fun _ _ _ h => h) (by rfl) ?_ hHeld ?_
    rotate_left
    · intro o ho w hSw
      cases ho
      go_simp
      try with_reducible rfl
    simp only [Act.put, List.setIfInBounds_toArray, List.set_cons_zero, List.set_cons_succ]
    refine takeH (i := 6) (d := 32) (v := ?_) (by kernel_rfl) (by kernel_rfl) (by kernel_rfl) rfl (fun _ _ _ h => h) (by rfl) ?_ hHeld ?_
    rotate_left
    · intro o ho w hSw
      cases ho
      go_simp
      try with_reducible rfl
    simp only [Act.put, List.setIfInBounds_toArray, List.set_cons_zero, List.set_cons_succ]
    refine takeH (i := 7) (d := 33) (v := ?_) (by kernel_rfl) (by kernel_rfl) (by kernel_rfl) rfl (fun _ _ _ h => h) (by rfl) ?_ hHeld ?_
    rotate_left
    · intro o ho w hSw
      cases ho
      go_simp
      try with_reducible rfl
    simp only [Act.put, List.setIfInBounds_toArray, List.set_cons_zero, List.set_cons_succ]
    refine takeH (i := 8) (d := 34) (v := ?_) (by kernel_rfl) (by kernel_rfl) (by kernel_rfl) rfl (fun _ _ _ h => h) (by rfl) ?_ hHeld ?_
    rotate_left
    · intro o ho w hSw
      cases ho
      go_simp
      try with_reducible rfl
    simp only [Act.put, List.setIfInBounds_toArray, List.set_cons_zero, List.set_cons_succ]
    refine takeH (i := 9) (d := 35) (v := ?_) (by kernel_rfl) (by kernel_rfl) (by kernel_rfl) rfl (fun _ _ _ h => h) (by rfl) ?_ hHeld ?_
    rotate_left
    · intro o ho w hSw
      cases ho
      go_simp
      try with_reducible rfl
    simp only [Act.put, List.setIfInBounds_toArray, List.set_cons_zero, List.set_cons_succ]
    refine takeH (i := 10) (d := 36) (v := ?_) (by kernel_rfl) (by kernel_rfl) (by kernel_rfl) rfl (fun _ _ _ h => h) (by rfl) ?_ hHeld ?_
    rotate_left
    · intro o ho w hSw
      cases ho
      go_simp
      try with_reducible rfl
    simp only [Act.put, List.setIfInBounds_toArray, List.set_cons_zero, List.set_cons_succ]
    refine takeH (i := 11) (d := 37) (v := s.val) (by kernel_rfl) (by kernel_rfl) (by kernel_rfl) rfl (fun _ _ _ h => h) (by rfl) ?_ hHeld ?_
    · intro o ho w hSw
      cases ho
      exact exec_load_row rfl rfl hSw.1 Tryd.underlying28 rfl Tryd.statSize13
    simp only [Act.put, List.setIfInBounds_toArray, List.set_cons_zero, List.set_cons_succ]
    refine takeH (i := 13) (d := 39) (v := s.val) (by kernel_rfl) (by kernel_rfl) (by kernel_rfl) rfl (fun _ _ _ h => h) (by rfl) ?_ hHeld ?_
    · intro o ho w hSw
      cases ho
      exact exec_load_row rfl rfl hSw.1 Tryd.underlying28 rfl Tryd.statSize13
    simp only [Act.put, List.setIfInBounds_toArray, List.set_cons_zero, List.set_cons_succ]
    refine wpAnyH_ready (rs := [12]) (by kernel_rfl) (by simp) ?_
    refine AllReadyH.cons rfl (fun K hK => ?_) AllReadyH.nil
    go_simp
    refine (CS.out _).mono ?_
    rintro e w7 ⟨rfl, b1⟩
    have K7 := Lib.hid (KD.out.next b1)
    clear b1 KD
    try go_wp2_with fail
    refine hK.out _ _ ?_ (fun hHeld => ?_)
    · exact K7.out.held
    clear hK K
    refine wpAnyH_ready (rs := [14]) (by kernel_rfl) (by simp) ?_
    refine AllReadyH.cons rfl (fun K hK => ?_) AllReadyH.nil
    go_simp
    refine (CO.out _).mono ?_
    rintro e w8 ⟨rfl, b1⟩
    have K8 := Lib.hid (K7.out.next b1)
    clear b1 K7
    try go_wp2_with fail
    refine hK.out _ _ ?_ (fun hHeld => ?_)
    · exact K8.out.held
    clear hK K
    refine wpAnyH_ready (rs := [15]) (by kernel_rfl) (by simp) ?_
    refine AllReadyH.cons rfl (fun K hK => ?_) AllReadyH.nil
    go_simp
    refine (CR.out _).mono ?_
    rintro e w9 ⟨rfl, b1⟩
    have K9 := Lib.hid (K8.out.next b1)
    clear b1 K8
    try go_wp2_with fail
    refine hK.out _ _ ?_ (fun hHeld => ?_)
    · exact K9.out.held
    clear hK K
    refine takeH (i := 16) (d := 42) (v := ?_) (by kernel_rfl) (by kernel_rfl) (by kernel_rfl) rfl (fun _ _ _ h => h) (by rfl) ?_ hHeld ?_
    rotate_left
    · intro o ho w hSw
      cases ho
      go_simp
      try with_reducible rfl
    simp only [Act.put, List.setIfInBounds_toArray, List.set_cons_zero, List.set_cons_succ]
    refine takeH (i := 17) (d := 43) (v := ?_) (by kernel_rfl) (by kernel_rfl) (by kernel_rfl) rfl (fun _ _ _ h => h) (by rfl) ?_ hHeld ?_
    rotate_left
    · intro o ho w hSw
      cases ho
      go_simp
      try with_reducible rfl
    simp only [Act.put, List.setIfInBounds_toArray, List.set_cons_zero, List.set_cons_succ]
    refine wpAnyH_done (by kernel_rfl) ?_ _
    have c9 := decode_any (.slice A s.size c) (recB s ++ []) 0 w9.heap.size w9 (by rw [List.append_nil]; exact K9.out.one) (Nat.le_refl _) (by rw [List.append_nil, recB_length h0]; omega) (K9.out.knd.tabs HT.out)
    unfold DecodeStep at c9
    rw [dec_item [] HNm.out h0] at c9
    have C9 := Lib.hid c9
    have KK := Lib.hid K9.out.knd
    clear c9 K9
    go_wp2_with fail
    refine C9.out.mono ?_
    rintro e w10 ⟨rfl, b10⟩
    have k10 := KK.out.next b10
    have k11 := k10.next ((Below.refl _ w10).alloc (Nat.le_refl _) (.cells s.cells 28))
    have x11 := Has.new w10 28 s.cells
    obtain ⟨⟨d0, d1, d2, d3, d4⟩, ⟨d5, d6, d7, d8⟩, ⟨d9, d10, d11, d12⟩⟩ := k11.row.cells13
    obtain ⟨⟨x0, x1, x2, x3, x4⟩, ⟨x5, x6, x7, x8⟩, ⟨x9, x10, x11', x12⟩⟩ := x11.cells13
    have K11 := Lib.hid k11
    clear b10 k10 k11 x11 C9 KK HT HNm
    unfold S11.val S11.cells
    unfold S11.cells at d0 d1 d2 d3 d4 d5 d6 d7 d8 d9 d10 d11 d12 x0 x1 x2 x3 x4 x5 x6 x7 x8 x9 x10 x11' x12
    unfold S11.cells at K11
    go_wp2_with fail
    refine (CS.out _).mono ?_
    rintro e w12 ⟨rfl, b12⟩
    have K12 := Lib.hid (K11.out.next b12).low
    clear b12 K11 d0 d1 d2 d3 d4 d5 d6 d7 d8 d9 d10 d11 d12 x0 x1 x2 x3 x4 x5 x6 x7 x8 x9 x10 x11' x12
    go_wp2_with fail
    refine (keep_any w12).mono ?_
    rintro e w13 ⟨rfl, b13⟩
    have K13 := Lib.hid (K12.out.trans (b13.mono K12.out.size))
    clear b13 K12
    go_wp2_with fail
    refine (of4_any S11.keep w13).mono ?_
    rintro e w14 ⟨rfl, b14⟩
    have K14 := Lib.hid (K13.out.trans (b14.mono K13.out.size))
    clear b14 K13
    go_wp2_with fail
    refine (refkeep_any w14).mono ?_
    rintro e w15 ⟨rfl, b15⟩
    have R := Lib.hid (K14.out.trans (b15.mono K14.out.size))
    clear b15 K14
    unfold S11.val S11.keep S11.cells
    go_wp2
    go_ret
    exact ⟨rfl, R.out⟩
  · obtain ⟨⟨d0, d1, d2, d3, d4⟩, ⟨d5, d6, d7, d8⟩, ⟨d9, d10, d11, d12⟩⟩ := k3.row.cells13
    have K3 := Lib.hid k3
    have hd : (wrongL s.texts != 0) = true := by simpa using h0
    clear k3
    go_wp2_with fail
    refine (CO.out w3).mono ?_
    rintro e w4 ⟨rfl, b4⟩
    have K4 := Lib.hid (K3.out.next b4)
    clear b4 K3 d0 d1 d2 d3 d4 d5 d6 d7 d8 d9 d10 d11 d12
    go_wp2_with fail
    refine (HR.out w4).mono ?_
    rintro e w5 (⟨h, _⟩ | ⟨_, rfl, b5⟩)
    · exact absurd h h0
    have KD : Hid (KY w w5.drew s (.slice none 0 0) (.slice none 0 0) []) := Lib.hid (KY.drew ⟨K4.out.next b5, slis_nil _, slis_nil _⟩)
    clear b5 K4 HR
    generalize wrongL s.texts = er at h0 hd ⊢
    go_upto_region 7 with fail
    refine wp_region_held_drew (S := fun w' => Has w' w.heap.size 28 s.cells ∧ (convert 31 9 ((.slice none 0 0))).run Tryd.prog w' = .ok (.string (strOf ([]))) w' ∧ (convert 31 9 ((.slice none 0 0))).run Tryd.prog w' = .ok (.string (strOf ([]))) w') (by kernel_rfl) ?_ (fun hHeld => ?_)
    · exact KD.out.held
    refine takeH (i := 0) (d := 26) (v := ?_) (by kernel_rfl) (by kernel_rfl) (by kernel_rfl) rfl (fun _ _ _ h => h) (by rfl) ?_ hHeld ?_
    rotate_left
    · intro o ho w hSw
      cases ho
      go_simp
      try with_reducible rfl
    simp only [Act.put, List.setIfInBounds_toArray, List.set_cons_zero, List.set_cons_succ]
    refine takeH (i := 1) (d := 27) (v := ?_) (by kernel_rfl) (by kernel_rfl) (by kernel_rfl) rfl (fun _ _ _ h => h) (by rfl) ?_ hHeld ?_
    rotate_left
    · intro o ho w hSw
      cases ho
      go_simp
      try with_reducible rfl
    simp only [Act.put, List.setIfInBounds_toArray, List.set_cons_zero, List.set_cons_succ]
    refine takeH (i := 2) (d := 28) (v := ?_) (by kernel_rfl) (by kernel_rfl) (by kernel_rfl) rfl (fun _ _ _ h => h) (by rfl) ?_ hHeld ?_
    rotate_left
    · intro o ho w hSw
      cases ho
      go_simp
      try with_reducible rfl
    simp only [Act.put, List.setIfInBounds_toArray, List.set_cons_zero, List.set_cons_succ]
    refine takeH (i := 3) (d := 29) (v := ?_) (by kernel_rfl) (by kernel_rfl) (by kernel_rfl) rfl (fun _ _ _ h => h) (by rfl) ?_ hHeld ?_
    rotate_left
    · intro o ho w hSw
      cases ho
      go_simp
      try with_reducible rfl
    simp only [Act.put, List.setIfInBounds_toArray, List.set_cons_zero, List.set_cons_succ]
    refine takeH (i := 4) (d := 30) (v := ?_) (by kernel_rfl) (by kernel_rfl) (by kernel_rfl) rfl (fun _ _ _ h => h) (by rfl) ?_ hHeld ?_
    rotate_left
    · intro o ho w hSw
      cases ho
      go_simp
      try with_reducible rfl
    simp only [Act.put, List.setIfInBounds_toArray, List.set_cons_zero, List.set_cons_succ]
    refine takeH (i := 5) (d := 31) (v := ?_) (by kernel_rfl) (by kernel_rfl) (by kernel_rfl) rfl (fun _ _ _ h => h) (by rfl) ?_ hHeld ?_
    rotate_left
    · intro o ho w hSw
      cases ho
      go_simp
      try with_reducible rfl
    simp only [Act.put, List.setIfInBounds_toArray, List.set_cons_zero, List.set_cons_succ]
    refine takeH (i := 6) (d := 32) (v := ?_) (by kernel_rfl) (by kernel_rfl) (by kernel_rfl) rfl (fun _ _ _ h => h) (by rfl) ?_ hHeld ?_
    rotate_left
    · intro o ho w hSw
      cases ho
      go_simp
      try with_reducible rfl
    simp only [Act.put, List.setIfInBounds_toArray, List.set_cons_zero, List.set_cons_succ]
    refine takeH (i := 7) (d := 33) (v := ?_) (by kernel_rfl) (by kernel_rfl) (by kernel_rfl) rfl (fun _ _ _ h => h) (by rfl) ?_ hHeld ?_
    rotate_left
    · intro o ho w hSw
      cases ho
      go_simp
      try with_reducible rfl
    simp only [Act.put, List.setIfInBounds_toArray, List.set_cons_zero, List.set_cons_succ]
    refine takeH (i := 8) (d := 34) (v := ?_) (by kernel_rfl) (by kernel_rfl) (by kernel_rfl) rfl (fun _ _ _ h => h) (by rfl) ?_ hHeld ?_
    rotate_left
    · intro o ho w hSw
      cases ho
      go_simp
      try with_reducible rfl
    simp only [Act.put, List.setIfInBounds_toArray, List.set_cons_zero, List.set_cons_succ]
    refine takeH (i := 9) (d := 35) (v := ?_) (by kernel_rfl) (by kernel_rfl) (by kernel_rfl) rfl (fun _ _ _ h => h) (by rfl) ?_ hHeld ?_
    rotate_left
    · intro o ho w hSw
      cases ho
      go_simp
      try with_reducible rfl
    simp only [Act.put, List.setIfInBounds_toArray, List.set_cons_zero, List.set_cons_succ]
    refine takeH (i := 10) (d := 36) (v := ?_) (by kernel_rfl) (by kernel_rfl) (by kernel_rfl) rfl (fun _ _ _ h => h) (by rfl) ?_ hHeld ?_
    rotate_left
    · intro o ho w hSw
      cases ho
      go_simp
      try with_reducible rfl
    simp only [Act.put, List.setIfInBounds_toArray, List.set_cons_zero, List.set_cons_succ]
    refine takeH (i := 11) (d := 37) (v := s.val) (by kernel_rfl) (by kernel_rfl) (by kernel_rfl) rfl (fun _ _ _ h => h) (by rfl) ?_ hHeld ?_
    · intro o ho w hSw
      cases ho
      exact exec_load_row rfl rfl hSw.1 Tryd.underlying28 rfl Tryd.statSize13
    simp only [Act.put, List.setIfInBounds_toArray, List.set_cons_zero, List.set_cons_succ]
    refine takeH (i := 13) (d := 39) (v := s.val) (by kernel_rfl) (by kernel_rfl) (by kernel_rfl) rfl (fun _ _ _ h => h) (by rfl) ?_ hHeld ?_
    · intro o ho w hSw
      cases ho
      exact exec_load_row rfl rfl hSw.1 Tryd.underlying28 rfl Tryd.statSize13
    simp only [Act.put, List.setIfInBounds_toArray, List.set_cons_zero, List.set_cons_succ]
    refine wpAnyH_ready (rs := [12]) (by kernel_rfl) (by simp) ?_
    refine AllReadyH.cons rfl (fun K hK => ?_) AllReadyH.nil
    go_simp
    refine (CS.out _).mono ?_
    rintro e w7 ⟨rfl, b1⟩
    have K7 := Lib.hid (KD.out.next b1)
    clear b1 KD
    try go_wp2_with fail
    refine hK.out _ _ ?_ (fun hHeld => ?_)
    · exact K7.out.held
    clear hK K
    refine wpAnyH_ready (rs := [14]) (by kernel_rfl) (by simp) ?_
    refine AllReadyH.cons rfl (fun K hK => ?_) AllReadyH.nil
    go_simp
    refine (CO.out _).mono ?_
    rintro e w8 ⟨rfl, b1⟩
    have K8 := Lib.hid (K7.out.next b1)
    clear b1 K7
    try go_wp2_with fail
    refine hK.out _ _ ?_ (fun hHeld => ?_)
    · exact K8.out.held
    clear hK K
    refine wpAnyH_ready (rs := [15]) (by kernel_rfl) (by simp) ?_
    refine AllReadyH.cons rfl (fun K hK => ?_) AllReadyH.nil
    go_simp
    refine (CR.out _).mono ?_
    rintro e w9 ⟨rfl, b1⟩
    have K9 := Lib.hid (K8.out.next b1)
    clear b1 K8
    try go_wp2_with fail
    refine hK.out _ _ ?_ (fun hHeld => ?_)
    · exact K9.out.held
    clear hK K
    refine takeH (i := 16) (d := 42) (v := ?_) (by kernel_rfl) (by kernel_rfl) (by kernel_rfl) rfl (fun _ _ _ h => h) (by rfl) ?_ hHeld ?_
    rotate_left
    · intro o ho w hSw
      cases ho
      go_simp
      try with_reducible rfl
    simp only [Act.put, List.setIfInBounds_toArray, List.set_cons_zero, List.set_cons_succ]
    refine takeH (i := 17) (d := 43) (v := ?_) (by kernel_rfl) (by kernel_rfl) (by kernel_rfl) rfl (fun _ _ _ h => h) (by rfl) ?_ hHeld ?_
    rotate_left
    · intro o ho w hSw
      cases ho
      go_simp
      try with_reducible rfl
    simp only [Act.put, List.setIfInBounds_toArray, List.set_cons_zero, List.set_cons_succ]
    refine wpAnyH_done (by kernel_rfl) ?_ _
    have R := Lib.hid K9.out.knd.low
    clear K9
    go_wp2
    go_ret
    exact ⟨rfl, R.out⟩
end Go.Proofs.YtbfigbbenaoaeaaDoor
