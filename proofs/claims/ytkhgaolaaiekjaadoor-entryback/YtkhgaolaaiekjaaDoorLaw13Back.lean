/-
  EntryBack: any entries in bytes, and back; or the first that may not be.
-/
import Derived.Test.YtkhgaolaaiekjaaDoorEntG
namespace Go.Proofs.YtkhgaolaaiekjaaDoor
open Go.RowKit Go.Lib
set_option maxRecDepth 100000

set_option maxHeartbeats 4000000 in
theorem back13_any (HE : EncSpec) (HD : DecSpec) (HP : PutSpec) (HC : CutSpec) (HF : FindSpec) (E : Nat → Prop) (v : Value) (l : List En) (w : World) (hT : Tabs w) (hu : U32s l) (h : EsIs w E v l) :
    Calls Tryd.prog 3 #[v] w fun e w' => e = .returned (.bool true) ∧ Still w w' := by
  obtain ⟨A, c, rfl⟩ := h.form
  have HK := Lib.hid (known13_any HE HD HP HC HF w hT)
  have HS : Hid (∀ W, Still w W → EsIs W E (.slice A l.length c) l) := Lib.hid (fun W k => EsIs.only h k (fun _ _ _ h => h))
  have CW : Hid (∀ W, Still w W → Calls Tryd.prog 9 #[.slice A l.length c] W fun e w' => e = .returned (.bool (decide (FewE l))) ∧ W = w') := Lib.hid (fun W k => few13_any _ _ l W (HS.out W k))
  by_cases hf : FewE l
  · have CC : Hid (∀ W, Still w W → Calls Tryd.prog 11 #[.slice A l.length c] W fun e w' => e = .returned (.int .i64 (chkE l)) ∧ ∃ q, w' = W.drewN q) := Lib.hid (fun W k => check13_any _ _ l W (by have := hf.1; omega) (fun x hx => by have := hf.2 x hx; omega) (HS.out W k))
    have CE : Hid (∀ W, Still w W → Calls Tryd.prog 10 #[.slice A l.length c] W (EncStep l W)) := Lib.hid (fun W k => HE _ _ l W (hT.still k) hu (by have := hf.1; omega) (fun x hx => by have := hf.2 x hx; omega) (HS.out W k))
    rw [decide_eq_true hf] at CW
    by_cases hc : chkE l = 0
    · have CB : Hid (∀ W, Still w W → Calls Tryd.prog 13 #[.slice A l.length c] W fun e w' => ∃ u, e = .returned u ∧ w'.ownsRow W.heap.size 5 1 u (encL l).length (b8s (encL l)) ∧ Still W w') := Lib.hid (fun W k => bytes13_any _ _ l W (by have := hf.1; omega) (fun x hx => by have := hf.2 x hx; omega) hu (HS.out W k))
      have CD : Hid (∀ W lo hi u, Still w W → hi ≤ W.heap.size → SlIs W lo hi u (encL l) → Calls Tryd.prog 12 #[u] W (DecStep (encL l) W)) := Lib.hid (fun W lo hi u k hh h => HD u _ lo hi W (hT.still k) h hh (by
        have h1 := encL_len (l := l) (M := 100) hf.2
        have h2 : l.length * 132 ≤ 60 * 132 := Nat.mul_le_mul_right _ hf.1
        omega))
      have CS0 : Hid (∀ W u F, Still w W → EsIs W F u l → Calls Tryd.prog 14 #[u, .slice A l.length c] W fun e w' => e = .returned (.bool true) ∧ ∃ q, w' = W.drewN q) := Lib.hid (fun W u F k h2 => by
        have := same13_any F E u _ l l W (by have := hf.1; omega) h2 (HS.out W k)
        rwa [decide_eq_true rfl] at this)
      have hg : Good l := (chkE_good l).1 hc
      have HG := Lib.hid (And.intro hg hu)
      rw [hc] at CC
      clear HE HD HP HC HF hT h hf hg hu HS
      go_enter Tryd.func3, Tryd.ntmps3
      go_wp2_with fail
      refine HK.out.mono ?_
      rintro e w1 ⟨rfl, k1⟩
      have K1 := Lib.hid k1
      clear k1 HK
      go_wp2_with fail
      refine (CW.out _ K1.out).mono ?_
      rintro e w' ⟨rfl, rfl⟩
      go_wp2_with fail
      refine (CE.out _ K1.out).mono ?_
      rintro e w2 ⟨A2, n2, c2, rfl, g1, g2, k2⟩
      have K2 := Lib.hid (K1.out.trans k2)
      obtain ⟨rfl, g1⟩ := g1 hc
      rw [hc]
      have G2 := Lib.hid g1
      clear g1 g2 k2 CW CE K1 hc
      go_wp2_with fail
      refine (CC.out _ K2.out).mono ?_
      rintro e w3 ⟨rfl, q3, hq3⟩
      have J3 : Hid (Still w2 w3) := Lib.hid (by rw [hq3]; exact (Still.refl w2).drewN q3)
      have K3 := Lib.hid (K2.out.trans J3.out)
      clear hq3
      have D3 := Lib.hid (CD.out w3 _ _ _ K3.out J3.out.size (G2.out.only J3.out (Nat.le_refl _) (fun _ _ _ h => h)))
      clear CC CD
      go_wp2_with fail
      refine D3.out.mono ?_
      rintro e w4 ⟨u4, m4, er4, rfl, d4, e4, k4⟩
      obtain ⟨rfl, rfl⟩ := DecIs.own d4 HG.out.1 HG.out.2
      obtain ⟨A4, c4, rfl⟩ := e4.form
      have K4 := Lib.hid (K3.out.trans k4)
      have J4 := Lib.hid (Still.refl w4)
      have e4' : EsIs w4 (fun i => i < w4.heap.size) (.slice A4 m4.length c4) m4 := EsIs.mono e4 (fun i hi _ => hi)
      have CS : Hid (∀ W, Still w4 W → Calls Tryd.prog 14 #[.slice A4 m4.length c4, .slice A m4.length c] W fun e w' => e = .returned (.bool true) ∧ ∃ q, w' = W.drewN q) := Lib.hid (fun W k => CS0.out W _ _ (K4.out.trans k) (EsIs.only e4' k (fun _ _ _ h => h)))
      have g4 := G2.out.only (J3.out.trans k4) (Nat.le_refl _) (fun _ _ _ h => h)
      have hs24 : w2.heap.size ≤ w4.heap.size := (J3.out.trans k4).size
      have SS : Hid (∀ w', Still w4 w' → (convert 25 9 (.slice A2 (encL m4).length c2)).run Tryd.prog w' = .ok (.string (strOf (encL m4))) w' ∧ Still w4 w') := Lib.hid (fun w' k => ⟨run_str _ _ _ _ w' (k.slis g4 hs24), k⟩)
      clear k4 e4 e4' d4 D3 CS0 g4 G2 K3 K2 J3 HG
      go_wp2_with fail
      refine wp_region_held_drew (S := fun w' => (convert 25 9 (.slice A2 (encL m4).length c2)).run Tryd.prog w' = .ok (.string (strOf (encL m4))) w' ∧ Still w4 w') (by kernel_rfl) ?_ (fun hHeld => ?_)
      · exact SS.out _ J4.out.drew
      refine takeH (i := 0) (d := 33) (v := ?_) (by kernel_rfl) (by kernel_rfl) (by kernel_rfl) rfl (fun _ _ _ h => h) (by rfl) ?_ hHeld ?_
      rotate_left
      · intro o ho w hSw
        cases ho
        go_simp
        try with_reducible rfl
      simp only [Act.put, List.setIfInBounds_toArray, List.set_cons_zero, List.set_cons_succ]
      refine takeH (i := 1) (d := 34) (v := ?_) (by kernel_rfl) (by kernel_rfl) (by kernel_rfl) rfl (fun _ _ _ h => h) (by rfl) ?_ hHeld ?_
      rotate_left
      · intro o ho w hSw
        cases ho
        go_simp
        try with_reducible rfl
      simp only [Act.put, List.setIfInBounds_toArray, List.set_cons_zero, List.set_cons_succ]
      refine takeH (i := 2) (d := 35) (v := ?_) (by kernel_rfl) (by kernel_rfl) (by kernel_rfl) rfl (fun _ _ _ h => h) (by rfl) ?_ hHeld ?_
      rotate_left
      · intro o ho w hSw
        cases ho
        go_simp
        try with_reducible rfl
      simp only [Act.put, List.setIfInBounds_toArray, List.set_cons_zero, List.set_cons_succ]
      refine wpAnyH_ready (rs := [3]) (by kernel_rfl) (by simp) ?_
      refine AllReadyH.cons rfl (fun K hK => ?_) AllReadyH.nil
      go_simp
      go_at_call 13
      refine (CB.out _ (K4.out.drew)).mono ?_
      rintro e w5 ⟨u5, rfl, o5, k5⟩
      have J5 := Lib.hid (J4.out.drew.trans k5)
      have r5 := run_str u5 _ _ _ w5 (owns_SlIs o5)
      obtain ⟨A5, n5, c5, rfl⟩ := owns_form o5
      clear o5 k5
      try go_wp2_with fail
      refine hK.out _ _ ?_ (fun hHeld => ?_)
      · exact SS.out _ J5.out
      clear hK K
      refine wpAnyH_ready (rs := [4]) (by kernel_rfl) (by simp) ?_
      refine AllReadyH.cons rfl (fun K hK => ?_) AllReadyH.nil
      go_simp
      refine hK.out _ _ ?_ (fun hHeld => ?_)
      · exact SS.out _ J5.out
      clear hK K
      clear r5
      refine takeH (i := 5) (d := 38) (v := ?_) (by kernel_rfl) (by kernel_rfl) (by kernel_rfl) rfl (fun _ _ _ h => h) (by rfl) ?_ hHeld ?_
      rotate_left
      · intro o ho w hSw
        cases ho
        go_simp
        try with_reducible rfl
      simp only [Act.put, List.setIfInBounds_toArray, List.set_cons_zero, List.set_cons_succ]
      refine takeH (i := 6) (d := 39) (v := ?_) (by kernel_rfl) (by kernel_rfl) (by kernel_rfl) rfl (fun _ _ _ h => h) (by rfl) ?_ hHeld ?_
      rotate_left
      · intro o ho w hSw
        cases ho
        go_simp
        try with_reducible rfl
      simp only [Act.put, List.setIfInBounds_toArray, List.set_cons_zero, List.set_cons_succ]
      refine takeH (i := 7) (d := 40) (v := ?_) (by kernel_rfl) (by kernel_rfl) (by kernel_rfl) rfl (fun _ _ _ h => h) (by rfl) ?_ hHeld ?_
      rotate_left
      · intro o ho w hSw
        cases ho
        go_simp
        try with_reducible rfl
      simp only [Act.put, List.setIfInBounds_toArray, List.set_cons_zero, List.set_cons_succ]
      refine takeH (i := 8) (d := 41) (v := ?_) (by kernel_rfl) (by kernel_rfl) (by kernel_rfl) rfl (fun _ _ _ h => h) (by rfl) ?_ hHeld ?_
      rotate_left
      · intro o ho w hSw
        cases ho
        go_simp
        try with_reducible rfl
      simp only [Act.put, List.setIfInBounds_toArray, List.set_cons_zero, List.set_cons_succ]
      refine takeH (i := 9) (d := 42) (v := ?_) (by kernel_rfl) (by kernel_rfl) (by kernel_rfl) rfl (fun _ _ _ h => h) (by rfl) ?_ hHeld ?_
      rotate_left
      · intro o ho w hSw
        cases ho
        go_simp
        try with_reducible rfl
      simp only [Act.put, List.setIfInBounds_toArray, List.set_cons_zero, List.set_cons_succ]
      refine takeH (i := 10) (d := 43) (v := ?_) (by kernel_rfl) (by kernel_rfl) (by kernel_rfl) rfl (fun _ _ _ h => h) (by rfl) ?_ hHeld ?_
      rotate_left
      · intro o ho w hSw
        cases ho
        go_simp
        try with_reducible rfl
      simp only [Act.put, List.setIfInBounds_toArray, List.set_cons_zero, List.set_cons_succ]
      refine takeH (i := 11) (d := 44) (v := ?_) (by kernel_rfl) (by kernel_rfl) (by kernel_rfl) rfl (fun _ _ _ h => h) (by rfl) ?_ hHeld ?_
      rotate_left
      · intro o ho w hSw
        cases ho
        go_simp
        try with_reducible rfl
      simp only [Act.put, List.setIfInBounds_toArray, List.set_cons_zero, List.set_cons_succ]
      refine takeH (i := 12) (d := 45) (v := ?_) (by kernel_rfl) (by kernel_rfl) (by kernel_rfl) rfl (fun _ _ _ h => h) (by rfl) ?_ hHeld ?_
      rotate_left
      · intro o ho w hSw
        cases ho
        go_simp
        try with_reducible rfl
      simp only [Act.put, List.setIfInBounds_toArray, List.set_cons_zero, List.set_cons_succ]
      refine wpAnyH_ready (rs := [13]) (by kernel_rfl) (by simp) ?_
      refine AllReadyH.cons rfl (fun K hK => ?_) AllReadyH.nil
      go_simp
      go_at_call 14
      refine (CS.out _ J5.out).mono ?_
      rintro e w6 ⟨rfl, q6, hq6⟩
      have J6 : Hid (Still w4 w6) := Lib.hid (by rw [hq6]; exact J5.out.drewN q6)
      clear hq6
      try go_wp2_with fail
      refine hK.out _ _ ?_ (fun hHeld => ?_)
      · exact SS.out _ J6.out
      clear hK K
      refine takeH (i := 14) (d := 47) (v := ?_) (by kernel_rfl) (by kernel_rfl) (by kernel_rfl) rfl (fun _ _ _ h => h) (by rfl) ?_ hHeld ?_
      rotate_left
      · intro o ho w hSw
        cases ho
        go_simp
        try with_reducible rfl
      simp only [Act.put, List.setIfInBounds_toArray, List.set_cons_zero, List.set_cons_succ]
      refine takeH (i := 15) (d := 2) (v := ?_) (by kernel_rfl) (by kernel_rfl) (by kernel_rfl) rfl (fun _ _ _ h => h) (by rfl) ?_ hHeld ?_
      rotate_left
      · intro o ho w hSw
        cases ho
        go_simp
        try with_reducible rfl
      simp only [Act.put, List.setIfInBounds_toArray, List.set_cons_zero, List.set_cons_succ]
      refine wpAnyH_done (by kernel_rfl) ?_ _
      go_wp2
      go_ret
      exact ⟨rfl, K4.out.trans J6.out⟩
    · have d2 : (chkE l != 0) = true := by simpa using hc
      clear HE HD HP HC HF hT h hf hu HS
      go_enter Tryd.func3, Tryd.ntmps3
      go_wp2_with fail
      refine HK.out.mono ?_
      rintro e w1 ⟨rfl, k1⟩
      have K1 := Lib.hid k1
      clear k1 HK
      go_wp2_with fail
      refine (CW.out _ K1.out).mono ?_
      rintro e w' ⟨rfl, rfl⟩
      go_wp2_with fail
      refine (CE.out _ K1.out).mono ?_
      rintro e w2 ⟨A2, n2, c2, rfl, g1, g2, k2⟩
      have K2 := Lib.hid (K1.out.trans k2)
      have hn := g2 hc
      subst hn
      clear g1 g2 k2 CW CE K1 hc
      generalize chkE l = r at *
      go_wp2_with fail
      refine (CC.out _ K2.out).mono ?_
      rintro e w3 ⟨rfl, q3, hq3⟩
      have J3 : Hid (Still w2 w3) := Lib.hid (by rw [hq3]; exact (Still.refl w2).drewN q3)
      have K3 := Lib.hid (K2.out.trans J3.out)
      clear hq3
      clear CC K2
      go_wp2
      go_ret
      exact ⟨rfl, K3.out⟩
  · rw [decide_eq_false hf] at CW
    clear HE HD HP HC HF hT h hf hu HS
    go_enter Tryd.func3, Tryd.ntmps3
    go_wp2_with fail
    refine HK.out.mono ?_
    rintro e w1 ⟨rfl, k1⟩
    have K1 := Lib.hid k1
    clear k1 HK
    go_wp2_with fail
    refine (CW.out _ K1.out).mono ?_
    rintro e w' ⟨rfl, rfl⟩
    go_wp2
    go_ret
    exact ⟨rfl, K1.out⟩
end Go.Proofs.YtkhgaolaaiekjaaDoor
