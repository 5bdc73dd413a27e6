/-
  EntryBytes: any bytes as entries, or that they are none.
-/
import Derived.Test.YtkhgaolaaiekjaaDoorEntG
namespace Go.Proofs.YtkhgaolaaiekjaaDoor
open Go.RowKit Go.Lib
set_option maxRecDepth 100000

set_option maxHeartbeats 4000000 in
theorem bytesL13_any (HE : EncSpec) (HD : DecSpec) (HP : PutSpec) (HC : CutSpec) (HF : FindSpec) (A : Option Addr) (c : Nat) (bs : List UInt8) (w : World) (hT : Tabs w) (h : SlIs w 0 w.heap.size (.slice A bs.length c) bs) :
    Calls Tryd.prog 4 #[.slice A bs.length c] w fun e w' => e = .returned (.bool true) ∧ Still w w' := by
  have HK := Lib.hid (known13_any HE HD HP HC HF w hT)
  by_cases hl : bs.length ≤ 1000
  · have d1 : decide (1000 < (bs.length : Int)) = false := decide_eq_false (by omega)
    have SL : Hid (∀ W, Still w W → SlIs W 0 w.heap.size (.slice A bs.length c) bs) := Lib.hid (fun W k => k.slis h (Nat.le_refl _))
    have SS : Hid (∀ w', Still w w' → (convert 25 9 (.slice A bs.length c)).run Tryd.prog w' = .ok (.string (strOf bs)) w' ∧ Still w w') := Lib.hid (fun w' k => ⟨run_str _ bs 0 w.heap.size w' (SL.out w' k), k⟩)
    have CD : Hid (∀ W, Still w W → Calls Tryd.prog 12 #[.slice A bs.length c] W (DecStep bs W)) := Lib.hid (fun W k => HD _ bs 0 w.heap.size W (hT.still k) (SL.out W k) k.size (by omega))
    clear HE HD HP HC HF hT h SL
    go_enter Tryd.func4, Tryd.ntmps4
    go_wp2_with fail
    refine HK.out.mono ?_
    rintro e w1 ⟨rfl, k1⟩
    have K1 := Lib.hid k1
    clear k1 HK
    go_wp2_with fail
    refine (CD.out _ K1.out).mono ?_
    rintro e w2 ⟨u2, m, er, rfl, hd, e2, k2⟩
    have K2 := Lib.hid (K1.out.trans k2)
    obtain ⟨A2, c2, rfl⟩ := e2.form
    rcases hd with ⟨rfl, hg, hu, hb⟩ | ⟨rfl, rfl, _⟩
    · have hlen : m.length ≤ 1000 := by
        have := encL_len32 (fun x hx => (hg.1 x hx).1)
        rw [hb] at this
        omega
      have hns : ∀ x ∈ m, x.n.length ≤ 1000 := fun x hx => by
        have := (name_ok (hg.1 x hx).1).1
        omega
      have hbw : EsIs w2 (fun i => i < w2.heap.size) (.slice A2 m.length c2) m := EsIs.mono e2 (fun i hi _ => hi)
      have HM : Hid (∀ W, Still w2 W → EsIs W (fun i => i < w2.heap.size) (.slice A2 m.length c2) m) := Lib.hid (fun W k => EsIs.only hbw k (fun _ _ _ h => h))
      have CC : Hid (∀ W, Still w2 W → Calls Tryd.prog 11 #[.slice A2 m.length c2] W fun e w' => e = .returned (.int .i64 0) ∧ ∃ q, w' = W.drewN q) := Lib.hid (fun W k => by
        have := check13_any _ _ m W (by omega) (fun x hx => by have := hns x hx; omega) (HM.out W k)
        rwa [(chkE_good m).2 hg] at this)
      have CB : Hid (∀ W, Still w2 W → Calls Tryd.prog 13 #[.slice A2 m.length c2] W fun e w' => ∃ u, e = .returned u ∧ w'.ownsRow W.heap.size 5 1 u bs.length (b8s bs) ∧ Still W w') := Lib.hid (fun W k => by
        have := bytes13_any _ _ m W hlen hns hu (HM.out W k)
        rwa [hb] at this)
      clear e2 k2 hg hu hb hlen hns hbw HM K1 CD
      go_wp2_with fail
      have SS2 : Hid (∀ w', Still w2 w' → (convert 25 9 (.slice A bs.length c)).run Tryd.prog w' = .ok (.string (strOf bs)) w' ∧ Still w2 w') := Lib.hid (fun w' k => ⟨(SS.out w' (K2.out.trans k)).1, k⟩)
      have J2 := Lib.hid (Still.refl w2)
      refine wp_region_held_drew (S := fun w' => (convert 25 9 (.slice A bs.length c)).run Tryd.prog w' = .ok (.string (strOf bs)) w' ∧ Still w2 w') (by kernel_rfl) ?_ (fun hHeld => ?_)
      · exact SS2.out _ J2.out.drew
      refine takeH (i := 0) (d := 24) (v := ?_) (by kernel_rfl) (by kernel_rfl) (by kernel_rfl) rfl (fun _ _ _ h => h) (by rfl) ?_ hHeld ?_
      rotate_left
      · intro o ho w hSw
        cases ho
        go_simp
        try with_reducible rfl
      simp only [Act.put, List.setIfInBounds_toArray, List.set_cons_zero, List.set_cons_succ]
      refine wpAnyH_ready (rs := [1]) (by kernel_rfl) (by simp) ?_
      refine AllReadyH.cons rfl (fun K hK => ?_) AllReadyH.nil
      go_simp
      go_at_call 11
      refine (CC.out _ hHeld.2).mono ?_
      rintro e w3 ⟨rfl, q3, hq3⟩
      have K3 : Hid (Still w2 w3) := Lib.hid (by rw [hq3]; exact J2.out.drew.drewN q3)
      clear hq3
      try go_wp2_with fail
      refine hK.out _ _ ?_ (fun hHeld => ?_)
      · exact SS2.out _ K3.out
      clear hK K
      refine takeH (i := 2) (d := 26) (v := ?_) (by kernel_rfl) (by kernel_rfl) (by kernel_rfl) rfl (fun _ _ _ h => h) (by rfl) ?_ hHeld ?_
      rotate_left
      · intro o ho w hSw
        cases ho
        go_simp
        try with_reducible rfl
      simp only [Act.put, List.setIfInBounds_toArray, List.set_cons_zero, List.set_cons_succ]
      refine takeH (i := 3) (d := 27) (v := ?_) (by kernel_rfl) (by kernel_rfl) (by kernel_rfl) rfl (fun _ _ _ h => h) (by rfl) ?_ hHeld ?_
      rotate_left
      · intro o ho w hSw
        cases ho
        go_simp
        try with_reducible rfl
      simp only [Act.put, List.setIfInBounds_toArray, List.set_cons_zero, List.set_cons_succ]
      refine takeH (i := 4) (d := 28) (v := ?_) (by kernel_rfl) (by kernel_rfl) (by kernel_rfl) rfl (fun _ _ _ h => h) (by rfl) ?_ hHeld ?_
      rotate_left
      · intro o ho w hSw
        cases ho
        go_simp
        try with_reducible rfl
      simp only [Act.put, List.setIfInBounds_toArray, List.set_cons_zero, List.set_cons_succ]
      refine takeH (i := 7) (d := 31) (v := ?_) (by kernel_rfl) (by kernel_rfl) (by kernel_rfl) rfl (fun _ _ _ h => h) (by rfl) ?_ hHeld ?_
      rotate_left
      · intro o ho w hSw
        cases ho
        go_simp
        try with_reducible rfl
      simp only [Act.put, List.setIfInBounds_toArray, List.set_cons_zero, List.set_cons_succ]
      refine takeH (i := 8) (d := 32) (v := ?_) (by kernel_rfl) (by kernel_rfl) (by kernel_rfl) rfl (fun _ _ _ h => h) (by rfl) ?_ hHeld ?_
      rotate_left
      · intro o ho w hSw
        cases ho
        go_simp
        try with_reducible rfl
      simp only [Act.put, List.setIfInBounds_toArray, List.set_cons_zero, List.set_cons_succ]
      refine wpAnyH_ready (rs := [5]) (by kernel_rfl) (by simp) ?_
      refine AllReadyH.cons rfl (fun K hK => ?_) AllReadyH.nil
      go_simp
      go_at_call 13
      refine (CB.out _ K3.out).mono ?_
      rintro e w4 ⟨u4, rfl, o4, k4⟩
      have K4 := Lib.hid (K3.out.trans k4)
      have r4 := run_str u4 _ _ _ w4 (owns_SlIs o4)
      obtain ⟨A4, n4, c4, rfl⟩ := owns_form o4
      clear o4 k4
      try go_wp2_with fail
      refine hK.out _ _ ?_ (fun hHeld => ?_)
      · exact SS2.out _ K4.out
      clear hK K
      refine wpAnyH_ready (rs := [6]) (by kernel_rfl) (by simp) ?_
      refine AllReadyH.cons rfl (fun K hK => ?_) AllReadyH.nil
      go_simp
      refine hK.out _ _ ?_ (fun hHeld => ?_)
      · exact SS2.out _ K4.out
      clear hK K
      clear r4
      refine takeH (i := 9) (d := 33) (v := ?_) (by kernel_rfl) (by kernel_rfl) (by kernel_rfl) rfl (fun _ _ _ h => h) (by rfl) ?_ hHeld ?_
      rotate_left
      · intro o ho w hSw
        cases ho
        go_simp
        try with_reducible rfl
      simp only [Act.put, List.setIfInBounds_toArray, List.set_cons_zero, List.set_cons_succ]
      refine takeH (i := 10) (d := 34) (v := ?_) (by kernel_rfl) (by kernel_rfl) (by kernel_rfl) rfl (fun _ _ _ h => h) (by rfl) ?_ hHeld ?_
      rotate_left
      · intro o ho w hSw
        cases ho
        go_simp
        try with_reducible rfl
      simp only [Act.put, List.setIfInBounds_toArray, List.set_cons_zero, List.set_cons_succ]
      refine takeH (i := 11) (d := 2) (v := ?_) (by kernel_rfl) (by kernel_rfl) (by kernel_rfl) rfl (fun _ _ _ h => h) (by rfl) ?_ hHeld ?_
      rotate_left
      · intro o ho w hSw
        cases ho
        go_simp
        try with_reducible rfl
      simp only [Act.put, List.setIfInBounds_toArray, List.set_cons_zero, List.set_cons_succ]
      refine wpAnyH_done (by kernel_rfl) ?_ _
      go_wp2
      go_ret
      exact ⟨rfl, K2.out.trans K4.out⟩
    · clear e2 k2 K1 CD SS
      go_wp2
      go_ret
      exact ⟨rfl, K2.out⟩
  · have d1 : decide (1000 < (bs.length : Int)) = true := decide_eq_true (by omega)
    clear HE HD HP HC HF hT h
    go_enter Tryd.func4, Tryd.ntmps4
    go_wp2_with fail
    refine HK.out.mono ?_
    rintro e w1 ⟨rfl, k1⟩
    have K1 := Lib.hid k1
    clear k1 HK
    go_wp2
    go_ret
    exact ⟨rfl, K1.out⟩
end Go.Proofs.YtkhgaolaaiekjaaDoor
