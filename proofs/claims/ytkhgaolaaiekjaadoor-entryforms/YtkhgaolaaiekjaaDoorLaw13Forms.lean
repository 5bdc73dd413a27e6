/-
  EntryForms: bytes that entries have are those entries.
-/
import Derived.Test.YtkhgaolaaiekjaaDoorEntG
namespace Go.Proofs.YtkhgaolaaiekjaaDoor
open Go.RowKit Go.Lib
set_option maxRecDepth 100000

set_option maxHeartbeats 2000000 in
theorem forms13_any (HE : EncSpec) (HD : DecSpec) (HP : PutSpec) (HC : CutSpec) (HF : FindSpec) (E : Nat → Prop) (v : Value) (l : List En) (w : World) (hT : Tabs w) (hu : U32s l) (h : EsIs w E v l) :
    Calls Tryd.prog 5 #[v] w fun e w' => e = .returned (.bool true) ∧ Still w w' := by
  obtain ⟨A, c, rfl⟩ := h.form
  have HK := Lib.hid (known13_any HE HD HP HC HF w hT)
  have HS : Hid (∀ W, Still w W → EsIs W E (.slice A l.length c) l) := Lib.hid (fun W k => EsIs.only h k (fun _ _ _ h => h))
  have CW : Hid (∀ W, Still w W → Calls Tryd.prog 9 #[.slice A l.length c] W fun e w' => e = .returned (.bool (decide (FewE l))) ∧ W = w') := Lib.hid (fun W k => few13_any _ _ l W (HS.out W k))
  by_cases hf : FewE l
  · have CC : Hid (∀ W, Still w W → Calls Tryd.prog 11 #[.slice A l.length c] W fun e w' => e = .returned (.int .i64 (chkE l)) ∧ ∃ q, w' = W.drewN q) := Lib.hid (fun W k => check13_any _ _ l W (by have := hf.1; omega) (fun x hx => by have := hf.2 x hx; omega) (HS.out W k))
    rw [decide_eq_true hf] at CW
    by_cases hc : chkE l = 0
    · have CB : Hid (∀ W, Still w W → Calls Tryd.prog 13 #[.slice A l.length c] W fun e w' => ∃ u, e = .returned u ∧ w'.ownsRow W.heap.size 5 1 u (encL l).length (b8s (encL l)) ∧ Still W w') := Lib.hid (fun W k => bytes13_any _ _ l W (by have := hf.1; omega) (fun x hx => by have := hf.2 x hx; omega) hu (HS.out W k))
      have CD : Hid (∀ W lo u, Still w W → SlIs W lo W.heap.size u (encL l) → Calls Tryd.prog 12 #[u] W (DecStep (encL l) W)) := Lib.hid (fun W lo u k h => HD u _ lo _ W (hT.still k) h (Nat.le_refl _) (by
        have h1 := encL_len (l := l) (M := 100) hf.2
        have h2 : l.length * 132 ≤ 60 * 132 := Nat.mul_le_mul_right _ hf.1
        omega))
      have CS : Hid (∀ W u F, Still w W → EsIs W F u l → Calls Tryd.prog 14 #[u, .slice A l.length c] W fun e w' => e = .returned (.bool true) ∧ ∃ q, w' = W.drewN q) := Lib.hid (fun W u F k h2 => by
        have := same13_any F E u _ l l W (by have := hf.1; omega) h2 (HS.out W k)
        rwa [decide_eq_true rfl] at this)
      have hg : Good l := (chkE_good l).1 hc
      have HG := Lib.hid (And.intro hg hu)
      rw [hc] at CC
      clear HE HD HP HC HF hT h hf hc hg hu HS
      go_enter Tryd.func5, Tryd.ntmps5
      go_wp2_with fail
      refine HK.out.mono ?_
      rintro e w1 ⟨rfl, k1⟩
      have K1 := Lib.hid k1
      clear k1 HK
      go_wp2_with fail
      refine (CW.out _ K1.out).mono ?_
      rintro e w' ⟨rfl, rfl⟩
      go_wp2_with fail
      refine (CC.out _ K1.out).mono ?_
      rintro e w2 ⟨rfl, q, rfl⟩
      have K2 := Lib.hid (K1.out.drewN q)
      clear CW CC
      go_wp2_with fail
      refine (CB.out _ K2.out).mono ?_
      rintro e w3 ⟨u3, rfl, o3, k3⟩
      have K3 := Lib.hid (K2.out.trans k3)
      have D3 := Lib.hid (CD.out w3 _ u3 K3.out (owns_SlIs o3))
      obtain ⟨A3, n3, c3, rfl⟩ := owns_form o3
      clear o3 k3 CB CD K1 K2
      go_wp2_with fail
      refine D3.out.mono ?_
      rintro e w4 ⟨u4, m4, er4, rfl, d4, e4, k4⟩
      obtain ⟨rfl, rfl⟩ := DecIs.own d4 HG.out.1 HG.out.2
      obtain ⟨A4, c4, rfl⟩ := e4.form
      have K4 := Lib.hid (K3.out.trans k4)
      have D4 := Lib.hid (CS.out w4 _ _ K4.out e4)
      clear k4 e4 d4 K3 D3 CS
      go_wp2_with fail
      refine D4.out.mono ?_
      rintro e w5 ⟨rfl, q5, rfl⟩
      have K5 := Lib.hid (K4.out.drewN q5)
      clear D4 K4
      go_wp2
      go_ret
      exact ⟨rfl, K5.out⟩
    · have d2 : (chkE l != 0) = true := by simpa using hc
      generalize chkE l = r at *
      clear HE HD HP HC HF hT h hf hc hu HS
      go_enter Tryd.func5, Tryd.ntmps5
      go_wp2_with fail
      refine HK.out.mono ?_
      rintro e w1 ⟨rfl, k1⟩
      have K1 := Lib.hid k1
      clear k1 HK
      go_wp2_with fail
      refine (CW.out _ K1.out).mono ?_
      rintro e w' ⟨rfl, rfl⟩
      go_wp2_with fail
      refine (CC.out _ K1.out).mono ?_
      rintro e w2 ⟨rfl, q, rfl⟩
      have K2 := Lib.hid (K1.out.drewN q)
      clear CW CC K1
      go_wp2
      go_ret
      exact ⟨rfl, K2.out⟩
  · rw [decide_eq_false hf] at CW
    clear HE HD HP HC HF hT h hf hu HS
    go_enter Tryd.func5, Tryd.ntmps5
    go_wp2_with fail
    refine HK.out.mono ?_
    rintro e w1 ⟨rfl, k1⟩
    have K1 := Lib.hid k1
    clear k1 HK
    go_wp2_with fail
    refine (CW.out _ K1.out).mono ?_
    rintro e w' ⟨rfl, rfl⟩
    go_wp2
    go_ret
    exact ⟨rfl, K1.out⟩
end Go.Proofs.YtkhgaolaaiekjaaDoor
