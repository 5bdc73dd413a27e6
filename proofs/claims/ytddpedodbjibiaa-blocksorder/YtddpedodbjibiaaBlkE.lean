/-
  Package blocks: the function that Back hands to Caught.
-/
import Derived.Test.YtddpedodbjibiaaBlkD
namespace Go.Proofs.Ytddpedodbjibiaa
open Go.RowKit Go.Lib
set_option maxRecDepth 100000

theorem Try.enterBBack1 : ∀ args w, (callFunc 21 args).run Try.prog w = .ok (.enter 21 args) w := enters_of Try.func21 (by kernel_rfl) rfl
set_option maxHeartbeats 1000000 in
theorem bback1_any (r : R4) (b : Int) (pb pr po : Nat) (w : World) (hb : Has w pb 3 #[.int .i64 b]) (hr : Has w pr 25 r.cells) (ho : Has w po 22 #[.int .u64 0]) (hpb : pb ≠ po) (hpr : pr ≠ po) :
    Calls Try.prog 21 #[.pointer (some ⟨pb, 0, none⟩), .pointer (some ⟨pr, 0, none⟩), .pointer (some ⟨po, 0, none⟩)] w fun e w' => e = endsIn (backE r b) ∧ Only (fun i => i = po) w w' ∧ Has w' po 22 #[.int .u64 (backO r b)] := by
  obtain ⟨rk, ra, rb, rt⟩ := r
  have cb : w.cell? ⟨pb, 0, none⟩ = some (.int .i64 b) := by simpa using hb.cell 0
  have KS : Hid (∀ w', Still w w' → Only (fun i => i = po) w w' ∧ Has w' po 22 #[.int .u64 0]) := Lib.hid (fun w' k => ⟨k.mono (fun _ _ h => h.elim), k.has ho⟩)
  have SS : Hid (∀ w', Still w w' → w'.cell? ⟨pb, 0, none⟩ = some (.int .i64 b) ∧ w'.cell? ⟨pr, 0, none⟩ = some (.int .i64 rk) ∧ w'.cell? ⟨pr, 1, none⟩ = some (.int .i64 ra) ∧ w'.cell? ⟨pr, 2, none⟩ = some (.int .i64 rb) ∧ w'.cell? ⟨pr, 3, none⟩ = some (.int .i64 rt) ∧ Only (fun i => i = po) w w') := Lib.hid (fun w' k => by
    have hr' : Has w' pr 25 #[.int .i64 rk, .int .i64 ra, .int .i64 rb, .int .i64 rt] := k.has hr
    obtain ⟨x0, x1, x2, x3⟩ := hr'.cells4
    exact ⟨by simpa using (k.has hb).cell 0, x0, x1, x2, x3, k.mono (fun _ _ h => h.elim)⟩)
  have SU : Hid (∀ w', Still w w' → ∀ u, (w'.setCell ⟨po, 0, none⟩ u).cell? ⟨pb, 0, none⟩ = some (.int .i64 b) ∧ (w'.setCell ⟨po, 0, none⟩ u).cell? ⟨pr, 0, none⟩ = some (.int .i64 rk) ∧ (w'.setCell ⟨po, 0, none⟩ u).cell? ⟨pr, 1, none⟩ = some (.int .i64 ra) ∧ (w'.setCell ⟨po, 0, none⟩ u).cell? ⟨pr, 2, none⟩ = some (.int .i64 rb) ∧ (w'.setCell ⟨po, 0, none⟩ u).cell? ⟨pr, 3, none⟩ = some (.int .i64 rt) ∧ Only (fun i => i = po) w (w'.setCell ⟨po, 0, none⟩ u)) := Lib.hid (fun w' k u => by
    have k2 : Only (fun i => i = po) w' (w'.setCell ⟨po, 0, none⟩ u) := (Only.refl (fun i => i = po) w').setCell (p := ⟨po, 0, none⟩) (fun _ => rfl) u
    have hr' : Has (w'.setCell ⟨po, 0, none⟩ u) pr 25 #[.int .i64 rk, .int .i64 ra, .int .i64 rb, .int .i64 rt] := (k.has hr).only k2 hpr
    obtain ⟨x0, x1, x2, x3⟩ := hr'.cells4
    exact ⟨by simpa using ((k.has hb).only k2 hpb).cell 0, x0, x1, x2, x3, (k.mono (fun _ _ h => h.elim)).trans k2 (fun _ _ h => h)⟩)
  by_cases hB : Isb b
  · have C1 : Hid (∀ W, Calls Try.prog 18 #[.int .i64 b] W fun e w' => e = .returned (.bool true) ∧ W = w') := Lib.hid (bmay_yes hB)
    have CN : Hid (∀ W, Calls Try.prog 20 #[.int .i64 b] W fun e w' => e = .returned (.int .i64 (b / 4)) ∧ W = w') := Lib.hid (bnames_any hB)
    obtain ⟨n0, n1, w0⟩ := most_b hB
    obtain ⟨b0, b1⟩ := hB.range
    by_cases hN : NumOk ⟨rk, ra, rb, rt⟩ (b / 4)
    · have CQ : Hid (∀ W, Calls Try.prog 22 #[.agg #[.int .i64 rk, .int .i64 ra, .int .i64 rb, .int .i64 rt], .int .i64 (b / 4)] W fun e w' => e = .returned (.int .i64 (numN ⟨rk, ra, rb, rt⟩ (b / 4))) ∧ Still W w') := Lib.hid (bnumber_yes n0 n1 hN)
      obtain ⟨N0, N1⟩ := numN_range n0 n1 hN
      obtain ⟨P0, P1⟩ := back_range N0 N1 b0 b1
      by_cases hT : 0 ≤ rt ∧ rt < b
      · have ok : RoadOk ⟨rk, ra, rb, rt⟩ b := ⟨hB, hN, hT⟩
        have E1 : backE ⟨rk, ra, rb, rt⟩ b = 0 := if_pos ok
        have E2 : backO ⟨rk, ra, rb, rt⟩ b = numN ⟨rk, ra, rb, rt⟩ (b / 4) * b + rt := if_pos ok
        have CB : Hid (∀ W, Calls Try.prog 23 #[.int .i64 rt, .int .i64 b] W fun e w' => e = .returned (.int .i64 rt) ∧ W = w') := Lib.hid (bbelow_yes hT.1 hT.2)
        obtain ⟨T0, T1⟩ := hT
        rw [E1, E2, endsIn_yes]
        clear E1 E2 ok hN hB hb hr ho
        generalize numN ⟨rk, ra, rb, rt⟩ (b / 4) = N at *
        generalize b / 4 = n at *
        have wN : IntKind.u64.wrap N = N := IntWalk.u64_in _ (by omega)
        have wT : IntKind.u64.wrap rt = rt := IntWalk.u64_in _ (by omega)
        have wP : IntKind.u64.wrap (N * b) = N * b := IntWalk.u64_in _ (by omega)
        have wS : IntKind.u64.wrap (N * b + rt) = N * b + rt := IntWalk.u64_in _ (by omega)
        go_enter Try.func21, Try.ntmps21
        go_wp2_with fail
        refine (C1.out _).mono ?_
        rintro e w' ⟨rfl, rfl⟩
        go_wp2_with fail
        refine (must_yes 1 _).mono ?_
        rintro e w' ⟨rfl, rfl⟩
        go_wp2_with fail
        refine wp_region_held_drew (S := fun w' => w'.cell? ⟨pb, 0, none⟩ = some (.int .i64 b) ∧ w'.cell? ⟨pr, 0, none⟩ = some (.int .i64 rk) ∧ w'.cell? ⟨pr, 1, none⟩ = some (.int .i64 ra) ∧ w'.cell? ⟨pr, 2, none⟩ = some (.int .i64 rb) ∧ w'.cell? ⟨pr, 3, none⟩ = some (.int .i64 rt) ∧ Only (fun i => i = po) w w') (by kernel_rfl) ?_ (fun hHeld => ?_)
        · exact SS.out _ (Still.refl w).drew
        refine takeH (i := 0) (d := 6) (v := ?_) (by kernel_rfl) (by kernel_rfl) (by kernel_rfl) rfl (fun _ _ _ h => h) (by rfl) ?_ hHeld ?_
        rotate_left
        · intro o ho w hSw
          cases ho
          go_simp
          try with_reducible rfl
        simp only [Act.put, List.setIfInBounds_toArray, List.set_cons_zero, List.set_cons_succ]
        refine takeH (i := 1) (d := 7) (v := ?_) (by kernel_rfl) (by kernel_rfl) (by kernel_rfl) rfl (fun _ _ _ h => h) (by rfl) ?_ hHeld ?_
        rotate_left
        · intro o ho w hSw
          cases ho
          go_simp
          try with_reducible rfl
        simp only [Act.put, List.setIfInBounds_toArray, List.set_cons_zero, List.set_cons_succ]
        refine takeH (i := 5) (d := 11) (v := ?_) (by kernel_rfl) (by kernel_rfl) (by kernel_rfl) rfl (fun _ _ _ h => h) (by rfl) ?_ hHeld ?_
        rotate_left
        · intro o ho w hSw
          cases ho
          go_simp
          try with_reducible rfl
        simp only [Act.put, List.setIfInBounds_toArray, List.set_cons_zero, List.set_cons_succ]
        refine takeH (i := 6) (d := 12) (v := ?_) (by kernel_rfl) (by kernel_rfl) (by kernel_rfl) rfl (fun _ _ _ h => h) (by rfl) ?_ hHeld ?_
        rotate_left
        · intro o ho w hSw
          cases ho
          go_simp
          try with_reducible rfl
        simp only [Act.put, List.setIfInBounds_toArray, List.set_cons_zero, List.set_cons_succ]
        refine takeH (i := 8) (d := 14) (v := ?_) (by kernel_rfl) (by kernel_rfl) (by kernel_rfl) rfl (fun _ _ _ h => h) (by rfl) ?_ hHeld ?_
        rotate_left
        · intro o ho w hSw
          cases ho
          go_simp
          try with_reducible rfl
        simp only [Act.put, List.setIfInBounds_toArray, List.set_cons_zero, List.set_cons_succ]
        refine takeH (i := 9) (d := 15) (v := ?_) (by kernel_rfl) (by kernel_rfl) (by kernel_rfl) rfl (fun _ _ _ h => h) (by rfl) ?_ hHeld ?_
        rotate_left
        · intro o ho w hSw
          cases ho
          go_simp
          try with_reducible rfl
        simp only [Act.put, List.setIfInBounds_toArray, List.set_cons_zero, List.set_cons_succ]
        refine takeH (i := 10) (d := 16) (v := ?_) (by kernel_rfl) (by kernel_rfl) (by kernel_rfl) rfl (fun _ _ _ h => h) (by rfl) ?_ hHeld ?_
        rotate_left
        · intro o ho w hSw
          cases ho
          go_simp
          try with_reducible rfl
        simp only [Act.put, List.setIfInBounds_toArray, List.set_cons_zero, List.set_cons_succ]
        refine wpAnyH_ready (rs := [2]) (by kernel_rfl) (by simp) ?_
        refine AllReadyH.cons rfl (fun K hK => ?_) AllReadyH.nil
        go_simp
        go_at_call 20
        with_reducible refine (CN.out _).mono ?_
        rintro e w' ⟨rfl, rfl⟩
        try go_wp2_with fail
        refine hK.out _ _ ?_ (fun hHeld => ?_)
        · exact hHeld
        clear hK K
        refine wpAnyH_ready (rs := [3]) (by kernel_rfl) (by simp) ?_
        refine AllReadyH.cons rfl (fun K hK => ?_) AllReadyH.nil
        go_simp
        go_at_call 22
        with_reducible refine (CQ.out _).mono ?_
        rintro e w1 ⟨rfl, k1⟩
        have K1 := Lib.hid ((Still.refl w).drew.trans k1)
        clear k1 hHeld
        try go_wp2_with fail
        refine hK.out _ _ ?_ (fun hHeld => ?_)
        · exact SS.out _ K1.out
        clear hK K
        refine takeH (i := 4) (d := 10) (v := ?_) (by kernel_rfl) (by kernel_rfl) (by kernel_rfl) rfl (fun _ _ _ h => h) (by rfl) ?_ hHeld ?_
        rotate_left
        · intro o ho w hSw
          cases ho
          go_simp
          try with_reducible rfl
        simp only [Act.put, List.setIfInBounds_toArray, List.set_cons_zero, List.set_cons_succ]
        refine takeH (i := 7) (d := 13) (v := ?_) (by kernel_rfl) (by kernel_rfl) (by kernel_rfl) rfl (fun _ _ _ h => h) (by rfl) ?_ hHeld ?_
        rotate_left
        · intro o ho w hSw
          cases ho
          go_simp
          try with_reducible rfl
        simp only [Act.put, List.setIfInBounds_toArray, List.set_cons_zero, List.set_cons_succ]
        refine wpAnyH_ready (rs := [11]) (by kernel_rfl) (by simp) ?_
        refine AllReadyH.cons rfl (fun K hK => ?_) AllReadyH.nil
        go_simp
        go_at_call 23
        with_reducible refine (CB.out _).mono ?_
        rintro e w' ⟨rfl, rfl⟩
        try go_wp2_with fail
        refine hK.out _ _ ?_ (fun hHeld => ?_)
        · exact SS.out _ K1.out
        clear hK K
        refine takeH (i := 12) (d := 18) (v := ?_) (by kernel_rfl) (by kernel_rfl) (by kernel_rfl) rfl (fun _ _ _ h => h) (by rfl) ?_ hHeld ?_
        rotate_left
        · intro o ho w hSw
          cases ho
          go_simp
          try with_reducible rfl
        simp only [Act.put, List.setIfInBounds_toArray, List.set_cons_zero, List.set_cons_succ]
        refine takeH (i := 13) (d := 19) (v := ?_) (by kernel_rfl) (by kernel_rfl) (by kernel_rfl) rfl (fun _ _ _ h => h) (by rfl) ?_ hHeld ?_
        rotate_left
        · intro o ho w hSw
          cases ho
          go_simp
          try with_reducible rfl
        simp only [Act.put, List.setIfInBounds_toArray, List.set_cons_zero, List.set_cons_succ]
        have HO := Lib.hid (KS.out _ K1.out)
        have g0 : w1.cell? ⟨po, 0, none⟩ = some (.int .u64 0) := by simpa using HO.out.2.cell 0
        have g1 := HO.out.2.frozen 0
        refine wpAnyH_ready (rs := [14]) (by kernel_rfl) (by simp) ?_
        refine AllReadyH.cons rfl (fun K hK => ?_) AllReadyH.nil
        go_simp
        refine hK.out _ _ ?_ (fun hHeld => ?_)
        · exact SU.out _ K1.out _
        clear hK K
        refine wpAnyH_done (by kernel_rfl) ?_ _
        go_wp2
        go_end0
        exact ⟨rfl, hHeld.2.2.2.2.2, HO.out.2.set 0 _⟩
      · have no : ¬ RoadOk ⟨rk, ra, rb, rt⟩ b := fun h => hT h.2.2
        have E1 : backE ⟨rk, ra, rb, rt⟩ b = 1 := if_neg no
        have E2 : backO ⟨rk, ra, rb, rt⟩ b = 0 := if_neg no
        have CB : Hid (∀ W, Calls Try.prog 23 #[.int .i64 rt, .int .i64 b] W fun e w' => e = .panicked [{ v := .iface 26 (.int .i64 1), recovered := false }] ∧ W = w') := Lib.hid (bbelow_no hT)
        rw [E1, E2, endsIn_no (by decide)]
        clear E1 E2 no hN hB hT hb hr ho
        generalize numN ⟨rk, ra, rb, rt⟩ (b / 4) = N at *
        generalize b / 4 = n at *
        have wN : IntKind.u64.wrap N = N := IntWalk.u64_in _ (by omega)
        have wP : IntKind.u64.wrap (N * b) = N * b := IntWalk.u64_in _ (by omega)
        go_enter Try.func21, Try.ntmps21
        go_wp2_with fail
        refine (C1.out _).mono ?_
        rintro e w' ⟨rfl, rfl⟩
        go_wp2_with fail
        refine (must_yes 1 _).mono ?_
        rintro e w' ⟨rfl, rfl⟩
        go_wp2_with fail
        refine wp_region_held_drew (S := fun w' => w'.cell? ⟨pb, 0, none⟩ = some (.int .i64 b) ∧ w'.cell? ⟨pr, 0, none⟩ = some (.int .i64 rk) ∧ w'.cell? ⟨pr, 1, none⟩ = some (.int .i64 ra) ∧ w'.cell? ⟨pr, 2, none⟩ = some (.int .i64 rb) ∧ w'.cell? ⟨pr, 3, none⟩ = some (.int .i64 rt) ∧ Only (fun i => i = po) w w') (by kernel_rfl) ?_ (fun hHeld => ?_)
        · exact SS.out _ (Still.refl w).drew
        refine takeH (i := 0) (d := 6) (v := ?_) (by kernel_rfl) (by kernel_rfl) (by kernel_rfl) rfl (fun _ _ _ h => h) (by rfl) ?_ hHeld ?_
        rotate_left
        · intro o ho w hSw
          cases ho
          go_simp
          try with_reducible rfl
        simp only [Act.put, List.setIfInBounds_toArray, List.set_cons_zero, List.set_cons_succ]
        refine takeH (i := 1) (d := 7) (v := ?_) (by kernel_rfl) (by kernel_rfl) (by kernel_rfl) rfl (fun _ _ _ h => h) (by rfl) ?_ hHeld ?_
        rotate_left
        · intro o ho w hSw
          cases ho
          go_simp
          try with_reducible rfl
        simp only [Act.put, List.setIfInBounds_toArray, List.set_cons_zero, List.set_cons_succ]
        refine takeH (i := 5) (d := 11) (v := ?_) (by kernel_rfl) (by kernel_rfl) (by kernel_rfl) rfl (fun _ _ _ h => h) (by rfl) ?_ hHeld ?_
        rotate_left
        · intro o ho w hSw
          cases ho
          go_simp
          try with_reducible rfl
        simp only [Act.put, List.setIfInBounds_toArray, List.set_cons_zero, List.set_cons_succ]
        refine takeH (i := 6) (d := 12) (v := ?_) (by kernel_rfl) (by kernel_rfl) (by kernel_rfl) rfl (fun _ _ _ h => h) (by rfl) ?_ hHeld ?_
        rotate_left
        · intro o ho w hSw
          cases ho
          go_simp
          try with_reducible rfl
        simp only [Act.put, List.setIfInBounds_toArray, List.set_cons_zero, List.set_cons_succ]
        refine takeH (i := 8) (d := 14) (v := ?_) (by kernel_rfl) (by kernel_rfl) (by kernel_rfl) rfl (fun _ _ _ h => h) (by rfl) ?_ hHeld ?_
        rotate_left
        · intro o ho w hSw
          cases ho
          go_simp
          try with_reducible rfl
        simp only [Act.put, List.setIfInBounds_toArray, List.set_cons_zero, List.set_cons_succ]
        refine takeH (i := 9) (d := 15) (v := ?_) (by kernel_rfl) (by kernel_rfl) (by kernel_rfl) rfl (fun _ _ _ h => h) (by rfl) ?_ hHeld ?_
        rotate_left
        · intro o ho w hSw
          cases ho
          go_simp
          try with_reducible rfl
        simp only [Act.put, List.setIfInBounds_toArray, List.set_cons_zero, List.set_cons_succ]
        refine takeH (i := 10) (d := 16) (v := ?_) (by kernel_rfl) (by kernel_rfl) (by kernel_rfl) rfl (fun _ _ _ h => h) (by rfl) ?_ hHeld ?_
        rotate_left
        · intro o ho w hSw
          cases ho
          go_simp
          try with_reducible rfl
        simp only [Act.put, List.setIfInBounds_toArray, List.set_cons_zero, List.set_cons_succ]
        refine wpAnyH_ready (rs := [2]) (by kernel_rfl) (by simp) ?_
        refine AllReadyH.cons rfl (fun K hK => ?_) AllReadyH.nil
        go_simp
        go_at_call 20
        with_reducible refine (CN.out _).mono ?_
        rintro e w' ⟨rfl, rfl⟩
        try go_wp2_with fail
        refine hK.out _ _ ?_ (fun hHeld => ?_)
        · exact hHeld
        clear hK K
        refine wpAnyH_ready (rs := [3]) (by kernel_rfl) (by simp) ?_
        refine AllReadyH.cons rfl (fun K hK => ?_) AllReadyH.nil
        go_simp
        go_at_call 22
        with_reducible refine (CQ.out _).mono ?_
        rintro e w1 ⟨rfl, k1⟩
        have K1 := Lib.hid ((Still.refl w).drew.trans k1)
        clear k1 hHeld
        try go_wp2_with fail
        refine hK.out _ _ ?_ (fun hHeld => ?_)
        · exact SS.out _ K1.out
        clear hK K
        refine takeH (i := 4) (d := 10) (v := ?_) (by kernel_rfl) (by kernel_rfl) (by kernel_rfl) rfl (fun _ _ _ h => h) (by rfl) ?_ hHeld ?_
        rotate_left
        · intro o ho w hSw
          cases ho
          go_simp
          try with_reducible rfl
        simp only [Act.put, List.setIfInBounds_toArray, List.set_cons_zero, List.set_cons_succ]
        refine takeH (i := 7) (d := 13) (v := ?_) (by kernel_rfl) (by kernel_rfl) (by kernel_rfl) rfl (fun _ _ _ h => h) (by rfl) ?_ hHeld ?_
        rotate_left
        · intro o ho w hSw
          cases ho
          go_simp
          try with_reducible rfl
        simp only [Act.put, List.setIfInBounds_toArray, List.set_cons_zero, List.set_cons_succ]
        refine wpAnyH_ready (rs := [11]) (by kernel_rfl) (by simp) ?_
        refine AllReadyH.cons rfl (fun K hK => ?_) AllReadyH.nil
        go_simp
        go_at_call 23
        with_reducible refine (CB.out _).mono ?_
        rintro e w' ⟨rfl, rfl⟩
        exact ⟨rfl, rfl, KS.out _ K1.out⟩
    · have CQ : Hid (∀ W, Calls Try.prog 22 #[.agg #[.int .i64 rk, .int .i64 ra, .int .i64 rb, .int .i64 rt], .int .i64 (b / 4)] W fun e w' => e = .panicked [{ v := .iface 26 (.int .i64 1), recovered := false }] ∧ Still W w') := Lib.hid (fun W => bnumber_no (r := ⟨rk, ra, rb, rt⟩) (n := b / 4) hN W)
      have no : ¬ RoadOk ⟨rk, ra, rb, rt⟩ b := fun h => hN h.2.1
      have E1 : backE ⟨rk, ra, rb, rt⟩ b = 1 := if_neg no
      have E2 : backO ⟨rk, ra, rb, rt⟩ b = 0 := if_neg no
      rw [E1, E2, endsIn_no (by decide)]
      clear E1 E2 no hN hB hb hr ho
      generalize b / 4 = n at *
      go_enter Try.func21, Try.ntmps21
      go_wp2_with fail
      refine (C1.out _).mono ?_
      rintro e w' ⟨rfl, rfl⟩
      go_wp2_with fail
      refine (must_yes 1 _).mono ?_
      rintro e w' ⟨rfl, rfl⟩
      go_wp2_with fail
      refine wp_region_held_drew (S := fun w' => w'.cell? ⟨pb, 0, none⟩ = some (.int .i64 b) ∧ w'.cell? ⟨pr, 0, none⟩ = some (.int .i64 rk) ∧ w'.cell? ⟨pr, 1, none⟩ = some (.int .i64 ra) ∧ w'.cell? ⟨pr, 2, none⟩ = some (.int .i64 rb) ∧ w'.cell? ⟨pr, 3, none⟩ = some (.int .i64 rt) ∧ Only (fun i => i = po) w w') (by kernel_rfl) ?_ (fun hHeld => ?_)
      · exact SS.out _ (Still.refl w).drew
      refine takeH (i := 0) (d := 6) (v := ?_) (by kernel_rfl) (by kernel_rfl) (by kernel_rfl) rfl (fun _ _ _ h => h) (by rfl) ?_ hHeld ?_
      rotate_left
      · intro o ho w hSw
        cases ho
        go_simp
        try with_reducible rfl
      simp only [Act.put, List.setIfInBounds_toArray, List.set_cons_zero, List.set_cons_succ]
      refine takeH (i := 1) (d := 7) (v := ?_) (by kernel_rfl) (by kernel_rfl) (by kernel_rfl) rfl (fun _ _ _ h => h) (by rfl) ?_ hHeld ?_
      rotate_left
      · intro o ho w hSw
        cases ho
        go_simp
        try with_reducible rfl
      simp only [Act.put, List.setIfInBounds_toArray, List.set_cons_zero, List.set_cons_succ]
      refine takeH (i := 5) (d := 11) (v := ?_) (by kernel_rfl) (by kernel_rfl) (by kernel_rfl) rfl (fun _ _ _ h => h) (by rfl) ?_ hHeld ?_
      rotate_left
      · intro o ho w hSw
        cases ho
        go_simp
        try with_reducible rfl
      simp only [Act.put, List.setIfInBounds_toArray, List.set_cons_zero, List.set_cons_succ]
      refine takeH (i := 6) (d := 12) (v := ?_) (by kernel_rfl) (by kernel_rfl) (by kernel_rfl) rfl (fun _ _ _ h => h) (by rfl) ?_ hHeld ?_
      rotate_left
      · intro o ho w hSw
        cases ho
        go_simp
        try with_reducible rfl
      simp only [Act.put, List.setIfInBounds_toArray, List.set_cons_zero, List.set_cons_succ]
      refine takeH (i := 8) (d := 14) (v := ?_) (by kernel_rfl) (by kernel_rfl) (by kernel_rfl) rfl (fun _ _ _ h => h) (by rfl) ?_ hHeld ?_
      rotate_left
      · intro o ho w hSw
        cases ho
        go_simp
        try with_reducible rfl
      simp only [Act.put, List.setIfInBounds_toArray, List.set_cons_zero, List.set_cons_succ]
      refine takeH (i := 9) (d := 15) (v := ?_) (by kernel_rfl) (by kernel_rfl) (by kernel_rfl) rfl (fun _ _ _ h => h) (by rfl) ?_ hHeld ?_
      rotate_left
      · intro o ho w hSw
        cases ho
        go_simp
        try with_reducible rfl
      simp only [Act.put, List.setIfInBounds_toArray, List.set_cons_zero, List.set_cons_succ]
      refine takeH (i := 10) (d := 16) (v := ?_) (by kernel_rfl) (by kernel_rfl) (by kernel_rfl) rfl (fun _ _ _ h => h) (by rfl) ?_ hHeld ?_
      rotate_left
      · intro o ho w hSw
        cases ho
        go_simp
        try with_reducible rfl
      simp only [Act.put, List.setIfInBounds_toArray, List.set_cons_zero, List.set_cons_succ]
      refine wpAnyH_ready (rs := [2]) (by kernel_rfl) (by simp) ?_
      refine AllReadyH.cons rfl (fun K hK => ?_) AllReadyH.nil
      go_simp
      go_at_call 20
      with_reducible refine (CN.out _).mono ?_
      rintro e w' ⟨rfl, rfl⟩
      try go_wp2_with fail
      refine hK.out _ _ ?_ (fun hHeld => ?_)
      · exact hHeld
      clear hK K
      refine wpAnyH_ready (rs := [3]) (by kernel_rfl) (by simp) ?_
      refine AllReadyH.cons rfl (fun K hK => ?_) AllReadyH.nil
      go_simp
      go_at_call 22
      with_reducible refine (CQ.out _).mono ?_
      rintro e w1 ⟨rfl, k1⟩
      exact ⟨rfl, rfl, KS.out _ ((Still.refl w).drew.trans k1)⟩
  · have C1 : Hid (∀ W, Calls Try.prog 18 #[.int .i64 b] W fun e w' => e = .returned (.bool false) ∧ W = w') := Lib.hid (bmay_no hB)
    have no : ¬ RoadOk ⟨rk, ra, rb, rt⟩ b := fun h => hB h.1
    have E1 : backE ⟨rk, ra, rb, rt⟩ b = 1 := if_neg no
    have E2 : backO ⟨rk, ra, rb, rt⟩ b = 0 := if_neg no
    rw [E1, E2, endsIn_no (by decide)]
    clear E1 E2 no hB hb hr ho
    go_enter Try.func21, Try.ntmps21
    go_wp2_with fail
    refine (C1.out _).mono ?_
    rintro e w' ⟨rfl, rfl⟩
    go_wp2_with fail
    refine (must_no 1 _).mono ?_
    rintro e w' ⟨rfl, rfl⟩
    go_wp2
    exact ⟨rfl, rfl, KS.out _ (Still.refl w)⟩
end Go.Proofs.Ytddpedodbjibiaa
