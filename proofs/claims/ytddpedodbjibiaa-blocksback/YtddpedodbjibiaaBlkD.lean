/-
  Package blocks: the functions that Find and Back hand to Caught.
-/
import Derived.Test.YtddpedodbjibiaaBlkC
namespace Go.Proofs.Ytddpedodbjibiaa
open Go.RowKit Go.Lib
set_option maxRecDepth 100000

theorem most_b {b : Int} (h : Isb b) : 16 ≤ b / 4 ∧ b / 4 ≤ 256 ∧ IntKind.u64.wrap b = b := by
  have := h.range
  exact ⟨by omega, by omega, IntWalk.u64_in _ (by omega)⟩
/-- Which block it is is small. -/
theorem numN_range {r : R4} {n : Int} (hn0 : 16 ≤ n) (hn1 : n ≤ 256) (h : NumOk r n) : 0 ≤ numN r n ∧ numN r n ≤ 65800 := by
  obtain ⟨k, a, b, t⟩ := r
  unfold NumOk at h
  simp only at h
  rcases h with ⟨rfl, a0, a1, b0, b1⟩ | ⟨rfl, a0, a1, b0, b1⟩ | ⟨rfl, a0, a1, b0, b1⟩
  · show 0 ≤ a ∧ a ≤ 65800
    omega
  · show 0 ≤ 8 + a ∧ 8 + a ≤ 65800
    omega
  · show 0 ≤ 8 + n + a * n + b ∧ 8 + n + a * n + b ≤ 65800
    have p0 : 0 ≤ a * n := Int.mul_nonneg a0 (by omega)
    have p1 : a * n ≤ 255 * 256 := Int.mul_le_mul (by omega) hn1 (by omega) (by omega)
    omega
theorem back_range {N b : Int} (n0 : 0 ≤ N) (n1 : N ≤ 65800) (b0 : 64 ≤ b) (b1 : b ≤ 1024) : 0 ≤ N * b ∧ N * b ≤ 67379200 := by
  have p0 : 0 ≤ N * b := Int.mul_nonneg n0 (by omega)
  have p1 : N * b ≤ 65800 * 1024 := Int.mul_le_mul n1 b1 (by omega) (by omega)
  omega

theorem Try.enterBFind1 : ∀ args w, (callFunc 16 args).run Try.prog w = .ok (.enter 16 args) w := enters_of Try.func16 (by kernel_rfl) rfl
set_option maxHeartbeats 1000000 in
theorem bfind1_any (o b : Int) (h0 : 0 ≤ o) (pb po pr : Nat) (w : World) (hb : Has w pb 3 #[.int .i64 b]) (ho : Has w po 22 #[.int .u64 o]) (hr : Has w pr 25 R4.zero.cells) :
    Calls Try.prog 16 #[.pointer (some ⟨pb, 0, none⟩), .pointer (some ⟨po, 0, none⟩), .pointer (some ⟨pr, 0, none⟩)] w fun e w' => e = endsIn (findE o b) ∧ Only (fun i => i = pr) w w' ∧ Has w' pr 25 (findR o b).cells := by
  have cb : w.cell? ⟨pb, 0, none⟩ = some (.int .i64 b) := by simpa using hb.cell 0
  have co : w.cell? ⟨po, 0, none⟩ = some (.int .u64 o) := by simpa using ho.cell 0
  have CM : Hid (∀ W, Calls Try.prog 9 #[.int .i64 b] W fun e w' => e = .returned (.int .u64 (mostN b)) ∧ W = w') := Lib.hid (bmost_any b)
  have KS : Hid (∀ w', Still w w' → Only (fun i => i = pr) w w' ∧ Has w' pr 25 R4.zero.cells) := Lib.hid (fun w' k => ⟨k.mono (fun _ _ h => h.elim), k.has hr⟩)
  by_cases hB : Isb b
  · have C1 : Hid (∀ W, Calls Try.prog 18 #[.int .i64 b] W fun e w' => e = .returned (.bool true) ∧ W = w') := Lib.hid (bmay_yes hB)
    by_cases hm : o < mostN b
    · have E1 : findE o b = 0 := by unfold findE; rw [if_pos hB, if_pos hm]
      have E2 : findR o b = roadN o b := if_pos E1
      have CR : Hid (∀ W, Calls Try.prog 19 #[.int .u64 o, .int .i64 b] W fun e w' => e = .returned (.agg #[.int .i64 (roadN o b).k, .int .i64 (roadN o b).a, .int .i64 (roadN o b).b, .int .i64 (roadN o b).t]) ∧ Still W w') := Lib.hid (road_any hB h0 hm)
      rw [E1, E2, endsIn_yes]
      have dm : decide (o < mostN b) = true := decide_eq_true hm
      clear E1 E2 hB hm hb ho
      generalize roadN o b = x at *
      generalize mostN b = m at *
      go_enter Try.func16, Try.ntmps16
      go_wp2_with fail
      refine (C1.out _).mono ?_
      rintro e w' ⟨rfl, rfl⟩
      go_wp2_with fail
      refine (must_yes 1 _).mono ?_
      rintro e w' ⟨rfl, rfl⟩
      go_wp2_with fail
      refine wp_region_held_drew (S := fun w' => w'.cell? ⟨pb, 0, none⟩ = some (.int .i64 b) ∧ w'.cell? ⟨po, 0, none⟩ = some (.int .u64 o) ∧ Still w w') (by kernel_rfl) ?_ (fun hHeld => ?_)
      · exact ⟨cb, co, (Still.refl w).drew⟩
      refine takeH (i := 0) (d := 6) (v := ?_) (by kernel_rfl) (by kernel_rfl) (by kernel_rfl) rfl (fun _ _ _ h => h) (by rfl) ?_ hHeld ?_
      rotate_left
      · intro o ho w hSw
        cases ho
        go_simp
        try with_reducible rfl
      simp only [Act.put, List.setIfInBounds_toArray, List.set_cons_zero, List.set_cons_succ]
      refine takeH (i := 1) (d := 7) (v := ?_) (by kernel_rfl) (by kernel_rfl) (by kernel_rfl) rfl (fun _ _ _ h => h) (by rfl) ?_ hHeld ?_
      rotate_left
      · intro o ho w hSw
        cases ho
        go_simp
        try with_reducible rfl
      simp only [Act.put, List.setIfInBounds_toArray, List.set_cons_zero, List.set_cons_succ]
      refine wpAnyH_ready (rs := [2]) (by kernel_rfl) (by simp) ?_
      refine AllReadyH.cons rfl (fun K hK => ?_) AllReadyH.nil
      go_simp
      go_at_call 9
      with_reducible refine (CM.out _).mono ?_
      rintro e w' ⟨rfl, rfl⟩
      try go_wp2_with fail
      refine hK.out _ _ ?_ (fun hHeld => ?_)
      · exact hHeld
      clear hK K
      refine takeH (i := 3) (d := 9) (v := ?_) (by kernel_rfl) (by kernel_rfl) (by kernel_rfl) rfl (fun _ _ _ h => h) (by rfl) ?_ hHeld ?_
      rotate_left
      · intro o ho w hSw
        cases ho
        go_simp
        try with_reducible rfl
      simp only [Act.put, List.setIfInBounds_toArray, List.set_cons_zero, List.set_cons_succ]
      refine wpAnyH_ready (rs := [4]) (by kernel_rfl) (by simp) ?_
      refine AllReadyH.cons rfl (fun K hK => ?_) AllReadyH.nil
      go_simp
      go_at_call 17
      with_reducible refine (must_yes 3 _).mono ?_
      rintro e w' ⟨rfl, rfl⟩
      try go_wp2_with fail
      refine hK.out _ _ ?_ (fun hHeld => ?_)
      · exact hHeld
      clear hK K
      refine wpAnyH_done (by kernel_rfl) ?_ _
      have KD := Lib.hid hHeld.2.2
      have cb1 := hHeld.1
      have co1 := hHeld.2.1
      clear hHeld
      go_wp2_with fail
      refine (CR.out _).mono ?_
      rintro e w2 ⟨rfl, k2⟩
      have K2 := Lib.hid (KD.out.trans k2)
      have H2 := Lib.hid (KS.out w2 K2.out)
      obtain ⟨x0, x1, x2, x3⟩ := H2.out.2.cells4
      have f0 := H2.out.2.frozen 0
      have f1 := H2.out.2.frozen 1
      have f2 := H2.out.2.frozen 2
      have f3 := H2.out.2.frozen 3
      clear k2 KD CR
      go_wp2
      go_end0
      exact ⟨rfl, (((H2.out.1.setCell (p := ⟨pr, 0, none⟩) (fun _ => rfl) _).setCell (p := ⟨pr, 1, none⟩) (fun _ => rfl) _).setCell (p := ⟨pr, 2, none⟩) (fun _ => rfl) _).setCell (p := ⟨pr, 3, none⟩) (fun _ => rfl) _, has_set4r H2.out.2 _ _ _ _⟩
    · have E1 : findE o b = 3 := by unfold findE; rw [if_pos hB, if_neg hm]
      have E2 : findR o b = R4.zero := if_neg (by rw [E1]; decide)
      rw [E1, E2, endsIn_no (by decide)]
      have dm : decide (o < mostN b) = false := decide_eq_false hm
      clear E1 E2 hB hm hb ho
      generalize mostN b = m at *
      go_enter Try.func16, Try.ntmps16
      go_wp2_with fail
      refine (C1.out _).mono ?_
      rintro e w' ⟨rfl, rfl⟩
      go_wp2_with fail
      refine (must_yes 1 _).mono ?_
      rintro e w' ⟨rfl, rfl⟩
      go_wp2_with fail
      refine wp_region_held_drew (S := fun w' => w'.cell? ⟨pb, 0, none⟩ = some (.int .i64 b) ∧ w'.cell? ⟨po, 0, none⟩ = some (.int .u64 o) ∧ Still w w') (by kernel_rfl) ?_ (fun hHeld => ?_)
      · exact ⟨cb, co, (Still.refl w).drew⟩
      refine takeH (i := 0) (d := 6) (v := ?_) (by kernel_rfl) (by kernel_rfl) (by kernel_rfl) rfl (fun _ _ _ h => h) (by rfl) ?_ hHeld ?_
      rotate_left
      · intro o ho w hSw
        cases ho
        go_simp
        try with_reducible rfl
      simp only [Act.put, List.setIfInBounds_toArray, List.set_cons_zero, List.set_cons_succ]
      refine takeH (i := 1) (d := 7) (v := ?_) (by kernel_rfl) (by kernel_rfl) (by kernel_rfl) rfl (fun _ _ _ h => h) (by rfl) ?_ hHeld ?_
      rotate_left
      · intro o ho w hSw
        cases ho
        go_simp
        try with_reducible rfl
      simp only [Act.put, List.setIfInBounds_toArray, List.set_cons_zero, List.set_cons_succ]
      refine wpAnyH_ready (rs := [2]) (by kernel_rfl) (by simp) ?_
      refine AllReadyH.cons rfl (fun K hK => ?_) AllReadyH.nil
      go_simp
      go_at_call 9
      with_reducible refine (CM.out _).mono ?_
      rintro e w' ⟨rfl, rfl⟩
      try go_wp2_with fail
      refine hK.out _ _ ?_ (fun hHeld => ?_)
      · exact hHeld
      clear hK K
      refine takeH (i := 3) (d := 9) (v := ?_) (by kernel_rfl) (by kernel_rfl) (by kernel_rfl) rfl (fun _ _ _ h => h) (by rfl) ?_ hHeld ?_
      rotate_left
      · intro o ho w hSw
        cases ho
        go_simp
        try with_reducible rfl
      simp only [Act.put, List.setIfInBounds_toArray, List.set_cons_zero, List.set_cons_succ]
      refine wpAnyH_ready (rs := [4]) (by kernel_rfl) (by simp) ?_
      refine AllReadyH.cons rfl (fun K hK => ?_) AllReadyH.nil
      go_simp
      go_at_call 17
      with_reducible refine (must_no 3 _).mono ?_
      rintro e w' ⟨rfl, rfl⟩
      exact ⟨rfl, rfl, KS.out _ hHeld.2.2⟩
  · have C1 : Hid (∀ W, Calls Try.prog 18 #[.int .i64 b] W fun e w' => e = .returned (.bool false) ∧ W = w') := Lib.hid (bmay_no hB)
    have E1 : findE o b = 1 := if_neg hB
    have E2 : findR o b = R4.zero := if_neg (by rw [E1]; decide)
    rw [E1, E2, endsIn_no (by decide)]
    clear E1 E2 hB hb ho
    go_enter Try.func16, Try.ntmps16
    go_wp2_with fail
    refine (C1.out _).mono ?_
    rintro e w' ⟨rfl, rfl⟩
    go_wp2_with fail
    refine (must_no 1 _).mono ?_
    rintro e w' ⟨rfl, rfl⟩
    go_wp2
    exact ⟨rfl, rfl, KS.out _ (Still.refl w)⟩
end Go.Proofs.Ytddpedodbjibiaa
