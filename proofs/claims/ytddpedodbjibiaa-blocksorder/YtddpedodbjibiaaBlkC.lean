/-
  Package blocks: number.
-/
import Derived.Test.YtddpedodbjibiaaBlkB
import Derived.Test.YtddpedodbjibiaaDrawn
namespace Go.Proofs.Ytddpedodbjibiaa
open Go.RowKit Go.Lib
set_option maxRecDepth 100000

set_option maxHeartbeats 1000000 in
theorem bnumber_yes {r : R4} {n : Int} (hn0 : 16 ≤ n) (hn1 : n ≤ 256) (h : NumOk r n) (w : World) : Calls Try.prog 22 #[r.val, .int .i64 n] w fun e w' => e = .returned (.int .i64 (numN r n)) ∧ Still w w' := by
  obtain ⟨k, a, b, t⟩ := r
  unfold NumOk at h
  simp only at h
  show Calls Try.prog 22 #[.agg #[.int .i64 k, .int .i64 a, .int .i64 b, .int .i64 t], .int .i64 n] w _
  obtain ⟨c0, c1, c2, c3⟩ := (Has.new w 25 #[.int .i64 k, .int .i64 a, .int .i64 b, .int .i64 t]).cells4
  have K : Hid (Still w (w.alloc (.cells #[.int .i64 k, .int .i64 a, .int .i64 b, .int .i64 t] 25))) := Lib.hid ((Still.refl w).alloc _)
  rcases h with ⟨rfl, a0, a1, b0, b1⟩ | ⟨rfl, a0, a1, b0, b1⟩ | ⟨rfl, a0, a1, b0, b1⟩
  · obtain rfl : b = 0 := by omega
    have R : Hid (numN ⟨1, a, 0, t⟩ n = a) := Lib.hid (if_pos rfl)
    rw [R.out]
    have CA : Hid (∀ W, Calls Try.prog 23 #[.int .i64 a, .int .i64 8] W fun e w' => e = .returned (.int .i64 a) ∧ W = w') := Lib.hid (bbelow_yes a0 a1)
    have CB : Hid (∀ W, Calls Try.prog 23 #[.int .i64 0, .int .i64 1] W fun e w' => e = .returned (.int .i64 0) ∧ W = w') := Lib.hid (bbelow_yes (by omega) (by omega))
    go_enter Try.func22, Try.ntmps22
    go_wp2_with fail
    go_quiet (first | (go_at_call 23; first | (with_reducible refine (CA.out _).mono ?_; exact fun _ _ h => ⟨h.1, _, h.2.symm⟩) | (with_reducible refine (CB.out _).mono ?_; exact fun _ _ h => ⟨h.1, _, h.2.symm⟩)))
    go_wp2
    go_ret
    exact ⟨rfl, K.out.drewN _⟩
  · obtain rfl : b = 0 := by omega
    have R : Hid (numN ⟨2, a, 0, t⟩ n = 8 + a) := Lib.hid rfl
    rw [R.out]
    have CA : Hid (∀ W, Calls Try.prog 23 #[.int .i64 a, .int .i64 n] W fun e w' => e = .returned (.int .i64 a) ∧ W = w') := Lib.hid (bbelow_yes a0 a1)
    have CB : Hid (∀ W, Calls Try.prog 23 #[.int .i64 0, .int .i64 1] W fun e w' => e = .returned (.int .i64 0) ∧ W = w') := Lib.hid (bbelow_yes (by omega) (by omega))
    go_enter Try.func22, Try.ntmps22
    go_wp2_with fail
    go_quiet (first | (go_at_call 23; first | (with_reducible refine (CA.out _).mono ?_; exact fun _ _ h => ⟨h.1, _, h.2.symm⟩) | (with_reducible refine (CB.out _).mono ?_; exact fun _ _ h => ⟨h.1, _, h.2.symm⟩)))
    go_wp2
    go_ret
    exact ⟨rfl, K.out.drewN _⟩
  · have R : Hid (numN ⟨3, a, b, t⟩ n = 8 + n + a * n + b) := Lib.hid rfl
    rw [R.out]
    have p0 : 0 ≤ a * n := Int.mul_nonneg a0 (by omega)
    have p1 : a * n ≤ 65536 := by
      have : a * n ≤ 256 * 256 := Int.mul_le_mul (by omega) hn1 (by omega) (by omega)
      omega
    have CA : Hid (∀ W, Calls Try.prog 23 #[.int .i64 a, .int .i64 n] W fun e w' => e = .returned (.int .i64 a) ∧ W = w') := Lib.hid (bbelow_yes a0 a1)
    have CB : Hid (∀ W, Calls Try.prog 23 #[.int .i64 b, .int .i64 n] W fun e w' => e = .returned (.int .i64 b) ∧ W = w') := Lib.hid (bbelow_yes b0 b1)
    go_enter Try.func22, Try.ntmps22
    go_wp2_with fail
    refine (must_yes 1 _).mono ?_
    rintro e w' ⟨rfl, rfl⟩
    go_wp2_with fail
    go_quiet (first | (go_at_call 23; first | (with_reducible refine (CA.out _).mono ?_; exact fun _ _ h => ⟨h.1, _, h.2.symm⟩) | (with_reducible refine (CB.out _).mono ?_; exact fun _ _ h => ⟨h.1, _, h.2.symm⟩)))
    go_wp2
    go_ret
    exact ⟨rfl, K.out.drewN _⟩
set_option maxHeartbeats 1000000 in
theorem bnumber_no1 {a b t n : Int} (h : ¬ ((0 ≤ a ∧ a < 8) ∧ (0 ≤ b ∧ b < 1))) (w : World) : Calls Try.prog 22 #[.agg #[.int .i64 1, .int .i64 a, .int .i64 b, .int .i64 t], .int .i64 n] w fun e w' => e = .panicked [{ v := .iface 26 (.int .i64 1), recovered := false }] ∧ Still w w' := by
  obtain ⟨c0, c1, c2, c3⟩ := (Has.new w 25 #[.int .i64 1, .int .i64 a, .int .i64 b, .int .i64 t]).cells4
  have K : Hid (Still w (w.alloc (.cells #[.int .i64 1, .int .i64 a, .int .i64 b, .int .i64 t] 25))) := Lib.hid ((Still.refl w).alloc _)
  by_cases ha : 0 ≤ a ∧ a < 8
  · have hb : ¬ (0 ≤ b ∧ b < 1) := fun hb => h ⟨ha, hb⟩
    clear h
    have CA : Hid (∀ W, Calls Try.prog 23 #[.int .i64 a, .int .i64 8] W fun e w' => e = .returned (.int .i64 a) ∧ W = w') := Lib.hid (bbelow_yes ha.1 ha.2)
    have CB : Hid (∀ W, Calls Try.prog 23 #[.int .i64 b, .int .i64 1] W fun e w' => e = .panicked [{ v := .iface 26 (.int .i64 1), recovered := false }] ∧ W = w') := Lib.hid (bbelow_no hb)
    clear hb
    clear ha
    go_enter Try.func22, Try.ntmps22
    go_wp2_with fail
    refine wp_region_held_drew (S := fun w' => w'.cell? ⟨w.heap.size, 1, none⟩ = some (.int .i64 a) ∧ w'.cell? ⟨w.heap.size, 2, none⟩ = some (.int .i64 b) ∧ Still w w') (by kernel_rfl) ?_ (fun hHeld => ?_)
    · exact ⟨c1, c2, K.out.drew⟩
    refine takeH (i := 0) (d := 9) (v := ?_) (by kernel_rfl) (by kernel_rfl) (by kernel_rfl) rfl (fun _ _ _ h => h) (by rfl) ?_ hHeld ?_
    rotate_left
    · intro o ho w hSw
      cases ho
      go_simp
      try with_reducible rfl
    simp only [Act.put, List.setIfInBounds_toArray, List.set_cons_zero, List.set_cons_succ]
    refine takeH (i := 1) (d := 10) (v := ?_) (by kernel_rfl) (by kernel_rfl) (by kernel_rfl) rfl (fun _ _ _ h => h) (by rfl) ?_ hHeld ?_
    rotate_left
    · intro o ho w hSw
      cases ho
      go_simp
      try with_reducible rfl
    simp only [Act.put, List.setIfInBounds_toArray, List.set_cons_zero, List.set_cons_succ]
    refine takeH (i := 3) (d := 12) (v := ?_) (by kernel_rfl) (by kernel_rfl) (by kernel_rfl) rfl (fun _ _ _ h => h) (by rfl) ?_ hHeld ?_
    rotate_left
    · intro o ho w hSw
      cases ho
      go_simp
      try with_reducible rfl
    simp only [Act.put, List.setIfInBounds_toArray, List.set_cons_zero, List.set_cons_succ]
    refine takeH (i := 4) (d := 13) (v := ?_) (by kernel_rfl) (by kernel_rfl) (by kernel_rfl) rfl (fun _ _ _ h => h) (by rfl) ?_ hHeld ?_
    rotate_left
    · intro o ho w hSw
      cases ho
      go_simp
      try with_reducible rfl
    simp only [Act.put, List.setIfInBounds_toArray, List.set_cons_zero, List.set_cons_succ]
    refine wpAnyH_ready (rs := [2]) (by kernel_rfl) (by simp) ?_
    refine AllReadyH.cons rfl (fun K hK => ?_) AllReadyH.nil
    go_simp
    go_at_call 23
    with_reducible refine (CA.out _).mono ?_
    rintro e w' ⟨rfl, rfl⟩
    try go_wp2_with fail
    refine hK.out _ _ ?_ (fun hHeld => ?_)
    · exact hHeld
    clear hK K
    refine wpAnyH_ready (rs := [5]) (by kernel_rfl) (by simp) ?_
    refine AllReadyH.cons rfl (fun K hK => ?_) AllReadyH.nil
    go_simp
    go_at_call 23
    with_reducible refine (CB.out _).mono ?_
    rintro e w' ⟨rfl, rfl⟩
    exact ⟨rfl, rfl, hHeld.2.2⟩
  · clear h
    have CA : Hid (∀ W, Calls Try.prog 23 #[.int .i64 a, .int .i64 8] W fun e w' => e = .panicked [{ v := .iface 26 (.int .i64 1), recovered := false }] ∧ W = w') := Lib.hid (bbelow_no ha)
    clear ha
    go_enter Try.func22, Try.ntmps22
    go_wp2_with fail
    refine wp_region_held_drew (S := fun w' => w'.cell? ⟨w.heap.size, 1, none⟩ = some (.int .i64 a) ∧ w'.cell? ⟨w.heap.size, 2, none⟩ = some (.int .i64 b) ∧ Still w w') (by kernel_rfl) ?_ (fun hHeld => ?_)
    · exact ⟨c1, c2, K.out.drew⟩
    refine takeH (i := 0) (d := 9) (v := ?_) (by kernel_rfl) (by kernel_rfl) (by kernel_rfl) rfl (fun _ _ _ h => h) (by rfl) ?_ hHeld ?_
    rotate_left
    · intro o ho w hSw
      cases ho
      go_simp
      try with_reducible rfl
    simp only [Act.put, List.setIfInBounds_toArray, List.set_cons_zero, List.set_cons_succ]
    refine takeH (i := 1) (d := 10) (v := ?_) (by kernel_rfl) (by kernel_rfl) (by kernel_rfl) rfl (fun _ _ _ h => h) (by rfl) ?_ hHeld ?_
    rotate_left
    · intro o ho w hSw
      cases ho
      go_simp
      try with_reducible rfl
    simp only [Act.put, List.setIfInBounds_toArray, List.set_cons_zero, List.set_cons_succ]
    refine takeH (i := 3) (d := 12) (v := ?_) (by kernel_rfl) (by kernel_rfl) (by kernel_rfl) rfl (fun _ _ _ h => h) (by rfl) ?_ hHeld ?_
    rotate_left
    · intro o ho w hSw
      cases ho
      go_simp
      try with_reducible rfl
    simp only [Act.put, List.setIfInBounds_toArray, List.set_cons_zero, List.set_cons_succ]
    refine takeH (i := 4) (d := 13) (v := ?_) (by kernel_rfl) (by kernel_rfl) (by kernel_rfl) rfl (fun _ _ _ h => h) (by rfl) ?_ hHeld ?_
    rotate_left
    · intro o ho w hSw
      cases ho
      go_simp
      try with_reducible rfl
    simp only [Act.put, List.setIfInBounds_toArray, List.set_cons_zero, List.set_cons_succ]
    refine wpAnyH_ready (rs := [2]) (by kernel_rfl) (by simp) ?_
    refine AllReadyH.cons rfl (fun K hK => ?_) AllReadyH.nil
    go_simp
    go_at_call 23
    with_reducible refine (CA.out _).mono ?_
    rintro e w' ⟨rfl, rfl⟩
    exact ⟨rfl, rfl, hHeld.2.2⟩
set_option maxHeartbeats 1000000 in
theorem bnumber_no2 {a b t n : Int} (h : ¬ ((0 ≤ a ∧ a < n) ∧ (0 ≤ b ∧ b < 1))) (w : World) : Calls Try.prog 22 #[.agg #[.int .i64 2, .int .i64 a, .int .i64 b, .int .i64 t], .int .i64 n] w fun e w' => e = .panicked [{ v := .iface 26 (.int .i64 1), recovered := false }] ∧ Still w w' := by
  obtain ⟨c0, c1, c2, c3⟩ := (Has.new w 25 #[.int .i64 2, .int .i64 a, .int .i64 b, .int .i64 t]).cells4
  have K : Hid (Still w (w.alloc (.cells #[.int .i64 2, .int .i64 a, .int .i64 b, .int .i64 t] 25))) := Lib.hid ((Still.refl w).alloc _)
  by_cases ha : 0 ≤ a ∧ a < n
  · have hb : ¬ (0 ≤ b ∧ b < 1) := fun hb => h ⟨ha, hb⟩
    clear h
    have CA : Hid (∀ W, Calls Try.prog 23 #[.int .i64 a, .int .i64 n] W fun e w' => e = .returned (.int .i64 a) ∧ W = w') := Lib.hid (bbelow_yes ha.1 ha.2)
    have CB : Hid (∀ W, Calls Try.prog 23 #[.int .i64 b, .int .i64 1] W fun e w' => e = .panicked [{ v := .iface 26 (.int .i64 1), recovered := false }] ∧ W = w') := Lib.hid (bbelow_no hb)
    clear hb
    clear ha
    go_enter Try.func22, Try.ntmps22
    go_wp2_with fail
    refine wp_region_held_drew (S := fun w' => w'.cell? ⟨w.heap.size, 1, none⟩ = some (.int .i64 a) ∧ w'.cell? ⟨w.heap.size, 2, none⟩ = some (.int .i64 b) ∧ Still w w') (by kernel_rfl) ?_ (fun hHeld => ?_)
    · exact ⟨c1, c2, K.out.drew⟩
    refine takeH (i := 0) (d := 18) (v := ?_) (by kernel_rfl) (by kernel_rfl) (by kernel_rfl) rfl (fun _ _ _ h => h) (by rfl) ?_ hHeld ?_
    rotate_left
    · intro o ho w hSw
      cases ho
      go_simp
      try with_reducible rfl
    simp only [Act.put, List.setIfInBounds_toArray, List.set_cons_zero, List.set_cons_succ]
    refine takeH (i := 1) (d := 19) (v := ?_) (by kernel_rfl) (by kernel_rfl) (by kernel_rfl) rfl (fun _ _ _ h => h) (by rfl) ?_ hHeld ?_
    rotate_left
    · intro o ho w hSw
      cases ho
      go_simp
      try with_reducible rfl
    simp only [Act.put, List.setIfInBounds_toArray, List.set_cons_zero, List.set_cons_succ]
    refine takeH (i := 2) (d := 20) (v := ?_) (by kernel_rfl) (by kernel_rfl) (by kernel_rfl) rfl (fun _ _ _ h => h) (by rfl) ?_ hHeld ?_
    rotate_left
    · intro o ho w hSw
      cases ho
      go_simp
      try with_reducible rfl
    simp only [Act.put, List.setIfInBounds_toArray, List.set_cons_zero, List.set_cons_succ]
    refine takeH (i := 5) (d := 23) (v := ?_) (by kernel_rfl) (by kernel_rfl) (by kernel_rfl) rfl (fun _ _ _ h => h) (by rfl) ?_ hHeld ?_
    rotate_left
    · intro o ho w hSw
      cases ho
      go_simp
      try with_reducible rfl
    simp only [Act.put, List.setIfInBounds_toArray, List.set_cons_zero, List.set_cons_succ]
    refine takeH (i := 6) (d := 24) (v := ?_) (by kernel_rfl) (by kernel_rfl) (by kernel_rfl) rfl (fun _ _ _ h => h) (by rfl) ?_ hHeld ?_
    rotate_left
    · intro o ho w hSw
      cases ho
      go_simp
      try with_reducible rfl
    simp only [Act.put, List.setIfInBounds_toArray, List.set_cons_zero, List.set_cons_succ]
    refine wpAnyH_ready (rs := [3]) (by kernel_rfl) (by simp) ?_
    refine AllReadyH.cons rfl (fun K hK => ?_) AllReadyH.nil
    go_simp
    go_at_call 23
    with_reducible refine (CA.out _).mono ?_
    rintro e w' ⟨rfl, rfl⟩
    try go_wp2_with fail
    refine hK.out _ _ ?_ (fun hHeld => ?_)
    · exact hHeld
    clear hK K
    refine takeH (i := 4) (d := 22) (v := ?_) (by kernel_rfl) (by kernel_rfl) (by kernel_rfl) rfl (fun _ _ _ h => h) (by rfl) ?_ hHeld ?_
    rotate_left
    · intro o ho w hSw
      cases ho
      go_simp
      try with_reducible rfl
    simp only [Act.put, List.setIfInBounds_toArray, List.set_cons_zero, List.set_cons_succ]
    refine wpAnyH_ready (rs := [7]) (by kernel_rfl) (by simp) ?_
    refine AllReadyH.cons rfl (fun K hK => ?_) AllReadyH.nil
    go_simp
    go_at_call 23
    with_reducible refine (CB.out _).mono ?_
    rintro e w' ⟨rfl, rfl⟩
    exact ⟨rfl, rfl, hHeld.2.2⟩
  · clear h
    have CA : Hid (∀ W, Calls Try.prog 23 #[.int .i64 a, .int .i64 n] W fun e w' => e = .panicked [{ v := .iface 26 (.int .i64 1), recovered := false }] ∧ W = w') := Lib.hid (bbelow_no ha)
    clear ha
    go_enter Try.func22, Try.ntmps22
    go_wp2_with fail
    refine wp_region_held_drew (S := fun w' => w'.cell? ⟨w.heap.size, 1, none⟩ = some (.int .i64 a) ∧ w'.cell? ⟨w.heap.size, 2, none⟩ = some (.int .i64 b) ∧ Still w w') (by kernel_rfl) ?_ (fun hHeld => ?_)
    · exact ⟨c1, c2, K.out.drew⟩
    refine takeH (i := 0) (d := 18) (v := ?_) (by kernel_rfl) (by kernel_rfl) (by kernel_rfl) rfl (fun _ _ _ h => h) (by rfl) ?_ hHeld ?_
    rotate_left
    · intro o ho w hSw
      cases ho
      go_simp
      try with_reducible rfl
    simp only [Act.put, List.setIfInBounds_toArray, List.set_cons_zero, List.set_cons_succ]
    refine takeH (i := 1) (d := 19) (v := ?_) (by kernel_rfl) (by kernel_rfl) (by kernel_rfl) rfl (fun _ _ _ h => h) (by rfl) ?_ hHeld ?_
    rotate_left
    · intro o ho w hSw
      cases ho
      go_simp
      try with_reducible rfl
    simp only [Act.put, List.setIfInBounds_toArray, List.set_cons_zero, List.set_cons_succ]
    refine takeH (i := 2) (d := 20) (v := ?_) (by kernel_rfl) (by kernel_rfl) (by kernel_rfl) rfl (fun _ _ _ h => h) (by rfl) ?_ hHeld ?_
    rotate_left
    · intro o ho w hSw
      cases ho
      go_simp
      try with_reducible rfl
    simp only [Act.put, List.setIfInBounds_toArray, List.set_cons_zero, List.set_cons_succ]
    refine takeH (i := 5) (d := 23) (v := ?_) (by kernel_rfl) (by kernel_rfl) (by kernel_rfl) rfl (fun _ _ _ h => h) (by rfl) ?_ hHeld ?_
    rotate_left
    · intro o ho w hSw
      cases ho
      go_simp
      try with_reducible rfl
    simp only [Act.put, List.setIfInBounds_toArray, List.set_cons_zero, List.set_cons_succ]
    refine takeH (i := 6) (d := 24) (v := ?_) (by kernel_rfl) (by kernel_rfl) (by kernel_rfl) rfl (fun _ _ _ h => h) (by rfl) ?_ hHeld ?_
    rotate_left
    · intro o ho w hSw
      cases ho
      go_simp
      try with_reducible rfl
    simp only [Act.put, List.setIfInBounds_toArray, List.set_cons_zero, List.set_cons_succ]
    refine wpAnyH_ready (rs := [3]) (by kernel_rfl) (by simp) ?_
    refine AllReadyH.cons rfl (fun K hK => ?_) AllReadyH.nil
    go_simp
    go_at_call 23
    with_reducible refine (CA.out _).mono ?_
    rintro e w' ⟨rfl, rfl⟩
    exact ⟨rfl, rfl, hHeld.2.2⟩
set_option maxHeartbeats 1000000 in
theorem bnumber_no3 {a b t n : Int} (h : ¬ ((0 ≤ a ∧ a < n) ∧ (0 ≤ b ∧ b < n))) (w : World) : Calls Try.prog 22 #[.agg #[.int .i64 3, .int .i64 a, .int .i64 b, .int .i64 t], .int .i64 n] w fun e w' => e = .panicked [{ v := .iface 26 (.int .i64 1), recovered := false }] ∧ Still w w' := by
  obtain ⟨c0, c1, c2, c3⟩ := (Has.new w 25 #[.int .i64 3, .int .i64 a, .int .i64 b, .int .i64 t]).cells4
  have K : Hid (Still w (w.alloc (.cells #[.int .i64 3, .int .i64 a, .int .i64 b, .int .i64 t] 25))) := Lib.hid ((Still.refl w).alloc _)
  by_cases ha : 0 ≤ a ∧ a < n
  · have hb : ¬ (0 ≤ b ∧ b < n) := fun hb => h ⟨ha, hb⟩
    clear h
    have CA : Hid (∀ W, Calls Try.prog 23 #[.int .i64 a, .int .i64 n] W fun e w' => e = .returned (.int .i64 a) ∧ W = w') := Lib.hid (bbelow_yes ha.1 ha.2)
    have CB : Hid (∀ W, Calls Try.prog 23 #[.int .i64 b, .int .i64 n] W fun e w' => e = .panicked [{ v := .iface 26 (.int .i64 1), recovered := false }] ∧ W = w') := Lib.hid (bbelow_no hb)
    clear hb
    clear ha
    go_enter Try.func22, Try.ntmps22
    go_wp2_with fail
    refine (must_yes 1 _).mono ?_
    rintro e w' ⟨rfl, rfl⟩
    go_wp2_with fail
    refine wp_region_held_drew (S := fun w' => w'.cell? ⟨w.heap.size, 1, none⟩ = some (.int .i64 a) ∧ w'.cell? ⟨w.heap.size, 2, none⟩ = some (.int .i64 b) ∧ Still w w') (by kernel_rfl) ?_ (fun hHeld => ?_)
    · exact ⟨c1, c2, K.out.drew⟩
    refine takeH (i := 0) (d := 31) (v := ?_) (by kernel_rfl) (by kernel_rfl) (by kernel_rfl) rfl (fun _ _ _ h => h) (by rfl) ?_ hHeld ?_
    rotate_left
    · intro o ho w hSw
      cases ho
      go_simp
      try with_reducible rfl
    simp only [Act.put, List.setIfInBounds_toArray, List.set_cons_zero, List.set_cons_succ]
    refine takeH (i := 1) (d := 32) (v := ?_) (by kernel_rfl) (by kernel_rfl) (by kernel_rfl) rfl (fun _ _ _ h => h) (by rfl) ?_ hHeld ?_
    rotate_left
    · intro o ho w hSw
      cases ho
      go_simp
      try with_reducible rfl
    simp only [Act.put, List.setIfInBounds_toArray, List.set_cons_zero, List.set_cons_succ]
    refine takeH (i := 2) (d := 33) (v := ?_) (by kernel_rfl) (by kernel_rfl) (by kernel_rfl) rfl (fun _ _ _ h => h) (by rfl) ?_ hHeld ?_
    rotate_left
    · intro o ho w hSw
      cases ho
      go_simp
      try with_reducible rfl
    simp only [Act.put, List.setIfInBounds_toArray, List.set_cons_zero, List.set_cons_succ]
    refine takeH (i := 3) (d := 34) (v := ?_) (by kernel_rfl) (by kernel_rfl) (by kernel_rfl) rfl (fun _ _ _ h => h) (by rfl) ?_ hHeld ?_
    rotate_left
    · intro o ho w hSw
      cases ho
      go_simp
      try with_reducible rfl
    simp only [Act.put, List.setIfInBounds_toArray, List.set_cons_zero, List.set_cons_succ]
    refine takeH (i := 4) (d := 35) (v := ?_) (by kernel_rfl) (by kernel_rfl) (by kernel_rfl) rfl (fun _ _ _ h => h) (by rfl) ?_ hHeld ?_
    rotate_left
    · intro o ho w hSw
      cases ho
      go_simp
      try with_reducible rfl
    simp only [Act.put, List.setIfInBounds_toArray, List.set_cons_zero, List.set_cons_succ]
    refine takeH (i := 6) (d := 37) (v := ?_) (by kernel_rfl) (by kernel_rfl) (by kernel_rfl) rfl (fun _ _ _ h => h) (by rfl) ?_ hHeld ?_
    rotate_left
    · intro o ho w hSw
      cases ho
      go_simp
      try with_reducible rfl
    simp only [Act.put, List.setIfInBounds_toArray, List.set_cons_zero, List.set_cons_succ]
    refine takeH (i := 9) (d := 40) (v := ?_) (by kernel_rfl) (by kernel_rfl) (by kernel_rfl) rfl (fun _ _ _ h => h) (by rfl) ?_ hHeld ?_
    rotate_left
    · intro o ho w hSw
      cases ho
      go_simp
      try with_reducible rfl
    simp only [Act.put, List.setIfInBounds_toArray, List.set_cons_zero, List.set_cons_succ]
    refine takeH (i := 10) (d := 41) (v := ?_) (by kernel_rfl) (by kernel_rfl) (by kernel_rfl) rfl (fun _ _ _ h => h) (by rfl) ?_ hHeld ?_
    rotate_left
    · intro o ho w hSw
      cases ho
      go_simp
      try with_reducible rfl
    simp only [Act.put, List.setIfInBounds_toArray, List.set_cons_zero, List.set_cons_succ]
    refine takeH (i := 11) (d := 42) (v := ?_) (by kernel_rfl) (by kernel_rfl) (by kernel_rfl) rfl (fun _ _ _ h => h) (by rfl) ?_ hHeld ?_
    rotate_left
    · intro o ho w hSw
      cases ho
      go_simp
      try with_reducible rfl
    simp only [Act.put, List.setIfInBounds_toArray, List.set_cons_zero, List.set_cons_succ]
    refine wpAnyH_ready (rs := [5]) (by kernel_rfl) (by simp) ?_
    refine AllReadyH.cons rfl (fun K hK => ?_) AllReadyH.nil
    go_simp
    go_at_call 23
    with_reducible refine (CA.out _).mono ?_
    rintro e w' ⟨rfl, rfl⟩
    try go_wp2_with fail
    refine hK.out _ _ ?_ (fun hHeld => ?_)
    · exact hHeld
    clear hK K
    refine takeH (i := 7) (d := 38) (v := ?_) (by kernel_rfl) (by kernel_rfl) (by kernel_rfl) rfl (fun _ _ _ h => h) (by rfl) ?_ hHeld ?_
    rotate_left
    · intro o ho w hSw
      cases ho
      go_simp
      try with_reducible rfl
    simp only [Act.put, List.setIfInBounds_toArray, List.set_cons_zero, List.set_cons_succ]
    refine takeH (i := 8) (d := 39) (v := ?_) (by kernel_rfl) (by kernel_rfl) (by kernel_rfl) rfl (fun _ _ _ h => h) (by rfl) ?_ hHeld ?_
    rotate_left
    · intro o ho w hSw
      cases ho
      go_simp
      try with_reducible rfl
    simp only [Act.put, List.setIfInBounds_toArray, List.set_cons_zero, List.set_cons_succ]
    refine wpAnyH_ready (rs := [12]) (by kernel_rfl) (by simp) ?_
    refine AllReadyH.cons rfl (fun K hK => ?_) AllReadyH.nil
    go_simp
    go_at_call 23
    with_reducible refine (CB.out _).mono ?_
    rintro e w' ⟨rfl, rfl⟩
    exact ⟨rfl, rfl, hHeld.2.2⟩
  · clear h
    have CA : Hid (∀ W, Calls Try.prog 23 #[.int .i64 a, .int .i64 n] W fun e w' => e = .panicked [{ v := .iface 26 (.int .i64 1), recovered := false }] ∧ W = w') := Lib.hid (bbelow_no ha)
    clear ha
    go_enter Try.func22, Try.ntmps22
    go_wp2_with fail
    refine (must_yes 1 _).mono ?_
    rintro e w' ⟨rfl, rfl⟩
    go_wp2_with fail
    refine wp_region_held_drew (S := fun w' => w'.cell? ⟨w.heap.size, 1, none⟩ = some (.int .i64 a) ∧ w'.cell? ⟨w.heap.size, 2, none⟩ = some (.int .i64 b) ∧ Still w w') (by kernel_rfl) ?_ (fun hHeld => ?_)
    · exact ⟨c1, c2, K.out.drew⟩
    refine takeH (i := 0) (d := 31) (v := ?_) (by kernel_rfl) (by kernel_rfl) (by kernel_rfl) rfl (fun _ _ _ h => h) (by rfl) ?_ hHeld ?_
    rotate_left
    · intro o ho w hSw
      cases ho
      go_simp
      try with_reducible rfl
    simp only [Act.put, List.setIfInBounds_toArray, List.set_cons_zero, List.set_cons_succ]
    refine takeH (i := 1) (d := 32) (v := ?_) (by kernel_rfl) (by kernel_rfl) (by kernel_rfl) rfl (fun _ _ _ h => h) (by rfl) ?_ hHeld ?_
    rotate_left
    · intro o ho w hSw
      cases ho
      go_simp
      try with_reducible rfl
    simp only [Act.put, List.setIfInBounds_toArray, List.set_cons_zero, List.set_cons_succ]
    refine takeH (i := 2) (d := 33) (v := ?_) (by kernel_rfl) (by kernel_rfl) (by kernel_rfl) rfl (fun _ _ _ h => h) (by rfl) ?_ hHeld ?_
    rotate_left
    · intro o ho w hSw
      cases ho
      go_simp
      try with_reducible rfl
    simp only [Act.put, List.setIfInBounds_toArray, List.set_cons_zero, List.set_cons_succ]
    refine takeH (i := 3) (d := 34) (v := ?_) (by kernel_rfl) (by kernel_rfl) (by kernel_rfl) rfl (fun _ _ _ h => h) (by rfl) ?_ hHeld ?_
    rotate_left
    · intro o ho w hSw
      cases ho
      go_simp
      try with_reducible rfl
    simp only [Act.put, List.setIfInBounds_toArray, List.set_cons_zero, List.set_cons_succ]
    refine takeH (i := 4) (d := 35) (v := ?_) (by kernel_rfl) (by kernel_rfl) (by kernel_rfl) rfl (fun _ _ _ h => h) (by rfl) ?_ hHeld ?_
    rotate_left
    · intro o ho w hSw
      cases ho
      go_simp
      try with_reducible rfl
    simp only [Act.put, List.setIfInBounds_toArray, List.set_cons_zero, List.set_cons_succ]
    refine takeH (i := 6) (d := 37) (v := ?_) (by kernel_rfl) (by kernel_rfl) (by kernel_rfl) rfl (fun _ _ _ h => h) (by rfl) ?_ hHeld ?_
    rotate_left
    · intro o ho w hSw
      cases ho
      go_simp
      try with_reducible rfl
    simp only [Act.put, List.setIfInBounds_toArray, List.set_cons_zero, List.set_cons_succ]
    refine takeH (i := 9) (d := 40) (v := ?_) (by kernel_rfl) (by kernel_rfl) (by kernel_rfl) rfl (fun _ _ _ h => h) (by rfl) ?_ hHeld ?_
    rotate_left
    · intro o ho w hSw
      cases ho
      go_simp
      try with_reducible rfl
    simp only [Act.put, List.setIfInBounds_toArray, List.set_cons_zero, List.set_cons_succ]
    refine takeH (i := 10) (d := 41) (v := ?_) (by kernel_rfl) (by kernel_rfl) (by kernel_rfl) rfl (fun _ _ _ h => h) (by rfl) ?_ hHeld ?_
    rotate_left
    · intro o ho w hSw
      cases ho
      go_simp
      try with_reducible rfl
    simp only [Act.put, List.setIfInBounds_toArray, List.set_cons_zero, List.set_cons_succ]
    refine takeH (i := 11) (d := 42) (v := ?_) (by kernel_rfl) (by kernel_rfl) (by kernel_rfl) rfl (fun _ _ _ h => h) (by rfl) ?_ hHeld ?_
    rotate_left
    · intro o ho w hSw
      cases ho
      go_simp
      try with_reducible rfl
    simp only [Act.put, List.setIfInBounds_toArray, List.set_cons_zero, List.set_cons_succ]
    refine wpAnyH_ready (rs := [5]) (by kernel_rfl) (by simp) ?_
    refine AllReadyH.cons rfl (fun K hK => ?_) AllReadyH.nil
    go_simp
    go_at_call 23
    with_reducible refine (CA.out _).mono ?_
    rintro e w' ⟨rfl, rfl⟩
    exact ⟨rfl, rfl, hHeld.2.2⟩
set_option maxHeartbeats 1000000 in
theorem bnumber_no4 {k a b t n : Int} (h1 : ¬ k = 1) (h2 : ¬ k = 2) (h3 : ¬ k = 3) (w : World) : Calls Try.prog 22 #[.agg #[.int .i64 k, .int .i64 a, .int .i64 b, .int .i64 t], .int .i64 n] w fun e w' => e = .panicked [{ v := .iface 26 (.int .i64 1), recovered := false }] ∧ Still w w' := by
  obtain ⟨c0, c1, c2, c3⟩ := (Has.new w 25 #[.int .i64 k, .int .i64 a, .int .i64 b, .int .i64 t]).cells4
  have K : Hid (Still w (w.alloc (.cells #[.int .i64 k, .int .i64 a, .int .i64 b, .int .i64 t] 25))) := Lib.hid ((Still.refl w).alloc _)
  have e1 : (k == 1) = false := by simpa using h1
  have e2 : (k == 2) = false := by simpa using h2
  have e3 : (k == 3) = false := by simpa using h3
  go_enter Try.func22, Try.ntmps22
  go_wp2_with fail
  refine (must_no 1 _).mono ?_
  rintro e w' ⟨rfl, rfl⟩
  go_wp2
  exact ⟨rfl, rfl, K.out⟩
theorem bnumber_no {r : R4} {n : Int} (h : ¬ NumOk r n) (w : World) : Calls Try.prog 22 #[r.val, .int .i64 n] w fun e w' => e = .panicked [{ v := .iface 26 (.int .i64 1), recovered := false }] ∧ Still w w' := by
  obtain ⟨k, a, b, t⟩ := r
  by_cases h1 : k = 1
  · subst h1
    exact bnumber_no1 (fun g => h (.inl ⟨rfl, g.1.1, g.1.2, g.2.1, g.2.2⟩)) w
  by_cases h2 : k = 2
  · subst h2
    exact bnumber_no2 (fun g => h (.inr (.inl ⟨rfl, g.1.1, g.1.2, g.2.1, g.2.2⟩))) w
  by_cases h3 : k = 3
  · subst h3
    exact bnumber_no3 (fun g => h (.inr (.inr ⟨rfl, g.1.1, g.1.2, g.2.1, g.2.2⟩))) w
  exact bnumber_no4 h1 h2 h3 w
end Go.Proofs.Ytddpedodbjibiaa
