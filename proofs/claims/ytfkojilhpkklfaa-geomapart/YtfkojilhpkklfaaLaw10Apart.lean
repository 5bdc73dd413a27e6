/-
  Layer 10's GeomApart: whatever geometry and whatever two numbers, it answers true and leaves what was there.
-/
import Derived.Test.YtfkojilhpkklfaaLaw10Known
import Derived.Test.YtfkojilhpkklfaaLaw10Check
namespace Go.Proofs.Ytfkojilhpkklfaa
open Go.RowKit Go.Lib
set_option maxRecDepth 100000

/-! ### places of inodes -/
theorem ino_facts {B N I q : Nat} (h : May B N I) (hq : q < I) : 1 + s1 B N + s2 B I ≤ inoB B N I q ∧ inoB B N I q < 1 + s1 B N + s2 B I + s3 B I ∧ inoA B q + 64 ≤ B ∧ inoA B q % 64 = 0 := by
  unfold inoB inoA s3 upN
  generalize s1 B N = a
  generalize s2 B I = b
  obtain ⟨hb, _, _, _, _⟩ := h
  rcases hb with rfl | rfl | rfl | rfl | rfl <;> omega
theorem ino_inj {B N I q r : Nat} (h : May B N I) (h1 : inoB B N I q = inoB B N I r) (h2 : inoA B q = inoA B r) : q = r := by
  unfold inoB at h1
  unfold inoA at h2
  generalize s1 B N = a at *
  generalize s2 B I = b at *
  obtain ⟨hb, _, _, _, _⟩ := h
  rcases hb with rfl | rfl | rfl | rfl | rfl <;> omega

section
variable (B N I : Nat) (h : May B N I) (w : World)
include h
set_option maxHeartbeats 4000000 in
theorem gapart_out (a b : Int) (hn : a < 1 ∨ (I : Int) < a ∨ b < 1 ∨ (I : Int) < b) : Calls Try.prog 5 #[(gN B N I).val, .int .i64 a, .int .i64 b] w fun e w' => e = .returned (.bool true) ∧ Still w w' := by
  have K0 := Lib.hid ((Still.refl w).alloc (.cells #[.int .i64 (B : Int), .int .i64 (N : Int), .int .i64 (I : Int)] 23))
  have CK : Hid (∀ W, Calls Try.prog 10 #[.agg #[.int .i64 (B : Int), .int .i64 (N : Int), .int .i64 (I : Int)]] W fun e w' => e = .returned (.int .i64 0) ∧ Still W w') := Lib.hid (fun W => by
    have := check10_any (gN B N I) W
    rw [chkI_yes h.yes] at this
    exact this)
  show Calls Try.prog 5 #[.agg #[.int .i64 (B : Int), .int .i64 (N : Int), .int .i64 (I : Int)], .int .i64 a, .int .i64 b] w _
  clear h
  rcases hn with hn | hn | hn | hn
  all_goals
    have d := decide_eq_true hn
    clear hn
    go_enter Try.func5, Try.ntmps5
    go_wp2_with fail
    refine (known10_any _).mono ?_
    rintro e w1 ⟨rfl, k1⟩
    obtain ⟨⟨c0, c1, c2⟩, q1⟩ := box_facts k1
    have K1 := Lib.hid q1
    have G1 := Lib.hid (k1.has (Has.new w 23 #[.int .i64 (B : Int), .int .i64 (N : Int), .int .i64 (I : Int)]))
    clear k1 q1 K0
    go_wp2_with fail
    refine (CK.out _).mono ?_
    rintro e w2 ⟨rfl, k2⟩
    obtain ⟨e0, e1, e2⟩ := (k2.has G1.out).cells3
    have R := Lib.hid (K1.out.trans k2)
    clear k2 G1 K1 CK c0 c1 c2
    go_wp2
    all_goals
      go_ret
      exact ⟨rfl, R.out⟩
end
set_option maxHeartbeats 1000000 in
theorem gapart_no (g : G3) (h : g.may = false) (a b : Int) (w : World) : Calls Try.prog 5 #[g.val, .int .i64 a, .int .i64 b] w fun e w' => e = .returned (.bool true) ∧ Still w w' := by
  have K0 := Lib.hid ((Still.refl w).alloc (.cells #[.int .i64 g.b, .int .i64 g.n, .int .i64 g.i] 23))
  have CK : Hid (∀ W, Calls Try.prog 10 #[.agg #[.int .i64 g.b, .int .i64 g.n, .int .i64 g.i]] W fun e w' => e = .returned (.int .i64 1) ∧ Still W w') := Lib.hid (fun W => by
    have := check10_any g W
    rw [chkI_no h] at this
    exact this)
  show Calls Try.prog 5 #[.agg #[.int .i64 g.b, .int .i64 g.n, .int .i64 g.i], .int .i64 a, .int .i64 b] w _
  clear h
  go_enter Try.func5, Try.ntmps5
  go_wp2_with fail
  refine (known10_any _).mono ?_
  rintro e w1 ⟨rfl, k1⟩
  obtain ⟨⟨c0, c1, c2⟩, q1⟩ := box_facts k1
  have K1 := Lib.hid q1
  clear k1 q1 K0
  go_wp2_with fail
  refine (CK.out _).mono ?_
  rintro e w2 ⟨rfl, k2⟩
  have R := Lib.hid (K1.out.trans k2)
  clear k2 K1 CK c0 c1 c2
  go_wp2
  go_ret
  exact ⟨rfl, R.out⟩

section
variable (B N I : Nat) (h : May B N I) (w : World)
include h
set_option maxHeartbeats 8000000 in
theorem gapart_in (p q : Nat) (hp : p < I) (hq : q < I) : Calls Try.prog 5 #[(gN B N I).val, .int .i64 ((p : Int) + 1), .int .i64 ((q : Int) + 1)] w fun e w' => e = .returned (.bool true) ∧ Still w w' := by
  have hn := h.n
  have hi := h.i
  have hr := h.range
  obtain ⟨z1, z2, z3, z4, z5, z6⟩ := h.sizes
  have K0 := Lib.hid ((Still.refl w).alloc (.cells #[.int .i64 (B : Int), .int .i64 (N : Int), .int .i64 (I : Int)] 23))
  have CK : Hid (∀ W, Calls Try.prog 10 #[.agg #[.int .i64 (B : Int), .int .i64 (N : Int), .int .i64 (I : Int)]] W fun e w' => e = .returned (.int .i64 0) ∧ Still W w') := Lib.hid (fun W => by
    have := check10_any (gN B N I) W
    rw [chkI_yes h.yes] at this
    exact this)
  have PA : Hid (∀ W, Calls Try.prog 11 #[.agg #[.int .i64 (B : Int), .int .i64 (N : Int), .int .i64 (I : Int)]] W fun e w' => e = .returned (.agg (partsCells B N I)) ∧ Still W w') := Lib.hid (fun W => parts_any h W)
  have I1 : Hid (∀ W, Calls Try.prog 12 #[.agg #[.int .i64 (B : Int), .int .i64 (N : Int), .int .i64 (I : Int)], .int .i64 ((p : Int) + 1)] W fun e w' => e = .returned (.tuple #[.int .i64 (inoB B N I p : Int), .int .i64 (inoA B p : Int)]) ∧ Still W w') := Lib.hid (fun W => inode_any h p hp W)
  have I2 : Hid (∀ W, Calls Try.prog 12 #[.agg #[.int .i64 (B : Int), .int .i64 (N : Int), .int .i64 (I : Int)], .int .i64 ((q : Int) + 1)] W fun e w' => e = .returned (.tuple #[.int .i64 (inoB B N I q : Int), .int .i64 (inoA B q : Int)]) ∧ Still W w') := Lib.hid (fun W => inode_any h q hq W)
  have DA : Hid (∀ W, Calls Try.prog 13 #[.agg #[.int .i64 (B : Int), .int .i64 (N : Int), .int .i64 (I : Int)]] W fun e w' => e = .returned (.int .i64 ((N : Int) - (1 + (s1 B N : Int) + (s2 B I : Int) + (s3 B I : Int)))) ∧ Still W w') := Lib.hid (fun W => by
    have := data_any h W
    rw [show dataN B N I = (N : Int) - (1 + (s1 B N : Int) + (s2 B I : Int) + (s3 B I : Int)) by unfold dataN; omega] at this
    exact this)
  obtain ⟨f1, f2, f3, f4⟩ := ino_facts h hp
  have HI := Lib.hid (fun h1 h2 => ino_inj (q := p) (r := q) h h1 h2)
  have HE : Hid (p = q → inoB B N I p = inoB B N I q ∧ inoA B p = inoA B q) := Lib.hid (fun e => by rw [e]; exact ⟨rfl, rfl⟩)
  unfold partsCells at PA
  generalize s1 B N = a1 at *
  generalize s2 B I = a2 at *
  generalize s3 B I = a3 at *
  generalize inoB B N I p = X1 at *
  generalize inoA B p = Y1 at *
  generalize inoB B N I q = X2 at *
  generalize inoA B q = Y2 at *
  show Calls Try.prog 5 #[.agg #[.int .i64 (B : Int), .int .i64 (N : Int), .int .i64 (I : Int)], .int .i64 ((p : Int) + 1), .int .i64 ((q : Int) + 1)] w _
  have d1 : decide ((p : Int) + 1 < 1) = false := decide_eq_false (by omega)
  have d2 : decide ((I : Int) < (p : Int) + 1) = false := decide_eq_false (by omega)
  have d3 : decide ((q : Int) + 1 < 1) = false := decide_eq_false (by omega)
  have d4 : decide ((I : Int) < (q : Int) + 1) = false := decide_eq_false (by omega)
  have d5 : decide ((a1 : Int) < 1) = false := decide_eq_false (by omega)
  have d6 : decide ((a2 : Int) < 1) = false := decide_eq_false (by omega)
  clear h
  go_enter Try.func5, Try.ntmps5
  go_wp2_with fail
  refine (known10_any _).mono ?_
  rintro e w1 ⟨rfl, k1⟩
  obtain ⟨⟨c0, c1, c2⟩, q1⟩ := box_facts k1
  have K1 := Lib.hid q1
  have G1 := Lib.hid (k1.has (Has.new w 23 #[.int .i64 (B : Int), .int .i64 (N : Int), .int .i64 (I : Int)]))
  clear k1 q1 K0
  go_wp2_with fail
  refine (CK.out _).mono ?_
  rintro e w2 ⟨rfl, k2⟩
  have K2 := Lib.hid (K1.out.trans k2)
  have G2 := Lib.hid (k2.has G1.out)
  clear k2 K1 G1 CK c0 c1 c2
  obtain ⟨c0, c1, c2⟩ := G2.out.cells3
  go_wp2_with fail
  refine (PA.out _).mono ?_
  rintro e w3 ⟨rfl, k3⟩
  have K3 := Lib.hid ((K2.out.trans k3).alloc (.cells #[.int .i64 0, .int .i64 1, .int .i64 1, .int .i64 (a1 : Int), .int .i64 (1 + (a1 : Int)), .int .i64 (a2 : Int), .int .i64 (1 + (a1 : Int) + (a2 : Int)), .int .i64 (a3 : Int)] 39))
  have G3 := Lib.hid ((k3.has G2.out).alloc (.cells #[.int .i64 0, .int .i64 1, .int .i64 1, .int .i64 (a1 : Int), .int .i64 (1 + (a1 : Int)), .int .i64 (a2 : Int), .int .i64 (1 + (a1 : Int) + (a2 : Int)), .int .i64 (a3 : Int)] 39))
  have H3 := Lib.hid (Has.new w3 39 #[.int .i64 0, .int .i64 1, .int .i64 1, .int .i64 (a1 : Int), .int .i64 (1 + (a1 : Int)), .int .i64 (a2 : Int), .int .i64 (1 + (a1 : Int) + (a2 : Int)), .int .i64 (a3 : Int)])
  clear k3 K2 G2 PA c0 c1 c2
  obtain ⟨c0, c1, c2⟩ := G3.out.cells3
  obtain ⟨x0, x1, x2, x3, x4, x5, x6, x7⟩ := H3.out.cells8
  go_wp2
  refine wp_loop_rounds 4 ?_
  rw [rounds_succ]
  go_wp2
  go_quiet (fail)
  go_wp2
  rw [rounds_succ]
  go_wp2
  go_quiet (fail)
  go_wp2
  rw [rounds_succ]
  go_wp2
  go_quiet (fail)
  go_wp2
  rw [rounds_succ]
  go_wp2_with fail
  refine (I1.out _).mono ?_
  rintro e w5 ⟨rfl, k5⟩
  have K5 : Hid (Still w w5) := Lib.hid (Only.trans (K3.out.drewN _) k5 (fun _ _ h => h))
  have G5 := Lib.hid (k5.has (Still.has ((Still.refl _).drewN _) G3.out))
  have H5 := Lib.hid (k5.has (Still.has ((Still.refl _).drewN _) H3.out))
  clear k5 K3 G3 H3 I1 c0 c1 c2 x0 x1 x2 x3 x4 x5 x6 x7
  obtain ⟨c0, c1, c2⟩ := G5.out.cells3
  go_wp2_with fail
  refine (I2.out _).mono ?_
  rintro e w6 ⟨rfl, k6⟩
  have K6 := Lib.hid (K5.out.trans k6)
  have G6 := Lib.hid (k6.has G5.out)
  have H6 := Lib.hid (k6.has H5.out)
  clear k6 K5 G5 H5 I2 c0 c1 c2
  obtain ⟨c0, c1, c2⟩ := G6.out.cells3
  obtain ⟨x0, x1, x2, x3, x4, x5, x6, x7⟩ := H6.out.cells8
  have QR : Hid (∀ W W', Still w6 W → Still W W' → Still w W') := Lib.hid (fun W W' a b => (K6.out.trans a).trans b)
  have QC : Hid (∀ W W', Still w6 W → Still W W' → W'.cell? ⟨w.heap.size, 0, none⟩ = some (.int .i64 (B : Int)) ∧ W'.cell? ⟨w.heap.size, 1, none⟩ = some (.int .i64 (N : Int)) ∧ W'.cell? ⟨w.heap.size, 2, none⟩ = some (.int .i64 (I : Int)) ∧ W'.cell? ⟨w3.heap.size, 6, none⟩ = some (.int .i64 (1 + (a1 : Int) + (a2 : Int)))) := Lib.hid (fun W W' a b => by
    obtain ⟨y0, y1, y2⟩ := ((a.trans b).has G6.out).cells3
    obtain ⟨_, _, _, _, _, _, y6, _⟩ := ((a.trans b).has H6.out).cells8
    exact ⟨y0, y1, y2, y6⟩)
  clear K6 G6 H6 x0 x1 x2 x3 x4 x5
  have e1 : decide (1 + (a1 : Int) + (a2 : Int) ≤ (X1 : Int)) = true := decide_eq_true (by omega)
  have e2 : decide ((X1 : Int) < 1 + (a1 : Int) + (a2 : Int) + (a3 : Int)) = true := decide_eq_true (by omega)
  have e3 : decide ((0 : Int) ≤ (Y1 : Int)) = true := decide_eq_true (by omega)
  have e4 : decide ((Y1 : Int) + 64 ≤ (B : Int)) = true := decide_eq_true (by omega)
  have e5 : ((Y1 : Int) % 64 == 0) = true := by
    simp only [beq_iff_eq]
    omega
  have u1 : IntKind.i64.wrap ((N : Int) - (1 + (a1 : Int) + (a2 : Int) + (a3 : Int))) = (N : Int) - (1 + (a1 : Int) + (a2 : Int) + (a3 : Int)) := IntWalk.i64_in _ (by omega)
  have u2 : IntKind.i64.wrap ((Y1 : Int) + 64) = (Y1 : Int) + 64 := IntWalk.i64_in _ (by omega)
  have u3 : ((Y1 : Int)).tmod 64 = (Y1 : Int) % 64 := Int.tmod_eq_emod_of_nonneg (by omega)
  go_wp2
  by_cases hpq : p = q
  · obtain ⟨rfl, rfl⟩ := HE.out hpq
    subst hpq
    clear HI HE
    go_region_held3 (fun w' => w'.cell? ⟨w.heap.size, 0, none⟩ = some (.int .i64 (B : Int)) ∧ w'.cell? ⟨w.heap.size, 1, none⟩ = some (.int .i64 (N : Int)) ∧ w'.cell? ⟨w.heap.size, 2, none⟩ = some (.int .i64 (I : Int)) ∧ w'.cell? ⟨w3.heap.size, 6, none⟩ = some (.int .i64 (1 + (a1 : Int) + (a2 : Int))))
      (first | exact ⟨c0, c1, c2, x6⟩ | go_keep)
      (first | (go_at_call 13; with_reducible refine (DA.out _).mono ?_; rintro e w7 ⟨rfl, k7⟩; obtain ⟨c0, c1, c2, x6⟩ := QC.out _ w7 (by exact (Still.refl _).drew) k7; have R := Lib.hid (QR.out _ w7 (by exact (Still.refl _).drew) k7); clear k7) | fail)
    go_wp2
    go_ret
    exact ⟨rfl, R.out⟩
  · have n1 : ((p : Int) + 1 == (q : Int) + 1) = false := by
      simp only [beq_eq_false_iff_ne, ne_eq]
      omega
    by_cases hX : X1 = X2
    · subst hX
      have n2 : ((Y1 : Int) == (Y2 : Int)) = false := by
        simp only [beq_eq_false_iff_ne, ne_eq]
        intro h
        exact hpq (HI.out rfl (by omega))
      clear HI HE hpq
      go_region_held3 (fun w' => w'.cell? ⟨w.heap.size, 0, none⟩ = some (.int .i64 (B : Int)) ∧ w'.cell? ⟨w.heap.size, 1, none⟩ = some (.int .i64 (N : Int)) ∧ w'.cell? ⟨w.heap.size, 2, none⟩ = some (.int .i64 (I : Int)) ∧ w'.cell? ⟨w3.heap.size, 6, none⟩ = some (.int .i64 (1 + (a1 : Int) + (a2 : Int))))
        (first | exact ⟨c0, c1, c2, x6⟩ | go_keep)
        (first | (go_at_call 13; with_reducible refine (DA.out _).mono ?_; rintro e w7 ⟨rfl, k7⟩; obtain ⟨c0, c1, c2, x6⟩ := QC.out _ w7 (by exact (Still.refl _).drew) k7; have R := Lib.hid (QR.out _ w7 (by exact (Still.refl _).drew) k7); clear k7) | fail)
      go_wp2
      go_ret
      exact ⟨rfl, R.out⟩
    · have n2 : ((X1 : Int) == (X2 : Int)) = false := by
        simp only [beq_eq_false_iff_ne, ne_eq]
        omega
      clear HI HE hpq hX
      refine wp_region_held_drew (S := fun w' => w'.cell? ⟨w.heap.size, 0, none⟩ = some (.int .i64 (B : Int)) ∧ w'.cell? ⟨w.heap.size, 1, none⟩ = some (.int .i64 (N : Int)) ∧ w'.cell? ⟨w.heap.size, 2, none⟩ = some (.int .i64 (I : Int)) ∧ w'.cell? ⟨w3.heap.size, 6, none⟩ = some (.int .i64 (1 + (a1 : Int) + (a2 : Int)))) (by kernel_rfl) ?_ (fun hHeld => ?_)
      · exact ⟨c0, c1, c2, x6⟩
      refine takeH (i := 0) (d := 86) (v := ?_) (by kernel_rfl) (by kernel_rfl) (by kernel_rfl) rfl (fun _ _ _ h => h) (by rfl) ?_ hHeld ?_
      rotate_left
      · intro o ho w hSw
        cases ho
        go_simp
        try with_reducible rfl
      simp only [Act.put, List.setIfInBounds_toArray, List.set_cons_zero, List.set_cons_succ]
      refine takeH (i := 2) (d := 88) (v := ?_) (by kernel_rfl) (by kernel_rfl) (by kernel_rfl) rfl (fun _ _ _ h => h) (by rfl) ?_ hHeld ?_
      rotate_left
      · intro o ho w hSw
        cases ho
        go_simp
        try with_reducible rfl
      simp only [Act.put, List.setIfInBounds_toArray, List.set_cons_zero, List.set_cons_succ]
      refine takeH (i := 3) (d := 89) (v := ?_) (by kernel_rfl) (by kernel_rfl) (by kernel_rfl) rfl (fun _ _ _ h => h) (by rfl) ?_ hHeld ?_
      rotate_left
      · intro o ho w hSw
        cases ho
        go_simp
        try with_reducible rfl
      simp only [Act.put, List.setIfInBounds_toArray, List.set_cons_zero, List.set_cons_succ]
      refine takeH (i := 4) (d := 90) (v := ?_) (by kernel_rfl) (by kernel_rfl) (by kernel_rfl) rfl (fun _ _ _ h => h) (by rfl) ?_ hHeld ?_
      rotate_left
      · intro o ho w hSw
        cases ho
        go_simp
        try with_reducible rfl
      simp only [Act.put, List.setIfInBounds_toArray, List.set_cons_zero, List.set_cons_succ]
      refine takeH (i := 5) (d := 91) (v := ?_) (by kernel_rfl) (by kernel_rfl) (by kernel_rfl) rfl (fun _ _ _ h => h) (by rfl) ?_ hHeld ?_
      rotate_left
      · intro o ho w hSw
        cases ho
        go_simp
        try with_reducible rfl
      simp only [Act.put, List.setIfInBounds_toArray, List.set_cons_zero, List.set_cons_succ]
      refine wpAnyH_ready (rs := [1]) (by kernel_rfl) (by simp) ?_
      refine AllReadyH.cons rfl (fun K hK => ?_) AllReadyH.nil
      go_simp
      with_reducible refine (DA.out _).mono ?_
      rintro e w7 ⟨rfl, k7⟩
      obtain ⟨c0, c1, c2, x6⟩ := QC.out _ w7 (Still.refl _).drew k7
      have R := Lib.hid (QR.out _ w7 (Still.refl _).drew k7)
      clear k7
      try go_wp2_with fail
      refine hK.out _ _ ?_ (fun hHeld => ?_)
      · exact ⟨c0, c1, c2, x6⟩
      clear hK K
      refine takeH (i := 6) (d := 92) (v := ?_) (by kernel_rfl) (by kernel_rfl) (by kernel_rfl) rfl (fun _ _ _ h => h) (by rfl) ?_ hHeld ?_
      rotate_left
      · intro o ho w hSw
        cases ho
        go_simp
        try with_reducible rfl
      simp only [Act.put, List.setIfInBounds_toArray, List.set_cons_zero, List.set_cons_succ]
      refine takeH (i := 7) (d := 93) (v := ?_) (by kernel_rfl) (by kernel_rfl) (by kernel_rfl) rfl (fun _ _ _ h => h) (by rfl) ?_ hHeld ?_
      rotate_left
      · intro o ho w hSw
        cases ho
        go_simp
        try with_reducible rfl
      simp only [Act.put, List.setIfInBounds_toArray, List.set_cons_zero, List.set_cons_succ]
      refine takeH (i := 8) (d := 94) (v := ?_) (by kernel_rfl) (by kernel_rfl) (by kernel_rfl) rfl (fun _ _ _ h => h) (by rfl) ?_ hHeld ?_
      rotate_left
      · intro o ho w hSw
        cases ho
        go_simp
        try with_reducible rfl
      simp only [Act.put, List.setIfInBounds_toArray, List.set_cons_zero, List.set_cons_succ]
      refine takeH (i := 9) (d := 95) (v := ?_) (by kernel_rfl) (by kernel_rfl) (by kernel_rfl) rfl (fun _ _ _ h => h) (by rfl) ?_ hHeld ?_
      rotate_left
      · intro o ho w hSw
        cases ho
        go_simp
        try with_reducible rfl
      simp only [Act.put, List.setIfInBounds_toArray, List.set_cons_zero, List.set_cons_succ]
      refine takeH (i := 10) (d := 96) (v := ?_) (by kernel_rfl) (by kernel_rfl) (by kernel_rfl) rfl (fun _ _ _ h => h) (by rfl) ?_ hHeld ?_
      rotate_left
      · intro o ho w hSw
        cases ho
        go_simp
        try with_reducible rfl
      simp only [Act.put, List.setIfInBounds_toArray, List.set_cons_zero, List.set_cons_succ]
      refine takeH (i := 11) (d := 97) (v := ?_) (by kernel_rfl) (by kernel_rfl) (by kernel_rfl) rfl (fun _ _ _ h => h) (by rfl) ?_ hHeld ?_
      rotate_left
      · intro o ho w hSw
        cases ho
        go_simp
        try with_reducible rfl
      simp only [Act.put, List.setIfInBounds_toArray, List.set_cons_zero, List.set_cons_succ]
      refine takeH (i := 12) (d := 98) (v := ?_) (by kernel_rfl) (by kernel_rfl) (by kernel_rfl) rfl (fun _ _ _ h => h) (by rfl) ?_ hHeld ?_
      rotate_left
      · intro o ho w hSw
        cases ho
        go_simp
        try with_reducible rfl
      simp only [Act.put, List.setIfInBounds_toArray, List.set_cons_zero, List.set_cons_succ]
      refine takeH (i := 13) (d := 99) (v := ?_) (by kernel_rfl) (by kernel_rfl) (by kernel_rfl) rfl (fun _ _ _ h => h) (by rfl) ?_ hHeld ?_
      rotate_left
      · intro o ho w hSw
        cases ho
        go_simp
        try with_reducible rfl
      simp only [Act.put, List.setIfInBounds_toArray, List.set_cons_zero, List.set_cons_succ]
      refine takeH (i := 14) (d := 100) (v := ?_) (by kernel_rfl) (by kernel_rfl) (by kernel_rfl) rfl (fun _ _ _ h => h) (by rfl) ?_ hHeld ?_
      rotate_left
      · intro o ho w hSw
        cases ho
        go_simp
        try with_reducible rfl
      simp only [Act.put, List.setIfInBounds_toArray, List.set_cons_zero, List.set_cons_succ]
      refine takeH (i := 15) (d := 101) (v := ?_) (by kernel_rfl) (by kernel_rfl) (by kernel_rfl) rfl (fun _ _ _ h => h) (by rfl) ?_ hHeld ?_
      rotate_left
      · intro o ho w hSw
        cases ho
        go_simp
        try with_reducible rfl
      simp only [Act.put, List.setIfInBounds_toArray, List.set_cons_zero, List.set_cons_succ]
      refine takeH (i := 16) (d := 102) (v := ?_) (by kernel_rfl) (by kernel_rfl) (by kernel_rfl) rfl (fun _ _ _ h => h) (by rfl) ?_ hHeld ?_
      rotate_left
      · intro o ho w hSw
        cases ho
        go_simp
        try with_reducible rfl
      simp only [Act.put, List.setIfInBounds_toArray, List.set_cons_zero, List.set_cons_succ]
      refine takeH (i := 17) (d := 103) (v := ?_) (by kernel_rfl) (by kernel_rfl) (by kernel_rfl) rfl (fun _ _ _ h => h) (by rfl) ?_ hHeld ?_
      rotate_left
      · intro o ho w hSw
        cases ho
        go_simp
        try with_reducible rfl
      simp only [Act.put, List.setIfInBounds_toArray, List.set_cons_zero, List.set_cons_succ]
      refine takeH (i := 18) (d := 104) (v := ?_) (by kernel_rfl) (by kernel_rfl) (by kernel_rfl) rfl (fun _ _ _ h => h) (by rfl) ?_ hHeld ?_
      rotate_left
      · intro o ho w hSw
        cases ho
        go_simp
        try with_reducible rfl
      simp only [Act.put, List.setIfInBounds_toArray, List.set_cons_zero, List.set_cons_succ]
      refine takeH (i := 19) (d := 105) (v := ?_) (by kernel_rfl) (by kernel_rfl) (by kernel_rfl) rfl (fun _ _ _ h => h) (by rfl) ?_ hHeld ?_
      rotate_left
      · intro o ho w hSw
        cases ho
        go_simp
        try with_reducible rfl
      simp only [Act.put, List.setIfInBounds_toArray, List.set_cons_zero, List.set_cons_succ]
      refine takeH (i := 20) (d := 106) (v := ?_) (by kernel_rfl) (by kernel_rfl) (by kernel_rfl) rfl (fun _ _ _ h => h) (by rfl) ?_ hHeld ?_
      rotate_left
      · intro o ho w hSw
        cases ho
        go_simp
        try with_reducible rfl
      simp only [Act.put, List.setIfInBounds_toArray, List.set_cons_zero, List.set_cons_succ]
      refine takeH (i := 21) (d := 107) (v := ?_) (by kernel_rfl) (by kernel_rfl) (by kernel_rfl) rfl (fun _ _ _ h => h) (by rfl) ?_ hHeld ?_
      rotate_left
      · intro o ho w hSw
        cases ho
        go_simp
        try with_reducible rfl
      simp only [Act.put, List.setIfInBounds_toArray, List.set_cons_zero, List.set_cons_succ]
      refine takeH (i := 22) (d := 108) (v := ?_) (by kernel_rfl) (by kernel_rfl) (by kernel_rfl) rfl (fun _ _ _ h => h) (by rfl) ?_ hHeld ?_
      rotate_left
      · intro o ho w hSw
        cases ho
        go_simp
        try with_reducible rfl
      simp only [Act.put, List.setIfInBounds_toArray, List.set_cons_zero, List.set_cons_succ]
      refine takeH (i := 23) (d := 109) (v := ?_) (by kernel_rfl) (by kernel_rfl) (by kernel_rfl) rfl (fun _ _ _ h => h) (by rfl) ?_ hHeld ?_
      rotate_left
      · intro o ho w hSw
        cases ho
        go_simp
        try with_reducible rfl
      simp only [Act.put, List.setIfInBounds_toArray, List.set_cons_zero, List.set_cons_succ]
      refine takeH (i := 24) (d := 110) (v := ?_) (by kernel_rfl) (by kernel_rfl) (by kernel_rfl) rfl (fun _ _ _ h => h) (by rfl) ?_ hHeld ?_
      rotate_left
      · intro o ho w hSw
        cases ho
        go_simp
        try with_reducible rfl
      simp only [Act.put, List.setIfInBounds_toArray, List.set_cons_zero, List.set_cons_succ]
      refine takeH (i := 25) (d := 111) (v := ?_) (by kernel_rfl) (by kernel_rfl) (by kernel_rfl) rfl (fun _ _ _ h => h) (by rfl) ?_ hHeld ?_
      rotate_left
      · intro o ho w hSw
        cases ho
        go_simp
        try with_reducible rfl
      simp only [Act.put, List.setIfInBounds_toArray, List.set_cons_zero, List.set_cons_succ]
      refine takeH (i := 26) (d := 112) (v := ?_) (by kernel_rfl) (by kernel_rfl) (by kernel_rfl) rfl (fun _ _ _ h => h) (by rfl) ?_ hHeld ?_
      rotate_left
      · intro o ho w hSw
        cases ho
        go_simp
        try with_reducible rfl
      simp only [Act.put, List.setIfInBounds_toArray, List.set_cons_zero, List.set_cons_succ]
      refine takeH (i := 27) (d := 113) (v := ?_) (by kernel_rfl) (by kernel_rfl) (by kernel_rfl) rfl (fun _ _ _ h => h) (by rfl) ?_ hHeld ?_
      rotate_left
      · intro o ho w hSw
        cases ho
        go_simp
        try with_reducible rfl
      simp only [Act.put, List.setIfInBounds_toArray, List.set_cons_zero, List.set_cons_succ]
      refine takeH (i := 28) (d := 114) (v := ?_) (by kernel_rfl) (by kernel_rfl) (by kernel_rfl) rfl (fun _ _ _ h => h) (by rfl) ?_ hHeld ?_
      rotate_left
      · intro o ho w hSw
        cases ho
        go_simp
        try with_reducible rfl
      simp only [Act.put, List.setIfInBounds_toArray, List.set_cons_zero, List.set_cons_succ]
      refine takeH (i := 29) (d := 115) (v := ?_) (by kernel_rfl) (by kernel_rfl) (by kernel_rfl) rfl (fun _ _ _ h => h) (by rfl) ?_ hHeld ?_
      rotate_left
      · intro o ho w hSw
        cases ho
        go_simp
        try with_reducible rfl
      simp only [Act.put, List.setIfInBounds_toArray, List.set_cons_zero, List.set_cons_succ]
      refine takeH (i := 30) (d := 116) (v := ?_) (by kernel_rfl) (by kernel_rfl) (by kernel_rfl) rfl (fun _ _ _ h => h) (by rfl) ?_ hHeld ?_
      rotate_left
      · intro o ho w hSw
        cases ho
        go_simp
        try with_reducible rfl
      simp only [Act.put, List.setIfInBounds_toArray, List.set_cons_zero, List.set_cons_succ]
      refine takeH (i := 31) (d := 117) (v := ?_) (by kernel_rfl) (by kernel_rfl) (by kernel_rfl) rfl (fun _ _ _ h => h) (by rfl) ?_ hHeld ?_
      rotate_left
      · intro o ho w hSw
        cases ho
        go_simp
        try with_reducible rfl
      simp only [Act.put, List.setIfInBounds_toArray, List.set_cons_zero, List.set_cons_succ]
      refine takeH (i := 32) (d := 118) (v := ?_) (by kernel_rfl) (by kernel_rfl) (by kernel_rfl) rfl (fun _ _ _ h => h) (by rfl) ?_ hHeld ?_
      rotate_left
      · intro o ho w hSw
        cases ho
        go_simp
        try with_reducible rfl
      simp only [Act.put, List.setIfInBounds_toArray, List.set_cons_zero, List.set_cons_succ]
      refine takeH (i := 33) (d := 119) (v := ?_) (by kernel_rfl) (by kernel_rfl) (by kernel_rfl) rfl (fun _ _ _ h => h) (by rfl) ?_ hHeld ?_
      rotate_left
      · intro o ho w hSw
        cases ho
        go_simp
        try with_reducible rfl
      simp only [Act.put, List.setIfInBounds_toArray, List.set_cons_zero, List.set_cons_succ]
      refine takeH (i := 34) (d := 120) (v := ?_) (by kernel_rfl) (by kernel_rfl) (by kernel_rfl) rfl (fun _ _ _ h => h) (by rfl) ?_ hHeld ?_
      rotate_left
      · intro o ho w hSw
        cases ho
        go_simp
        try with_reducible rfl
      simp only [Act.put, List.setIfInBounds_toArray, List.set_cons_zero, List.set_cons_succ]
      refine takeH (i := 35) (d := 121) (v := ?_) (by kernel_rfl) (by kernel_rfl) (by kernel_rfl) rfl (fun _ _ _ h => h) (by rfl) ?_ hHeld ?_
      rotate_left
      · intro o ho w hSw
        cases ho
        go_simp
        try with_reducible rfl
      simp only [Act.put, List.setIfInBounds_toArray, List.set_cons_zero, List.set_cons_succ]
      refine takeH (i := 36) (d := 122) (v := ?_) (by kernel_rfl) (by kernel_rfl) (by kernel_rfl) rfl (fun _ _ _ h => h) (by rfl) ?_ hHeld ?_
      rotate_left
      · intro o ho w hSw
        cases ho
        go_simp
        try with_reducible rfl
      simp only [Act.put, List.setIfInBounds_toArray, List.set_cons_zero, List.set_cons_succ]
      refine takeH (i := 37) (d := 123) (v := ?_) (by kernel_rfl) (by kernel_rfl) (by kernel_rfl) rfl (fun _ _ _ h => h) (by rfl) ?_ hHeld ?_
      rotate_left
      · intro o ho w hSw
        cases ho
        go_simp
        try with_reducible rfl
      simp only [Act.put, List.setIfInBounds_toArray, List.set_cons_zero, List.set_cons_succ]
      refine takeH (i := 38) (d := 124) (v := ?_) (by kernel_rfl) (by kernel_rfl) (by kernel_rfl) rfl (fun _ _ _ h => h) (by rfl) ?_ hHeld ?_
      rotate_left
      · intro o ho w hSw
        cases ho
        go_simp
        try with_reducible rfl
      simp only [Act.put, List.setIfInBounds_toArray, List.set_cons_zero, List.set_cons_succ]
      refine takeH (i := 39) (d := 125) (v := ?_) (by kernel_rfl) (by kernel_rfl) (by kernel_rfl) rfl (fun _ _ _ h => h) (by rfl) ?_ hHeld ?_
      rotate_left
      · intro o ho w hSw
        cases ho
        go_simp
        try with_reducible rfl
      simp only [Act.put, List.setIfInBounds_toArray, List.set_cons_zero, List.set_cons_succ]
      refine skipH (i := 40) (d := 126) (by kernel_rfl) (by kernel_rfl) (by kernel_rfl) rfl (fun _ _ _ h => h) (by rfl) hHeld ?_
      simp only [Act.put, List.setIfInBounds_toArray, List.set_cons_zero, List.set_cons_succ]
      refine skipH (i := 41) (d := 127) (by kernel_rfl) (by kernel_rfl) (by kernel_rfl) rfl (fun _ _ _ h => h) (by rfl) hHeld ?_
      simp only [Act.put, List.setIfInBounds_toArray, List.set_cons_zero, List.set_cons_succ]
      refine skipH (i := 42) (d := 128) (by kernel_rfl) (by kernel_rfl) (by kernel_rfl) rfl (fun _ _ _ h => h) (by rfl) hHeld ?_
      simp only [Act.put, List.setIfInBounds_toArray, List.set_cons_zero, List.set_cons_succ]
      refine takeH (i := 43) (d := 129) (v := ?_) (by kernel_rfl) (by kernel_rfl) (by kernel_rfl) rfl (fun _ _ _ h => h) (by rfl) ?_ hHeld ?_
      rotate_left
      · intro o ho w hSw
        cases ho
        go_simp
        try with_reducible rfl
      simp only [Act.put, List.setIfInBounds_toArray, List.set_cons_zero, List.set_cons_succ]
      refine takeH (i := 44) (d := 130) (v := ?_) (by kernel_rfl) (by kernel_rfl) (by kernel_rfl) rfl (fun _ _ _ h => h) (by rfl) ?_ hHeld ?_
      rotate_left
      · intro o ho w hSw
        cases ho
        go_simp
        try with_reducible rfl
      simp only [Act.put, List.setIfInBounds_toArray, List.set_cons_zero, List.set_cons_succ]
      refine takeH (i := 45) (d := 131) (v := ?_) (by kernel_rfl) (by kernel_rfl) (by kernel_rfl) rfl (fun _ _ _ h => h) (by rfl) ?_ hHeld ?_
      rotate_left
      · intro o ho w hSw
        cases ho
        go_simp
        try with_reducible rfl
      simp only [Act.put, List.setIfInBounds_toArray, List.set_cons_zero, List.set_cons_succ]
      refine takeH (i := 46) (d := 132) (v := ?_) (by kernel_rfl) (by kernel_rfl) (by kernel_rfl) rfl (fun _ _ _ h => h) (by rfl) ?_ hHeld ?_
      rotate_left
      · intro o ho w hSw
        cases ho
        go_simp
        try with_reducible rfl
      simp only [Act.put, List.setIfInBounds_toArray, List.set_cons_zero, List.set_cons_succ]
      refine takeH (i := 47) (d := 133) (v := ?_) (by kernel_rfl) (by kernel_rfl) (by kernel_rfl) rfl (fun _ _ _ h => h) (by rfl) ?_ hHeld ?_
      rotate_left
      · intro o ho w hSw
        cases ho
        go_simp
        try with_reducible rfl
      simp only [Act.put, List.setIfInBounds_toArray, List.set_cons_zero, List.set_cons_succ]
      refine takeH (i := 48) (d := 134) (v := ?_) (by kernel_rfl) (by kernel_rfl) (by kernel_rfl) rfl (fun _ _ _ h => h) (by rfl) ?_ hHeld ?_
      rotate_left
      · intro o ho w hSw
        cases ho
        go_simp
        try with_reducible rfl
      simp only [Act.put, List.setIfInBounds_toArray, List.set_cons_zero, List.set_cons_succ]
      refine takeH (i := 49) (d := 6) (v := ?_) (by kernel_rfl) (by kernel_rfl) (by kernel_rfl) rfl (fun _ _ _ h => h) (by rfl) ?_ hHeld ?_
      rotate_left
      · intro o ho w hSw
        cases ho
        go_simp
        try with_reducible rfl
      simp only [Act.put, List.setIfInBounds_toArray, List.set_cons_zero, List.set_cons_succ]
      refine wpAnyH_done (by kernel_rfl) ?_ _
      go_wp2
      go_ret
      exact ⟨rfl, R.out⟩
end
theorem gapart_any (g : G3) (a b : Int) (w : World) : Calls Try.prog 5 #[g.val, .int .i64 a, .int .i64 b] w fun e w' => e = .returned (.bool true) ∧ Still w w' := by
  cases hm : g.may with
  | false => exact gapart_no g hm a b w
  | true =>
    obtain ⟨B, N, I, rfl, h⟩ := G3.nat hm
    by_cases hn : a < 1 ∨ (I : Int) < a ∨ b < 1 ∨ (I : Int) < b
    · exact gapart_out B N I h w a b hn
    · obtain ⟨p, rfl⟩ : ∃ p : Nat, a = (p : Int) + 1 := ⟨(a - 1).toNat, by omega⟩
      obtain ⟨q, rfl⟩ : ∃ q : Nat, b = (q : Int) + 1 := ⟨(b - 1).toNat, by omega⟩
      exact gapart_in B N I h w p q (by omega) (by omega)
end Go.Proofs.Ytfkojilhpkklfaa
