/-
  DiskOf: any bytes as a disk, if they are whole sectors; read again they are those bytes.
-/
import Derived.Test.YtddllgbficjaoaaDiskP
import Derived.Test.YtddllgbficjaoaaLaw7Known
import Derived.Test.YtddllgbficjaoaaDrawn
namespace Go.Proofs.Ytddllgbficjaoaa
open Go.RowKit Go.Lib
set_option maxRecDepth 100000

theorem pieces_flat {z : Nat} : ∀ (m : Nat) (b : List UInt8), b.length = m * z → ((List.range m).map (piece z b)).flatten = b
  | 0, b, h => by
    have : b = [] := List.eq_nil_of_length_eq_zero (by simpa using h)
    subst this
    rfl
  | m + 1, b, h => by
    have hl : (b.drop z).length = m * z := by rw [List.length_drop, h, Nat.succ_mul]; omega
    have ih := pieces_flat m (b.drop z) hl
    rw [List.range_succ_eq_map, List.map_cons, List.map_map, List.flatten_cons]
    have e : (List.range m).map (piece z b ∘ Nat.succ) = (List.range m).map (piece z (b.drop z)) := by
      apply List.map_congr_left
      intro i _
      simp only [Function.comp, piece, List.drop_drop]
      congr 2
      rw [Nat.succ_mul]
      omega
    rw [e, ih]
    simp [piece]

set_option maxHeartbeats 1000000 in
theorem diskof_no (A : Option Addr) (n c : Nat) (z : Int) (w : World) (hn : n ≤ 1000000000) (hno : ¬ (64 ≤ z ∧ z ≤ 1024 ∧ 0 < n ∧ (n : Int) % z = 0)) :
    Calls Try.prog 18 #[.slice A n c, .int .i64 z] w fun e w' => e = .returned (.tuple #[.pointer none, .int .i64 1]) ∧ w = w' := by
  by_cases h1 : z < 64
  · have d1 : decide (z < 64) = true := decide_eq_true h1
    go_enter Try.func18, Try.ntmps18
    go_wp2
    go_ret2
    exact ⟨rfl, rfl⟩
  · have d1 : decide (z < 64) = false := decide_eq_false h1
    have nz : ¬ (z = 0) := by omega
    have ht : (n : Int).tmod z = (n : Int) % z := Int.tmod_eq_emod_of_nonneg (by omega)
    have hq : (n : Int).tdiv z = (n : Int) / z := Int.tdiv_eq_ediv_of_nonneg (by omega)
    by_cases h2 : (n : Int) % z = 0
    · have hq0 : 0 ≤ (n : Int) / z := Int.ediv_nonneg (by omega) (by omega)
      have hqn : (n : Int) / z ≤ (n : Int) := Int.ediv_le_self _ (by omega)
      have hm : mayB ((n : Int) / z) z = false := decide_eq_false fun h => hno ⟨by omega, h.2.2.2, by
        rcases Nat.eq_zero_or_pos n with h0 | h0
        · subst h0
          simp at h
        · exact h0, h2⟩
      have CM := Lib.hid (maybe_any ((n : Int) / z) z w)
      rw [hm] at CM
      obtain ⟨q, hqq⟩ : ∃ q, q = (n : Int) / z := ⟨_, rfl⟩
      rw [← hqq] at CM hq hq0 hqn
      have hw : IntKind.i64.wrap q = q := IntWalk.i64_in _ ⟨by omega, by omega⟩
      rw [h2] at ht
      clear hno hm hqq h2
      go_enter Try.func18, Try.ntmps18
      go_wp2_with fail
      refine CM.out.mono ?_
      rintro e w' ⟨rfl, rfl⟩
      go_wp2
      go_ret2
      exact ⟨rfl, rfl⟩
    · obtain ⟨q, hqq⟩ : ∃ q, q = (n : Int) % z := ⟨_, rfl⟩
      rw [← hqq] at ht h2
      have hb : (q == 0) = false := beq_eq_false_iff_ne.2 h2
      have hb' : (q != 0) = true := by simp [bne, hb]
      clear hno hqq
      go_enter Try.func18, Try.ntmps18
      go_wp2
      go_ret2
      exact ⟨rfl, rfl⟩

theorem of_big (A : Option Addr) (n c : Nat) (z : Int) (w : World) (h : 3000 < n) : Calls Try.prog 4 #[.slice A n c, .int .i64 z] w fun e w' => e = .returned (.bool true) ∧ Below w.heap.size w w' := by
  have d1 : (3000 : Int) < (n : Int) := by omega
  have d2 : decide (3000 < n) = true := decide_eq_true h
  go_enter Try.func4, Try.ntmps4
  go_wp2_with fail
  refine (known7_any w).mono ?_
  rintro e w1 ⟨rfl, k1⟩
  have K1 := Lib.hid k1
  clear k1 h
  go_wp2
  go_ret
  exact ⟨rfl, K1.out⟩

set_option maxHeartbeats 1000000 in
theorem of_not (A : Option Addr) (n c : Nat) (z : Int) (w : World) (hn : n ≤ 3000) (hno : ¬ (64 ≤ z ∧ z ≤ 1024 ∧ 0 < n ∧ (n : Int) % z = 0)) : Calls Try.prog 4 #[.slice A n c, .int .i64 z] w fun e w' => e = .returned (.bool true) ∧ Below w.heap.size w w' := by
  have d3 : ¬ (3000 : Int) < (n : Int) := by omega
  have d3' : decide (3000 < n) = false := decide_eq_false (by omega)
  have HNO := Lib.hid hno
  by_cases c1 : 64 ≤ z
  · have e1 : decide (64 ≤ z) = true := decide_eq_true c1
    by_cases c2 : z ≤ 1024
    · have e2 : decide (z ≤ 1024) = true := decide_eq_true c2
      by_cases c3 : 0 < n
      · have e3 : decide (0 < n) = true := decide_eq_true c3
        have e3' : (0 : Int) < (n : Int) := by omega
        have ht : (n : Int).tmod z = (n : Int) % z := Int.tmod_eq_emod_of_nonneg (by omega)
        have nz : ¬ (z = 0) := by omega
        obtain ⟨q, hqq⟩ : ∃ q, q = (n : Int) % z := ⟨_, rfl⟩
        have h2 : ¬ (q = 0) := fun h => hno ⟨c1, c2, c3, by rw [← hqq]; exact h⟩
        rw [← hqq] at ht
        have hb : (q == 0) = false := beq_eq_false_iff_ne.2 h2
        clear hno hqq
        go_enter Try.func4, Try.ntmps4
        go_wp2_with fail
        refine (known7_any w).mono ?_
        rintro e w1 ⟨rfl, k1⟩
        have K1 := Lib.hid k1
        clear k1
        go_wp2_with fail
        refine (diskof_no A n c z w1 (by omega) HNO.out).mono ?_
        rintro e w2 ⟨rfl, rfl⟩
        go_wp2
        go_ret
        exact ⟨rfl, K1.out⟩
      · have e3 : decide (0 < n) = false := decide_eq_false c3
        have e3' : ¬ (0 : Int) < (n : Int) := by omega
        clear hno
        go_enter Try.func4, Try.ntmps4
        go_wp2_with fail
        refine (known7_any w).mono ?_
        rintro e w1 ⟨rfl, k1⟩
        have K1 := Lib.hid k1
        clear k1
        go_wp2_with fail
        refine (diskof_no A n c z w1 (by omega) HNO.out).mono ?_
        rintro e w2 ⟨rfl, rfl⟩
        go_wp2
        go_ret
        exact ⟨rfl, K1.out⟩
    · have e2 : decide (z ≤ 1024) = false := decide_eq_false c2
      clear hno
      go_enter Try.func4, Try.ntmps4
      go_wp2_with fail
      refine (known7_any w).mono ?_
      rintro e w1 ⟨rfl, k1⟩
      have K1 := Lib.hid k1
      clear k1
      go_wp2_with fail
      refine (diskof_no A n c z w1 (by omega) HNO.out).mono ?_
      rintro e w2 ⟨rfl, rfl⟩
      go_wp2
      go_ret
      exact ⟨rfl, K1.out⟩
  · have e1 : decide (64 ≤ z) = false := decide_eq_false c1
    clear hno
    go_enter Try.func4, Try.ntmps4
    go_wp2_with fail
    refine (known7_any w).mono ?_
    rintro e w1 ⟨rfl, k1⟩
    have K1 := Lib.hid k1
    clear k1
    go_wp2_with fail
    refine (diskof_no A n c z w1 (by omega) HNO.out).mono ?_
    rintro e w2 ⟨rfl, rfl⟩
    go_wp2
    go_ret
    exact ⟨rfl, K1.out⟩

theorem new_cut (z : Nat) (l : List (List UInt8)) : { (D.new z l).cut [] with off := false } = D.new z l := by
  unfold D.new D.cut
  simp [chosen, applyL]
set_option maxHeartbeats 8000000 in
theorem of_walk (ad : Addr) (m z c : Nat) (b : List UInt8) (w : World) (hb : SlIs w 0 w.heap.size (.slice (some ad) b.length c) b) (hl : b.length = m * z) (hm1 : 1 ≤ m) (hz1 : 64 ≤ z) (hz : z ≤ 1024) (hn : b.length ≤ 3000) :
    Calls Try.prog 4 #[.slice (some ad) b.length c, .int .i64 (z : Int)] w fun e w' => e = .returned (.bool true) ∧ Below w.heap.size w w' := by
  have hm : m ≤ 16384 := by
    have : m * 1 ≤ m * z := Nat.mul_le_mul_left m (by omega)
    omega
  obtain ⟨N, hN⟩ : ∃ N, N = b.length := ⟨_, rfl⟩
  have hdiv : ((N : Int)).tdiv (z : Int) = (m : Int) := by
    rw [hN, hl, Int.tdiv_eq_ediv_of_nonneg (by omega), Int.natCast_mul]
    exact Int.mul_ediv_cancel _ (by omega)
  have hdv : (N : Int) / (z : Int) = (m : Int) := by rw [hN, hl, Int.natCast_mul]; exact Int.mul_ediv_cancel _ (by omega)
  have hrem : ((N : Int)).tmod (z : Int) = 0 := by
    rw [hN, hl, Int.tmod_eq_emod_of_nonneg (by omega), Int.natCast_mul]
    exact Int.mul_emod_left _ _
  have hmod : (N : Int) % (z : Int) = 0 := by rw [hN, hl, Int.natCast_mul]; exact Int.mul_emod_left _ _
  have hN0 : 0 < N := by
    have : 1 * 64 ≤ m * z := Nat.mul_le_mul hm1 hz1
    omega
  have d3 : ¬ (3000 : Int) < (N : Int) := by omega
  have d3' : decide (3000 < N) = false := decide_eq_false (by omega)
  have o1 : decide ((64 : Int) ≤ (z : Int)) = true := decide_eq_true (by omega)
  have o2 : decide ((z : Int) ≤ 1024) = true := decide_eq_true (by omega)
  have p1 : (64 : Int) ≤ (z : Int) := by omega
  have p2 : (z : Int) ≤ 1024 := by omega
  have o3 : decide (0 < N) = true := decide_eq_true hN0
  have p3 : (0 : Int) < (N : Int) := by omega
  have nz : ¬ ((z : Int) = 0) := by omega
  have nzn : ¬ (z = 0) := by omega
  have hwm : IntKind.i64.wrap (m : Int) = (m : Int) := IntWalk.i64_in _ (by omega)
  have C0 := Lib.hid (known7_any w)
  have CO : Hid (∀ w1, Below w.heap.size w w1 → Calls Try.prog 18 #[.slice (some ad) N c, .int .i64 (z : Int)] w1 (OfAns w1 z b)) := fun w1 k1 => by
    rw [hN]
    refine diskof_yes m z c ad b w1 ?_ hl hm1 hm hz1 hz
    obtain ⟨A', c', e, r1, r2, r3⟩ := hb
    exact ⟨A', c', e, r1, r2, (r3.keep fun p _ hp => World.cell?_of_block (k1.block _ hp)).wide (Nat.le_refl _) k1.size⟩
  have HST : Hid (∀ w1, Below w.heap.size w w1 → (convert 34 9 (.slice (some ad) N c)).run Try.prog w1 = .ok (.string (strOf b)) w1) := fun w1 k1 => by
    rw [hN]
    obtain ⟨A', c', e, r1, r2, r3⟩ := hb
    exact run_str _ _ 0 w.heap.size _ ⟨A', c', e, r1, r2, r3.keep fun p _ hp => World.cell?_of_block (k1.block _ hp)⟩
  have hbm : b.length / z = m := by rw [hl]; exact Nat.mul_div_cancel _ (by omega)
  have hfl := pieces_flat (z := z) m b hl
  rw [← hN]
  have HF := Lib.hid hfl
  have HM := Lib.hid hbm
  clear hb hN hl hfl hbm
  go_enter Try.func4, Try.ntmps4
  go_wp2_with fail
  refine C0.out.mono ?_
  rintro e w1 ⟨rfl, k1⟩
  have C1 := Lib.hid (CO.out w1 k1)
  have K1 := Lib.hid k1
  clear C0 CO k1
  go_wp2_with fail
  refine C1.out.mono ?_
  rintro e w2 ⟨v, rfl, hm2⟩
  rw [HM.out] at hm2
  obtain ⟨g, rfl, L2, _⟩ := Live.made K1.out (K := fun _ => False) (fun _ h => h.elim) hm2
  obtain ⟨l, hlz⟩ : ∃ l, l = (List.range m).map (piece z b) := ⟨_, rfl⟩
  rw [← hlz] at L2
  have hll : l.length = m := by rw [hlz]; simp
  have hlf : l.flatten = b := by rw [hlz]; exact HF.out
  have C2 := Lib.hid (live_cut w w2 _ g _ L2 [] (.slice none 0 0) (fun _ => False) (RwIs.nil _ _) (fun _ h => h.elim) ⟨by simp [D.new], by simp [D.new], by simp [D.new]⟩)
  clear hm2 L2 C1 K1 hlz HF HM
  go_wp2_with fail
  refine C2.out.mono ?_
  rintro e w3 ⟨rfl, l3, _⟩
  have C3 := live_on w w3 _ g _ l3
  rw [new_cut] at C3
  have HC3 := Lib.hid C3
  clear C3 C2 l3
  go_wp2_with fail
  refine HC3.out.mono ?_
  rintro e w4 ⟨rfl, l4, _⟩
  have C4 := live_shape w w4 _ g _ l4
  have e1 : (D.new z l).kept.length = m := hll
  have e2 : (D.new z l).size = z := rfl
  rw [e1, e2] at C4
  have HC4 := Lib.hid C4
  have L4 := Lib.hid l4
  clear C4 HC3 l4 e1 e2
  go_wp2_with fail
  refine HC4.out.mono ?_
  rintro e w5 ⟨rfl, mm, rfl⟩
  have L5 : Hid (Live w (fun _ => False) g (D.new z l) (w4.drewN mm).drew) := L4.out.new (((Only.refl _ w4).drewN mm).drew)
  have CB := live_bytes w _ _ g _ L5.out
  have e3 : (D.new z l).kept.flatten = b := hlf
  rw [e3] at CB
  have HCB := Lib.hid CB
  have HLF := Lib.hid hlf
  clear CB HC4 L4 e3 hlf hll
  go_upto_region 14 with fail
  refine wp_region_held_drew (S := fun w' => (convert 34 9 (.slice (some ad) N c)).run Try.prog w' = .ok (.string (strOf b)) w') (by kernel_rfl) ?_ (fun hHeld => ?_)
  · exact HST.out _ L5.out.low
  refine takeH (i := 0) (d := 62) (v := ?_) (by kernel_rfl) (by kernel_rfl) (by kernel_rfl) rfl (fun _ _ _ h => h) (by rfl) ?_ hHeld ?_
  rotate_left
  · intro o ho w hSw
    cases ho
    go_simp
    try with_reducible rfl
  simp only [Act.put, List.setIfInBounds_toArray, List.set_cons_zero, List.set_cons_succ]
  refine takeH (i := 3) (d := 65) (v := ?_) (by kernel_rfl) (by kernel_rfl) (by kernel_rfl) rfl (fun _ _ _ h => h) (by rfl) ?_ hHeld ?_
  rotate_left
  · intro o ho w hSw
    cases ho
    go_simp
    try with_reducible rfl
  simp only [Act.put, List.setIfInBounds_toArray, List.set_cons_zero, List.set_cons_succ]
  refine takeH (i := 4) (d := 66) (v := ?_) (by kernel_rfl) (by kernel_rfl) (by kernel_rfl) rfl (fun _ _ _ h => h) (by rfl) ?_ hHeld ?_
  rotate_left
  · intro o ho w hSw
    cases ho
    go_simp
    try with_reducible rfl
  simp only [Act.put, List.setIfInBounds_toArray, List.set_cons_zero, List.set_cons_succ]
  refine wpAnyH_ready (rs := [1]) (by kernel_rfl) (by simp) ?_
  refine AllReadyH.cons rfl (fun K hK => ?_) AllReadyH.nil
  go_simp
  refine HCB.out.mono ?_
  rintro e w6 ⟨A6, c6, rfl, s6, k6⟩
  have L6 := Lib.hid (L5.out.below k6)
  have hcv := run_str _ _ _ _ _ s6
  have CPD := Lib.hid (live_pending w w6 _ g _ L6.out)
  rw [show (D.new z l).pend.length = 0 from rfl] at CPD
  clear s6 k6 HCB L5
  try go_wp2_with fail
  refine hK.out _ _ ?_ (fun hHeld => ?_)
  · exact HST.out _ L6.out.low
  clear hK K
  refine wpAnyH_ready (rs := [2]) (by kernel_rfl) (by simp) ?_
  refine AllReadyH.cons rfl (fun K hK => ?_) AllReadyH.nil
  go_simp
  refine hK.out _ _ ?_ (fun hHeld => ?_)
  · exact HST.out _ L6.out.low
  clear hK K
  clear hcv
  refine takeH (i := 5) (d := 67) (v := ?_) (by kernel_rfl) (by kernel_rfl) (by kernel_rfl) rfl (fun _ _ _ h => h) (by rfl) ?_ hHeld ?_
  rotate_left
  · intro o ho w hSw
    cases ho
    go_simp
    try with_reducible rfl
  simp only [Act.put, List.setIfInBounds_toArray, List.set_cons_zero, List.set_cons_succ]
  refine takeH (i := 6) (d := 68) (v := ?_) (by kernel_rfl) (by kernel_rfl) (by kernel_rfl) rfl (fun _ _ _ h => h) (by rfl) ?_ hHeld ?_
  rotate_left
  · intro o ho w hSw
    cases ho
    go_simp
    try with_reducible rfl
  simp only [Act.put, List.setIfInBounds_toArray, List.set_cons_zero, List.set_cons_succ]
  refine takeH (i := 7) (d := 69) (v := ?_) (by kernel_rfl) (by kernel_rfl) (by kernel_rfl) rfl (fun _ _ _ h => h) (by rfl) ?_ hHeld ?_
  rotate_left
  · intro o ho w hSw
    cases ho
    go_simp
    try with_reducible rfl
  simp only [Act.put, List.setIfInBounds_toArray, List.set_cons_zero, List.set_cons_succ]
  refine takeH (i := 8) (d := 70) (v := ?_) (by kernel_rfl) (by kernel_rfl) (by kernel_rfl) rfl (fun _ _ _ h => h) (by rfl) ?_ hHeld ?_
  rotate_left
  · intro o ho w hSw
    cases ho
    go_simp
    try with_reducible rfl
  simp only [Act.put, List.setIfInBounds_toArray, List.set_cons_zero, List.set_cons_succ]
  refine takeH (i := 9) (d := 71) (v := ?_) (by kernel_rfl) (by kernel_rfl) (by kernel_rfl) rfl (fun _ _ _ h => h) (by rfl) ?_ hHeld ?_
  rotate_left
  · intro o ho w hSw
    cases ho
    go_simp
    try with_reducible rfl
  simp only [Act.put, List.setIfInBounds_toArray, List.set_cons_zero, List.set_cons_succ]
  refine takeH (i := 10) (d := 72) (v := ?_) (by kernel_rfl) (by kernel_rfl) (by kernel_rfl) rfl (fun _ _ _ h => h) (by rfl) ?_ hHeld ?_
  rotate_left
  · intro o ho w hSw
    cases ho
    go_simp
    try with_reducible rfl
  simp only [Act.put, List.setIfInBounds_toArray, List.set_cons_zero, List.set_cons_succ]
  refine takeH (i := 11) (d := 73) (v := ?_) (by kernel_rfl) (by kernel_rfl) (by kernel_rfl) rfl (fun _ _ _ h => h) (by rfl) ?_ hHeld ?_
  rotate_left
  · intro o ho w hSw
    cases ho
    go_simp
    try with_reducible rfl
  simp only [Act.put, List.setIfInBounds_toArray, List.set_cons_zero, List.set_cons_succ]
  refine takeH (i := 12) (d := 74) (v := ?_) (by kernel_rfl) (by kernel_rfl) (by kernel_rfl) rfl (fun _ _ _ h => h) (by rfl) ?_ hHeld ?_
  rotate_left
  · intro o ho w hSw
    cases ho
    go_simp
    try with_reducible rfl
  simp only [Act.put, List.setIfInBounds_toArray, List.set_cons_zero, List.set_cons_succ]
  refine takeH (i := 13) (d := 75) (v := ?_) (by kernel_rfl) (by kernel_rfl) (by kernel_rfl) rfl (fun _ _ _ h => h) (by rfl) ?_ hHeld ?_
  rotate_left
  · intro o ho w hSw
    cases ho
    go_simp
    try with_reducible rfl
  simp only [Act.put, List.setIfInBounds_toArray, List.set_cons_zero, List.set_cons_succ]
  refine takeH (i := 14) (d := 76) (v := ?_) (by kernel_rfl) (by kernel_rfl) (by kernel_rfl) rfl (fun _ _ _ h => h) (by rfl) ?_ hHeld ?_
  rotate_left
  · intro o ho w hSw
    cases ho
    go_simp
    try with_reducible rfl
  simp only [Act.put, List.setIfInBounds_toArray, List.set_cons_zero, List.set_cons_succ]
  refine takeH (i := 15) (d := 77) (v := ?_) (by kernel_rfl) (by kernel_rfl) (by kernel_rfl) rfl (fun _ _ _ h => h) (by rfl) ?_ hHeld ?_
  rotate_left
  · intro o ho w hSw
    cases ho
    go_simp
    try with_reducible rfl
  simp only [Act.put, List.setIfInBounds_toArray, List.set_cons_zero, List.set_cons_succ]
  refine takeH (i := 16) (d := 78) (v := ?_) (by kernel_rfl) (by kernel_rfl) (by kernel_rfl) rfl (fun _ _ _ h => h) (by rfl) ?_ hHeld ?_
  rotate_left
  · intro o ho w hSw
    cases ho
    go_simp
    try with_reducible rfl
  simp only [Act.put, List.setIfInBounds_toArray, List.set_cons_zero, List.set_cons_succ]
  refine takeH (i := 17) (d := 79) (v := ?_) (by kernel_rfl) (by kernel_rfl) (by kernel_rfl) rfl (fun _ _ _ h => h) (by rfl) ?_ hHeld ?_
  rotate_left
  · intro o ho w hSw
    cases ho
    go_simp
    try with_reducible rfl
  simp only [Act.put, List.setIfInBounds_toArray, List.set_cons_zero, List.set_cons_succ]
  refine takeH (i := 18) (d := 80) (v := ?_) (by kernel_rfl) (by kernel_rfl) (by kernel_rfl) rfl (fun _ _ _ h => h) (by rfl) ?_ hHeld ?_
  rotate_left
  · intro o ho w hSw
    cases ho
    go_simp
    try with_reducible rfl
  simp only [Act.put, List.setIfInBounds_toArray, List.set_cons_zero, List.set_cons_succ]
  refine takeH (i := 19) (d := 81) (v := ?_) (by kernel_rfl) (by kernel_rfl) (by kernel_rfl) rfl (fun _ _ _ h => h) (by rfl) ?_ hHeld ?_
  rotate_left
  · intro o ho w hSw
    cases ho
    go_simp
    try with_reducible rfl
  simp only [Act.put, List.setIfInBounds_toArray, List.set_cons_zero, List.set_cons_succ]
  refine takeH (i := 20) (d := 82) (v := ?_) (by kernel_rfl) (by kernel_rfl) (by kernel_rfl) rfl (fun _ _ _ h => h) (by rfl) ?_ hHeld ?_
  rotate_left
  · intro o ho w hSw
    cases ho
    go_simp
    try with_reducible rfl
  simp only [Act.put, List.setIfInBounds_toArray, List.set_cons_zero, List.set_cons_succ]
  refine wpAnyH_ready (rs := [21]) (by kernel_rfl) (by simp) ?_
  refine AllReadyH.cons rfl (fun K hK => ?_) AllReadyH.nil
  go_simp
  refine CPD.out.mono ?_
  rintro e w7 ⟨rfl, rfl⟩
  try go_wp2_with fail
  refine hK.out _ _ ?_ (fun hHeld => ?_)
  · exact HST.out _ L6.out.low
  clear hK K
  refine takeH (i := 22) (d := 84) (v := ?_) (by kernel_rfl) (by kernel_rfl) (by kernel_rfl) rfl (fun _ _ _ h => h) (by rfl) ?_ hHeld ?_
  rotate_left
  · intro o ho w hSw
    cases ho
    go_simp
    try with_reducible rfl
  simp only [Act.put, List.setIfInBounds_toArray, List.set_cons_zero, List.set_cons_succ]
  refine takeH (i := 23) (d := 85) (v := ?_) (by kernel_rfl) (by kernel_rfl) (by kernel_rfl) rfl (fun _ _ _ h => h) (by rfl) ?_ hHeld ?_
  rotate_left
  · intro o ho w hSw
    cases ho
    go_simp
    try with_reducible rfl
  simp only [Act.put, List.setIfInBounds_toArray, List.set_cons_zero, List.set_cons_succ]
  refine takeH (i := 24) (d := 4) (v := ?_) (by kernel_rfl) (by kernel_rfl) (by kernel_rfl) rfl (fun _ _ _ h => h) (by rfl) ?_ hHeld ?_
  rotate_left
  · intro o ho w hSw
    cases ho
    go_simp
    try with_reducible rfl
  simp only [Act.put, List.setIfInBounds_toArray, List.set_cons_zero, List.set_cons_succ]
  refine wpAnyH_done (by kernel_rfl) ?_ _
  go_wp2
  go_ret
  exact ⟨rfl, L6.out.low⟩
end Go.Proofs.Ytddllgbficjaoaa
