/-
  Layer 10's GeomForm: whatever geometry, it answers true and leaves what was there.
-/
import Derived.Test.YtfkojilhpkklfaaLaw10FormA
namespace Go.Proofs.Ytfkojilhpkklfaa
open Go.RowKit Go.Lib
set_option maxRecDepth 100000

/-- The law's own list, grown so far, and the row of its three numbers; all behind W. -/
structure FW (W : World) (nb : Nat) (cs : Array Value) (v : Value) (xs : List UInt8) (wr : World) : Prop where
  row : Has wr nb 3 cs
  low : nb < W.heap.size
  own : wr.ownsRow W.heap.size 5 1 v xs.length (b8s xs)
  still : Still W wr
section
variable {W wr w' : World} {nb : Nat} {cs : Array Value} {v v' : Value} {xs ys : List UInt8}
theorem FW.form (h : FW W nb cs v xs wr) (hx : 0 < xs.length) : ∃ g c, v = .slice (some ⟨g, 0, none⟩) xs.length c := by
  rcases id h.own.2 with ⟨_, h0⟩ | ⟨g, cap, cur, e, _⟩
  · omega
  · exact ⟨g, cap, e⟩
theorem FW.keep (h : FW W nb cs v xs wr) (k : Still wr w') : FW W nb cs v xs w' := ⟨k.has h.row, h.low, owns_only h.own k (fun _ _ h => h), h.still.trans k⟩
theorem FW.grown (h : FW W nb cs v xs wr) (o : w'.ownsRow W.heap.size 5 1 v' ys.length (b8s ys)) (g : wr.grownBy w' v.ownBlock) : FW W nb cs v' ys w' := by
  have k := Only.of_grown g
  refine ⟨h.row.only k (fun e => ?_), h.low, o, Only.trans h.still k (fun i hi e => ?_)⟩
  · have := h.own.lt _ e.symm
    have := h.low
    omega
  · have := h.own.lt _ e.symm
    omega
theorem FW.first {o : Obj} (hr : Has W nb 3 cs) (own : w'.ownsRow (W.alloc o).drew.heap.size 5 1 v' ys.length (b8s ys)) (g : (W.alloc o).drew.grownBy w' none) : FW W nb cs v' ys w' := by
  have k : Still W w' := Only.trans (((Still.refl W).alloc o).drew) (Only.of_grown g) (fun i hi e => by cases e)
  exact ⟨k.has hr, hr.lt, owns_base own (by simp [World.drew]), k⟩
end

set_option maxHeartbeats 1500000 in
theorem gform_yes {B N I : Nat} (hm : May B N I) (hc : (gN B N I).chk = 0) (w : World) : Calls Try.prog 4 #[(gN B N I).val] w fun e w' => e = .returned (.bool true) ∧ Still w w' := by
  have hr := hm.range
  have hn := hm.n
  have hi := hm.i
  have K0 := Lib.hid ((Still.refl w).alloc (.cells #[.int .i64 (B : Int), .int .i64 (N : Int), .int .i64 (I : Int)] 23))
  have CK : Hid (∀ W, Calls Try.prog 8 #[.agg #[.int .i64 (B : Int), .int .i64 (N : Int), .int .i64 (I : Int)]] W fun e w' => e = .returned (.int .i64 0) ∧ Still W w') := Lib.hid (fun W => by
    have := check_any (gN B N I) W
    rw [hc] at this
    exact this)
  have CI : Hid (∀ W, Calls Try.prog 10 #[.agg #[.int .i64 (B : Int), .int .i64 (N : Int), .int .i64 (I : Int)]] W fun e w' => e = .returned (.int .i64 0) ∧ Still W w') := Lib.hid (fun W => by
    have := check10_any (gN B N I) W
    rw [chkI_yes hm.yes] at this
    exact this)
  have EN : Hid (∀ W, Calls Try.prog 7 #[.agg #[.int .i64 (B : Int), .int .i64 (N : Int), .int .i64 (I : Int)]] W fun e w' => ∃ A c, e = .returned (.tuple #[.slice A (superB B N I).length c, .int .i64 0]) ∧ SlIs w' W.heap.size w'.heap.size (.slice A (superB B N I).length c) (superB B N I) ∧ Still W w') := Lib.hid (fun W => encode_yes hc W)
  have hl := superB_length B N I
  have hsup := superB_is (N := N) (I := I) (show 20 ≤ B by omega)
  obtain ⟨gb, hgb⟩ : ∃ gb, gb = superB B N I := ⟨_, rfl⟩
  rw [← hgb] at EN hl hsup
  obtain ⟨p0, p1, p2, p3, hp, e0, e1, e2, e3⟩ := four_of B
  obtain ⟨q0, q1, q2, q3, hq, f0, f1, f2, f3⟩ := four_of N
  obtain ⟨r0, r1, r2, r3, hr4, g0, g1, g2, g3⟩ := four_of I
  rw [hp, hq, hr4] at hsup
  have HS := Lib.hid hsup
  have HL := Lib.hid hl
  have HGB := Lib.hid hgb
  show Calls Try.prog 4 #[.agg #[.int .i64 (B : Int), .int .i64 (N : Int), .int .i64 (I : Int)]] w _
  clear hp hq hr4 hsup hl hgb
  go_enter Try.func4, Try.ntmps4
  go_wp2_with fail
  refine (known10_any _).mono ?_
  rintro e w1 ⟨rfl, k1⟩
  obtain ⟨⟨c0, c1, c2⟩, q1'⟩ := box_facts k1
  have K1 := Lib.hid q1'
  have G1 := Lib.hid (k1.has (Has.new w 23 #[.int .i64 (B : Int), .int .i64 (N : Int), .int .i64 (I : Int)]))
  clear k1 q1' K0
  go_wp2_with fail
  refine (CK.out _).mono ?_
  rintro e w2 ⟨rfl, k2⟩
  have K2 := Lib.hid (K1.out.trans k2)
  have G2 := Lib.hid (k2.has G1.out)
  clear k2 K1 G1 CK c0 c1 c2
  obtain ⟨c0, c1, c2⟩ := G2.out.cells3
  go_wp2_with fail
  refine (CI.out _).mono ?_
  rintro e w3 ⟨rfl, k3⟩
  have K3 := Lib.hid (K2.out.trans k3)
  have G3 := Lib.hid (k3.has G2.out)
  clear k3 K2 G2 CI c0 c1 c2
  obtain ⟨c0, c1, c2⟩ := G3.out.cells3
  go_wp2_with fail
  refine (EN.out _).mono ?_
  rintro e w4 ⟨A, c, rfl, s4, k4⟩
  have S4 := Lib.hid s4
  have K4 := Lib.hid (K3.out.trans k4)
  have G4 := Lib.hid (k4.has G3.out)
  have kc := Lib.run_convert_bytes_const (P := Try.prog) w4 24 5 #[.int .u8 76, .int .u8 79, .int .u8 71, .int .u8 71, .int .u8 73, .int .u8 65, .int .u8 1, .int .u8 0] 8 8 Try.underlying24 Try.underlying5
  clear c0 c1 c2 k4 s4 K3 G3 EN
  obtain ⟨c0, c1, c2⟩ := (G4.out.alloc (.cells #[.int .u8 76, .int .u8 79, .int .u8 71, .int .u8 71, .int .u8 73, .int .u8 65, .int .u8 1, .int .u8 0] 5 (8, 9))).cells3
  obtain ⟨i0, hi0, hz0, hz1, hz2⟩ := info_parts Try.info8
  have HR7 : Hid (Has ((w4.alloc (.cells #[.int .u8 76, .int .u8 79, .int .u8 71, .int .u8 71, .int .u8 73, .int .u8 65, .int .u8 1, .int .u8 0] 5 (8, 9))).alloc (.cells #[.int .i64 (B : Int), .int .i64 (N : Int), .int .i64 (I : Int)] 3)) (w4.heap.size + 1) 3 #[.int .i64 (B : Int), .int .i64 (N : Int), .int .i64 (I : Int)]) := Lib.hid (by
    have := Has.new (w4.alloc (.cells #[.int .u8 76, .int .u8 79, .int .u8 71, .int .u8 71, .int .u8 73, .int .u8 65, .int .u8 1, .int .u8 0] 5 (8, 9))) 3 #[.int .i64 (B : Int), .int .i64 (N : Int), .int .i64 (I : Int)]
    simpa using this)
  have HH7 : Hid (SlIs ((w4.alloc (.cells #[.int .u8 76, .int .u8 79, .int .u8 71, .int .u8 71, .int .u8 73, .int .u8 65, .int .u8 1, .int .u8 0] 5 (8, 9))).alloc (.cells #[.int .i64 (B : Int), .int .i64 (N : Int), .int .i64 (I : Int)] 3)) w4.heap.size (w4.heap.size + 1) (.slice (some ⟨w4.heap.size, 0, none⟩) 8 8) headB) := Lib.hid ((lit_SlIs w4 5 (8, 9) headB 8 rfl (by simp [maxLen])).alloc (by simp))
  have K7 : Hid (Still w4 ((w4.alloc (.cells #[.int .u8 76, .int .u8 79, .int .u8 71, .int .u8 71, .int .u8 73, .int .u8 65, .int .u8 1, .int .u8 0] 5 (8, 9))).alloc (.cells #[.int .i64 (B : Int), .int .i64 (N : Int), .int .i64 (I : Int)] 3))) := Lib.hid (((Still.refl w4).alloc _).alloc _)
  go_wp2
  generalize hW7 : (w4.alloc (.cells #[.int .u8 76, .int .u8 79, .int .u8 71, .int .u8 71, .int .u8 73, .int .u8 65, .int .u8 1, .int .u8 0] 5 (8, 9))).alloc (.cells #[.int .i64 (B : Int), .int .i64 (N : Int), .int .i64 (I : Int)] 3) = W7 at *
  clear hW7 kc c0 c1 c2
  obtain ⟨x0, x1, x2⟩ := HR7.out.cells3
  have l7 := HR7.out.lt
  have l4 : w4.heap.size < W7.heap.size := by omega
  have HC : Hid (∀ j u, (b8s headB)[j]? = some u → W7.cell? ((⟨w4.heap.size, 0, none⟩ : Addr).add j) = some u) := Lib.hid (by
    obtain ⟨A', c', e, _, _, hr⟩ := HH7.out
    injection e with e1 _ _
    subst e1
    obtain ⟨ad, e, _, _, h⟩ := hr (by decide)
    injection e with e
    subst e
    exact h)
  clear HH7
  refine wp_loop_rounds 4 ?_
  rw [rounds_succ]
  go_wp2
  refine wp_region_held_drew (S := fun w' => w'.cell? ⟨w4.heap.size + 1, 0, none⟩ = some (.int .i64 (B : Int)) ∧ w'.cell? ⟨w4.heap.size + 1, 1, none⟩ = some (.int .i64 (N : Int)) ∧ w'.cell? ⟨w4.heap.size + 1, 2, none⟩ = some (.int .i64 (I : Int))) (by kernel_rfl) ?_ (fun hHeld => ?_)
  · exact ⟨x0, x1, x2⟩
  refine takeH (i := 0) (d := 40) (v := ?_) (by kernel_rfl) (by kernel_rfl) (by kernel_rfl) rfl (fun _ _ _ h => h) (by rfl) ?_ hHeld ?_
  rotate_left
  · intro o ho w hSw
    cases ho
    go_simp
    try with_reducible rfl
  simp only [Act.put, List.setIfInBounds_toArray, List.set_cons_zero, List.set_cons_succ]
  refine takeH (i := 1) (d := 41) (v := ?_) (by kernel_rfl) (by kernel_rfl) (by kernel_rfl) rfl (fun _ _ _ h => h) (by rfl) ?_ hHeld ?_
  rotate_left
  · intro o ho w hSw
    cases ho
    go_simp
    try with_reducible rfl
  simp only [Act.put, List.setIfInBounds_toArray, List.set_cons_zero, List.set_cons_succ]
  refine takeH (i := 2) (d := 42) (v := ?_) (by kernel_rfl) (by kernel_rfl) (by kernel_rfl) rfl (fun _ _ _ h => h) (by rfl) ?_ hHeld ?_
  rotate_left
  · intro o ho w hSw
    cases ho
    go_simp
    try with_reducible rfl
  simp only [Act.put, List.setIfInBounds_toArray, List.set_cons_zero, List.set_cons_succ]
  refine takeH (i := 3) (d := 43) (v := ?_) (by kernel_rfl) (by kernel_rfl) (by kernel_rfl) rfl (fun _ _ _ h => h) (by rfl) ?_ hHeld ?_
  rotate_left
  · intro o ho w hSw
    cases ho
    go_simp
    try with_reducible rfl
  simp only [Act.put, List.setIfInBounds_toArray, List.set_cons_zero, List.set_cons_succ]
  refine takeH (i := 4) (d := 44) (v := ?_) (by kernel_rfl) (by kernel_rfl) (by kernel_rfl) rfl (fun _ _ _ h => h) (by rfl) ?_ hHeld ?_
  rotate_left
  · intro o ho w hSw
    cases ho
    go_simp
    try with_reducible rfl
  simp only [Act.put, List.setIfInBounds_toArray, List.set_cons_zero, List.set_cons_succ]
  refine takeH (i := 5) (d := 45) (v := ?_) (by kernel_rfl) (by kernel_rfl) (by kernel_rfl) rfl (fun _ _ _ h => h) (by rfl) ?_ hHeld ?_
  rotate_left
  · intro o ho w hSw
    cases ho
    go_simp
    try with_reducible rfl
  simp only [Act.put, List.setIfInBounds_toArray, List.set_cons_zero, List.set_cons_succ]
  refine takeH (i := 6) (d := 46) (v := ?_) (by kernel_rfl) (by kernel_rfl) (by kernel_rfl) rfl (fun _ _ _ h => h) (by rfl) ?_ hHeld ?_
  rotate_left
  · intro o ho w hSw
    cases ho
    go_simp
    try with_reducible rfl
  simp only [Act.put, List.setIfInBounds_toArray, List.set_cons_zero, List.set_cons_succ]
  refine takeH (i := 7) (d := 47) (v := ?_) (by kernel_rfl) (by kernel_rfl) (by kernel_rfl) rfl (fun _ _ _ h => h) (by rfl) ?_ hHeld ?_
  rotate_left
  · intro o ho w hSw
    cases ho
    go_simp
    try with_reducible rfl
  simp only [Act.put, List.setIfInBounds_toArray, List.set_cons_zero, List.set_cons_succ]
  refine takeH (i := 8) (d := 48) (v := ?_) (by kernel_rfl) (by kernel_rfl) (by kernel_rfl) rfl (fun _ _ _ h => h) (by rfl) ?_ hHeld ?_
  rotate_left
  · intro o ho w hSw
    cases ho
    go_simp
    try with_reducible rfl
  simp only [Act.put, List.setIfInBounds_toArray, List.set_cons_zero, List.set_cons_succ]
  refine takeH (i := 9) (d := 49) (v := ?_) (by kernel_rfl) (by kernel_rfl) (by kernel_rfl) rfl (fun _ _ _ h => h) (by rfl) ?_ hHeld ?_
  rotate_left
  · intro o ho w hSw
    cases ho
    go_simp
    try with_reducible rfl
  simp only [Act.put, List.setIfInBounds_toArray, List.set_cons_zero, List.set_cons_succ]
  refine takeH (i := 10) (d := 50) (v := ?_) (by kernel_rfl) (by kernel_rfl) (by kernel_rfl) rfl (fun _ _ _ h => h) (by rfl) ?_ hHeld ?_
  rotate_left
  · intro o ho w hSw
    cases ho
    go_simp
    try with_reducible rfl
  simp only [Act.put, List.setIfInBounds_toArray, List.set_cons_zero, List.set_cons_succ]
  refine takeH (i := 11) (d := 51) (v := ?_) (by kernel_rfl) (by kernel_rfl) (by kernel_rfl) rfl (fun _ _ _ h => h) (by rfl) ?_ hHeld ?_
  rotate_left
  · intro o ho w hSw
    cases ho
    go_simp
    try with_reducible rfl
  simp only [Act.put, List.setIfInBounds_toArray, List.set_cons_zero, List.set_cons_succ]
  refine takeH (i := 12) (d := 52) (v := ?_) (by kernel_rfl) (by kernel_rfl) (by kernel_rfl) rfl (fun _ _ _ h => h) (by rfl) ?_ hHeld ?_
  rotate_left
  · intro o ho w hSw
    cases ho
    go_simp
    try with_reducible rfl
  simp only [Act.put, List.setIfInBounds_toArray, List.set_cons_zero, List.set_cons_succ]
  refine takeH (i := 13) (d := 53) (v := ?_) (by kernel_rfl) (by kernel_rfl) (by kernel_rfl) rfl (fun _ _ _ h => h) (by rfl) ?_ hHeld ?_
  rotate_left
  · intro o ho w hSw
    cases ho
    go_simp
    try with_reducible rfl
  simp only [Act.put, List.setIfInBounds_toArray, List.set_cons_zero, List.set_cons_succ]
  refine takeH (i := 14) (d := 54) (v := ?_) (by kernel_rfl) (by kernel_rfl) (by kernel_rfl) rfl (fun _ _ _ h => h) (by rfl) ?_ hHeld ?_
  rotate_left
  · intro o ho w hSw
    cases ho
    go_simp
    try with_reducible rfl
  simp only [Act.put, List.setIfInBounds_toArray, List.set_cons_zero, List.set_cons_succ]
  refine takeH (i := 15) (d := 55) (v := ?_) (by kernel_rfl) (by kernel_rfl) (by kernel_rfl) rfl (fun _ _ _ h => h) (by rfl) ?_ hHeld ?_
  rotate_left
  · intro o ho w hSw
    cases ho
    go_simp
    try with_reducible rfl
  simp only [Act.put, List.setIfInBounds_toArray, List.set_cons_zero, List.set_cons_succ]
  refine takeH (i := 16) (d := 56) (v := ?_) (by kernel_rfl) (by kernel_rfl) (by kernel_rfl) rfl (fun _ _ _ h => h) (by rfl) ?_ hHeld ?_
  rotate_left
  · intro o ho w hSw
    cases ho
    go_simp
    try with_reducible rfl
  simp only [Act.put, List.setIfInBounds_toArray, List.set_cons_zero, List.set_cons_succ]
  refine takeH (i := 17) (d := 57) (v := ?_) (by kernel_rfl) (by kernel_rfl) (by kernel_rfl) rfl (fun _ _ _ h => h) (by rfl) ?_ hHeld ?_
  rotate_left
  · intro o ho w hSw
    cases ho
    go_simp
    try with_reducible rfl
  simp only [Act.put, List.setIfInBounds_toArray, List.set_cons_zero, List.set_cons_succ]
  refine takeH (i := 18) (d := 58) (v := ?_) (by kernel_rfl) (by kernel_rfl) (by kernel_rfl) rfl (fun _ _ _ h => h) (by rfl) ?_ hHeld ?_
  rotate_left
  · intro o ho w hSw
    cases ho
    go_simp
    try with_reducible rfl
  simp only [Act.put, List.setIfInBounds_toArray, List.set_cons_zero, List.set_cons_succ]
  refine takeH (i := 19) (d := 59) (v := ?_) (by kernel_rfl) (by kernel_rfl) (by kernel_rfl) rfl (fun _ _ _ h => h) (by rfl) ?_ hHeld ?_
  rotate_left
  · intro o ho w hSw
    cases ho
    go_simp
    try with_reducible rfl
  simp only [Act.put, List.setIfInBounds_toArray, List.set_cons_zero, List.set_cons_succ]
  refine takeH (i := 20) (d := 60) (v := ?_) (by kernel_rfl) (by kernel_rfl) (by kernel_rfl) rfl (fun _ _ _ h => h) (by rfl) ?_ hHeld ?_
  rotate_left
  · intro o ho w hSw
    cases ho
    go_simp
    try with_reducible rfl
  simp only [Act.put, List.setIfInBounds_toArray, List.set_cons_zero, List.set_cons_succ]
  refine takeH (i := 21) (d := 61) (v := ?_) (by kernel_rfl) (by kernel_rfl) (by kernel_rfl) rfl (fun _ _ _ h => h) (by rfl) ?_ hHeld ?_
  rotate_left
  · intro o ho w hSw
    cases ho
    go_simp
    try with_reducible rfl
  simp only [Act.put, List.setIfInBounds_toArray, List.set_cons_zero, List.set_cons_succ]
  refine takeH (i := 22) (d := 62) (v := ?_) (by kernel_rfl) (by kernel_rfl) (by kernel_rfl) rfl (fun _ _ _ h => h) (by rfl) ?_ hHeld ?_
  rotate_left
  · intro o ho w hSw
    cases ho
    go_simp
    try with_reducible rfl
  simp only [Act.put, List.setIfInBounds_toArray, List.set_cons_zero, List.set_cons_succ]
  refine takeH (i := 23) (d := 63) (v := ?_) (by kernel_rfl) (by kernel_rfl) (by kernel_rfl) rfl (fun _ _ _ h => h) (by rfl) ?_ hHeld ?_
  rotate_left
  · intro o ho w hSw
    cases ho
    go_simp
    try with_reducible rfl
  simp only [Act.put, List.setIfInBounds_toArray, List.set_cons_zero, List.set_cons_succ]
  refine wpAnyH_ready (rs := [24]) (by kernel_rfl) (by simp) ?_
  refine AllReadyH.cons rfl (fun K hK => ?_) AllReadyH.nil
  go_simp
  refine hK.out _ _ ?_ (fun hHeld => ?_)
  · exact by first | exact hHeld | exact ⟨x0, x1, x2⟩ | go_keep
  clear hK K
  refine wpAnyH_ready (rs := [25]) (by kernel_rfl) (by simp) ?_
  refine AllReadyH.cons rfl (fun K hK => ?_) AllReadyH.nil
  refine step_append_grows rfl (.tmp 40) (.tmp 64) 24 rfl 5 i0 _ 1 1 Try.underlying24 hi0 hz0 hz1 hz2 rfl (by decide) (some ⟨w4.heap.size, 0, none⟩) 8 8 (b8s headB) rfl (by simp) rfl (fun b e j u hu => ?_) ⟨W7.heap.size, 0, none⟩ 4 4 [b8 p0, b8 p1, b8 p2, b8 p3] rfl rfl (World.news_of_block (cs := [b8 p0, b8 p1, b8 p2, b8 p3].toArray) (t := 5) (fr := (0, 0)) (heap_alloc_new W7 (.cells [b8 p0, b8 p1, b8 p2, b8 p3].toArray 5))) (by simp [b8, Value.oneCell']) (by decide) (by decide) (by decide) ?_
  · cases e
    exact (World.cell?_alloc_lt W7 _ _ (by rw [addr_block]; exact l4)).trans (HC.out j u hu)
  intro v1 u1 o1 g1
  obtain ⟨xs1, hxs1⟩ : ∃ xs1, xs1 = headB ++ [p0, p1, p2, p3] := ⟨_, rfl⟩
  have hn1 : xs1.length = 12 := by rw [hxs1]; rfl
  have F1 : Hid (FW W7 (w4.heap.size + 1) #[.int .i64 (B : Int), .int .i64 (N : Int), .int .i64 (I : Int)] v1 xs1 u1) := Lib.hid (FW.first HR7.out (by rw [hxs1]; simpa [b8s, headB] using o1) g1)
  obtain ⟨x0, x1, x2⟩ := F1.out.row.cells3
  obtain ⟨b1, d1, hv1⟩ := F1.out.form (by rw [hn1]; decide)
  rw [hn1] at hv1
  subst hv1
  have N1 := Lib.hid hn1
  have E1 := Lib.hid hxs1
  clear o1 g1 hn1 hxs1
  refine hK.out _ _ ?_ (fun hHeld => ?_)
  · exact ⟨x0, x1, x2⟩
  clear hK K
  simp only [Act.put]
  refine takeH (i := 26) (d := 5) (v := ?_) (by kernel_rfl) (by kernel_rfl) (by kernel_rfl) rfl (fun _ _ _ h => h) (by rfl) ?_ hHeld ?_
  rotate_left
  · intro o ho w hSw
    cases ho
    go_simp
    try with_reducible rfl
  simp only [Act.put]
  refine wpAnyH_done (by kernel_rfl) ?_ _
  go_wp2
  rw [rounds_succ]
  go_wp2
  refine wp_region_held_drew (S := fun w' => w'.cell? ⟨w4.heap.size + 1, 0, none⟩ = some (.int .i64 (B : Int)) ∧ w'.cell? ⟨w4.heap.size + 1, 1, none⟩ = some (.int .i64 (N : Int)) ∧ w'.cell? ⟨w4.heap.size + 1, 2, none⟩ = some (.int .i64 (I : Int))) (by kernel_rfl) ?_ (fun hHeld => ?_)
  · exact ⟨x0, x1, x2⟩
  refine takeH (i := 0) (d := 40) (v := ?_) (by kernel_rfl) (by kernel_rfl) (by kernel_rfl) rfl (fun _ _ _ h => h) (by rfl) ?_ hHeld ?_
  rotate_left
  · intro o ho w hSw
    cases ho
    go_simp
    try with_reducible rfl
  simp only [Act.put, List.setIfInBounds_toArray, List.set_cons_zero, List.set_cons_succ]
  refine takeH (i := 1) (d := 41) (v := ?_) (by kernel_rfl) (by kernel_rfl) (by kernel_rfl) rfl (fun _ _ _ h => h) (by rfl) ?_ hHeld ?_
  rotate_left
  · intro o ho w hSw
    cases ho
    go_simp
    try with_reducible rfl
  simp only [Act.put, List.setIfInBounds_toArray, List.set_cons_zero, List.set_cons_succ]
  refine takeH (i := 2) (d := 42) (v := ?_) (by kernel_rfl) (by kernel_rfl) (by kernel_rfl) rfl (fun _ _ _ h => h) (by rfl) ?_ hHeld ?_
  rotate_left
  · intro o ho w hSw
    cases ho
    go_simp
    try with_reducible rfl
  simp only [Act.put, List.setIfInBounds_toArray, List.set_cons_zero, List.set_cons_succ]
  refine takeH (i := 3) (d := 43) (v := ?_) (by kernel_rfl) (by kernel_rfl) (by kernel_rfl) rfl (fun _ _ _ h => h) (by rfl) ?_ hHeld ?_
  rotate_left
  · intro o ho w hSw
    cases ho
    go_simp
    try with_reducible rfl
  simp only [Act.put, List.setIfInBounds_toArray, List.set_cons_zero, List.set_cons_succ]
  refine takeH (i := 4) (d := 44) (v := ?_) (by kernel_rfl) (by kernel_rfl) (by kernel_rfl) rfl (fun _ _ _ h => h) (by rfl) ?_ hHeld ?_
  rotate_left
  · intro o ho w hSw
    cases ho
    go_simp
    try with_reducible rfl
  simp only [Act.put, List.setIfInBounds_toArray, List.set_cons_zero, List.set_cons_succ]
  refine takeH (i := 5) (d := 45) (v := ?_) (by kernel_rfl) (by kernel_rfl) (by kernel_rfl) rfl (fun _ _ _ h => h) (by rfl) ?_ hHeld ?_
  rotate_left
  · intro o ho w hSw
    cases ho
    go_simp
    try with_reducible rfl
  simp only [Act.put, List.setIfInBounds_toArray, List.set_cons_zero, List.set_cons_succ]
  refine takeH (i := 6) (d := 46) (v := ?_) (by kernel_rfl) (by kernel_rfl) (by kernel_rfl) rfl (fun _ _ _ h => h) (by rfl) ?_ hHeld ?_
  rotate_left
  · intro o ho w hSw
    cases ho
    go_simp
    try with_reducible rfl
  simp only [Act.put, List.setIfInBounds_toArray, List.set_cons_zero, List.set_cons_succ]
  refine takeH (i := 7) (d := 47) (v := ?_) (by kernel_rfl) (by kernel_rfl) (by kernel_rfl) rfl (fun _ _ _ h => h) (by rfl) ?_ hHeld ?_
  rotate_left
  · intro o ho w hSw
    cases ho
    go_simp
    try with_reducible rfl
  simp only [Act.put, List.setIfInBounds_toArray, List.set_cons_zero, List.set_cons_succ]
  refine takeH (i := 8) (d := 48) (v := ?_) (by kernel_rfl) (by kernel_rfl) (by kernel_rfl) rfl (fun _ _ _ h => h) (by rfl) ?_ hHeld ?_
  rotate_left
  · intro o ho w hSw
    cases ho
    go_simp
    try with_reducible rfl
  simp only [Act.put, List.setIfInBounds_toArray, List.set_cons_zero, List.set_cons_succ]
  refine takeH (i := 9) (d := 49) (v := ?_) (by kernel_rfl) (by kernel_rfl) (by kernel_rfl) rfl (fun _ _ _ h => h) (by rfl) ?_ hHeld ?_
  rotate_left
  · intro o ho w hSw
    cases ho
    go_simp
    try with_reducible rfl
  simp only [Act.put, List.setIfInBounds_toArray, List.set_cons_zero, List.set_cons_succ]
  refine takeH (i := 10) (d := 50) (v := ?_) (by kernel_rfl) (by kernel_rfl) (by kernel_rfl) rfl (fun _ _ _ h => h) (by rfl) ?_ hHeld ?_
  rotate_left
  · intro o ho w hSw
    cases ho
    go_simp
    try with_reducible rfl
  simp only [Act.put, List.setIfInBounds_toArray, List.set_cons_zero, List.set_cons_succ]
  refine takeH (i := 11) (d := 51) (v := ?_) (by kernel_rfl) (by kernel_rfl) (by kernel_rfl) rfl (fun _ _ _ h => h) (by rfl) ?_ hHeld ?_
  rotate_left
  · intro o ho w hSw
    cases ho
    go_simp
    try with_reducible rfl
  simp only [Act.put, List.setIfInBounds_toArray, List.set_cons_zero, List.set_cons_succ]
  refine takeH (i := 12) (d := 52) (v := ?_) (by kernel_rfl) (by kernel_rfl) (by kernel_rfl) rfl (fun _ _ _ h => h) (by rfl) ?_ hHeld ?_
  rotate_left
  · intro o ho w hSw
    cases ho
    go_simp
    try with_reducible rfl
  simp only [Act.put, List.setIfInBounds_toArray, List.set_cons_zero, List.set_cons_succ]
  refine takeH (i := 13) (d := 53) (v := ?_) (by kernel_rfl) (by kernel_rfl) (by kernel_rfl) rfl (fun _ _ _ h => h) (by rfl) ?_ hHeld ?_
  rotate_left
  · intro o ho w hSw
    cases ho
    go_simp
    try with_reducible rfl
  simp only [Act.put, List.setIfInBounds_toArray, List.set_cons_zero, List.set_cons_succ]
  refine takeH (i := 14) (d := 54) (v := ?_) (by kernel_rfl) (by kernel_rfl) (by kernel_rfl) rfl (fun _ _ _ h => h) (by rfl) ?_ hHeld ?_
  rotate_left
  · intro o ho w hSw
    cases ho
    go_simp
    try with_reducible rfl
  simp only [Act.put, List.setIfInBounds_toArray, List.set_cons_zero, List.set_cons_succ]
  refine takeH (i := 15) (d := 55) (v := ?_) (by kernel_rfl) (by kernel_rfl) (by kernel_rfl) rfl (fun _ _ _ h => h) (by rfl) ?_ hHeld ?_
  rotate_left
  · intro o ho w hSw
    cases ho
    go_simp
    try with_reducible rfl
  simp only [Act.put, List.setIfInBounds_toArray, List.set_cons_zero, List.set_cons_succ]
  refine takeH (i := 16) (d := 56) (v := ?_) (by kernel_rfl) (by kernel_rfl) (by kernel_rfl) rfl (fun _ _ _ h => h) (by rfl) ?_ hHeld ?_
  rotate_left
  · intro o ho w hSw
    cases ho
    go_simp
    try with_reducible rfl
  simp only [Act.put, List.setIfInBounds_toArray, List.set_cons_zero, List.set_cons_succ]
  refine takeH (i := 17) (d := 57) (v := ?_) (by kernel_rfl) (by kernel_rfl) (by kernel_rfl) rfl (fun _ _ _ h => h) (by rfl) ?_ hHeld ?_
  rotate_left
  · intro o ho w hSw
    cases ho
    go_simp
    try with_reducible rfl
  simp only [Act.put, List.setIfInBounds_toArray, List.set_cons_zero, List.set_cons_succ]
  refine takeH (i := 18) (d := 58) (v := ?_) (by kernel_rfl) (by kernel_rfl) (by kernel_rfl) rfl (fun _ _ _ h => h) (by rfl) ?_ hHeld ?_
  rotate_left
  · intro o ho w hSw
    cases ho
    go_simp
    try with_reducible rfl
  simp only [Act.put, List.setIfInBounds_toArray, List.set_cons_zero, List.set_cons_succ]
  refine takeH (i := 19) (d := 59) (v := ?_) (by kernel_rfl) (by kernel_rfl) (by kernel_rfl) rfl (fun _ _ _ h => h) (by rfl) ?_ hHeld ?_
  rotate_left
  · intro o ho w hSw
    cases ho
    go_simp
    try with_reducible rfl
  simp only [Act.put, List.setIfInBounds_toArray, List.set_cons_zero, List.set_cons_succ]
  refine takeH (i := 20) (d := 60) (v := ?_) (by kernel_rfl) (by kernel_rfl) (by kernel_rfl) rfl (fun _ _ _ h => h) (by rfl) ?_ hHeld ?_
  rotate_left
  · intro o ho w hSw
    cases ho
    go_simp
    try with_reducible rfl
  simp only [Act.put, List.setIfInBounds_toArray, List.set_cons_zero, List.set_cons_succ]
  refine takeH (i := 21) (d := 61) (v := ?_) (by kernel_rfl) (by kernel_rfl) (by kernel_rfl) rfl (fun _ _ _ h => h) (by rfl) ?_ hHeld ?_
  rotate_left
  · intro o ho w hSw
    cases ho
    go_simp
    try with_reducible rfl
  simp only [Act.put, List.setIfInBounds_toArray, List.set_cons_zero, List.set_cons_succ]
  refine takeH (i := 22) (d := 62) (v := ?_) (by kernel_rfl) (by kernel_rfl) (by kernel_rfl) rfl (fun _ _ _ h => h) (by rfl) ?_ hHeld ?_
  rotate_left
  · intro o ho w hSw
    cases ho
    go_simp
    try with_reducible rfl
  simp only [Act.put, List.setIfInBounds_toArray, List.set_cons_zero, List.set_cons_succ]
  refine takeH (i := 23) (d := 63) (v := ?_) (by kernel_rfl) (by kernel_rfl) (by kernel_rfl) rfl (fun _ _ _ h => h) (by rfl) ?_ hHeld ?_
  rotate_left
  · intro o ho w hSw
    cases ho
    go_simp
    try with_reducible rfl
  simp only [Act.put, List.setIfInBounds_toArray, List.set_cons_zero, List.set_cons_succ]
  refine wpAnyH_ready (rs := [24]) (by kernel_rfl) (by simp) ?_
  refine AllReadyH.cons rfl (fun K hK => ?_) AllReadyH.nil
  go_simp
  refine hK.out _ _ ?_ (fun hHeld => ?_)
  · exact by first | exact hHeld | exact ⟨x0, x1, x2⟩ | go_keep
  clear hK K
  refine wpAnyH_ready (rs := [25]) (by kernel_rfl) (by simp) ?_
  refine AllReadyH.cons rfl (fun K hK => ?_) AllReadyH.nil
  refine step_append_bytes _ rfl (.tmp 40) (.tmp 64) 24 rfl W7.heap.size 5 i0 Try.underlying24 hi0 hz0 hz1 hz2 _ xs1 [q0, q1, q2, q3] rfl (F1.out.keep (((Still.refl u1).alloc _).drew)).own _ _ _ rfl (lit_SlIs u1 5 (0, 0) [q0, q1, q2, q3] 4 rfl (by decide)) (by rw [List.length_append, N1.out]; simp) (by have := F1.out.still.size; simp [World.drew]; omega) ?_
  intro v2 u2 o2 g2 _
  obtain ⟨xs2, hxs2⟩ : ∃ xs2, xs2 = xs1 ++ [q0, q1, q2, q3] := ⟨_, rfl⟩
  have hn2 : xs2.length = 16 := by rw [hxs2, List.length_append, N1.out]; rfl
  rw [← hxs2] at o2
  have F2 : Hid (FW W7 (w4.heap.size + 1) #[.int .i64 (B : Int), .int .i64 (N : Int), .int .i64 (I : Int)] v2 xs2 u2) := Lib.hid ((F1.out.keep (((Still.refl u1).alloc _).drew)).grown o2 g2)
  obtain ⟨x0, x1, x2⟩ := F2.out.row.cells3
  obtain ⟨b2, d2, hv2⟩ := F2.out.form (by rw [hn2]; decide)
  rw [hn2] at hv2
  subst hv2
  have N2 := Lib.hid hn2
  have E2 := Lib.hid hxs2
  clear o2 g2 hn2 hxs2
  refine hK.out _ _ ?_ (fun hHeld => ?_)
  · exact ⟨x0, x1, x2⟩
  clear hK K
  simp only [Act.put]
  refine takeH (i := 26) (d := 5) (v := ?_) (by kernel_rfl) (by kernel_rfl) (by kernel_rfl) rfl (fun _ _ _ h => h) (by rfl) ?_ hHeld ?_
  rotate_left
  · intro o ho w hSw
    cases ho
    go_simp
    try with_reducible rfl
  simp only [Act.put]
  refine wpAnyH_done (by kernel_rfl) ?_ _
  go_wp2
  clear F1 N1
  rw [rounds_succ]
  go_wp2
  refine wp_region_held_drew (S := fun w' => w'.cell? ⟨w4.heap.size + 1, 0, none⟩ = some (.int .i64 (B : Int)) ∧ w'.cell? ⟨w4.heap.size + 1, 1, none⟩ = some (.int .i64 (N : Int)) ∧ w'.cell? ⟨w4.heap.size + 1, 2, none⟩ = some (.int .i64 (I : Int))) (by kernel_rfl) ?_ (fun hHeld => ?_)
  · exact ⟨x0, x1, x2⟩
  refine takeH (i := 0) (d := 40) (v := ?_) (by kernel_rfl) (by kernel_rfl) (by kernel_rfl) rfl (fun _ _ _ h => h) (by rfl) ?_ hHeld ?_
  rotate_left
  · intro o ho w hSw
    cases ho
    go_simp
    try with_reducible rfl
  simp only [Act.put, List.setIfInBounds_toArray, List.set_cons_zero, List.set_cons_succ]
  refine takeH (i := 1) (d := 41) (v := ?_) (by kernel_rfl) (by kernel_rfl) (by kernel_rfl) rfl (fun _ _ _ h => h) (by rfl) ?_ hHeld ?_
  rotate_left
  · intro o ho w hSw
    cases ho
    go_simp
    try with_reducible rfl
  simp only [Act.put, List.setIfInBounds_toArray, List.set_cons_zero, List.set_cons_succ]
  refine takeH (i := 2) (d := 42) (v := ?_) (by kernel_rfl) (by kernel_rfl) (by kernel_rfl) rfl (fun _ _ _ h => h) (by rfl) ?_ hHeld ?_
  rotate_left
  · intro o ho w hSw
    cases ho
    go_simp
    try with_reducible rfl
  simp only [Act.put, List.setIfInBounds_toArray, List.set_cons_zero, List.set_cons_succ]
  refine takeH (i := 3) (d := 43) (v := ?_) (by kernel_rfl) (by kernel_rfl) (by kernel_rfl) rfl (fun _ _ _ h => h) (by rfl) ?_ hHeld ?_
  rotate_left
  · intro o ho w hSw
    cases ho
    go_simp
    try with_reducible rfl
  simp only [Act.put, List.setIfInBounds_toArray, List.set_cons_zero, List.set_cons_succ]
  refine takeH (i := 4) (d := 44) (v := ?_) (by kernel_rfl) (by kernel_rfl) (by kernel_rfl) rfl (fun _ _ _ h => h) (by rfl) ?_ hHeld ?_
  rotate_left
  · intro o ho w hSw
    cases ho
    go_simp
    try with_reducible rfl
  simp only [Act.put, List.setIfInBounds_toArray, List.set_cons_zero, List.set_cons_succ]
  refine takeH (i := 5) (d := 45) (v := ?_) (by kernel_rfl) (by kernel_rfl) (by kernel_rfl) rfl (fun _ _ _ h => h) (by rfl) ?_ hHeld ?_
  rotate_left
  · intro o ho w hSw
    cases ho
    go_simp
    try with_reducible rfl
  simp only [Act.put, List.setIfInBounds_toArray, List.set_cons_zero, List.set_cons_succ]
  refine takeH (i := 6) (d := 46) (v := ?_) (by kernel_rfl) (by kernel_rfl) (by kernel_rfl) rfl (fun _ _ _ h => h) (by rfl) ?_ hHeld ?_
  rotate_left
  · intro o ho w hSw
    cases ho
    go_simp
    try with_reducible rfl
  simp only [Act.put, List.setIfInBounds_toArray, List.set_cons_zero, List.set_cons_succ]
  refine takeH (i := 7) (d := 47) (v := ?_) (by kernel_rfl) (by kernel_rfl) (by kernel_rfl) rfl (fun _ _ _ h => h) (by rfl) ?_ hHeld ?_
  rotate_left
  · intro o ho w hSw
    cases ho
    go_simp
    try with_reducible rfl
  simp only [Act.put, List.setIfInBounds_toArray, List.set_cons_zero, List.set_cons_succ]
  refine takeH (i := 8) (d := 48) (v := ?_) (by kernel_rfl) (by kernel_rfl) (by kernel_rfl) rfl (fun _ _ _ h => h) (by rfl) ?_ hHeld ?_
  rotate_left
  · intro o ho w hSw
    cases ho
    go_simp
    try with_reducible rfl
  simp only [Act.put, List.setIfInBounds_toArray, List.set_cons_zero, List.set_cons_succ]
  refine takeH (i := 9) (d := 49) (v := ?_) (by kernel_rfl) (by kernel_rfl) (by kernel_rfl) rfl (fun _ _ _ h => h) (by rfl) ?_ hHeld ?_
  rotate_left
  · intro o ho w hSw
    cases ho
    go_simp
    try with_reducible rfl
  simp only [Act.put, List.setIfInBounds_toArray, List.set_cons_zero, List.set_cons_succ]
  refine takeH (i := 10) (d := 50) (v := ?_) (by kernel_rfl) (by kernel_rfl) (by kernel_rfl) rfl (fun _ _ _ h => h) (by rfl) ?_ hHeld ?_
  rotate_left
  · intro o ho w hSw
    cases ho
    go_simp
    try with_reducible rfl
  simp only [Act.put, List.setIfInBounds_toArray, List.set_cons_zero, List.set_cons_succ]
  refine takeH (i := 11) (d := 51) (v := ?_) (by kernel_rfl) (by kernel_rfl) (by kernel_rfl) rfl (fun _ _ _ h => h) (by rfl) ?_ hHeld ?_
  rotate_left
  · intro o ho w hSw
    cases ho
    go_simp
    try with_reducible rfl
  simp only [Act.put, List.setIfInBounds_toArray, List.set_cons_zero, List.set_cons_succ]
  refine takeH (i := 12) (d := 52) (v := ?_) (by kernel_rfl) (by kernel_rfl) (by kernel_rfl) rfl (fun _ _ _ h => h) (by rfl) ?_ hHeld ?_
  rotate_left
  · intro o ho w hSw
    cases ho
    go_simp
    try with_reducible rfl
  simp only [Act.put, List.setIfInBounds_toArray, List.set_cons_zero, List.set_cons_succ]
  refine takeH (i := 13) (d := 53) (v := ?_) (by kernel_rfl) (by kernel_rfl) (by kernel_rfl) rfl (fun _ _ _ h => h) (by rfl) ?_ hHeld ?_
  rotate_left
  · intro o ho w hSw
    cases ho
    go_simp
    try with_reducible rfl
  simp only [Act.put, List.setIfInBounds_toArray, List.set_cons_zero, List.set_cons_succ]
  refine takeH (i := 14) (d := 54) (v := ?_) (by kernel_rfl) (by kernel_rfl) (by kernel_rfl) rfl (fun _ _ _ h => h) (by rfl) ?_ hHeld ?_
  rotate_left
  · intro o ho w hSw
    cases ho
    go_simp
    try with_reducible rfl
  simp only [Act.put, List.setIfInBounds_toArray, List.set_cons_zero, List.set_cons_succ]
  refine takeH (i := 15) (d := 55) (v := ?_) (by kernel_rfl) (by kernel_rfl) (by kernel_rfl) rfl (fun _ _ _ h => h) (by rfl) ?_ hHeld ?_
  rotate_left
  · intro o ho w hSw
    cases ho
    go_simp
    try with_reducible rfl
  simp only [Act.put, List.setIfInBounds_toArray, List.set_cons_zero, List.set_cons_succ]
  refine takeH (i := 16) (d := 56) (v := ?_) (by kernel_rfl) (by kernel_rfl) (by kernel_rfl) rfl (fun _ _ _ h => h) (by rfl) ?_ hHeld ?_
  rotate_left
  · intro o ho w hSw
    cases ho
    go_simp
    try with_reducible rfl
  simp only [Act.put, List.setIfInBounds_toArray, List.set_cons_zero, List.set_cons_succ]
  refine takeH (i := 17) (d := 57) (v := ?_) (by kernel_rfl) (by kernel_rfl) (by kernel_rfl) rfl (fun _ _ _ h => h) (by rfl) ?_ hHeld ?_
  rotate_left
  · intro o ho w hSw
    cases ho
    go_simp
    try with_reducible rfl
  simp only [Act.put, List.setIfInBounds_toArray, List.set_cons_zero, List.set_cons_succ]
  refine takeH (i := 18) (d := 58) (v := ?_) (by kernel_rfl) (by kernel_rfl) (by kernel_rfl) rfl (fun _ _ _ h => h) (by rfl) ?_ hHeld ?_
  rotate_left
  · intro o ho w hSw
    cases ho
    go_simp
    try with_reducible rfl
  simp only [Act.put, List.setIfInBounds_toArray, List.set_cons_zero, List.set_cons_succ]
  refine takeH (i := 19) (d := 59) (v := ?_) (by kernel_rfl) (by kernel_rfl) (by kernel_rfl) rfl (fun _ _ _ h => h) (by rfl) ?_ hHeld ?_
  rotate_left
  · intro o ho w hSw
    cases ho
    go_simp
    try with_reducible rfl
  simp only [Act.put, List.setIfInBounds_toArray, List.set_cons_zero, List.set_cons_succ]
  refine takeH (i := 20) (d := 60) (v := ?_) (by kernel_rfl) (by kernel_rfl) (by kernel_rfl) rfl (fun _ _ _ h => h) (by rfl) ?_ hHeld ?_
  rotate_left
  · intro o ho w hSw
    cases ho
    go_simp
    try with_reducible rfl
  simp only [Act.put, List.setIfInBounds_toArray, List.set_cons_zero, List.set_cons_succ]
  refine takeH (i := 21) (d := 61) (v := ?_) (by kernel_rfl) (by kernel_rfl) (by kernel_rfl) rfl (fun _ _ _ h => h) (by rfl) ?_ hHeld ?_
  rotate_left
  · intro o ho w hSw
    cases ho
    go_simp
    try with_reducible rfl
  simp only [Act.put, List.setIfInBounds_toArray, List.set_cons_zero, List.set_cons_succ]
  refine takeH (i := 22) (d := 62) (v := ?_) (by kernel_rfl) (by kernel_rfl) (by kernel_rfl) rfl (fun _ _ _ h => h) (by rfl) ?_ hHeld ?_
  rotate_left
  · intro o ho w hSw
    cases ho
    go_simp
    try with_reducible rfl
  simp only [Act.put, List.setIfInBounds_toArray, List.set_cons_zero, List.set_cons_succ]
  refine takeH (i := 23) (d := 63) (v := ?_) (by kernel_rfl) (by kernel_rfl) (by kernel_rfl) rfl (fun _ _ _ h => h) (by rfl) ?_ hHeld ?_
  rotate_left
  · intro o ho w hSw
    cases ho
    go_simp
    try with_reducible rfl
  simp only [Act.put, List.setIfInBounds_toArray, List.set_cons_zero, List.set_cons_succ]
  refine wpAnyH_ready (rs := [24]) (by kernel_rfl) (by simp) ?_
  refine AllReadyH.cons rfl (fun K hK => ?_) AllReadyH.nil
  go_simp
  refine hK.out _ _ ?_ (fun hHeld => ?_)
  · exact by first | exact hHeld | exact ⟨x0, x1, x2⟩ | go_keep
  clear hK K
  refine wpAnyH_ready (rs := [25]) (by kernel_rfl) (by simp) ?_
  refine AllReadyH.cons rfl (fun K hK => ?_) AllReadyH.nil
  refine step_append_bytes _ rfl (.tmp 40) (.tmp 64) 24 rfl W7.heap.size 5 i0 Try.underlying24 hi0 hz0 hz1 hz2 _ xs2 [r0, r1, r2, r3] rfl (F2.out.keep (((Still.refl u2).alloc _).drew)).own _ _ _ rfl (lit_SlIs u2 5 (0, 0) [r0, r1, r2, r3] 4 rfl (by decide)) (by rw [List.length_append, N2.out]; simp) (by have := F2.out.still.size; simp [World.drew]; omega) ?_
  intro v3 u3 o3 g3 _
  obtain ⟨xs3, hxs3⟩ : ∃ xs3, xs3 = xs2 ++ [r0, r1, r2, r3] := ⟨_, rfl⟩
  have hn3 : xs3.length = 20 := by rw [hxs3, List.length_append, N2.out]; rfl
  rw [← hxs3] at o3
  have F3 : Hid (FW W7 (w4.heap.size + 1) #[.int .i64 (B : Int), .int .i64 (N : Int), .int .i64 (I : Int)] v3 xs3 u3) := Lib.hid ((F2.out.keep (((Still.refl u2).alloc _).drew)).grown o3 g3)
  obtain ⟨x0, x1, x2⟩ := F3.out.row.cells3
  obtain ⟨b3, d3, hv3⟩ := F3.out.form (by rw [hn3]; decide)
  rw [hn3] at hv3
  subst hv3
  have N3 := Lib.hid hn3
  have E3 := Lib.hid hxs3
  clear o3 g3 hn3 hxs3
  refine hK.out _ _ ?_ (fun hHeld => ?_)
  · exact ⟨x0, x1, x2⟩
  clear hK K
  simp only [Act.put]
  refine takeH (i := 26) (d := 5) (v := ?_) (by kernel_rfl) (by kernel_rfl) (by kernel_rfl) rfl (fun _ _ _ h => h) (by rfl) ?_ hHeld ?_
  rotate_left
  · intro o ho w hSw
    cases ho
    go_simp
    try with_reducible rfl
  simp only [Act.put]
  refine wpAnyH_done (by kernel_rfl) ?_ _
  go_wp2
  clear F2 N2
  rw [rounds_succ]
  have K8 : Hid (Still w u3) := Lib.hid (K4.out.trans (K7.out.trans F3.out.still))
  obtain ⟨c0, c1, c2⟩ := (Still.has (K7.out.trans F3.out.still) G4.out).cells3
  obtain ⟨v4, u4, hrun, o4, g4⟩ := run_append_zeros (P := Try.prog) u3 W7.heap.size 24 3 24 5 i0 .i64 Try.underlying24 Try.underlying3 hi0 hz0 hz1 hz2 _ xs3 F3.out.own (by rw [N3.out]; decide) (B - 20) (by omega) (by rw [N3.out]; omega) F3.out.still.size
  rw [show (((B - 20 : Nat)) : Int) = (B : Int) - 20 by omega] at hrun
  have e4 : xs3 ++ List.replicate (B - 20) 0 = gb := by
    rw [HS.out, E3.out, E2.out, E1.out]
    simp
  rw [e4] at o4
  have F4 := Lib.hid (F3.out.grown o4 g4)
  obtain ⟨b4, d4, hv4⟩ := F4.out.form (by rw [HL.out]; omega)
  subst hv4
  have SX : Hid (∀ W, Still u4 W → SlIs W w3.heap.size w4.heap.size (.slice A gb.length c) gb) := Lib.hid (fun W k => Still.slis ((K7.out.trans F4.out.still).trans k) S4.out (Nat.le_refl _))
  have GX : Hid (∀ W, Still u4 W → Has W w.heap.size 23 #[.int .i64 (B : Int), .int .i64 (N : Int), .int .i64 (I : Int)]) := Lib.hid (fun W k => Still.has ((K7.out.trans F4.out.still).trans k) G4.out)
  have KX : Hid (∀ W, Still u4 W → Still w W) := Lib.hid (fun W k => K4.out.trans ((K7.out.trans F4.out.still).trans k))
  have LX : Hid (w4.heap.size ≤ u4.heap.size) := Lib.hid (K7.out.trans F4.out.still).size
  have r1 := run_str _ _ _ _ u4 (SX.out u4 (Still.refl _))
  have r2 := run_str _ _ _ _ u4 (owns_SlIs F4.out.own)
  clear o4 g4 e4 F3 N3 E1 E2 E3 HS K8 S4 G4 K4 K7 HR7 HC F4 x0 x1 x2 e0 e1 e2 e3 f0 f1 f2 f3 g0 g1 g2 g3 l4 l7
  go_wp2_with (at_builtin; refine Lib.wpList_append_run _ rfl (.tmp 66) (.tmp 69) 24 3 rfl _ _ rfl rfl _ _ hrun ?_)
  clear hrun c0 c1 c2
  go_wp2
  clear r1 r2
  go_loopw [8] (fun i wr => ∃ k : Nat, k ≤ 24 ∧ i = .int .i64 (k : Int) ∧ Hid (Still u4 wr)) (fun i _ => 24 - (intOf i).toNat)
  case atStart => exact ⟨0, Nat.zero_le _, rfl, Lib.hid (Still.refl _)⟩
  case round =>
    obtain ⟨k, hk, rfl, hrel⟩ := hrel
    by_cases hlt : k < 24
    · have hkb : k < gb.length := by rw [HL.out]; omega
      have hown : (wr.alloc (.cells #[] 5)).ownsRow wr.heap.size 5 1 (.slice (some ⟨wr.heap.size, 0, none⟩) 0 0) ([] : List UInt8).length (b8s []) :=
        World.ownsRow_made wr #[] 0 (Nat.le_refl _) (by simp [maxLen]) (by simp)
      have hsx := (SX.out wr hrel.out).alloc (o := .cells #[] 5) (by have := hrel.out.size; have := LX.out; omega)
      have H1 := Lib.hid hown
      have H2 := Lib.hid hsx
      obtain ⟨ck, hck⟩ : ∃ ck, ck = gb[k] := ⟨_, rfl⟩
      have hx := xor_128 ck
      have HCK := Lib.hid hck
      have hl2 : gb.length ≤ 1000000 := by rw [HL.out]; omega
      have hs0 := hrel.out.size
      clear hown hsx hck
      go_wp2_with (at_builtin; refine wpList_append_bytes _ rfl (.tmp 84) (.tmp 85) 24 rfl wr.heap.size 5 i0 Try.underlying24 hi0 hz0 hz1 hz2 _ [] gb rfl H1.out _ _ _ rfl H2.out (by simp; omega) (by simp) ?_)
      intro v5 u5 o5 g5 _
      have o5 : u5.ownsRow wr.heap.size 5 1 v5 gb.length (b8s gb) := by simpa using o5
      have k5 : Still wr u5 := Only.trans ((Still.refl wr).alloc _) (Only.of_grown g5) (fun i hi e => by
        injection e with e
        simp only at e
        omega)
      obtain ⟨b5, d5, rfl⟩ : ∃ b5 d5, v5 = .slice (some ⟨b5, 0, none⟩) gb.length d5 := by
        rcases id o5.2 with ⟨_, h0⟩ | ⟨g, cap, cur, e, _⟩
        · omega
        · exact ⟨g, cap, e⟩
      have cc : u5.cell? ⟨b5, k, none⟩ = some (.int .u8 (ck.toNat : Int)) := by
        rw [World.ownsRow.cellAt o5 k (by omega), b8s_get hkb, ← HCK.out]
        rfl
      have fc := World.ownsRow.frozenAt o5 k
      have o6 := (World.ownsRow.stored o5 k (b8 (ck ^^^ 128))).1
      have hb5 := (o5.lt b5 rfl).1
      have k6 : Still wr (u5.setCell ⟨b5, k, none⟩ (b8 (ck ^^^ 128))) := k5.set (p := ⟨b5, k, none⟩) hb5 _
      have hs6 : SlIs (u5.setCell ⟨b5, k, none⟩ (.int .u8 ((ck ^^^ 128).toNat : Int))) wr.heap.size (u5.setCell ⟨b5, k, none⟩ (.int .u8 ((ck ^^^ 128).toNat : Int))).heap.size (.slice (some ⟨b5, 0, none⟩) gb.length d5) (gb.set k (ck ^^^ 128)) := by
        have o7 : (u5.setCell ⟨b5, k, none⟩ (b8 (ck ^^^ 128))).ownsRow wr.heap.size 5 1 (.slice (some ⟨b5, 0, none⟩) gb.length d5) (gb.set k (ck ^^^ 128)).length (b8s (gb.set k (ck ^^^ 128))) := by
          rw [List.length_set]
          simpa [b8s, List.map_set] using o6
        exact owns_SlIs o7
      have hne : gb.set k (ck ^^^ 128) ≠ gb := by
        intro h
        have h1 : (gb.set k (ck ^^^ 128))[k]? = gb[k]? := by rw [h]
        rw [List.getElem?_set_self hkb, List.getElem?_eq_getElem hkb] at h1
        injection h1 with h1
        rw [← HCK.out] at h1
        exact xor_ne ck h1
      have i1 : (k : Int) < (gb.length : Int) := by omega
      have R6 := Lib.hid (hrel.out.trans k6)
      have HS6 := Lib.hid hs6
      have K6 := Lib.hid k6
      generalize ck ^^^ 128 = dk at *
      clear o5 g5 k5 o6 k6 hs6 H1 H2 HCK
      by_cases hi' : isG (gb.set k dk)
      · have D := Lib.hid (decode_yes hi' _ _ _ _ HS6.out (Nat.le_refl _) (by rw [List.length_set]; omega))
        have hxg : readG (gb.set k dk) ≠ gN B N I := by
          intro h
          apply hne
          have := hi'.2
          rw [h] at this
          rw [this, HGB.out]
          rfl
        have q4 := Try.eqGeom hxg
        rw [show (gN B N I).b = (B : Int) from rfl, show (gN B N I).n = (N : Int) from rfl, show (gN B N I).i = (I : Int) from rfl] at q4
        generalize readG (gb.set k dk) = x at *
        have XV : x.val = .agg #[.int .i64 x.b, .int .i64 x.n, .int .i64 x.i] := rfl
        rw [XV] at D
        clear hi' hxg hne XV HS6
        go_wp2_with fail
        refine D.out.mono ?_
        rintro e u7 ⟨rfl, k7⟩
        have R7 := Lib.hid ((R6.out.trans k7).alloc (.cells #[.int .i64 x.b, .int .i64 x.n, .int .i64 x.i] 23))
        obtain ⟨c0, c1, c2⟩ := (GX.out _ R7.out).cells3
        clear k7 D R6 K6
        go_wp2
        go_roundw
        case rel => exact ⟨k + 1, by omega, by go_num, R7⟩
        case measure => simp [intOf]; omega
      · have D := Lib.hid (decode_no hi' _ _ _ _ HS6.out (Nat.le_refl _) (by rw [List.length_set]; omega))
        clear hi' hne HS6
        go_wp2_with fail
        refine D.out.mono ?_
        rintro e u7 ⟨rfl, k7⟩
        have R7 := Lib.hid ((R6.out.trans k7).alloc (.cells #[.int .i64 0, .int .i64 0, .int .i64 0] 23))
        clear k7 D R6 K6
        go_wp2
        go_roundw
        case rel => exact ⟨k + 1, by omega, by go_num, R7⟩
        case measure => simp [intOf]; omega
    · have R := Lib.hid (KX.out wr hrel.out)
      have d9 : decide ((k : Int) < 24) = false := decide_eq_false (by omega)
      clear hrel
      go_wp2
      go_ret
      exact ⟨rfl, R.out⟩
theorem gform_any (g : G3) (w : World) : Calls Try.prog 4 #[g.val] w fun e w' => e = .returned (.bool true) ∧ Still w w' := by
  by_cases h : g.chk = 0
  · obtain ⟨B, N, I, rfl, hm, _⟩ := chk_zero h
    exact gform_yes hm h w
  · exact gform_no g h w
end Go.Proofs.Ytfkojilhpkklfaa
