/-
  The second reading's StatBytes: the bytes of whatever record, or the error of its first text that may not be one.
-/
import Derived.Test.YtepiifbleoimkaaGreatDoorStatI
import Derived.Test.YtepiifbleoimkaaGreatDoorRefTextD
namespace Go.Proofs.YtepiifbleoimkaaGreatDoor
open Go.RowKit
set_option maxRecDepth 100000

/-- What was gathered so far; the record in memory. -/
structure Acc (w : World) (s : S11) (v : Value) (bs : List UInt8) (W : World) : Prop where
  own : W.ownsRow (w.heap.size + 1) 5 1 v bs.length (b8s bs)
  low : Below w.heap.size w W
  row : Has W w.heap.size 41 s.cells
theorem Acc.call {w W W2 : World} {s : S11} {v : Value} {bs : List UInt8} (A : Acc w s v bs W) (b : Below W.heap.size W W2) : Acc w s v bs W2 :=
  ⟨owns_only A.own (Only.of_below b) (fun i h => Nat.not_le_of_lt (A.own.lt i h).2), A.low.trans (b.mono A.low.size), A.row.only (Only.of_below b) (Nat.not_le_of_lt A.row.lt)⟩
theorem Acc.app {w W W2 : World} {s : S11} {v v2 : Value} {bs cs : List UInt8} (A : Acc w s v bs W) (a : W2.ownsRow (w.heap.size + 1) 5 1 v2 (bs ++ cs).length (b8s (bs ++ cs))) (g : W.grownBy W2 v.ownBlock) : Acc w s v2 (bs ++ cs) W2 := by
  refine ⟨a, A.low.grown g A.low.size (fun i hi => by have := (A.own.lt i hi).1; omega), A.row.only (Only.of_grown g) (fun h => ?_)⟩
  have := (A.own.lt _ h.symm).1
  omega
theorem Acc.size {w W : World} {s : S11} {v : Value} {bs : List UInt8} (A : Acc w s v bs W) : w.heap.size + 1 ≤ W.heap.size := A.row.lt

/-- At the loop's head. -/
def AccInv (w : World) (s : S11) (lb j : Nat) (v : Value) (wr : World) : Prop :=
  Acc w s v (numsB s ++ textsB (s.texts.take j)) wr ∧ wrongL (s.texts.take j) = 0 ∧ Has wr lb 9 #[.string (strOf s.n), .string (strOf s.u), .string (strOf s.g), .string (strOf s.x)]

set_option maxHeartbeats 2000000 in
theorem refstat_any (s : S11) (w : World) (hn : s.Num) (hs : s.Few) : Calls Tryz.prog 75 #[s.val] w (EncodeStep w s) := by
  obtain ⟨h1, h2, h3, h4, h5, h6, h7⟩ := hn
  have x1 : IntKind.u64.wrap (s.k : Int) = (s.k : Int) := IntWalk.u64_in _ (by omega)
  have x2 : IntKind.u64.wrap (s.d : Int) = (s.d : Int) := IntWalk.u64_in _ (by omega)
  have x4 : IntKind.u64.wrap (s.m : Int) = (s.m : Int) := IntWalk.u64_in _ (by omega)
  have x5 : IntKind.u64.wrap (s.a : Int) = (s.a : Int) := IntWalk.u64_in _ (by omega)
  have x6 : IntKind.u64.wrap (s.c : Int) = (s.c : Int) := IntWalk.u64_in _ (by omega)
  obtain ⟨i0, hi0, hz0, hz1, hz2⟩ := info_parts Tryz.info8
  have NN : Hid (∀ (n x : Nat) W, 1 ≤ n → n ≤ 8 → Calls Tryz.prog 72 #[.int .i64 (n : Int), .int .u64 (x : Int)] W (NewBytes W (putB n x))) := fun n x W h1 h8 => refnum_yes n x W h1 h8
  have l1 := putB_length 2 s.k
  have l2 := putB_length 4 s.d
  have l3 := qidB_length s.q
  have l4 := putB_length 4 s.m
  have l5 := putB_length 4 s.a
  have l6 := putB_length 4 s.c
  have l7 := putB_length 8 s.l
  have HQ := Lib.hid h3
  have HL : Hid (∀ j (hj : j < 4), (s.texts[j]'hj).length ≤ 1000) := by
    obtain ⟨h1, h2, h3, h4⟩ := hs
    intro j hj
    match j, hj with
    | 0, _ => exact h1
    | 1, _ => exact h2
    | 2, _ => exact h3
    | 3, _ => exact h4
  have HC : Hid (∀ j (hj : j < 4), (#[Value.string (strOf s.n), .string (strOf s.u), .string (strOf s.g), .string (strOf s.x)] : Array Value)[j]? = some (.string (strOf (s.texts[j]'hj)))) := by
    intro j hj
    match j, hj with
    | 0, _ => rfl
    | 1, _ => rfl
    | 2, _ => rfl
    | 3, _ => rfl
  have B0 := Lib.hid (Has.new w 41 s.cells)
  have K0 := Lib.hid ((Below.refl w.heap.size w).alloc (Nat.le_refl _) (.cells s.cells 41))
  obtain ⟨⟨d0, d1, d2, d3, d4⟩, ⟨d5, d6, d7, d8⟩, ⟨d9, d10, d11, d12⟩⟩ := (Has.new w 41 s.cells).cells13
  clear h3 d2 d3 d4 d5 d6 d7 d8 d9 d10 d11 d12 hs
  unfold S11.val
  unfold S11.cells at d0 d1 ⊢
  go_enter Tryz.func75, Tryz.ntmps75
  go_wp2_with fail
  refine wp_region_held_drew (S := fun w' => w'.cell? ⟨w.heap.size, 0, none⟩ = some (.int .u16 (s.k : Int)) ∧ w'.cell? ⟨w.heap.size, 1, none⟩ = some (.int .u32 (s.d : Int))) (by kernel_rfl) ?_ (fun hHeld => ?_)
  · exact ⟨(B0.out.drew).cell 0, (B0.out.drew).cell 1⟩
  refine takeH (i := 0) (d := 9) (v := ?_) (by kernel_rfl) (by kernel_rfl) (by kernel_rfl) rfl (fun _ _ _ h => h) (by rfl) ?_ hHeld ?_
  rotate_left
  · intro o ho w hSw
    cases ho
    go_simp
    try with_reducible rfl
  simp only [Act.put, List.setIfInBounds_toArray, List.set_cons_zero, List.set_cons_succ]
  refine takeH (i := 1) (d := 10) (v := ?_) (by kernel_rfl) (by kernel_rfl) (by kernel_rfl) rfl (fun _ _ _ h => h) (by rfl) ?_ hHeld ?_
  rotate_left
  · intro o ho w hSw
    cases ho
    go_simp
    try with_reducible rfl
  simp only [Act.put, List.setIfInBounds_toArray, List.set_cons_zero, List.set_cons_succ]
  refine takeH (i := 2) (d := 11) (v := ?_) (by kernel_rfl) (by kernel_rfl) (by kernel_rfl) rfl (fun _ _ _ h => h) (by rfl) ?_ hHeld ?_
  rotate_left
  · intro o ho w hSw
    cases ho
    go_simp
    try with_reducible rfl
  simp only [Act.put, List.setIfInBounds_toArray, List.set_cons_zero, List.set_cons_succ]
  refine takeH (i := 4) (d := 13) (v := ?_) (by kernel_rfl) (by kernel_rfl) (by kernel_rfl) rfl (fun _ _ _ h => h) (by rfl) ?_ hHeld ?_
  rotate_left
  · intro o ho w hSw
    cases ho
    go_simp
    try with_reducible rfl
  simp only [Act.put, List.setIfInBounds_toArray, List.set_cons_zero, List.set_cons_succ]
  refine takeH (i := 5) (d := 14) (v := ?_) (by kernel_rfl) (by kernel_rfl) (by kernel_rfl) rfl (fun _ _ _ h => h) (by rfl) ?_ hHeld ?_
  rotate_left
  · intro o ho w hSw
    cases ho
    go_simp
    try with_reducible rfl
  simp only [Act.put, List.setIfInBounds_toArray, List.set_cons_zero, List.set_cons_succ]
  refine takeH (i := 6) (d := 15) (v := ?_) (by kernel_rfl) (by kernel_rfl) (by kernel_rfl) rfl (fun _ _ _ h => h) (by rfl) ?_ hHeld ?_
  rotate_left
  · intro o ho w hSw
    cases ho
    go_simp
    try with_reducible rfl
  simp only [Act.put, List.setIfInBounds_toArray, List.set_cons_zero, List.set_cons_succ]
  refine wpAnyH_ready (rs := [3]) (by kernel_rfl) (by simp) ?_
  refine AllReadyH.cons rfl (fun K hK => ?_) AllReadyH.nil
  go_simp
  refine (NN.out 2 s.k _ (by omega) (by omega)).mono ?_
  rintro e w1 ⟨v1, rfl, a1, b1⟩
  have A1 : Hid (Acc w s v1 (putB 2 s.k) w1) := Lib.hid ⟨owns_base a1 (by simp), K0.out.drew.trans (b1.mono (by simp)), B0.out.drew.only (Only.of_below b1) (by simp)⟩
  clear a1 b1 K0 B0 d0 d1
  try go_wp2_with fail
  refine hK.out _ _ ?_ (fun hHeld => ?_)
  · exact ⟨(A1.out.row).cell 0, (A1.out.row).cell 1⟩
  clear hK K
  refine wpAnyH_ready (rs := [7]) (by kernel_rfl) (by simp) ?_
  refine AllReadyH.cons rfl (fun K hK => ?_) AllReadyH.nil
  go_simp
  refine (NN.out 4 s.d _ (by omega) (by omega)).mono ?_
  rintro e w2 ⟨v2, rfl, a2, b2⟩
  have A2 := Lib.hid (A1.out.call b2)
  have S2 := Lib.hid (owns_SlIs a2)
  clear a2 b2 A1
  try go_wp2_with fail
  refine hK.out _ _ ?_ (fun hHeld => ?_)
  · exact ⟨(A2.out.row).cell 0, (A2.out.row).cell 1⟩
  clear hK K
  refine wpAnyH_ready (rs := [8]) (by kernel_rfl) (by simp) ?_
  refine AllReadyH.cons rfl (fun K hK => ?_) AllReadyH.nil
  refine step_append_bytes _ (by rfl) (.tmp 12) (.tmp 16) 22 (by rfl) (w.heap.size + 1) 5 i0 Tryz.underlying22 hi0 hz0 hz1 hz2 v1 (putB 2 s.k) (putB 4 s.d) (by rfl) A2.out.own _ _ v2 (by rfl) S2.out (by rw [List.length_append, l1, l2]; omega) A2.out.size ?_
  intro v3 w3 a3 b3 _
  have A3 := Lib.hid (A2.out.app a3 b3)
  clear a3 b3 A2 S2
  refine hK.out _ _ ?_ (fun hHeld => ?_)
  · exact ⟨(A3.out.row).cell 0, (A3.out.row).cell 1⟩
  clear hK K
  simp only [Act.put, List.setIfInBounds_toArray]
  refine takeH (i := 9) (d := 4) (v := ?_) (by kernel_rfl) (by kernel_rfl) (by kernel_rfl) rfl (fun _ _ _ h => h) (by rfl) ?_ hHeld ?_
  rotate_left
  · intro o ho w hSw
    cases ho
    go_simp
    try with_reducible rfl
  simp only [Act.put]
  refine wpAnyH_done (by kernel_rfl) ?_ _
  have e2 := A3.out.row.cell 2
  have e3 := A3.out.row.cell 3
  have e4 := A3.out.row.cell 4
  simp [S11.cells] at e2 e3 e4
  have CQ : Hid (∀ W, Calls Tryz.prog 74 #[.agg #[.int .u8 (s.q.t : Int), .int .u32 (s.q.v : Int), .int .u64 (s.q.p : Int)]] W (NewBytes W (qidB s.q))) := fun W => refqid_any s.q W HQ.out
  go_wp2_with fail
  refine (CQ.out _).mono ?_
  rintro e w4 ⟨v4, rfl, a1, b1⟩
  have A4 := Lib.hid (A3.out.call b1)
  have S4 := Lib.hid (owns_SlIs a1)
  clear a1 b1 A3 e2 e3 e4 CQ
  go_wp2_with (at_builtin; go_must (refine wpList_append_bytes _ rfl (.tmp 18) (.tmp 21) 22 rfl (w.heap.size + 1) 5 i0 Tryz.underlying22 hi0 hz0 hz1 hz2 v3 (putB 2 s.k ++ putB 4 s.d) (qidB s.q) rfl A4.out.own _ _ v4 rfl S4.out (by simp only [List.length_append, l1, l2, l3]; omega) A4.out.size ?_))
  intro v5 w5 a1 b1 _
  have A5 := Lib.hid (A4.out.app a1 b1)
  clear a1 b1 A4 S4
  have e5 := A5.out.row.cell 5
  simp [S11.cells] at e5
  go_wp2_with fail
  refine (NN.out 4 s.m _ (by omega) (by omega)).mono ?_
  rintro e w6 ⟨v6, rfl, a1, b1⟩
  have A6 := Lib.hid (A5.out.call b1)
  have S6 := Lib.hid (owns_SlIs a1)
  clear a1 b1 A5 e5
  go_wp2_with (at_builtin; go_must (refine wpList_append_bytes _ rfl (.tmp 23) (.tmp 27) 22 rfl (w.heap.size + 1) 5 i0 Tryz.underlying22 hi0 hz0 hz1 hz2 v5 (putB 2 s.k ++ putB 4 s.d ++ qidB s.q) (putB 4 s.m) rfl A6.out.own _ _ v6 rfl S6.out (by simp only [List.length_append, l1, l2, l3, l4]; omega) A6.out.size ?_))
  intro v7 w7 a1 b1 _
  have A7 := Lib.hid (A6.out.app a1 b1)
  clear a1 b1 A6 S6
  have e6 := A7.out.row.cell 6
  simp [S11.cells] at e6
  go_wp2_with fail
  refine (NN.out 4 s.a _ (by omega) (by omega)).mono ?_
  rintro e w8 ⟨v8, rfl, a1, b1⟩
  have A8 := Lib.hid (A7.out.call b1)
  have S8 := Lib.hid (owns_SlIs a1)
  clear a1 b1 A7 e6
  go_wp2_with (at_builtin; go_must (refine wpList_append_bytes _ rfl (.tmp 29) (.tmp 33) 22 rfl (w.heap.size + 1) 5 i0 Tryz.underlying22 hi0 hz0 hz1 hz2 v7 (putB 2 s.k ++ putB 4 s.d ++ qidB s.q ++ putB 4 s.m) (putB 4 s.a) rfl A8.out.own _ _ v8 rfl S8.out (by simp only [List.length_append, l1, l2, l3, l4, l5]; omega) A8.out.size ?_))
  intro v9 w9 a1 b1 _
  have A9 := Lib.hid (A8.out.app a1 b1)
  clear a1 b1 A8 S8
  have e7 := A9.out.row.cell 7
  simp [S11.cells] at e7
  go_wp2_with fail
  refine (NN.out 4 s.c _ (by omega) (by omega)).mono ?_
  rintro e w10 ⟨v10, rfl, a1, b1⟩
  have A10 := Lib.hid (A9.out.call b1)
  have S10 := Lib.hid (owns_SlIs a1)
  clear a1 b1 A9 e7
  go_wp2_with (at_builtin; go_must (refine wpList_append_bytes _ rfl (.tmp 35) (.tmp 39) 22 rfl (w.heap.size + 1) 5 i0 Tryz.underlying22 hi0 hz0 hz1 hz2 v9 (putB 2 s.k ++ putB 4 s.d ++ qidB s.q ++ putB 4 s.m ++ putB 4 s.a) (putB 4 s.c) rfl A10.out.own _ _ v10 rfl S10.out (by simp only [List.length_append, l1, l2, l3, l4, l5, l6]; omega) A10.out.size ?_))
  intro v11 w11 a1 b1 _
  have A11 := Lib.hid (A10.out.app a1 b1)
  clear a1 b1 A10 S10
  have e8 := A11.out.row.cell 8
  simp [S11.cells] at e8
  go_wp2_with fail
  refine (NN.out 8 s.l _ (by omega) (by omega)).mono ?_
  rintro e w12 ⟨v12, rfl, a1, b1⟩
  have A12 := Lib.hid (A11.out.call b1)
  have S12 := Lib.hid (owns_SlIs a1)
  clear a1 b1 A11 e8
  go_wp2_with (at_builtin; go_must (refine wpList_append_bytes _ rfl (.tmp 41) (.tmp 44) 22 rfl (w.heap.size + 1) 5 i0 Tryz.underlying22 hi0 hz0 hz1 hz2 v11 (putB 2 s.k ++ putB 4 s.d ++ qidB s.q ++ putB 4 s.m ++ putB 4 s.a ++ putB 4 s.c) (putB 8 s.l) rfl A12.out.own _ _ v12 rfl S12.out (by simp only [List.length_append, l1, l2, l3, l4, l5, l6, l7]; omega) A12.out.size ?_))
  intro v13 w13 a1 b1 _
  have A13 := Lib.hid (A12.out.app a1 b1)
  clear a1 b1 A12 S12
  have hnb : putB 2 s.k ++ putB 4 s.d ++ qidB s.q ++ putB 4 s.m ++ putB 4 s.a ++ putB 4 s.c ++ putB 8 s.l = numsB s := by simp only [numsB, List.append_assoc]
  rw [hnb] at A13
  obtain ⟨lb, hlb⟩ : ∃ lb, lb = w13.heap.size := ⟨_, rfl⟩
  have kx : Only (fun _ => False) w13 (w13.alloc (.cells #[.string (strOf s.n), .string (strOf s.u), .string (strOf s.g), .string (strOf s.x)] 9)) := (Only.refl _ _).alloc _
  have I0 : Hid (AccInv w s lb 0 v13 (w13.alloc (.cells #[.string (strOf s.n), .string (strOf s.u), .string (strOf s.g), .string (strOf s.x)] 9))) := by
    rw [hlb]
    refine Lib.hid ⟨?_, rfl, Has.new _ _ _⟩
    have := A13.out.call (kx.below (Nat.le_refl _) (fun _ _ h => h))
    simpa [textsB] using this
  have hlbw : w.heap.size < lb := by rw [hlb]; exact A13.out.row.lt
  obtain ⟨⟨_, _, _, _, _⟩, ⟨_, _, _, _⟩, ⟨e9, e10, e11, e12⟩⟩ := A13.out.row.cells13
  clear hnb kx l1 l2 l3 l4 l5 l6 l7 x1 x2 x4 x5 x6 A13
  go_wp2_with fail
  rw [← hlb]
  clear hlb e9 e10 e11 e12
  go_loopw [4, 6] (fun v i wr => ∃ j : Nat, j ≤ 4 ∧ i = .int .i64 j ∧ Hid (AccInv w s lb j v wr)) (fun _ i _ => 4 - (intOf i).toNat)
  case atStart => exact ⟨0, Nat.zero_le _, rfl, I0⟩
  case round =>
    obtain ⟨j, hj, rfl, hrel⟩ := hrel
    clear I0
    obtain ⟨hA, h0, hR⟩ := hrel.out
    by_cases hlt : j < 4
    · have hc : wr.cell? ⟨lb, j, none⟩ = _ := (hR.cell j).trans (HC.out j hlt)
      have i0' : (0 : Int) ≤ (j : Int) := by omega
      have i1 : (j : Int) < 4 := by omega
      have hle := textsB_le (s.texts.take j)
      rw [List.length_take] at hle
      have hlN := numsB_length s
      have C := Lib.hid (reftextS_any (s.texts[j]'hlt) wr (by have := HL.out j hlt; omega))
      have h2 := wrongL_succ s.texts j hlt h0
      have h3 := wrongL_stop s.texts j hlt h0
      have h4 := textsB_succ s.texts j hlt
      obtain ⟨t, ht⟩ : ∃ t, t = s.texts[j]'hlt := ⟨_, rfl⟩
      rw [← ht] at C hc h2 h3 h4
      have htl := textB_le t
      have HA := Lib.hid hA
      have HR := Lib.hid hR
      have H2 := Lib.hid h2
      have H3 := Lib.hid h3
      have H4 := Lib.hid h4
      clear hA h0 hR hrel h2 h3 h4 ht
      go_wp2_with fail
      refine C.out.mono ?_
      rintro e w20 ⟨tv, rfl, a1, b1⟩
      have A20 := Lib.hid (HA.out.call b1)
      have R20 := Lib.hid (HR.out.only (Only.of_below b1) (Nat.not_le_of_lt HR.out.lt))
      have S20 := Lib.hid (owns_SlIs a1)
      clear a1 b1 HA HR C hc
      by_cases hz : wrongOf t = 0
      · rw [hz] at H2 ⊢
        clear H3
        go_wp2_with (at_builtin; go_must (refine wpList_append_bytes _ rfl (.tmp 70) (.tmp 71) 22 rfl (w.heap.size + 1) 5 i0 Tryz.underlying22 hi0 hz0 hz1 hz2 _ (numsB s ++ textsB (s.texts.take j)) (textB t) rfl A20.out.own _ _ tv rfl S20.out (by simp only [List.length_append]; omega) A20.out.size ?_))
        intro v21 w21 a1 b1 _
        have a1 : w21.ownsRow (w.heap.size + 1) 5 1 v21 (numsB s ++ textsB (s.texts.take j) ++ textB t).length (b8s (numsB s ++ textsB (s.texts.take j) ++ textB t)) := by simpa [numsB_length] using a1
        have I21 : Hid (AccInv w s lb (j + 1) v21 w21) := by
          refine Lib.hid ⟨?_, H2.out, R20.out.only (Only.of_grown b1) (fun h => ?_)⟩
          · rw [H4.out, ← List.append_assoc]
            exact A20.out.app a1 b1
          · exact owns_ne A20.out.own R20.out (by decide) h
        clear a1 b1 A20 R20 S20 H2 H4
        go_wp2
        go_roundw
        case rel => exact ⟨j + 1, by omega, by go_num, I21⟩
        case measure => simp [intOf]; omega
      · have hzb : (wrongOf t != 0) = true := by simpa using hz
        have R : Hid (EncodeStep w s (.returned (.tuple #[.slice none 0 0, .int .i64 (wrongOf t)])) w20) := by
          have e1 := H3.out hz
          exact .inr ⟨by rw [e1]; exact hz, by rw [e1], A20.out.low⟩
        generalize wrongOf t = er at R hzb ⊢
        clear A20 R20 S20 H2 H3 H4
        go_wp2
        go_ret2
        exact R.out
    · have hj4 : j = 4 := by omega
      subst hj4
      have hw0 : wrongL s.texts = 0 := h0
      have hsl := statB_length hw0
      have hA : Acc w s _ (statB s) wr := hA
      have hsz : s.size ≤ 5000 := by
        obtain ⟨q1, q2, q3, q4⟩ := few_of_wrong hw0
        unfold S11.size
        omega
      have hsz2 : 49 ≤ s.size := by unfold S11.size; omega
      obtain ⟨A9, c9, hv9, _⟩ := owns_slice hA.own
      have wl : IntKind.u64.wrap ((s.size - 2 : Nat) : Int) = ((s.size - 2 : Nat) : Int) := IntWalk.u64_in _ (by omega)
      rw [hsl] at hv9
      subst hv9
      have HA := Lib.hid hA
      have hpl := putB_length 2 (s.size - 2)
      clear hA hR hrel h0
      go_wp2_with fail
      refine (NN.out 2 (s.size - 2) _ (by omega) (by omega)).mono ?_
      rintro e w20 ⟨v20, rfl, a1, b1⟩
      have A20 := Lib.hid (HA.out.call b1)
      have S20 := Lib.hid (owns_SlIs A20.out.own)
      have O20 := Lib.hid (owns_base a1 HA.out.size)
      clear a1 b1 HA
      go_wp2_with (at_builtin; go_must (refine wpList_append_bytes _ rfl (.tmp 76) (.tmp 77) 22 rfl (w.heap.size + 1) 5 i0 Tryz.underlying22 hi0 hz0 hz1 hz2 v20 (putB 2 (s.size - 2)) (statB s) rfl O20.out _ _ _ rfl S20.out (by simp only [List.length_append]; omega) A20.out.size ?_))
      intro v21 w21 a1 b1 _
      have a1 : w21.ownsRow (w.heap.size + 1) 5 1 v21 (recB s).length (b8s (recB s)) := by
        unfold recB
        simpa [hpl, hsl] using a1
      have R : Hid (EncodeStep w s (.returned (.tuple #[v21, .int .i64 0])) w21) := by
        refine .inl ⟨hw0, v21, rfl, owns_base a1 (Nat.le_succ _), A20.out.low.grown b1 A20.out.low.size (fun i hi => by have := (O20.out.lt i hi).1; omega)⟩
      clear a1 b1 A20 S20 O20
      go_wp2
      go_ret2
      exact R.out
end Go.Proofs.YtepiifbleoimkaaGreatDoor
