/-
  Layer 13's own bytes: entries, 32 bytes each.
-/
import Derived.Test.YtkhgaolaaiekjaaDoorEntD
import Derived.Test.YtkhgaolaaiekjaaDoorAppText
import Derived.Test.YtkhgaolaaiekjaaDoorRefPut
import Derived.Test.YtkhgaolaaiekjaaDoorDrawn
namespace Go.Proofs.YtkhgaolaaiekjaaDoor
open Go.RowKit Go.Lib
set_option maxRecDepth 100000

/-- An entry's bytes; a row's. -/
def encE (x : En) : List UInt8 := putB 4 x.i ++ x.n ++ List.replicate (28 - x.n.length) 0
def encL (l : List En) : List UInt8 := l.flatMap encE
theorem encE_length (x : En) : (encE x).length = 4 + x.n.length + (28 - x.n.length) := by
  unfold encE
  rw [List.length_append, List.length_append, putB_length, List.length_replicate]
theorem encL_append (l m : List En) : encL (l ++ m) = encL l ++ encL m := by simp [encL]
theorem encL_take (l : List En) (j : Nat) (h : j < l.length) : encL (l.take (j + 1)) = encL (l.take j) ++ encE l[j] := by
  rw [List.take_succ_eq_append_getElem h, encL_append]
  simp [encL]
theorem encL_len {l : List En} {M : Nat} (h : ∀ x ∈ l, x.n.length ≤ M) : (encL l).length ≤ l.length * (32 + M) := by
  induction l with
  | nil => simp [encL]
  | cons x l ih =>
    have h1 := ih (fun y hy => h y (by simp [hy]))
    have h2 := h x (by simp)
    have h3 := encE_length x
    have e : encL (x :: l) = encE x ++ encL l := by simp [encL]
    rw [e, List.length_append, List.length_cons, Nat.succ_mul]
    omega

/-- How long a slice is. -/
def lenV : Value → Nat
  | .slice _ n _ => n
  | _ => 0
/-- An entry's bytes, k zeros behind them, in a list made behind w. -/
def Pad (w : World) (x : En) (v : Value) (k : Nat) (wr : World) : Prop := wr.ownsRow w.heap.size 5 1 v (putB 4 x.i ++ x.n ++ List.replicate k 0).length (b8s (putB 4 x.i ++ x.n ++ List.replicate k 0)) ∧ Below w.heap.size w wr
set_option maxHeartbeats 4000000 in
theorem bytes13_any (E : Nat → Prop) (v : Value) (l : List En) (w : World) (hl : l.length ≤ 1000) (hx : ∀ x ∈ l, x.n.length ≤ 1000) (hi32 : ∀ x ∈ l, x.i < 4294967296) (h : EsIs w E v l) :
    Calls Tryd.prog 13 #[v] w fun e w' => ∃ u, e = .returned u ∧ w'.ownsRow w.heap.size 5 1 u (encL l).length (b8s (encL l)) ∧ Still w w' := by
  obtain ⟨i0, hi0, hz0, hz1, hz2⟩ := info_parts Tryd.info8
  obtain ⟨A, c, rfl⟩ := h.form
  have HA := Lib.hid h
  have HX := Lib.hid hx
  have HI := Lib.hid hi32
  clear h hx hi32
  have H0 : Hid (w.ownsRow w.heap.size 5 1 (.slice none 0 0) (encL (l.take 0)).length (b8s (encL (l.take 0))) ∧ Still w w) := ⟨World.ownsRow_nil _ _ _ _, Still.refl w⟩
  go_enter Tryd.func13, Tryd.ntmps13
  go_wp2
  go_loopw [3, 4, 5] (fun vo i _ wr => ∃ j : Nat, j ≤ l.length ∧ i = .int .i64 j ∧ Hid (wr.ownsRow w.heap.size 5 1 vo (encL (l.take j)).length (b8s (encL (l.take j))) ∧ Still w wr)) (fun _ i _ _ => l.length - (intOf i).toNat)
  case atStart => exact ⟨0, Nat.zero_le _, rfl, H0⟩
  case round =>
    obtain ⟨j, hj, rfl, hrel⟩ := hrel
    clear H0
    by_cases hlt : j < l.length
    · have HW : Hid (EsIs _ E _ l) := Lib.hid (EsIs.only HA.out hrel.out.2 (fun _ _ _ h => h))
      obtain ⟨ad, c', e, z0, z1⟩ := HW.out.at hlt
      injection e with e1 _ e2
      subst e1 e2
      -- the round
      obtain ⟨x, hx⟩ : ∃ x, x = l[j] := ⟨_, rfl⟩
      have hm : x ∈ l := by rw [hx]; exact List.getElem_mem hlt
      have hxn := HX.out x hm
      have hxi := HI.out x hm
      have i0' : (0 : Int) ≤ (j : Int) := by omega
      have i1' : (j : Int) < (l.length : Int) := by omega
      have wi : IntKind.u64.wrap (x.i : Int) = (x.i : Int) := IntWalk.u64_in _ (by omega)
      have CN : Hid (∀ W, Calls Tryd.prog 25 #[.int .i64 4, .int .u64 (x.i : Int)] W fun e w' => ∃ v, e = .returned v ∧ w'.ownsRow W.heap.size 5 1 v (putB 4 x.i).length (b8s (putB 4 x.i)) ∧ Below W.heap.size W w') := Lib.hid (fun W => by
        have := refnum_any 4 (x.i : Int) W (by omega)
        rw [show putI 4 (x.i : Int) = putB 4 x.i by rw [putI, if_pos (by omega)]; simp] at this
        exact this)
      have ZS : Hid (∀ w', Still wr w' → w'.cell? (ad.add (j * 2)) = some (.string (strOf x.n)) ∧ w'.cell? ⟨(ad.add (j * 2)).block, (ad.add (j * 2)).off + 1, none⟩ = some (.int .u32 (x.i : Int))) := Lib.hid (fun w' k => by
        obtain ⟨a', d', e', y0, y1⟩ := EsIs.at (EsIs.only HW.out k (fun _ _ _ h => h)) hlt
        injection e' with e1 _ _
        injection e1 with e1
        subst e1
        rw [hx]
        exact ⟨y0, y1⟩)
      have TK : Hid (encL (l.take (j + 1)) = encL (l.take j) ++ encE x) := Lib.hid (by rw [encL_take l j hlt, ← hx])
      have TL : Hid ((encL (l.take j)).length ≤ 2000000) := Lib.hid (by
        have h1 := encL_len (l := l.take j) (M := 1000) (fun y hy => HX.out y (List.mem_of_mem_take hy))
        have h2 : (l.take j).length ≤ 1000 := by rw [List.length_take]; omega
        have h3 : (l.take j).length * 1032 ≤ 1000 * 1032 := Nat.mul_le_mul_right _ h2
        omega)
      rw [← hx] at z0 z1
      clear hx hm HW
      go_wp2_with fail
      refine wp_region_held_drew (S := fun w' => w'.cell? (ad.add (j * 2)) = some (.string (strOf x.n)) ∧ w'.cell? ⟨(ad.add (j * 2)).block, (ad.add (j * 2)).off + 1, none⟩ = some (.int .u32 (x.i : Int))) (by kernel_rfl) ?_ (fun hHeld => ?_)
      · exact ⟨z0, z1⟩
      refine takeH (i := 0) (d := 12) (v := ?_) (by kernel_rfl) (by kernel_rfl) (by kernel_rfl) rfl (fun _ _ _ h => h) (by rfl) ?_ hHeld ?_
      rotate_left
      · intro o ho w hSw
        cases ho
        go_simp
        try with_reducible rfl
      simp only [Act.put, List.setIfInBounds_toArray, List.set_cons_zero, List.set_cons_succ]
      refine takeH (i := 1) (d := 13) (v := ?_) (by kernel_rfl) (by kernel_rfl) (by kernel_rfl) rfl (fun _ _ _ h => h) (by rfl) ?_ hHeld ?_
      rotate_left
      · intro o ho w hSw
        cases ho
        go_simp
        try with_reducible rfl
      simp only [Act.put, List.setIfInBounds_toArray, List.set_cons_zero, List.set_cons_succ]
      refine takeH (i := 2) (d := 14) (v := ?_) (by kernel_rfl) (by kernel_rfl) (by kernel_rfl) rfl (fun _ _ _ h => h) (by rfl) ?_ hHeld ?_
      rotate_left
      · intro o ho w hSw
        cases ho
        go_simp
        try with_reducible rfl
      simp only [Act.put, List.setIfInBounds_toArray, List.set_cons_zero, List.set_cons_succ]
      refine takeH (i := 3) (d := 15) (v := ?_) (by kernel_rfl) (by kernel_rfl) (by kernel_rfl) rfl (fun _ _ _ h => h) (by rfl) ?_ hHeld ?_
      rotate_left
      · intro o ho w hSw
        cases ho
        go_simp
        try with_reducible rfl
      simp only [Act.put, List.setIfInBounds_toArray, List.set_cons_zero, List.set_cons_succ]
      refine takeH (i := 4) (d := 16) (v := ?_) (by kernel_rfl) (by kernel_rfl) (by kernel_rfl) rfl (fun _ _ _ h => h) (by rfl) ?_ hHeld ?_
      rotate_left
      · intro o ho w hSw
        cases ho
        go_simp
        try with_reducible rfl
      simp only [Act.put, List.setIfInBounds_toArray, List.set_cons_zero, List.set_cons_succ]
      refine takeH (i := 5) (d := 17) (v := ?_) (by kernel_rfl) (by kernel_rfl) (by kernel_rfl) rfl (fun _ _ _ h => h) (by rfl) ?_ hHeld ?_
      rotate_left
      · intro o ho w hSw
        cases ho
        go_simp
        try with_reducible rfl
      simp only [Act.put, List.setIfInBounds_toArray, List.set_cons_zero, List.set_cons_succ]
      refine takeH (i := 7) (d := 19) (v := ?_) (by kernel_rfl) (by kernel_rfl) (by kernel_rfl) rfl (fun _ _ _ h => h) (by rfl) ?_ hHeld ?_
      rotate_left
      · intro o ho w hSw
        cases ho
        go_simp
        try with_reducible rfl
      simp only [Act.put, List.setIfInBounds_toArray, List.set_cons_zero, List.set_cons_succ]
      refine takeH (i := 8) (d := 20) (v := ?_) (by kernel_rfl) (by kernel_rfl) (by kernel_rfl) rfl (fun _ _ _ h => h) (by rfl) ?_ hHeld ?_
      rotate_left
      · intro o ho w hSw
        cases ho
        go_simp
        try with_reducible rfl
      simp only [Act.put, List.setIfInBounds_toArray, List.set_cons_zero, List.set_cons_succ]
      refine takeH (i := 9) (d := 21) (v := ?_) (by kernel_rfl) (by kernel_rfl) (by kernel_rfl) rfl (fun _ _ _ h => h) (by rfl) ?_ hHeld ?_
      rotate_left
      · intro o ho w hSw
        cases ho
        go_simp
        try with_reducible rfl
      simp only [Act.put, List.setIfInBounds_toArray, List.set_cons_zero, List.set_cons_succ]
      refine takeH (i := 10) (d := 22) (v := ?_) (by kernel_rfl) (by kernel_rfl) (by kernel_rfl) rfl (fun _ _ _ h => h) (by rfl) ?_ hHeld ?_
      rotate_left
      · intro o ho w hSw
        cases ho
        go_simp
        try with_reducible rfl
      simp only [Act.put, List.setIfInBounds_toArray, List.set_cons_zero, List.set_cons_succ]
      refine takeH (i := 11) (d := 23) (v := ?_) (by kernel_rfl) (by kernel_rfl) (by kernel_rfl) rfl (fun _ _ _ h => h) (by rfl) ?_ hHeld ?_
      rotate_left
      · intro o ho w hSw
        cases ho
        go_simp
        try with_reducible rfl
      simp only [Act.put, List.setIfInBounds_toArray, List.set_cons_zero, List.set_cons_succ]
      refine wpAnyH_ready (rs := [6]) (by kernel_rfl) (by simp) ?_
      refine AllReadyH.cons rfl (fun K hK => ?_) AllReadyH.nil
      go_simp
      go_at_call 25
      refine (CN.out _).mono ?_
      rintro e w1 ⟨v1, rfl, o1, b1⟩
      have b1 : Below wr.heap.size wr w1 := ((Still.refl wr).drew.trans (Still.of_below b1)).below
      have o1 : w1.ownsRow wr.heap.size 5 1 v1 (putB 4 x.i).length (b8s (putB 4 x.i)) := o1
      have O1 := Lib.hid o1
      have B1 := Lib.hid b1
      obtain ⟨A1, c1, rfl, _⟩ := owns_slice o1
      clear o1 b1
      try go_wp2_with fail
      refine hK.out _ _ ?_ (fun hHeld => ?_)
      · exact ZS.out _ (Still.of_below B1.out)
      clear hK K
      refine wpAnyH_ready (rs := [12]) (by kernel_rfl) (by simp) ?_
      refine AllReadyH.cons rfl (fun K hK => ?_) AllReadyH.nil
      refine step_append_text _ (by rfl) _ _ _ _ (by rfl) wr.heap.size 5 i0 Tryd.underlying25 Tryd.underlying9 hi0 hz0 hz1 hz2 _ (putB 4 x.i) x.n (by rfl) O1.out (by rw [putB_length]; omega) (by rfl) (by rw [List.length_append, putB_length]; omega) B1.out.size ?_
      intro v3 w3 a3 g3 _
      have b3 : Below wr.heap.size wr w3 := B1.out.grown g3 B1.out.size (fun i hi => (O1.out.lt i hi).1)
      have P3 : Hid (Pad wr x v3 0 w3) := Lib.hid ⟨by rw [List.replicate_zero, List.append_nil]; exact a3, b3⟩
      obtain ⟨A3, n3, c3, rfl⟩ := owns_form a3
      clear a3 g3 O1
      change K (Act.put _ (some 24) _) _
      simp only [Act.put, List.setIfInBounds_toArray, List.set_cons_zero, List.set_cons_succ]
      refine hK.out _ _ ?_ (fun hHeld => ?_)
      · exact ZS.out _ (Still.of_below b3)
      clear hK K b3 B1
      refine takeH (i := 13) (d := 5) (v := ?_) (by kernel_rfl) (by kernel_rfl) (by kernel_rfl) rfl (fun _ _ _ h => h) (by rfl) ?_ hHeld ?_
      rotate_left
      · intro o ho w hSw
        cases ho
        go_simp
        try with_reducible rfl
      simp only [Act.put, List.setIfInBounds_toArray, List.set_cons_zero, List.set_cons_succ]
      refine wpAnyH_done (by kernel_rfl) ?_ _
      have HP4 := Lib.hid (putB_length 4 x.i)
      have HR := Lib.hid hrel.out
      clear hrel ZS CN
      go_wp2_with fail
      obtain ⟨V0, hV0⟩ : ∃ V0, V0 = wr := ⟨_, rfl⟩
      subst hV0
      go_loopw [5] (fun vb wr2 => ∃ k : Nat, k ≤ 28 - x.n.length ∧ Hid (Pad V0 x vb k wr2)) (fun vb _ => 32 - lenV vb)
      case atStart => exact ⟨0, Nat.zero_le _, P3⟩
      case round =>
        obtain ⟨k, hk, hpad⟩ := hrel
        clear P3
        obtain ⟨A4, c4, rfl, _⟩ := owns_slice hpad.out.1
        have hlen : (putB 4 x.i ++ x.n ++ List.replicate k 0).length = 4 + x.n.length + k := by rw [List.length_append, List.length_append, HP4.out, List.length_replicate]
        obtain ⟨OW, BW⟩ := hpad.out
        obtain ⟨Z, hZ⟩ : ∃ Z, Z = putB 4 x.i ++ x.n ++ List.replicate k 0 := ⟨_, rfl⟩
        rw [← hZ] at hlen OW ⊢
        have HL := Lib.hid hlen
        have HOW := Lib.hid OW
        have HBW := Lib.hid BW
        clear OW BW hpad
        by_cases hk2 : 4 + x.n.length + k < 32
        · have d1 : decide ((Z.length : Int) < 32) = true := decide_eq_true (by omega)
          clear hlen
          have HZ : Hid (Z ++ [0] = putB 4 x.i ++ x.n ++ List.replicate (k + 1) 0) := Lib.hid (by rw [hZ, List.append_assoc, ← List.replicate_succ'])
          clear hZ
          go_wp2_with (at_builtin; go_must (refine wpList_append_bytes _ rfl (.tmp 28) (.tmp 29) 25 rfl V0.heap.size 5 i0 Tryd.underlying25 hi0 hz0 hz1 hz2 _ Z [0] rfl (HOW.out.alloc _) _ _ _ rfl (lit_SlIs _ 5 (0, 0) [0] 1 rfl (by simp [maxLen])) (by have := HL.out; rw [List.length_append]; simp; omega) (by have := HBW.out.size; simp; omega) ?_))
          intro v5 w5 a5 g5 _
          have a6 : w5.ownsRow V0.heap.size 5 1 v5 (Z ++ [0]).length (b8s (Z ++ [0])) := by
            rw [List.length_append]
            exact a5
          rw [HZ.out] at a6
          have R : Hid (Pad V0 x v5 (k + 1) w5) := Lib.hid ⟨a6, (HBW.out.alloc HBW.out.size _).grown g5 (by have := HBW.out.size; simp; omega) (fun i hi => (HOW.out.lt i hi).1)⟩
          obtain ⟨A5, n5, c5, rfl⟩ := owns_form a6
          have HN5 : Hid (n5 = 4 + x.n.length + (k + 1)) := Lib.hid (by
            obtain ⟨_, _, e, _⟩ := owns_slice a6
            injection e with _ e _
            rw [e, List.length_append, List.length_append, HP4.out, List.length_replicate])
          clear a5 a6 g5 HOW HBW HR
          go_wp2
          go_roundw
          case rel => exact ⟨k + 1, by omega, R⟩
          case measure =>
            have := HL.out
            have := HN5.out
            simp only [lenV]
            omega
        · have d1 : decide ((Z.length : Int) < 32) = false := decide_eq_false (by omega)
          have HZ : Hid (Z = encE x) := Lib.hid (by
            rw [hZ]
            unfold encE
            congr 2
            omega)
          clear hZ hlen
          have OV := Lib.hid (owns_only HR.out.1 (Still.of_below HBW.out) (fun _ _ h => h))
          have KS := Lib.hid (HR.out.2.trans (Still.of_below HBW.out))
          have SV := Lib.hid (owns_SlIs HOW.out)
          have BA := Lib.hid KS.out.size
          clear HR HOW HBW
          go_wp2_with (at_builtin; go_must (refine wpList_append_bytes _ rfl (.tmp 31) (.tmp 32) 25 rfl w.heap.size 5 i0 Tryd.underlying25 hi0 hz0 hz1 hz2 _ (encL (l.take j)) Z rfl OV.out _ _ _ rfl SV.out (by have := HL.out; have := TL.out; rw [List.length_append]; omega) BA.out ?_))
          intro v6 w6 a6 g6 _
          have a7 : w6.ownsRow w.heap.size 5 1 v6 (encL (l.take j) ++ Z).length (b8s (encL (l.take j) ++ Z)) := by rw [List.length_append]; exact a6
          rw [HZ.out, ← TK.out] at a7
          have R : Hid (w6.ownsRow w.heap.size 5 1 v6 (encL (l.take (j + 1))).length (b8s (encL (l.take (j + 1)))) ∧ Still w w6) := Lib.hid ⟨a7, Still.of_below (KS.out.below.grown g6 BA.out (fun i hi => (OV.out.lt i hi).1))⟩
          obtain ⟨A6, n6, c6, rfl⟩ := owns_form a7
          clear a6 a7 g6 OV SV KS BA
          go_wp2
          go_roundw
          case rel => exact ⟨j + 1, by omega, by go_num, R⟩
          case measure => simp [intOf]; omega
    · have R := hrel.out
      rw [List.take_of_length_le (by omega)] at R
      have HR := Lib.hid R
      obtain ⟨A6, n6, c6, rfl⟩ := owns_form R.1
      clear R hrel
      go_wp2
      go_ret
      exact ⟨_, rfl, HR.out⟩
end Go.Proofs.YtkhgaolaaiekjaaDoor
