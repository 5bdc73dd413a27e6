/-
  Package entry: mustEntry, mustRow.
-/
import Derived.Test.YtkhgaolaaiekjaaDoorEntK
import Derived.Test.YtkhgaolaaiekjaaDoorCaughtA
import Derived.Test.YtkhgaolaaiekjaaDoorTextC
import Derived.Test.YtkhgaolaaiekjaaDoorDrawn
namespace Go.Proofs.YtkhgaolaaiekjaaDoor
open Go.RowKit Go.Lib
set_option maxRecDepth 100000

theorem Tabs.stay {w w' : World} (h : Tabs w) (k : Still w w') : Tabs w' := h.below k.below
set_option maxHeartbeats 1000000 in
theorem mustentry_any (x : En) (w : World) (hT : Tabs w) (hx : x.n.length ≤ 1000000) : Calls Tryd.prog 27 #[.agg #[.string (strOf x.n), .int .u32 (x.i : Int)]] w fun e w' => e = endsIn (bad1 x) ∧ Still w w' := by
  have HB := Has.new w 38 #[.string (strOf x.n), .int .u32 (x.i : Int)]
  have KB : Hid (Still w (w.alloc (.cells #[.string (strOf x.n), .int .u32 (x.i : Int)] 38))) := Lib.hid ((Still.refl w).alloc _)
  have CN := Lib.hid (name_any x.n _ (hT.stay KB.out) (by omega))
  have b0 := HB.cell 0
  simp only [List.getElem?_toArray, List.getElem?_cons_zero] at b0
  by_cases hn : nameOf x.n = 0
  · by_cases hi : x.i = 0
    · have hb : bad1 x = 1 := by unfold bad1; rw [if_neg (by simp [hn]), if_pos hi]
      have K2 : Hid (∀ w', Still (w.alloc (.cells #[.string (strOf x.n), .int .u32 (x.i : Int)] 38)) w' → w'.cell? ⟨w.heap.size, 1, none⟩ = some (.int .u32 0)) := Lib.hid (fun w' k => by
        rw [(k.has HB).cell 1, hi]
        rfl)
      rw [hb, endsIn_no (by decide)]
      rw [hn] at CN
      clear hb hT hi hn hx
      go_enter Tryd.func27, Tryd.ntmps27
      go_wp2_with fail
      refine CN.out.mono ?_
      rintro e w1 ⟨rfl, k1⟩
      have k1' := Still.of_below k1
      have z1 := K2.out _ k1'
      have R := Lib.hid (KB.out.trans k1')
      clear k1 k1' K2 CN HB
      go_wp2_with fail
      refine (must_yes 0 _).mono ?_
      rintro e w' ⟨rfl, rfl⟩
      go_wp2_with fail
      refine (must_no 1 _).mono ?_
      rintro e w' ⟨rfl, rfl⟩
      go_wp2
      exact ⟨rfl, rfl, R.out⟩
    · have hb : bad1 x = 0 := bad1_zero.2 ⟨hn, hi⟩
      have K2 : Hid (∀ w', Still (w.alloc (.cells #[.string (strOf x.n), .int .u32 (x.i : Int)] 38)) w' → w'.cell? ⟨w.heap.size, 1, none⟩ = some (.int .u32 (x.i : Int))) := Lib.hid (fun w' k => by
        rw [(k.has HB).cell 1]
        rfl)
      have d1 : ((x.i : Int) != 0) = true := by simpa using hi
      rw [hb, endsIn_yes]
      rw [hn] at CN
      clear hb hT hi hn hx
      go_enter Tryd.func27, Tryd.ntmps27
      go_wp2_with fail
      refine CN.out.mono ?_
      rintro e w1 ⟨rfl, k1⟩
      have k1' := Still.of_below k1
      have z1 := K2.out _ k1'
      have R := Lib.hid (KB.out.trans k1')
      clear k1 k1' K2 CN HB
      go_wp2_with fail
      refine (must_yes 0 _).mono ?_
      rintro e w' ⟨rfl, rfl⟩
      go_wp2_with fail
      refine (must_yes 1 _).mono ?_
      rintro e w' ⟨rfl, rfl⟩
      go_wp2
      go_end0
      exact ⟨rfl, R.out⟩
  · have hb : bad1 x = nameOf x.n := if_pos hn
    rw [hb, endsIn_no hn]
    have d1 : (nameOf x.n == 0) = false := by simpa using hn
    generalize nameOf x.n = N at *
    clear hb hT hn hx
    go_enter Tryd.func27, Tryd.ntmps27
    go_wp2_with fail
    refine CN.out.mono ?_
    rintro e w1 ⟨rfl, k1⟩
    have k1' := Still.of_below k1
    have R := Lib.hid (KB.out.trans k1')
    clear k1 k1' CN HB
    go_wp2_with fail
    refine (must_no N _).mono ?_
    rintro e w' ⟨rfl, rfl⟩
    go_wp2
    exact ⟨rfl, rfl, R.out⟩

/-- What is wrong of the entry at a place, given those ahead. -/
theorem chk_step {l : List En} {j : Nat} (h : j < l.length) (hp : chkE l = chkP (prevE l j) (l.drop j)) :
    (bad1 l[j] ≠ 0 → chkE l = bad1 l[j]) ∧ (bad1 l[j] = 0 → j = 0 → chkE l = chkP (prevE l (j + 1)) (l.drop (j + 1))) ∧
    (bad1 l[j] = 0 → ∀ h0 : j - 1 < l.length, j ≠ 0 → (Ahd (l[j - 1]).n (l[j]).n → chkE l = chkP (prevE l (j + 1)) (l.drop (j + 1))) ∧ (¬ Ahd (l[j - 1]).n (l[j]).n → chkE l = 7)) := by
  have hd : l.drop j = l[j] :: l.drop (j + 1) := List.drop_eq_getElem_cons h
  have hn : prevE l (j + 1) = some l[j] := by
    unfold prevE
    rw [if_neg (by omega), Nat.add_sub_cancel, List.getElem?_eq_getElem h]
  refine ⟨fun hb => ?_, fun hb h0 => ?_, fun hb h1 h0 => ?_⟩
  · rw [hp, hd]
    cases hv : prevE l j <;> (unfold chkP; rw [if_pos hb])
  · rw [hp, hn, hd]
    subst h0
    unfold prevE
    rw [if_pos rfl]
    exact if_neg (by simp [hb])
  · have hv : prevE l j = some l[j - 1] := by
      unfold prevE
      rw [if_neg h0, List.getElem?_eq_getElem h1]
    constructor
    · intro ha
      rw [hp, hn, hd, hv]
      show (if bad1 l[j] ≠ 0 then bad1 l[j] else if Ahd (l[j - 1]).n (l[j]).n then chkP (some l[j]) (l.drop (j + 1)) else 7) = _
      rw [if_neg (by simp [hb]), if_pos ha]
    · intro ha
      rw [hp, hd, hv]
      show (if bad1 l[j] ≠ 0 then bad1 l[j] else if Ahd (l[j - 1]).n (l[j]).n then chkP (some l[j]) (l.drop (j + 1)) else 7) = _
      rw [if_neg (by simp [hb]), if_neg ha]
set_option maxHeartbeats 4000000 in
theorem mustrow_any (E : Nat → Prop) (v : Value) (l : List En) (w : World) (hT : Tabs w) (hl : l.length ≤ 1000000) (hx : ∀ x ∈ l, x.n.length ≤ 1000000) (h : EsIs w E v l) : Calls Tryd.prog 21 #[v] w fun e w' => e = endsIn (chkE l) ∧ Still w w' := by
  obtain ⟨A, c, rfl⟩ := h.form
  have HA : Hid (∀ wr, Still w wr → EsIs wr E (.slice A l.length c) l) := Lib.hid (fun wr k => EsIs.only h k (fun _ _ _ h => h))
  have HX := Lib.hid hx
  have HT := Lib.hid hT
  clear h hx hT
  go_enter Tryd.func21, Tryd.ntmps21
  go_wp2
  go_loopw [6, 2, 3] (fun i _ _ wr => ∃ j : Nat, j ≤ l.length ∧ i = .int .i64 j ∧ Hid (chkE l = chkP (prevE l j) (l.drop j)) ∧ Hid (Still w wr)) (fun i _ _ _ => l.length - (intOf i).toNat)
  case atStart => exact ⟨0, Nat.zero_le _, rfl, rfl, Lib.hid (Still.refl w)⟩
  case round =>
    obtain ⟨j, hj, rfl, hrel, hst⟩ := hrel
    by_cases hlt : j < l.length
    · obtain ⟨q1, q2, q3⟩ := chk_step hlt hrel.out
      obtain ⟨V0, hV0⟩ : ∃ V0, V0 = wr := ⟨_, rfl⟩
      subst hV0
      have HA0 := Lib.hid HA.out
      obtain ⟨ad, c', e, z0, z1⟩ := EsIs.at (HA.out _ hst.out) hlt
      injection e with e1 _ e2
      subst e1 e2
      have CM0 := fun W (k : Still w W) => mustentry_any l[j] W (HT.out.stay k) (HX.out _ (List.getElem_mem hlt))
      have i0 : (0 : Int) ≤ (j : Int) := by omega
      have i1 : (j : Int) < (l.length : Int) := by omega
      obtain ⟨x, hxe⟩ : ∃ x, x = l[j] := ⟨_, rfl⟩
      rw [← hxe] at z0 z1 q1 q2 CM0
      have Q3 : Hid (bad1 x = 0 → ∀ h0 : j - 1 < l.length, j ≠ 0 → (Ahd (l[j - 1]).n x.n → chkE l = chkP (prevE l (j + 1)) (l.drop (j + 1))) ∧ (¬ Ahd (l[j - 1]).n x.n → chkE l = 7)) := Lib.hid (by rw [hxe]; exact q3)
      have HBX := Has.new V0 38 #[.string (strOf x.n), .int .u32 (x.i : Int)]
      obtain ⟨W1, hW1⟩ : ∃ W1, W1 = V0.alloc (.cells #[.string (strOf x.n), .int .u32 (x.i : Int)] 38) := ⟨_, rfl⟩
      have K1 : Hid (Still w W1) := Lib.hid (by rw [hW1]; exact hst.out.alloc _)
      have CM := Lib.hid (CM0 W1 K1.out)
      rw [← hW1] at HBX
      have HB := Lib.hid HBX
      have HW1 := Lib.hid hW1
      rw [hW1] at CM
      have z2 := hW1
      clear z2
      by_cases hb : bad1 x = 0
      · rw [hb, endsIn_yes] at CM
        by_cases h0 : j = 0
        · have R := Lib.hid (q2 hb h0)
          have dj : ((j : Int) == 0) = true := by simpa using h0
          clear q1 q2 q3 CM0 HBX hxe hrel Q3 hb h0 hW1 HA0 HA HX HT
          go_wp2_with fail
          refine CM.out.mono ?_
          rintro e w2 ⟨rfl, k2⟩
          rw [← HW1.out] at k2
          have K2 := Lib.hid (K1.out.trans k2)
          clear k2 CM K1 HB z0 z1
          go_wp2_with fail
          refine wp_region_held_drew (S := fun _ => True) (by kernel_rfl) ?_ (fun hHeld => ?_)
          · exact trivial
          refine takeH (i := 0) (d := 13) (v := ?_) (by kernel_rfl) (by kernel_rfl) (by kernel_rfl) rfl (fun _ _ _ h => h) (by rfl) ?_ hHeld ?_
          rotate_left
          · intro o ho w hSw
            cases ho
            go_simp
            try with_reducible rfl
          simp only [Act.put, List.setIfInBounds_toArray, List.set_cons_zero, List.set_cons_succ]
          refine takeH (i := 1) (d := 14) (v := ?_) (by kernel_rfl) (by kernel_rfl) (by kernel_rfl) rfl (fun _ _ _ h => h) (by rfl) ?_ hHeld ?_
          rotate_left
          · intro o ho w hSw
            cases ho
            go_simp
            try with_reducible rfl
          simp only [Act.put, List.setIfInBounds_toArray, List.set_cons_zero, List.set_cons_succ]
          refine takeH (i := 2) (d := 15) (v := ?_) (by kernel_rfl) (by kernel_rfl) (by kernel_rfl) rfl (fun _ _ _ h => h) (by rfl) ?_ hHeld ?_
          rotate_left
          · intro o ho w hSw
            cases ho
            go_simp
            try with_reducible rfl
          simp only [Act.put, List.setIfInBounds_toArray, List.set_cons_zero, List.set_cons_succ]
          refine skipH (i := 3) (d := 16) (by kernel_rfl) (by kernel_rfl) (by kernel_rfl) rfl (fun _ _ _ h => h) (by rfl) hHeld ?_
          simp only [Act.put, List.setIfInBounds_toArray, List.set_cons_zero, List.set_cons_succ]
          refine skipH (i := 4) (d := 17) (by kernel_rfl) (by kernel_rfl) (by kernel_rfl) rfl (fun _ _ _ h => h) (by rfl) hHeld ?_
          simp only [Act.put, List.setIfInBounds_toArray, List.set_cons_zero, List.set_cons_succ]
          refine skipH (i := 5) (d := 18) (by kernel_rfl) (by kernel_rfl) (by kernel_rfl) rfl (fun _ _ _ h => h) (by rfl) hHeld ?_
          simp only [Act.put, List.setIfInBounds_toArray, List.set_cons_zero, List.set_cons_succ]
          refine skipH (i := 6) (d := 19) (by kernel_rfl) (by kernel_rfl) (by kernel_rfl) rfl (fun _ _ _ h => h) (by rfl) hHeld ?_
          simp only [Act.put, List.setIfInBounds_toArray, List.set_cons_zero, List.set_cons_succ]
          refine skipH (i := 7) (d := 20) (by kernel_rfl) (by kernel_rfl) (by kernel_rfl) rfl (fun _ _ _ h => h) (by rfl) hHeld ?_
          simp only [Act.put, List.setIfInBounds_toArray, List.set_cons_zero, List.set_cons_succ]
          refine skipH (i := 8) (d := 21) (by kernel_rfl) (by kernel_rfl) (by kernel_rfl) rfl (fun _ _ _ h => h) (by rfl) hHeld ?_
          simp only [Act.put, List.setIfInBounds_toArray, List.set_cons_zero, List.set_cons_succ]
          refine skipH (i := 9) (d := 22) (by kernel_rfl) (by kernel_rfl) (by kernel_rfl) rfl (fun _ _ _ h => h) (by rfl) hHeld ?_
          simp only [Act.put, List.setIfInBounds_toArray, List.set_cons_zero, List.set_cons_succ]
          refine skipH (i := 10) (d := 23) (by kernel_rfl) (by kernel_rfl) (by kernel_rfl) rfl (fun _ _ _ h => h) (by rfl) hHeld ?_
          simp only [Act.put, List.setIfInBounds_toArray, List.set_cons_zero, List.set_cons_succ]
          refine skipH (i := 11) (d := 24) (by kernel_rfl) (by kernel_rfl) (by kernel_rfl) rfl (fun _ _ _ h => h) (by rfl) hHeld ?_
          simp only [Act.put, List.setIfInBounds_toArray, List.set_cons_zero, List.set_cons_succ]
          refine takeH (i := 12) (d := 25) (v := ?_) (by kernel_rfl) (by kernel_rfl) (by kernel_rfl) rfl (fun _ _ _ h => h) (by rfl) ?_ hHeld ?_
          rotate_left
          · intro o ho w hSw
            cases ho
            go_simp
            try with_reducible rfl
          simp only [Act.put, List.setIfInBounds_toArray, List.set_cons_zero, List.set_cons_succ]
          refine wpAnyH_ready (rs := [13]) (by kernel_rfl) (by simp) ?_
          refine AllReadyH.cons rfl (fun K hK => ?_) AllReadyH.nil
          go_simp
          go_at_call 29
          with_reducible refine (must_yes 7 _).mono ?_
          rintro e w' ⟨rfl, rfl⟩
          try go_wp2_with fail
          refine hK.out _ _ ?_ (fun hHeld => ?_)
          · exact hHeld
          clear hK K
          refine wpAnyH_done (by kernel_rfl) ?_ _
          go_wp2
          go_roundw
          case rel => exact ⟨j + 1, by omega, by go_num, R, Lib.hid (K2.out.drew)⟩
          case measure => simp [intOf]; omega
        · have hj1 : j - 1 < l.length := by omega
          have Q4 := Q3.out hb hj1 h0
          obtain ⟨p, hp⟩ : ∃ p, p = l[j - 1] := ⟨_, rfl⟩
          rw [← hp] at Q4
          have dj : ((j : Int) == 0) = false := by simpa using h0
          have i2 : (0 : Int) ≤ (j : Int) - 1 := by omega
          have i3 : (j : Int) - 1 < (l.length : Int) := by omega
          have tn : ((j : Int) - 1).toNat = j - 1 := by omega
          have i4 : (1 : Int) ≤ (j : Int) := by omega
          have wj : IntKind.i64.wrap ((j : Int) - 1) = (j : Int) - 1 := IntWalk.i64_in _ (by omega)
          have YY : Hid (∀ w2, Still w w2 → w2.cell? (ad.add ((j - 1) * 2)) = some (.string (strOf p.n))) := Lib.hid (fun w2 k => by
            obtain ⟨a2, c2, e2, y0, y1⟩ := EsIs.at (HA.out _ k) hj1
            injection e2 with e3 _ e4
            injection e3 with e3
            subst e3
            rw [hp]
            exact y0)
          by_cases ha : Ahd p.n x.n
          · have R := Lib.hid (Q4.1 ha)
            have hB : Op.bytesLess (strOf p.n).toList (strOf x.n).toList = true := by rw [strOf_list, strOf_list]; exact ha
            clear q1 q2 q3 CM0 HBX hxe hrel Q3 hb h0 Q4 hp ha hW1 HA0 HA HX HT
            go_wp2_with fail
            refine CM.out.mono ?_
            rintro e w2 ⟨rfl, k2⟩
            rw [← HW1.out] at k2
            have K2 := Lib.hid (K1.out.trans k2)
            have y0 := YY.out _ K2.out
            have x0 := (k2.has HB.out).cell 0
            simp only [List.getElem?_toArray, List.getElem?_cons_zero] at x0
            clear k2 CM K1 HB z0 z1 YY
            go_wp2_with fail
            refine wp_region_held_drew (S := fun w' => w'.cell? (ad.add ((j - 1) * 2)) = some (.string (strOf p.n)) ∧ w'.cell? ⟨V0.heap.size, 0, none⟩ = some (.string (strOf x.n))) (by kernel_rfl) ?_ (fun hHeld => ?_)
            · exact ⟨y0, x0⟩
            refine takeH (i := 0) (d := 13) (v := ?_) (by kernel_rfl) (by kernel_rfl) (by kernel_rfl) rfl (fun _ _ _ h => h) (by rfl) ?_ hHeld ?_
            rotate_left
            · intro o ho w hSw
              cases ho
              go_simp
              try with_reducible rfl
            simp only [Act.put, List.setIfInBounds_toArray, List.set_cons_zero, List.set_cons_succ]
            refine takeH (i := 1) (d := 14) (v := ?_) (by kernel_rfl) (by kernel_rfl) (by kernel_rfl) rfl (fun _ _ _ h => h) (by rfl) ?_ hHeld ?_
            rotate_left
            · intro o ho w hSw
              cases ho
              go_simp
              try with_reducible rfl
            simp only [Act.put, List.setIfInBounds_toArray, List.set_cons_zero, List.set_cons_succ]
            refine takeH (i := 2) (d := 15) (v := ?_) (by kernel_rfl) (by kernel_rfl) (by kernel_rfl) rfl (fun _ _ _ h => h) (by rfl) ?_ hHeld ?_
            rotate_left
            · intro o ho w hSw
              cases ho
              go_simp
              try with_reducible rfl
            simp only [Act.put, List.setIfInBounds_toArray, List.set_cons_zero, List.set_cons_succ]
            refine takeH (i := 3) (d := 16) (v := ?_) (by kernel_rfl) (by kernel_rfl) (by kernel_rfl) rfl (fun _ _ _ h => h) (by rfl) ?_ hHeld ?_
            rotate_left
            · intro o ho w hSw
              cases ho
              go_simp
              try with_reducible rfl
            simp only [Act.put, List.setIfInBounds_toArray, List.set_cons_zero, List.set_cons_succ]
            refine takeH (i := 4) (d := 17) (v := ?_) (by kernel_rfl) (by kernel_rfl) (by kernel_rfl) rfl (fun _ _ _ h => h) (by rfl) ?_ hHeld ?_
            rotate_left
            · intro o ho w hSw
              cases ho
              go_simp
              try with_reducible rfl
            simp only [Act.put, List.setIfInBounds_toArray, List.set_cons_zero, List.set_cons_succ]
            refine takeH (i := 5) (d := 18) (v := ?_) (by kernel_rfl) (by kernel_rfl) (by kernel_rfl) rfl (fun _ _ _ h => h) (by rfl) ?_ hHeld ?_
            rotate_left
            · intro o ho w hSw
              cases ho
              go_simp
              try with_reducible rfl
            simp only [Act.put, List.setIfInBounds_toArray, List.set_cons_zero, List.set_cons_succ]
            refine takeH (i := 6) (d := 19) (v := ?_) (by kernel_rfl) (by kernel_rfl) (by kernel_rfl) rfl (fun _ _ _ h => h) (by rfl) ?_ hHeld ?_
            rotate_left
            · intro o ho w hSw
              cases ho
              go_simp
              try with_reducible rfl
            simp only [Act.put, List.setIfInBounds_toArray, List.set_cons_zero, List.set_cons_succ]
            refine takeH (i := 7) (d := 20) (v := ?_) (by kernel_rfl) (by kernel_rfl) (by kernel_rfl) rfl (fun _ _ _ h => h) (by rfl) ?_ hHeld ?_
            rotate_left
            · intro o ho w hSw
              cases ho
              go_simp
              try with_reducible rfl
            simp only [Act.put, List.setIfInBounds_toArray, List.set_cons_zero, List.set_cons_succ]
            refine takeH (i := 8) (d := 21) (v := ?_) (by kernel_rfl) (by kernel_rfl) (by kernel_rfl) rfl (fun _ _ _ h => h) (by rfl) ?_ hHeld ?_
            rotate_left
            · intro o ho w hSw
              cases ho
              go_simp
              try with_reducible rfl
            simp only [Act.put, List.setIfInBounds_toArray, List.set_cons_zero, List.set_cons_succ]
            refine takeH (i := 9) (d := 22) (v := ?_) (by kernel_rfl) (by kernel_rfl) (by kernel_rfl) rfl (fun _ _ _ h => h) (by rfl) ?_ hHeld ?_
            rotate_left
            · intro o ho w hSw
              cases ho
              go_simp
              try with_reducible rfl
            simp only [Act.put, List.setIfInBounds_toArray, List.set_cons_zero, List.set_cons_succ]
            refine takeH (i := 10) (d := 23) (v := ?_) (by kernel_rfl) (by kernel_rfl) (by kernel_rfl) rfl (fun _ _ _ h => h) (by rfl) ?_ hHeld ?_
            rotate_left
            · intro o ho w hSw
              cases ho
              go_simp
              try with_reducible rfl
            simp only [Act.put, List.setIfInBounds_toArray, List.set_cons_zero, List.set_cons_succ]
            refine takeH (i := 11) (d := 24) (v := ?_) (by kernel_rfl) (by kernel_rfl) (by kernel_rfl) rfl (fun _ _ _ h => h) (by rfl) ?_ hHeld ?_
            rotate_left
            · intro o ho w hSw
              cases ho
              go_simp
              try with_reducible rfl
            simp only [Act.put, List.setIfInBounds_toArray, List.set_cons_zero, List.set_cons_succ]
            refine takeH (i := 12) (d := 25) (v := ?_) (by kernel_rfl) (by kernel_rfl) (by kernel_rfl) rfl (fun _ _ _ h => h) (by rfl) ?_ hHeld ?_
            rotate_left
            · intro o ho w hSw
              cases ho
              go_simp
              try with_reducible rfl
            simp only [Act.put, List.setIfInBounds_toArray, List.set_cons_zero, List.set_cons_succ]
            refine wpAnyH_ready (rs := [13]) (by kernel_rfl) (by simp) ?_
            refine AllReadyH.cons rfl (fun K hK => ?_) AllReadyH.nil
            go_simp
            go_at_call 29
            with_reducible refine (must_yes 7 _).mono ?_
            rintro e w' ⟨rfl, rfl⟩
            try go_wp2_with fail
            refine hK.out _ _ ?_ (fun hHeld => ?_)
            · exact hHeld
            clear hK K
            refine wpAnyH_done (by kernel_rfl) ?_ _
            go_wp2
            go_roundw
            case rel => exact ⟨j + 1, by omega, by go_num, R, Lib.hid (K2.out.drew)⟩
            case measure => simp [intOf]; omega
          · have R := Lib.hid (Q4.2 ha)
            have hB : Op.bytesLess (strOf p.n).toList (strOf x.n).toList = false := by rw [strOf_list, strOf_list]; exact Bool.eq_false_iff.2 ha
            clear q1 q2 q3 CM0 HBX hxe hrel Q3 hb h0 Q4 hp ha hW1 HA0 HA HX HT
            go_wp2_with fail
            refine CM.out.mono ?_
            rintro e w2 ⟨rfl, k2⟩
            rw [← HW1.out] at k2
            have K2 := Lib.hid (K1.out.trans k2)
            have y0 := YY.out _ K2.out
            have x0 := (k2.has HB.out).cell 0
            simp only [List.getElem?_toArray, List.getElem?_cons_zero] at x0
            clear k2 CM K1 HB z0 z1 YY
            go_wp2_with fail
            refine wp_region_held_drew (S := fun w' => w'.cell? (ad.add ((j - 1) * 2)) = some (.string (strOf p.n)) ∧ w'.cell? ⟨V0.heap.size, 0, none⟩ = some (.string (strOf x.n))) (by kernel_rfl) ?_ (fun hHeld => ?_)
            · exact ⟨y0, x0⟩
            refine takeH (i := 0) (d := 13) (v := ?_) (by kernel_rfl) (by kernel_rfl) (by kernel_rfl) rfl (fun _ _ _ h => h) (by rfl) ?_ hHeld ?_
            rotate_left
            · intro o ho w hSw
              cases ho
              go_simp
              try with_reducible rfl
            simp only [Act.put, List.setIfInBounds_toArray, List.set_cons_zero, List.set_cons_succ]
            refine takeH (i := 1) (d := 14) (v := ?_) (by kernel_rfl) (by kernel_rfl) (by kernel_rfl) rfl (fun _ _ _ h => h) (by rfl) ?_ hHeld ?_
            rotate_left
            · intro o ho w hSw
              cases ho
              go_simp
              try with_reducible rfl
            simp only [Act.put, List.setIfInBounds_toArray, List.set_cons_zero, List.set_cons_succ]
            refine takeH (i := 2) (d := 15) (v := ?_) (by kernel_rfl) (by kernel_rfl) (by kernel_rfl) rfl (fun _ _ _ h => h) (by rfl) ?_ hHeld ?_
            rotate_left
            · intro o ho w hSw
              cases ho
              go_simp
              try with_reducible rfl
            simp only [Act.put, List.setIfInBounds_toArray, List.set_cons_zero, List.set_cons_succ]
            refine takeH (i := 3) (d := 16) (v := ?_) (by kernel_rfl) (by kernel_rfl) (by kernel_rfl) rfl (fun _ _ _ h => h) (by rfl) ?_ hHeld ?_
            rotate_left
            · intro o ho w hSw
              cases ho
              go_simp
              try with_reducible rfl
            simp only [Act.put, List.setIfInBounds_toArray, List.set_cons_zero, List.set_cons_succ]
            refine takeH (i := 4) (d := 17) (v := ?_) (by kernel_rfl) (by kernel_rfl) (by kernel_rfl) rfl (fun _ _ _ h => h) (by rfl) ?_ hHeld ?_
            rotate_left
            · intro o ho w hSw
              cases ho
              go_simp
              try with_reducible rfl
            simp only [Act.put, List.setIfInBounds_toArray, List.set_cons_zero, List.set_cons_succ]
            refine takeH (i := 5) (d := 18) (v := ?_) (by kernel_rfl) (by kernel_rfl) (by kernel_rfl) rfl (fun _ _ _ h => h) (by rfl) ?_ hHeld ?_
            rotate_left
            · intro o ho w hSw
              cases ho
              go_simp
              try with_reducible rfl
            simp only [Act.put, List.setIfInBounds_toArray, List.set_cons_zero, List.set_cons_succ]
            refine takeH (i := 6) (d := 19) (v := ?_) (by kernel_rfl) (by kernel_rfl) (by kernel_rfl) rfl (fun _ _ _ h => h) (by rfl) ?_ hHeld ?_
            rotate_left
            · intro o ho w hSw
              cases ho
              go_simp
              try with_reducible rfl
            simp only [Act.put, List.setIfInBounds_toArray, List.set_cons_zero, List.set_cons_succ]
            refine takeH (i := 7) (d := 20) (v := ?_) (by kernel_rfl) (by kernel_rfl) (by kernel_rfl) rfl (fun _ _ _ h => h) (by rfl) ?_ hHeld ?_
            rotate_left
            · intro o ho w hSw
              cases ho
              go_simp
              try with_reducible rfl
            simp only [Act.put, List.setIfInBounds_toArray, List.set_cons_zero, List.set_cons_succ]
            refine takeH (i := 8) (d := 21) (v := ?_) (by kernel_rfl) (by kernel_rfl) (by kernel_rfl) rfl (fun _ _ _ h => h) (by rfl) ?_ hHeld ?_
            rotate_left
            · intro o ho w hSw
              cases ho
              go_simp
              try with_reducible rfl
            simp only [Act.put, List.setIfInBounds_toArray, List.set_cons_zero, List.set_cons_succ]
            refine takeH (i := 9) (d := 22) (v := ?_) (by kernel_rfl) (by kernel_rfl) (by kernel_rfl) rfl (fun _ _ _ h => h) (by rfl) ?_ hHeld ?_
            rotate_left
            · intro o ho w hSw
              cases ho
              go_simp
              try with_reducible rfl
            simp only [Act.put, List.setIfInBounds_toArray, List.set_cons_zero, List.set_cons_succ]
            refine takeH (i := 10) (d := 23) (v := ?_) (by kernel_rfl) (by kernel_rfl) (by kernel_rfl) rfl (fun _ _ _ h => h) (by rfl) ?_ hHeld ?_
            rotate_left
            · intro o ho w hSw
              cases ho
              go_simp
              try with_reducible rfl
            simp only [Act.put, List.setIfInBounds_toArray, List.set_cons_zero, List.set_cons_succ]
            refine takeH (i := 11) (d := 24) (v := ?_) (by kernel_rfl) (by kernel_rfl) (by kernel_rfl) rfl (fun _ _ _ h => h) (by rfl) ?_ hHeld ?_
            rotate_left
            · intro o ho w hSw
              cases ho
              go_simp
              try with_reducible rfl
            simp only [Act.put, List.setIfInBounds_toArray, List.set_cons_zero, List.set_cons_succ]
            refine takeH (i := 12) (d := 25) (v := ?_) (by kernel_rfl) (by kernel_rfl) (by kernel_rfl) rfl (fun _ _ _ h => h) (by rfl) ?_ hHeld ?_
            rotate_left
            · intro o ho w hSw
              cases ho
              go_simp
              try with_reducible rfl
            simp only [Act.put, List.setIfInBounds_toArray, List.set_cons_zero, List.set_cons_succ]
            refine wpAnyH_ready (rs := [13]) (by kernel_rfl) (by simp) ?_
            refine AllReadyH.cons rfl (fun K hK => ?_) AllReadyH.nil
            go_simp
            go_at_call 29
            with_reducible refine (must_no 7 _).mono ?_
            rintro e w' ⟨rfl, rfl⟩
            go_wp2
            exact ⟨rfl, by rw [R.out, endsIn_no (by decide)], K2.out.drew⟩
      · rw [endsIn_no hb] at CM
        have R := Lib.hid (q1 hb)
        have E : Hid (Ending.panicked [{ v := .iface 26 (.int .i64 (bad1 x)), recovered := false }] = endsIn (chkE l)) := Lib.hid (by rw [R.out, endsIn_no hb])
        generalize bad1 x = N at *
        clear q2 q3 CM0 HBX hxe hrel Q3 HB q1 hW1 HA0 HA HX HT hb R
        go_wp2_with fail
        refine CM.out.mono ?_
        rintro e w2 ⟨rfl, k2⟩
        rw [← HW1.out] at k2
        have K2 := Lib.hid (K1.out.trans k2)
        clear k2 CM K1 z0 z1
        go_wp2
        exact ⟨rfl, E.out, K2.out⟩
    · have R : Hid (chkE l = 0) := Lib.hid (by
        rw [hrel.out, List.drop_of_length_le (by omega)]
        cases prevE l j <;> rfl)
      clear hrel
      go_wp2
      go_end0
      exact ⟨by rw [R.out, endsIn_yes], hst.out⟩
end Go.Proofs.YtkhgaolaaiekjaaDoor
