/-
  The second reading's In at whatever place: Take, Raw, Qid, Text, Left, in the words of the program's In.
-/
import Derived.Test.YtepiifbleoimkaaGreatDoorPackText
import Derived.Test.YtepiifbleoimkaaGreatDoorRefRaw
import Derived.Test.YtepiifbleoimkaaGreatDoorPackNum
namespace Go.Proofs.YtepiifbleoimkaaGreatDoor
open Go.RowKit Go.Lib
set_option maxRecDepth 100000

/-- The second reading's In, as an In with r left and error er. -/
def RV (w : World) (H g : Nat) (bs r : List UInt8) (er : Int) : Prop := ∃ k, RefAt w H g bs k er ∧ (er = 0 → r = bs.drop k)
theorem RV.only {a b : World} {S : Nat → Prop} {H g : Nat} {bs r : List UInt8} {er : Int} (h : RV a H g bs r er) (q : Only S a b) (hg : ¬ S g) (hn : ∀ i, i < H → ¬ S i) : RV b H g bs r er := by
  obtain ⟨k, h1, h2⟩ := h
  exact ⟨k, h1.only q hg hn, h2⟩
theorem RV.lt {w : World} {H g : Nat} {bs r : List UInt8} {er : Int} (h : RV w H g bs r er) : H ≤ g ∧ g < w.heap.size := by
  obtain ⟨k, h1, _⟩ := h
  have := h1.lt
  obtain ⟨A, c, _, _, _, _, h5, _⟩ := h1
  exact ⟨h5, this⟩
theorem RV.bad {w : World} {H g : Nat} {bs r : List UInt8} {er : Int} (h : RV w H g bs r er) : w.cell? ⟨g, 2, none⟩ = some (.int .i64 er) := by
  obtain ⟨k, ⟨A, c, h1, _⟩, _⟩ := h
  simpa using h1.cell 2

theorem view_take {bs r : List UInt8} {k : Nat} {er : Int} (n : Int) (h : er = 0 → r = bs.drop k) :
    (refT n bs k er).1 = (takeSt n r er).1 ∧ (refT n bs k er).2.2 = (takeSt n r er).2.2 ∧ ((takeSt n r er).2.2 = 0 → (takeSt n r er).2.1 = bs.drop (refT n bs k er).2.1) := by
  by_cases h0 : er = 0
  · subst h0
    have hr := h rfl
    subst hr
    by_cases h1 : n < 1 ∨ 8 < n
    · simp [refT, takeSt, h1]
    · by_cases h2 : (bs.length : Int) - k < n
      · have h3 : ((bs.drop k).length : Int) < n := by rw [List.length_drop]; omega
        rw [refT, takeSt, if_neg (by simp), if_neg h1, if_pos h2, if_neg (by simp), if_neg h1, if_pos h3]
        exact ⟨rfl, rfl, fun h => by simp at h⟩
      · have h3 : ¬ ((bs.drop k).length : Int) < n := by rw [List.length_drop]; omega
        rw [refT, takeSt, if_neg (by simp), if_neg h1, if_neg h2, if_neg (by simp), if_neg h1, if_neg h3]
        exact ⟨rfl, rfl, fun _ => List.drop_drop⟩
  · rw [refT, takeSt, if_pos h0, if_pos h0]
    exact ⟨rfl, rfl, fun h => absurd h h0⟩
theorem view_raw {bs r : List UInt8} {k : Nat} {er : Int} (n : Int) (hk : k ≤ bs.length) (h : er = 0 → r = bs.drop k) :
    (refR n bs k er).1 = (rawSt n r er).1 ∧ (refR n bs k er).2.2 = (rawSt n r er).2.2 ∧ ((rawSt n r er).2.2 = 0 → (rawSt n r er).2.1 = bs.drop (refR n bs k er).2.1) := by
  by_cases h0 : er = 0
  · subst h0
    have hr := h rfl
    subst hr
    by_cases h1 : n < 0
    · simp [refR, rawSt, h1]
    · by_cases h2 : (bs.length : Int) - k < n
      · have h3 : ((bs.drop k).length : Int) < n := by rw [List.length_drop]; omega
        rw [refR, rawSt, if_neg (by simp), if_neg h1, if_pos h2, if_neg (by simp), if_neg h1, if_pos h3]
        exact ⟨rfl, rfl, fun h => by simp at h⟩
      · have h3 : ¬ ((bs.drop k).length : Int) < n := by rw [List.length_drop]; omega
        rw [refR, rawSt, if_neg (by simp), if_neg h1, if_neg h2, if_neg (by simp), if_neg h1, if_neg h3]
        exact ⟨rfl, rfl, fun _ => List.drop_drop⟩
  · rw [refR, rawSt, if_pos h0, if_pos h0]
    exact ⟨rfl, rfl, fun h => absurd h h0⟩

theorem rv_take (H g : Nat) (n : Int) (bs r : List UInt8) (er : Int) (w : World) (h : RV w H g bs r er) :
    Calls Tryz.prog 18 #[.pointer (some ⟨g, 0, none⟩), .int .i64 n] w fun e w' => e = .returned (.int .u64 (takeSt n r er).1) ∧ RV w' H g bs (takeSt n r er).2.1 (takeSt n r er).2.2 ∧ Only (fun i => i = g) w w' := by
  obtain ⟨k, h1, h2⟩ := h
  obtain ⟨v1, v2, v3⟩ := view_take n h2
  refine (reftake_any H g k n bs er w h1).mono ?_
  rintro e w' ⟨he, hr, ho⟩
  rw [v1] at he
  rw [v2] at hr
  exact ⟨he, ⟨_, hr, v3⟩, ho⟩
theorem rv_raw (H g : Nat) (n : Int) (bs r : List UInt8) (er : Int) (w : World) (h : RV w H g bs r er) (hl : bs.length ≤ 140737488355328) :
    Calls Tryz.prog 70 #[.pointer (some ⟨g, 0, none⟩), .int .i64 n] w fun e w' => ∃ u, e = .returned u ∧ w'.ownsRow w.heap.size 5 1 u (rawSt n r er).1.length (b8s (rawSt n r er).1) ∧ RV w' H g bs (rawSt n r er).2.1 (rawSt n r er).2.2 ∧ Only (fun i => i = g) w w' := by
  obtain ⟨k, h1, h2⟩ := h
  have hk : k ≤ bs.length := by
    obtain ⟨A, c, _, _, _, _, _, h6⟩ := h1
    exact h6
  obtain ⟨v1, v2, v3⟩ := view_raw n hk h2
  refine (refraw_any H g k n bs er w h1 hl).mono ?_
  rintro e w' ⟨u, he, hu, hr, ho⟩
  rw [v1] at hu
  rw [v2] at hr
  exact ⟨u, he, hu, ⟨_, hr, v3⟩, ho⟩
theorem rv_left (H g : Nat) (bs r : List UInt8) (w : World) (h : RV w H g bs r 0) :
    Calls Tryz.prog 21 #[.pointer (some ⟨g, 0, none⟩)] w fun e w' => e = .returned (.int .i64 (r.length : Int)) ∧ ∃ n, w' = w.drewN n := by
  obtain ⟨k, h1, h2⟩ := h
  have hk : k ≤ bs.length := by
    obtain ⟨A, c, _, _, _, _, _, h6⟩ := h1
    exact h6
  refine (refleft_any H g k bs 0 w h1).mono ?_
  rintro e w' ⟨he, hw⟩
  refine ⟨?_, hw⟩
  rw [he, if_neg (by simp), h2 rfl, List.length_drop]
  congr 2
  omega

theorem rawSt_got {n : Int} {r : List UInt8} {er : Int} (h : (rawSt n r er).2.2 = 0) : ((rawSt n r er).1.length : Int) = n := by
  unfold rawSt at h ⊢
  by_cases h0 : er ≠ 0
  · rw [if_pos h0] at h
    exact absurd h h0
  · rw [if_neg h0] at h ⊢
    by_cases h1 : n < 0
    · rw [if_pos h1] at h
      simp at h
    · rw [if_neg h1] at h ⊢
      by_cases h2 : (r.length : Int) < n
      · rw [if_pos h2] at h
        simp at h
      · rw [if_neg h2]
        simp only [List.length_take]
        omega

/-- What the second reading's Text leaves. -/
def RVText (w : World) (H g : Nat) (bs r : List UInt8) (er : Int) (e : Ending) (w' : World) : Prop :=
  e = .returned (.tuple #[.string (strOf (tans r er).1), .int .i64 (tans r er).2]) ∧ RV w' H g bs (tst r er).2.1 (tst r er).2.2 ∧ Only (fun i => i = g) w w'

set_option maxHeartbeats 1000000 in
theorem rv_text (H g : Nat) (bs r : List UInt8) (er : Int) (w : World) (h : RV w H g bs r er) (hb : bs.length ≤ 140737488355328) :
    Calls Tryz.prog 69 #[.pointer (some ⟨g, 0, none⟩)] w (RVText w H g bs r er) := by
  have C1 := Lib.hid (rv_take H g 2 bs r er w h)
  have hte : tans r er = if (tst r er).2.2 ≠ 0 then ([], (tst r er).2.2) else if wrongOf (tst r er).1 ≠ 0 then ([], wrongOf (tst r er).1) else ((tst r er).1, 0) := rfl
  have hrs : tst r er = rawSt ((takeSt 2 r er).1 : Int) (takeSt 2 r er).2.1 (takeSt 2 r er).2.2 := rfl
  have q3 := (takeSt2_lt r er).1
  generalize takeSt 2 r er = s1 at C1 q3 hrs
  obtain ⟨n, k1, bad1⟩ := s1
  simp only at q3 hrs C1
  have HQ : Hid ((tst r er).2.2 = 0 → (tst r er).1.length = n) := fun h => by
    rw [hrs] at h ⊢
    have := rawSt_got h
    omega
  have HF : Hid (∀ w' a, Only (fun i => i = g) w w' → RV w' H g bs (tst r er).2.1 (tst r er).2.2 → tans r er = a → RVText w H g bs r er (.returned (.tuple #[.string (strOf a.1), .int .i64 a.2])) w') := by
    rintro w' _ k hi rfl
    exact ⟨rfl, hi, k⟩
  have HR := Lib.hid hrs
  have HE := Lib.hid hte
  have hwu : IntKind.i64.wrap (n : Int) = (n : Int) := IntWalk.i64_in _ (by omega)
  clear h hte hrs
  go_enter Tryz.func69, Tryz.ntmps69
  go_wp2_with fail
  refine C1.out.mono ?_
  rintro e w1 ⟨rfl, r1, o1⟩
  have C2 := Lib.hid (rv_raw H g (n : Int) bs k1 bad1 w1 r1 hb)
  rw [← HR.out] at C2
  have K1 := Lib.hid o1
  clear r1 o1 C1 HR
  go_wp2_with fail
  refine C2.out.mono ?_
  rintro e w2 ⟨u, rfl, ow, r2, o2⟩
  have hcv := run_str u _ _ _ w2 (owns_SlIs ow)
  have K2 : Hid (Only (fun i => i = g) w w2) := K1.out.trans o2 (fun _ _ h => h)
  have R2 := Lib.hid r2
  have c2 := r2.bad
  clear ow o2 K1 C2 r2
  generalize tst r er = st at hcv R2 HF HE HQ c2
  obtain ⟨x, k2, bad2⟩ := st
  simp only at hcv R2 HF HE HQ c2
  by_cases he : bad2 = 0
  · subst he
    have hx := HQ.out rfl
    have hte := HE.out
    rw [if_neg (by simp)] at hte
    have HE := Lib.hid hte
    have C3 := Lib.hid (refvalid_any x w2 (by omega))
    clear hte HQ
    by_cases hn : 64 < n
    · have d : decide ((64 : Int) < (n : Int)) = true := decide_eq_true (by omega)
      have hw : wrongOf x = 3 := by rw [wrongOf, if_pos (by omega)]
      have R := Lib.hid (HF.out _ _ K2.out R2.out (by rw [HE.out, hw, if_pos (by decide)]))
      clear HF HE C3 R2 K2 hw
      go_wp2
      go_ret2
      exact R.out
    · have d : decide ((64 : Int) < (n : Int)) = false := decide_eq_false (by omega)
      by_cases hw : wrongOf x = 0
      · have R := Lib.hid (HF.out _ _ K2.out R2.out (by rw [HE.out, if_neg (by simp [hw])]))
        rw [decide_eq_true hw] at C3
        clear HF HE R2 K2 hw
        go_wp2_with fail
        refine C3.out.mono ?_
        rintro e w' ⟨rfl, rfl⟩
        clear C3
        go_wp2
        go_ret2
        exact R.out
      · have hw2 : wrongOf x = 2 := by
          rw [wrongOf, if_neg (by omega)] at hw ⊢
          by_cases h0 : (0 : UInt8) ∈ x
          · rw [if_pos h0]
          · rw [if_neg h0] at hw ⊢
            unfold utfErr at hw ⊢
            by_cases h1 : runes x = none
            · rw [if_pos h1]
            · rw [if_neg h1] at hw
              exact absurd rfl hw
        have R := Lib.hid (HF.out _ _ K2.out R2.out (by rw [HE.out, hw2, if_pos (by decide)]))
        rw [decide_eq_false hw] at C3
        clear HF HE R2 K2 hw hw2
        go_wp2_with fail
        refine C3.out.mono ?_
        rintro e w' ⟨rfl, rfl⟩
        clear C3
        go_wp2
        go_ret2
        exact R.out
  · have hne : (bad2 == 0) = false := by simpa using he
    have hne2 : (bad2 != 0) = true := by simpa using he
    have R : Hid (∀ m, RVText w H g bs r er (.returned (.tuple #[.string (strOf []), .int .i64 bad2])) (w2.drewN m)) := fun m =>
      HF.out (w2.drewN m) ([], bad2) (K2.out.drewN m) (R2.out.only ((Only.refl (fun _ => False) w2).drewN m) (fun h => h) (fun _ _ h => h)) (by rw [HE.out, if_pos he])
    clear HF HE R2 K2 he HQ
    go_wp2
    go_quiet (fail)
    go_wp2
    go_ret2
    exact R.out _

theorem Tryz.refQidSize : (Tryz.prog.info? 39).map (·.size) = some 3 := by kernel_rfl
set_option maxHeartbeats 1000000 in
theorem rv_qid (H g : Nat) (bs r : List UInt8) (er : Int) (w : World) (h : RV w H g bs r er) :
    Calls Tryz.prog 42 #[.pointer (some ⟨g, 0, none⟩)] w fun e w' => e = .returned (qTake r er).1.val ∧ RV w' H g bs (qTake r er).2.1 (qTake r er).2.2 ∧ Only (fun i => i = g) w w' := by
  have hlt := h.lt
  have z0 : Only (fun _ => False) w (w.alloc (.cells #[.int .u8 0, .int .u32 0, .int .u64 0] 39)) := (Only.refl _ w).alloc _
  have I0 := Lib.hid (h.only z0 (fun h => h) (fun _ _ h => h))
  have F0 := Lib.hid (z0.mono (T := fun i => i = g) (fun _ _ h => h.elim))
  have B0 := Lib.hid (Has.new w 39 #[.int .u8 0, .int .u32 0, .int .u64 0])
  obtain ⟨S, hS⟩ : ∃ S, S = qTake r er := ⟨_, rfl⟩
  rw [← hS]
  simp only [qTake] at hS
  have t1 := takeSt_lt 1 r er
  obtain ⟨a, ha⟩ : ∃ a, a = takeSt 1 r er := ⟨_, rfl⟩
  rw [show takeSt ((1 : Nat) : Int) r er = a from ha.symm] at t1
  rw [← ha] at hS
  have t2 := takeSt_lt 4 a.2.1 a.2.2
  obtain ⟨b, hb⟩ : ∃ b, b = takeSt 4 a.2.1 a.2.2 := ⟨_, rfl⟩
  rw [show takeSt ((4 : Nat) : Int) a.2.1 a.2.2 = b from hb.symm] at t2
  rw [← hb] at hS
  have t3 := takeSt_lt 8 b.2.1 b.2.2
  obtain ⟨c, hc⟩ : ∃ c, c = takeSt 8 b.2.1 b.2.2 := ⟨_, rfl⟩
  rw [show takeSt ((8 : Nat) : Int) b.2.1 b.2.2 = c from hc.symm] at t3
  rw [← hc] at hS
  obtain ⟨a1, a2, a3⟩ := a
  obtain ⟨b1, b2, b3⟩ := b
  obtain ⟨c1, c2, c3⟩ := c
  simp only at t1 t2 t3 hS hb hc
  have hw1 : IntKind.u8.wrap (a1 : Int) = (a1 : Int) := by rw [IntKind.wrap_u8']; omega
  have hw2 : IntKind.u32.wrap (b1 : Int) = (b1 : Int) := IntWalk.u32_in _ (by omega)
  have HA := Lib.hid ha
  have HB := Lib.hid hb
  have HC := Lib.hid hc
  have HS := Lib.hid hS
  clear h z0 ha hb hc hS t1 t2
  go_enter Tryz.func42, Tryz.ntmps42
  go_wp2_with fail
  refine (rv_take H g 1 bs r er _ I0.out).mono ?_
  rintro e w1 ⟨rfl, i1, f1⟩
  rw [← HA.out] at i1 ⊢
  have I1 := Lib.hid i1
  have F1 := Lib.hid (F0.out.trans f1 (fun _ _ h => h))
  have B1 := Lib.hid (B0.out.only f1 (by omega))
  clear i1 f1 I0 F0 B0
  go_wp2_with fail
  refine (rv_take H g 4 bs _ _ w1 I1.out).mono ?_
  rintro e w2 ⟨rfl, i2, f2⟩
  rw [← HB.out] at i2 ⊢
  have I2 := Lib.hid i2
  have F2 := Lib.hid (F1.out.trans f2 (fun _ _ h => h))
  have B2 := Lib.hid (B1.out.only f2 (by omega))
  clear i2 f2 I1 F1 B1
  go_wp2_with fail
  refine (rv_take H g 8 bs _ _ w2 I2.out).mono ?_
  rintro e w3 ⟨rfl, i3, f3⟩
  rw [← HC.out] at i3 ⊢
  have I3 := Lib.hid i3
  have F3 := Lib.hid (F2.out.trans f3 (fun _ _ h => h))
  have b4 := B2.out.only f3 (by omega)
  have cb := i3.bad
  have x0 := b4.cell 0
  have x1 := b4.cell 1
  have x2 := b4.cell 2
  have y0 := b4.frozen 0
  have y1 := b4.frozen 1
  have y2 := b4.frozen 2
  simp at x0 x1 x2
  have B4 := Lib.hid b4
  clear i3 f3 I2 F2 B2 b4 HA HB HC
  simp only at cb
  by_cases h0 : c3 = 0
  · subst h0
    go_wp2_with fail
    refine bodyPost_ret (results_cell_row rfl _ _ w.heap.size 39 _ (0, 0) _ rfl (has_set3 B4.out _ _ _) Tryz.underlying39 rfl Tryz.refQidSize) rfl ?_
    refine ⟨by rw [HS.out]; rfl, ?_, F3.out.set3 (Nat.le_refl _) _ _ _⟩
    rw [HS.out]
    have k : Only (fun i => i = w.heap.size) w3 (((w3.setCell ⟨w.heap.size, 0, none⟩ (.int .u8 (a1 : Int))).setCell ⟨w.heap.size, 1, none⟩ (.int .u32 (b1 : Int))).setCell ⟨w.heap.size, 2, none⟩ (.int .u64 (c1 : Int))) :=
      (((Only.refl (fun i => i = w.heap.size) w3).setCell (p := ⟨w.heap.size, 0, none⟩) (fun _ => rfl) _).setCell (p := ⟨w.heap.size, 1, none⟩) (fun _ => rfl) _).setCell (p := ⟨w.heap.size, 2, none⟩) (fun _ => rfl) _
    exact I3.out.only k (by omega) (fun i hi h => by omega)
  · have hd : (c3 != 0) = true := by simpa using h0
    go_wp2_with fail
    refine bodyPost_ret (results_cell_row rfl _ _ w.heap.size 39 _ (0, 0) _ rfl (has_set3 B4.out _ _ _) Tryz.underlying39 rfl Tryz.refQidSize) rfl ?_
    refine ⟨by rw [HS.out, if_neg h0]; rfl, ?_, F3.out.set3 (Nat.le_refl _) _ _ _⟩
    rw [HS.out]
    have k : Only (fun i => i = w.heap.size) w3 (((w3.setCell ⟨w.heap.size, 0, none⟩ (.int .u8 0)).setCell ⟨w.heap.size, 1, none⟩ (.int .u32 0)).setCell ⟨w.heap.size, 2, none⟩ (.int .u64 0)) :=
      (((Only.refl (fun i => i = w.heap.size) w3).setCell (p := ⟨w.heap.size, 0, none⟩) (fun _ => rfl) _).setCell (p := ⟨w.heap.size, 1, none⟩) (fun _ => rfl) _).setCell (p := ⟨w.heap.size, 2, none⟩) (fun _ => rfl) _
    exact I3.out.only k (by omega) (fun i hi h => by omega)
end Go.Proofs.YtepiifbleoimkaaGreatDoor
