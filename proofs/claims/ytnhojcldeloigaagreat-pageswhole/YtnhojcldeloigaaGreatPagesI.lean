/-
  Package pages: lasting.
-/
import Derived.Test.YtnhojcldeloigaaGreatPagesH
namespace Go.Proofs.YtnhojcldeloigaaGreat
open Go.RowKit Go.Lib Go.Maps
set_option maxRecDepth 100000

theorem rooted_of {g : BG} {ls : List (List UInt8)} {l : Nat} {sl : List UInt8} {P : Nat → List UInt8} (h : Rep g ls l sl P) : g.rooted ls = true ∧ g.lst ls = l := by
  have hl : g.lst ls = l := by
    have h2 := h.two
    unfold BG.lst
    rw [h.root]
    have : l = 0 ∨ l = 1 := by omega
    rcases this with rfl | rfl <;> simp [lstOf, num2, rootB, markB, le2, List.getD]
  refine ⟨?_, hl⟩
  unfold BG.rooted
  rw [decide_eq_true_eq, hl]
  exact h.root
/-- The byte of a list that tells a page. -/
theorem slots_byte {g : BG} {N : Nat} {ls : List (List UInt8)} {l p : Nat} (ok : g.Ok N) (hlen : ∀ i, i < g.n → (g.sec ls i).length = g.z) (hl : l < 2) (hp : p < g.k) :
    p / (4 * g.z) < g.M ∧ (g.slots ls l).getD (p / 4) 0 = (g.sec ls (g.listP l + p / (4 * g.z))).getD (p % (4 * g.z) / 4) 0 := by
  have hz : 0 < g.z := by have := ok.z1; omega
  have he := ok.enough
  have hM : p / (4 * g.z) < g.M := by
    rw [Nat.div_lt_iff_lt_mul (by omega)]
    have : g.M * (4 * g.z) = 4 * (g.M * g.z) := by rw [← Nat.mul_assoc, Nat.mul_comm g.M 4, Nat.mul_assoc]
    omega
  refine ⟨hM, ?_⟩
  have key : ∀ (m j i : Nat), j < m → m ≤ g.M → i < g.z → (g.slotsTo ls l m).getD (j * g.z + i) 0 = (g.sec ls (g.listP l + j)).getD i 0 := by
    intro m
    induction m with
    | zero => intro j i hj; omega
    | succ m ih =>
      intro j i hj hm hi
      have hlm := slotsTo_len (ls := ls) l m hlen ok hl (by omega)
      rw [slotsTo_succ]
      by_cases hjm : j < m
      · have hlt : j * g.z + i < (g.slotsTo ls l m).length := by
          have : (j + 1) * g.z ≤ m * g.z := Nat.mul_le_mul_right _ hjm
          rw [Nat.succ_mul] at this
          omega
        have := ih j i hjm (by omega) hi
        simp only [List.getD] at this ⊢
        rw [List.getElem?_append_left hlt]
        exact this
      · have : j = m := by omega
        subst this
        simp only [List.getD]
        rw [List.getElem?_append_right (by omega)]
        congr 2
        omega
  have hi : p % (4 * g.z) / 4 < g.z := by
    have := Nat.mod_lt p (show 0 < 4 * g.z by omega)
    omega
  have hd : p / 4 = p / (4 * g.z) * g.z + p % (4 * g.z) / 4 := by
    have h1 := Nat.div_add_mod p (4 * g.z)
    have h2 : 4 * g.z * (p / (4 * g.z)) = 4 * (p / (4 * g.z) * g.z) := by rw [Nat.mul_assoc, Nat.mul_comm g.z]
    omega
  rw [slots_to, hd]
  exact key g.M _ _ hM (Nat.le_refl _) hi
theorem slot_mod {g : BG} (p : Nat) : p % (4 * g.z) % 4 = p % 4 := Nat.mod_mod_of_dvd p ⟨g.z, rfl⟩

theorem SlIs.cutTo {w : World} {lo hi n c k : Nat} {A : Option Addr} {b : List UInt8} (h : SlIs w lo hi (.slice A n c) b) (hk : k ≤ b.length) : SlIs w lo hi (.slice A k c) (b.take k) := by
  obtain ⟨A', c', e, h1, h2, h3⟩ := h
  injection e with e1 _ e3
  subst e1 e3
  have hl : (b.take k).length = k := by simp; omega
  exact ⟨A, c, by rw [hl], by omega, h2, h3.take k⟩
theorem SlIs.wide8 {w : World} {lo hi lo' hi' : Nat} {v : Value} {b : List UInt8} (h : SlIs w lo hi v b) (h1 : lo' ≤ lo) (h2 : hi ≤ hi') : SlIs w lo' hi' v b := by
  obtain ⟨A, c, e, q1, q2, q3⟩ := h
  exact ⟨A, c, e, q1, q2, q3.wide h1 h2⟩
section
variable (F E G : Nat → Prop) (gd gb : Nat) (s : D) (g : BG) (ch : Nat → Option (List UInt8)) (w : World) (h : St w F E G gd s gb g ch)
include h
set_option maxHeartbeats 1600000 in
theorem pglasting_any (l : Nat) (sl : List UInt8) (P : Nat → List UInt8) (p : Nat) (ho : s.off = false) (hr : Rep g s.seen l sl P) (hp : p < g.k) :
    Calls Tryz.prog 56 #[.pointer (some ⟨gb, 0, none⟩), .int .i64 (p : Int)] w fun e w' => ∃ A c, e = .returned (.slice A (g.z - 16) c) ∧ SlIs w' w.heap.size w'.heap.size (.slice A (g.z - 16) c) (P p) ∧ Below w.heap.size w w' := by
  have hok := h.ok
  have hz1 := hok.z1
  have hz2 := hok.z2
  have hk2 := hok.k2
  have hn := hok.room
  have hL4 := hok.L4
  obtain ⟨hrt, hlst⟩ := rooted_of hr
  obtain ⟨hq1, hq2⟩ := slots_byte hok h.secs hr.two hp
  obtain ⟨hs1, hs2⟩ := hr.slot hok hp
  have hP := hok.lp hr.two
  have HS := Lib.hid (fun w' (k : Below w.heap.size w w') => h.below k)
  have hzi : (g.z : Int) = ((g.z : Nat) : Int) := rfl
  obtain ⟨q, hq⟩ : ∃ q, q = p / (4 * g.z) := ⟨_, rfl⟩
  obtain ⟨i, hi⟩ : ∃ i, i = p % (4 * g.z) := ⟨_, rfl⟩
  have e1 : (p : Int).tdiv (4 * (g.z : Int)) = (q : Int) := by rw [Int.tdiv_eq_ediv_of_nonneg (by omega), hq]; rfl
  have e2 : (p : Int).tmod (4 * (g.z : Int)) = (i : Int) := by rw [Int.tmod_eq_emod_of_nonneg (by omega), hi]; rfl
  have e1' : (p : Int) / (4 * (g.z : Int)) = (q : Int) := by rw [hq]; rfl
  have e2' : (p : Int) % (4 * (g.z : Int)) = (i : Int) := by rw [hi]; rfl
  have n0 : ¬ (4 * (g.z : Int) = 0) := by omega
  have CH0 := pgholds_any F E G gd gb s g ch w.drew (h.new ((Only.refl _ w).drew)) ho
  rw [hrt, if_pos rfl, hlst] at CH0
  have CH : Hid (Calls Tryz.prog 53 #[.pointer (some ⟨gb, 0, none⟩)] w.drew fun e w' => e = .returned (.int .i64 (l : Int)) ∧ Below w.heap.size w w') := CH0.mono fun e w' hh => ⟨hh.1, hh.2.os, hh.2.tape, hh.2.output, hh.2.size, hh.2.block⟩
  obtain ⟨gm, hb⟩ := h.bk
  have GM := Lib.hid (fun w' (k : Below w.heap.size w w') => (World.cell?_of_block (a := ⟨gb, 3, none⟩) (k.block gb hb.has.lt)).trans hb.cells.2.2.2.1)
  have c3 := hb.cells.2.2.2.1
  have hl2 := hr.two
  have hv : crumb ((g.sec s.seen (g.listP l + q)).getD (i / 4) 0) (i % 4) = slotOf sl p := by
    rw [← hr.slots, slotOf, hq2, hi, slot_mod, hq]
  have hi4 : i / 4 < g.z := by
    have := Nat.mod_lt p (show 0 < 4 * g.z by omega)
    omega
  have hqM : q < g.M := by rw [hq]; exact hq1
  have hML4 := Nat.le_trans hok.ML hL4
  have ew1 : IntKind.i64.wrap (q : Int) = (q : Int) := IntWalk.i64_in _ (by omega)
  have ew2 : IntKind.i64.wrap ((g.listP l : Int) + (q : Int)) = (g.listP l : Int) + (q : Int) := IntWalk.i64_in _ (by omega)
  have HPg := Lib.hid (hr.page p hp)
  have HV := Lib.hid hv
  obtain ⟨v, hvd⟩ : ∃ v, v = slotOf sl p := ⟨_, rfl⟩
  rw [← hvd] at hs1 HV
  have HVD := Lib.hid hvd
  clear h hok CH0 hrt hlst hq1 hq2 hs2 hb hq hi hr hzi hv hvd
  go_enter Tryz.func56, Tryz.ntmps56
  go_upto_region 2 with fail
  refine wp_region_held_drew (S := fun w' => True) (by kernel_rfl) ?_ (fun hHeld => ?_)
  · exact trivial
  refine takeH (i := 0) (d := 13) (v := ?_) (by kernel_rfl) (by kernel_rfl) (by kernel_rfl) rfl (fun _ _ _ h => h) (by rfl) ?_ hHeld ?_
  rotate_left
  · intro o ho w hSw
    cases ho
    go_simp
    try with_reducible rfl
  simp only [Act.put, List.setIfInBounds_toArray, List.set_cons_zero, List.set_cons_succ]
  refine takeH (i := 1) (d := 14) (v := ?_) (by kernel_rfl) (by kernel_rfl) (by kernel_rfl) rfl (fun _ _ _ h => h) (by rfl) ?_ hHeld ?_
  rotate_left
  · intro o ho w hSw
    cases ho
    go_simp
    try with_reducible rfl
  simp only [Act.put, List.setIfInBounds_toArray, List.set_cons_zero, List.set_cons_succ]
  refine takeH (i := 2) (d := 15) (v := ?_) (by kernel_rfl) (by kernel_rfl) (by kernel_rfl) rfl (fun _ _ _ h => h) (by rfl) ?_ hHeld ?_
  rotate_left
  · intro o ho w hSw
    cases ho
    go_simp
    try with_reducible rfl
  simp only [Act.put, List.setIfInBounds_toArray, List.set_cons_zero, List.set_cons_succ]
  refine takeH (i := 5) (d := 18) (v := ?_) (by kernel_rfl) (by kernel_rfl) (by kernel_rfl) rfl (fun _ _ _ h => h) (by rfl) ?_ hHeld ?_
  rotate_left
  · intro o ho w hSw
    cases ho
    go_simp
    try with_reducible rfl
  simp only [Act.put, List.setIfInBounds_toArray, List.set_cons_zero, List.set_cons_succ]
  refine takeH (i := 6) (d := 19) (v := ?_) (by kernel_rfl) (by kernel_rfl) (by kernel_rfl) rfl (fun _ _ _ h => h) (by rfl) ?_ hHeld ?_
  rotate_left
  · intro o ho w hSw
    cases ho
    go_simp
    try with_reducible rfl
  simp only [Act.put, List.setIfInBounds_toArray, List.set_cons_zero, List.set_cons_succ]
  refine takeH (i := 7) (d := 20) (v := ?_) (by kernel_rfl) (by kernel_rfl) (by kernel_rfl) rfl (fun _ _ _ h => h) (by rfl) ?_ hHeld ?_
  rotate_left
  · intro o ho w hSw
    cases ho
    go_simp
    try with_reducible rfl
  simp only [Act.put, List.setIfInBounds_toArray, List.set_cons_zero, List.set_cons_succ]
  refine wpAnyH_ready (rs := [3]) (by kernel_rfl) (by simp) ?_
  refine AllReadyH.cons rfl (fun K hK => ?_) AllReadyH.nil
  go_simp
  refine CH.out.mono ?_
  rintro e w1 ⟨rfl, lo1⟩
  have S1 := Lib.hid (HS.out w1 lo1)
  have LO1 := Lib.hid lo1
  clear lo1 CH
  try go_wp2_with fail
  refine hK.out _ _ ?_ (fun hHeld => ?_)
  · exact trivial
  clear hK K
  refine wpAnyH_ready (rs := [4]) (by kernel_rfl) (by simp) ?_
  refine AllReadyH.cons rfl (fun K hK => ?_) AllReadyH.nil
  go_simp
  refine (listplace_any F E G gd gb s g ch w1 S1.out l (by omega)).mono ?_
  rintro e w1' ⟨rfl, rfl⟩
  try go_wp2_with fail
  refine hK.out _ _ ?_ (fun hHeld => ?_)
  · exact trivial
  clear hK K
  refine takeH (i := 8) (d := 21) (v := ?_) (by kernel_rfl) (by kernel_rfl) (by kernel_rfl) rfl (fun _ _ _ h => h) (by rfl) ?_ hHeld ?_
  rotate_left
  · intro o ho w hSw
    cases ho
    go_simp
    try with_reducible rfl
  simp only [Act.put, List.setIfInBounds_toArray, List.set_cons_zero, List.set_cons_succ]
  have CR := Lib.hid (pgread_on F E G gd gb s g ch w1 S1.out (g.listP l + q) ho (by omega))
  rw [Int.natCast_add] at CR
  refine wpAnyH_ready (rs := [9]) (by kernel_rfl) (by simp) ?_
  refine AllReadyH.cons rfl (fun K hK => ?_) AllReadyH.nil
  go_simp
  refine CR.out.mono ?_
  rintro e w2 ⟨A2, c2, rfl, hx2, x2, lo2⟩
  have X2 := Lib.hid x2
  have HX2 := Lib.hid hx2
  have LO2 := Lib.hid (LO1.out.trans (lo2.mono LO1.out.size))
  have S2 := Lib.hid (HS.out w2 LO2.out)
  clear x2 hx2 lo2 CR S1
  try go_wp2_with fail
  refine hK.out _ _ ?_ (fun hHeld => ?_)
  · exact trivial
  clear hK K
  refine takeH (i := 10) (d := 6) (v := ?_) (by kernel_rfl) (by kernel_rfl) (by kernel_rfl) rfl (fun _ _ _ h => h) (by rfl) ?_ hHeld ?_
  rotate_left
  · intro o ho w hSw
    cases ho
    go_simp
    try with_reducible rfl
  simp only [Act.put, List.setIfInBounds_toArray, List.set_cons_zero, List.set_cons_succ]
  refine wpAnyH_done (by kernel_rfl) ?_ _
  have hxq : (g.sec s.seen (g.listP l + q)).length = g.z := HX2.out
  obtain ⟨ad2, hA2, hcell⟩ : ∃ ad, A2 = some ad ∧ w2.cell? (ad.add (i / 4)) = some (b8 ((g.sec s.seen (g.listP l + q)).getD (i / 4) 0)) := by
    obtain ⟨A', c', e, _, _, q3⟩ := X2.out
    injection e with e1 e2 e3
    obtain ⟨ad, e4, _, _, q4⟩ := q3 (by omega)
    refine ⟨ad, by rw [e1, e4], ?_⟩
    have hh : i / 4 < (g.sec s.seen (g.listP l + q)).length := by omega
    rw [q4 _ _ (b8s_get hh)]
    simp [List.getD, hh]
  subst hA2
  have C3 := Lib.hid (slotof_any ad2 g.z c2 i _ w2 (by omega) hi4 hcell)
  rw [HV.out] at C3
  clear hcell X2 HX2 hxq hi4
  go_wp2_with fail
  refine C3.out.mono ?_
  rintro e w3 ⟨rfl, n3, rfl⟩
  have LO4 : Hid (Below w.heap.size w (w2.drewN n3)) := ⟨LO2.out.os, LO2.out.tape, LO2.out.output, LO2.out.size, LO2.out.block⟩
  have S4 := Lib.hid (HS.out _ LO4.out)
  have c3 := GM.out _ LO4.out
  have hp1 : p ≤ 1024 := by omega
  generalize w2.drewN n3 = w4 at LO4 S4 c3 ⊢
  clear LO2 S2 C3
  have hz16 : ((g.z - 16 : Nat) : Int) = (g.z : Int) - 16 := by omega
  have ew3 : IntKind.i64.wrap ((g.z : Int) - 16) = (g.z : Int) - 16 := IntWalk.i64_in _ (by omega)
  by_cases h0 : v = 0
  · have HP0 : Hid (P p = zpage g.z) := by
      show P p = _
      rw [HPg.out, BG.page, if_pos (by rw [← HVD.out, h0])]
    obtain ⟨w5, hmk, o5, k5, s5⟩ := make_bytes (g.z - 16) (by omega) w4
    rw [hz16] at hmk
    have R : Hid (SlIs w5 w.heap.size w5.heap.size (.slice (some ⟨w4.heap.size, 0, none⟩) (g.z - 16) (g.z - 16)) (P p) ∧ Below w.heap.size w w5) := by
      rw [HP0.out]
      have hl : (zpage g.z).length = g.z - 16 := by simp [zpage]
      have q := owns_SlIs (bs := zpage g.z) (by rw [hl]; exact o5)
      obtain ⟨A', c', e, q1, q2, q3⟩ := q
      exact ⟨⟨A', c', e, q1, q2, q3.wide LO4.out.size (Nat.le_refl _)⟩, LO4.out.trans (k5.below LO4.out.size (fun _ _ h => h))⟩
    subst h0
    clear o5 k5 s5 HP0 HPg HVD hs1
    go_wp2
    go_ret
    exact ⟨_, _, rfl, R.out.1, R.out.2⟩
  · have d0 : ((v : Int) == 0) = false := by simpa using (show ¬ ((v : Int) = 0) by omega)
    have n0' : ¬ ((v : Int) = 0) := by omega
    have d2 : decide ((v : Int) ≤ 2) = true := decide_eq_true (by omega)
    have HP1 : Hid (P p = (g.sec s.seen (g.slotP p v)).take (g.z - 16)) := by
      show P p = _
      rw [HPg.out, BG.page, if_neg (by rw [← HVD.out]; exact h0), ← HVD.out]
    have h16 : (16 : Int) ≤ (g.z : Int) := by omega
    have ht16 : ((g.z : Int) - 16).toNat = g.z - 16 := by omega
    have hsp : g.slotP p v < g.n := by simp only [BG.slotP]; omega
    have LO4d : Hid (Below w.heap.size w w4.drew) := ⟨LO4.out.os, LO4.out.tape, LO4.out.output, LO4.out.size, LO4.out.block⟩
    have S4d := Lib.hid (HS.out _ LO4d.out)
    have CR7 := Lib.hid (pgread_on F E G gd gb s g ch w4.drew S4d.out (g.slotP p v) ho hsp)
    generalize g.sec s.seen (g.slotP p v) = x at CR7 HP1
    clear HPg HVD hsp
    go_wp2_with fail
    refine (must_yes 2 _).mono ?_
    rintro e w4' ⟨rfl, rfl⟩
    go_upto_region 7 with fail
    refine wp_region_held_drew (S := fun w' => w'.cell? ⟨gb, 3, none⟩ = some (.int .i64 (g.z : Int))) (by kernel_rfl) ?_ (fun hHeld => ?_)
    · exact c3
    refine takeH (i := 0) (d := 39) (v := ?_) (by kernel_rfl) (by kernel_rfl) (by kernel_rfl) rfl (fun _ _ _ h => h) (by rfl) ?_ hHeld ?_
    rotate_left
    · intro o ho w hSw
      cases ho
      have h1 := hSw
      go_simp
      try with_reducible rfl
    simp only [Act.put, List.setIfInBounds_toArray, List.set_cons_zero, List.set_cons_succ]
    refine takeH (i := 1) (d := 40) (v := ?_) (by kernel_rfl) (by kernel_rfl) (by kernel_rfl) rfl (fun _ _ _ h => h) (by rfl) ?_ hHeld ?_
    rotate_left
    · intro o ho w hSw
      cases ho
      have h1 := hSw
      go_simp
      try with_reducible rfl
    simp only [Act.put, List.setIfInBounds_toArray, List.set_cons_zero, List.set_cons_succ]
    refine takeH (i := 2) (d := 41) (v := ?_) (by kernel_rfl) (by kernel_rfl) (by kernel_rfl) rfl (fun _ _ _ h => h) (by rfl) ?_ hHeld ?_
    rotate_left
    · intro o ho w hSw
      cases ho
      have h1 := hSw
      go_simp
      try with_reducible rfl
    simp only [Act.put, List.setIfInBounds_toArray, List.set_cons_zero, List.set_cons_succ]
    refine takeH (i := 3) (d := 42) (v := ?_) (by kernel_rfl) (by kernel_rfl) (by kernel_rfl) rfl (fun _ _ _ h => h) (by rfl) ?_ hHeld ?_
    rotate_left
    · intro o ho w hSw
      cases ho
      have h1 := hSw
      go_simp
      try with_reducible rfl
    simp only [Act.put, List.setIfInBounds_toArray, List.set_cons_zero, List.set_cons_succ]
    refine takeH (i := 6) (d := 45) (v := ?_) (by kernel_rfl) (by kernel_rfl) (by kernel_rfl) rfl (fun _ _ _ h => h) (by rfl) ?_ hHeld ?_
    rotate_left
    · intro o ho w hSw
      cases ho
      have h1 := hSw
      go_simp
      try with_reducible rfl
    simp only [Act.put, List.setIfInBounds_toArray, List.set_cons_zero, List.set_cons_succ]
    refine takeH (i := 7) (d := 46) (v := ?_) (by kernel_rfl) (by kernel_rfl) (by kernel_rfl) rfl (fun _ _ _ h => h) (by rfl) ?_ hHeld ?_
    rotate_left
    · intro o ho w hSw
      cases ho
      have h1 := hSw
      go_simp
      try with_reducible rfl
    simp only [Act.put, List.setIfInBounds_toArray, List.set_cons_zero, List.set_cons_succ]
    refine takeH (i := 8) (d := 47) (v := ?_) (by kernel_rfl) (by kernel_rfl) (by kernel_rfl) rfl (fun _ _ _ h => h) (by rfl) ?_ hHeld ?_
    rotate_left
    · intro o ho w hSw
      cases ho
      have h1 := hSw
      go_simp
      try with_reducible rfl
    simp only [Act.put, List.setIfInBounds_toArray, List.set_cons_zero, List.set_cons_succ]
    refine takeH (i := 9) (d := 48) (v := ?_) (by kernel_rfl) (by kernel_rfl) (by kernel_rfl) rfl (fun _ _ _ h => h) (by rfl) ?_ hHeld ?_
    rotate_left
    · intro o ho w hSw
      cases ho
      have h1 := hSw
      go_simp
      try with_reducible rfl
    simp only [Act.put, List.setIfInBounds_toArray, List.set_cons_zero, List.set_cons_succ]
    refine takeH (i := 10) (d := 49) (v := ?_) (by kernel_rfl) (by kernel_rfl) (by kernel_rfl) rfl (fun _ _ _ h => h) (by rfl) ?_ hHeld ?_
    rotate_left
    · intro o ho w hSw
      cases ho
      have h1 := hSw
      go_simp
      try with_reducible rfl
    simp only [Act.put, List.setIfInBounds_toArray, List.set_cons_zero, List.set_cons_succ]
    refine wpAnyH_ready (rs := [4]) (by kernel_rfl) (by simp) ?_
    refine AllReadyH.cons rfl (fun K hK => ?_) AllReadyH.nil
    go_simp
    refine (slotplace_any F E G gd gb s g ch _ S4d.out p v (by omega) (by omega)).mono ?_
    rintro e w4' ⟨rfl, rfl⟩
    try go_wp2_with fail
    refine hK.out _ _ ?_ (fun hHeld => ?_)
    · exact c3
    clear hK K
    refine wpAnyH_ready (rs := [5]) (by kernel_rfl) (by simp) ?_
    refine AllReadyH.cons rfl (fun K hK => ?_) AllReadyH.nil
    go_simp
    refine CR7.out.mono ?_
    rintro e w5 ⟨A5, c5, rfl, hx5, x5, lo5⟩
    have X5 := Lib.hid x5
    have HX5 := Lib.hid hx5
    have LO5 := Lib.hid (LO4d.out.trans (lo5.mono LO4d.out.size))
    have c35 : w5.cell? ⟨gb, 3, none⟩ = some (.int .i64 (g.z : Int)) := GM.out w5 LO5.out
    obtain ⟨ad5, hA5, hc5⟩ : ∃ ad, A5 = some ad ∧ g.z ≤ c5 := by
      obtain ⟨A', c', e, q1, q2, q3⟩ := X5.out
      injection e with e1 e2 e3
      obtain ⟨ad, e4, _⟩ := q3 (by omega)
      exact ⟨ad, by rw [e1, e4], by omega⟩
    subst hA5
    have hc5i : (g.z : Int) - 16 ≤ (c5 : Int) := by omega
    clear x5 hx5 lo5 CR7 S4d
    try go_wp2_with fail
    refine hK.out _ _ ?_ (fun hHeld => ?_)
    · exact c35
    clear hK K
    refine takeH (i := 11) (d := 50) (v := ?_) (by kernel_rfl) (by kernel_rfl) (by kernel_rfl) rfl (fun _ _ _ h => h) (by rfl) ?_ hHeld ?_
    rotate_left
    · intro o ho w hSw
      cases ho
      have h1 := hSw
      go_simp
      try with_reducible rfl
    simp only [Act.put, List.setIfInBounds_toArray, List.set_cons_zero, List.set_cons_succ]
    refine takeH (i := 12) (d := 4) (v := ?_) (by kernel_rfl) (by kernel_rfl) (by kernel_rfl) rfl (fun _ _ _ h => h) (by rfl) ?_ hHeld ?_
    rotate_left
    · intro o ho w hSw
      cases ho
      have h1 := hSw
      go_simp
      try with_reducible rfl
    simp only [Act.put, List.setIfInBounds_toArray, List.set_cons_zero, List.set_cons_succ]
    refine wpAnyH_done (by kernel_rfl) ?_ _
    go_wp2
    go_ret
    rw [HP1.out]
    exact ⟨_, _, rfl, ((X5.out.cutTo (k := g.z - 16) (by have := HX5.out; omega))).wide8 LO4.out.size (Nat.le_refl _), LO5.out⟩
end
end Go.Proofs.YtnhojcldeloigaaGreat
