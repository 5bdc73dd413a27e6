/-
  Package pages: Open.
-/
import Derived.Test.YtnhojcldeloigaaGreatPagesF
import Derived.Test.YtnhojcldeloigaaGreatDrawn
namespace Go.Proofs.YtnhojcldeloigaaGreat
open Go.RowKit Go.Lib Go.Maps
set_option maxRecDepth 100000

/-- What Open finds. -/
def openG (s : D) (a m : Nat) : BG := ⟨a, m, s.size, num2 (s.seen.getD a []) 12⟩
structure OpenOk (s : D) (g : BG) : Prop where
  may : mayH (g.n : Int) (g.k : Int) = true
  root : g.rooted s.seen = true
  sl : okSl g.k (g.slots s.seen (g.lst s.seen))
theorem mayH_iff (n k : Nat) : mayH (n : Int) (k : Int) = true ↔ 1 ≤ k ∧ k ≤ 1024 ∧ 3 * k + 16 ≤ n := by
  unfold mayH
  rw [decide_eq_true_eq]
  omega
/-- What Open's function leaves. -/
def OpenPost (w : World) (F E : Nat → Prop) (gd : Nat) (s : D) (a m p : Nat) (r : Int) (w' : World) : Prop :=
  ((r = 0 ∧ OpenOk s (openG s a m) ∧ ∃ gb G, Has w' p 29 #[.pointer (some ⟨gb, 0, none⟩)] ∧ St w' F E G gd s gb (openG s a m) (fun _ => none) ∧ ∀ i, G i → w.heap.size ≤ i) ∨
   (r = 2 ∧ ¬ OpenOk s (openG s a m) ∧ Has w' p 29 #[.pointer none])) ∧ Only (fun i => i = p ∨ w.heap.size ≤ i) w w'
theorem endsIn_zero : endsIn 0 = .returned (.tuple #[]) := rfl
theorem endsIn_two : endsIn 2 = .panicked [{ v := .iface 26 (.int .i64 2), recovered := false }] := rfl
theorem endsIn_one : endsIn 1 = .panicked [{ v := .iface 26 (.int .i64 1), recovered := false }] := rfl

section
variable (F E : Nat → Prop) (gd : Nat) (s : D) (w : World) (h : Dk w F E gd s)
include h
set_option maxHeartbeats 4000000 in
theorem open1_there (a m p0 p1 p2 p3 : Nat) (ho : s.off = false) (hz : 64 ≤ s.size) (ht : there s.kept.length (a : Int) (m : Int) = true) (b0 : Has w p0 25 #[.pointer (some ⟨gd, 0, none⟩)]) (b1 : Has w p1 3 #[.int .i64 (a : Int)]) (b2 : Has w p2 3 #[.int .i64 (m : Int)]) (b3 : Has w p3 29 #[.pointer none]) (hp3 : ¬ F p3 ∧ ¬ E p3) :
    Calls Tryz.prog 50 #[.pointer (some ⟨p0, 0, none⟩), .pointer (some ⟨p1, 0, none⟩), .pointer (some ⟨p2, 0, none⟩), .pointer (some ⟨p3, 0, none⟩)] w fun e w' => ∃ r, e = endsIn r ∧ OpenPost w F E gd s a m p3 r w' := by
  have hlt := h.lt
  have hN := hlt.2.2.2.2.2.most
  have hz2 := hlt.2.2.2.2.2.small
  have ht' : 0 ≤ (a : Int) ∧ (a : Int) < (s.kept.length : Int) ∧ 0 ≤ (m : Int) ∧ (m : Int) ≤ (s.kept.length : Int) - (a : Int) := of_decide_eq_true ht
  have HB : Hid (∀ w', Only (fun i => w.heap.size ≤ i) w w' → (w'.cell? ⟨p0, 0, none⟩ = some (.pointer (some ⟨gd, 0, none⟩)) ∧ w'.cell? ⟨p1, 0, none⟩ = some (.int .i64 (a : Int)) ∧ w'.cell? ⟨p2, 0, none⟩ = some (.int .i64 (m : Int)) ∧ w'.cell? ⟨p3, 0, none⟩ = some (.pointer none) ∧ w'.frozen? ⟨p3, 0, none⟩ = false) ∧ Has w' p3 29 #[.pointer none] ∧ Dk w' F E gd s) := fun w' k => by
    have l0 := b0.lt
    have l1 := b1.lt
    have l2 := b2.lt
    have l3 := b3.lt
    have B0 := b0.only k (by omega)
    have B1 := b1.only k (by omega)
    have B2 := b2.only k (by omega)
    have B3 := b3.only k (by omega)
    exact ⟨⟨B0.cell 0, B1.cell 0, B2.cell 0, B3.cell 0, B3.frozen 0⟩, B3, h.only k (fun i hi hs => by have hs : w.heap.size ≤ i := hs; omega)⟩
  obtain ⟨⟨c0, c1, c2, c3, f3⟩, _, _⟩ := HB.out w (Only.refl _ _)
  have C0 := mustbethere_any F E gd s w h (a : Int) (m : Int)
  rw [endsB_yes ht] at C0
  have C0 := Lib.hid C0
  have CO : Hid (∀ w', Only (fun i => w.heap.size ≤ i) w w' → Calls Tryz.prog 37 #[.pointer (some ⟨gd, 0, none⟩), .int .i64 (a : Int), .int .i64 (m : Int)] w' (OverAns w' gd a m s.size)) := fun w' k => pgover_any F E gd s w' (HB.out w' k).2.2 a m
  have hl3 := b3.lt
  obtain ⟨k, hk⟩ : ∃ k, k = num2 (s.seen.getD a []) 12 := ⟨_, rfl⟩
  have hk6 : k < 65536 := by rw [hk]; exact num2_lt _ _
  have hG : openG s a m = ⟨a, m, s.size, k⟩ := by rw [openG, hk]
  have H := Lib.hid hlt
  have HG := Lib.hid hG
  have HK := Lib.hid hk
  clear h hlt b0 b1 b2 b3 hG hk ht
  go_enter Tryz.func50, Tryz.ntmps50
  go_wp2_with fail
  refine C0.out.mono ?_
  rintro e w1 ⟨rfl, n, rfl⟩
  have K1 : Hid (Only (fun i => w.heap.size ≤ i) w (w.drewN n)) := (Only.refl _ w).drewN n
  have C1 := Lib.hid (CO.out _ K1.out)
  clear C0 CO
  go_wp2_with fail
  refine C1.out.mono ?_
  rintro e w2 ⟨rfl, bk2, lo2⟩
  have K2 : Hid (Only (fun i => w.heap.size ≤ i) w w2) := K1.out.trans (Only.of_below lo2) (fun _ _ h => h)
  obtain ⟨⟨c0, c1, c2, c3, f3⟩, _, dk2⟩ := HB.out w2 K2.out
  have C2 := Lib.hid (pgread_raw F E _ gd _ s ⟨a, m, s.size, 0⟩ _ w2 dk2 bk2 rfl 0 ho (by show a + 0 < _; omega))
  have BK2 := Lib.hid bk2
  clear bk2 lo2 dk2 C1 K1
  go_wp2_with fail
  refine C2.out.mono ?_
  rintro e w3 ⟨A, c, rfl, hx, x3, lo3⟩
  have hsec : BG.sec ⟨a, m, s.size, 0⟩ s.seen 0 = s.seen.getD a [] := rfl
  rw [hsec] at hx x3
  have hx : (s.seen.getD a []).length = s.size := hx
  have C3 := number_sl _ _ _ _ 12 w3 x3 (by omega) (by omega)
  rw [← HK.out] at C3
  have C3 := Lib.hid C3
  have K3 : Hid (Only (fun i => w.heap.size ≤ i) w w3) := K2.out.trans (Only.of_below lo3) (fun i hi h => by have := K2.out.size; have h : w2.heap.size ≤ i := h; omega)
  have BK3 := Lib.hid (BK2.out.only (Only.of_below lo3) (fun i hi h hg => by have h : w2.heap.size ≤ i := h; omega))
  clear x3 lo3 C2 BK2 hsec hx
  go_wp2_with fail
  refine C3.out.mono ?_
  rintro e w4 ⟨rfl, n4, rfl⟩
  have K4 : Hid (Only (fun i => w.heap.size ≤ i) w (w3.drewN n4)) := K3.out.drewN n4
  obtain ⟨G, hGd⟩ : ∃ G : Nat → Prop, G = fun i => i = w.heap.size ∨ i = w.heap.size + 1 := ⟨_, rfl⟩
  obtain ⟨gm, bk4⟩ : ∃ gm, BkAt (w3.drewN n4) G (w.heap.size + 1) gd ⟨a, m, s.size, 0⟩ (fun _ => none) gm := by
    rw [hGd]
    exact BK3.out.only (S := fun _ => False) ((Only.refl _ w3).drewN n4) (fun _ _ h => h.elim)
  have d4 := bk4.cells.2.2.2.2.1
  have e4 := bk4.has.frozen 4
  have hGw : ∀ i, G i → w.heap.size ≤ i := fun i hi => by
    rw [hGd] at hi
    have hi : i = w.heap.size ∨ i = w.heap.size + 1 := hi
    omega
  have K5 : Hid (Only (fun i => w.heap.size ≤ i) w ((w3.drewN n4).setCell ⟨w.heap.size + 1, 4, none⟩ (.int .i64 (k : Int)))) := K4.out.setCell (p := ⟨w.heap.size + 1, 4, none⟩) (fun _ => by show w.heap.size ≤ w.heap.size + 1; omega) _
  have B5 : Hid (BkAt ((w3.drewN n4).setCell ⟨w.heap.size + 1, 4, none⟩ (.int .i64 (k : Int))) G (w.heap.size + 1) gd ⟨a, m, s.size, k⟩ (fun _ => none) gm) := by
    have ks : Only (fun i => i = w.heap.size + 1) (w3.drewN n4) ((w3.drewN n4).setCell ⟨w.heap.size + 1, 4, none⟩ (.int .i64 (k : Int))) := (Only.refl (fun i => i = w.heap.size + 1) _).setCell (p := ⟨w.heap.size + 1, 4, none⟩) (fun _ => rfl) _
    have hnm : gm ≠ w.heap.size + 1 := fun e => by
      obtain ⟨_, _, q, _⟩ := bk4.ch.map
      obtain ⟨es, clock, hb, _⟩ := q
      have := bk4.has
      unfold Has at this
      rw [← e, hb] at this
      cases this
    refine ⟨bk4.has.set 4 _, ⟨?_, fun p bs hp => by cases hp⟩, bk4.gB, bk4.gM, fun i hi => Nat.lt_of_lt_of_le (bk4.lt i hi) ks.size⟩
    obtain ⟨n0, D0, q1, q2, q3⟩ := bk4.ch.map
    exact ⟨n0, D0, map_only q1 ks hnm, q2, fun p bs hp => by cases hp⟩
  have HGW := Lib.hid hGw
  clear bk4 K4 BK3 C3 K3 hGd hGw
  go_wp2_with fail
  generalize hw5 : (w3.drewN n4).setCell ⟨w.heap.size + 1, 4, none⟩ (.int .i64 (k : Int)) = w5 at K5 B5 ⊢
  clear hw5 d4 e4
  have K6 : Hid (Only (fun i => w.heap.size ≤ i) w w5.drew) := K5.out.drew
  obtain ⟨⟨c0, c1, c2, c3, f3⟩, B3, dk6⟩ := HB.out w5.drew K6.out
  have d4 := B5.out.cells.2.2.2.2.1
  have CM : Hid (∀ W, Calls Tryz.prog 36 #[.int .i64 (m : Int), .int .i64 (k : Int)] W fun e w' => e = .returned (.bool (mayH (m : Int) (k : Int))) ∧ w' = W) := fun W => (mayhave_any (m : Int) (k : Int) W).mono fun e w' hh => ⟨hh.1, hh.2.symm⟩
  have hmi := Lib.hid (mayH_iff m k)
  by_cases hmay : mayH (m : Int) (k : Int) = true
  · have hmi2 := hmi.out.1 hmay
    have HM := Lib.hid hmay
    rw [hmay] at CM
    clear hmay hmi
    have hok : BG.Ok ⟨a, m, s.size, k⟩ s.kept.length := ⟨hz, hz2, hmi2.1, hmi2.2.1, hmi2.2.2, by show a + m ≤ _; omega, hN⟩
    have ST : Hid (∀ w', Only (fun _ => False) w5 w' → St w' F E G gd s (w.heap.size + 1) ⟨a, m, s.size, k⟩ (fun _ => none)) := fun w' k' => by
      refine ⟨(HB.out w' (K5.out.trans k' (fun _ _ h => h.elim))).2.2, ⟨gm, B5.out.only k' (fun _ _ h => h.elim)⟩, fun i hi => ⟨fun hF => ?_, fun hE => ?_⟩, hok, rfl⟩
      · have := HGW.out i hi
        have := H.out.2.2.1 i hF
        omega
      · have := HGW.out i hi
        have := H.out.2.2.2.1 i hE
        omega
    obtain ⟨⟨c0, c1, c2, c3, f3⟩, _, _⟩ := HB.out w5 K5.out
    have CY : Hid (∀ W, Calls Tryz.prog 35 #[.bool true, .int .i64 2] W fun e w' => e = .returned (.tuple #[]) ∧ w' = W) := fun W => (must_yes 2 W).mono fun e w' hh => ⟨hh.1, hh.2.symm⟩
    clear B3 dk6 K6 hmi2
    go_quiet (first | (go_at_call 36; exact Calls.quiet_of_same (CM.out _)) | (go_at_call 35; exact Calls.quiet_of_same (CY.out _)))
    have k7 : Only (fun _ => False) w5 (w5.drewN nq) := (Only.refl _ w5).drewN nq
    have s7 := ST.out _ k7
    have CH := pgholds_any F E G gd (w.heap.size + 1) s _ _ _ s7 ho
    have hroot := BG.rooted ⟨a, m, s.size, k⟩ s.seen
    have K7 : Hid (Only (fun i => w.heap.size ≤ i) w (w5.drewN nq)) := K5.out.trans k7 (fun _ _ h => h.elim)
    obtain ⟨g1, hg1⟩ : ∃ g1 : BG, g1 = ⟨a, m, s.size, k⟩ := ⟨_, rfl⟩
    rw [← hg1] at CH ST
    have HG1 : Hid (openG s a m = g1) := Lib.hid (by rw [hg1]; exact HG.out)
    have hgk : (g1.n : Int) = (m : Int) ∧ (g1.k : Int) = (k : Int) := by rw [hg1]; exact ⟨rfl, rfl⟩
    have HGK := Lib.hid hgk
    have hl2 : g1.lst s.seen < 2 := Nat.mod_lt _ (by decide)
    clear hroot hok hg1 hgk s7 c0 c1 c2
    cases hrt : g1.rooted s.seen with
    | false =>
      rw [hrt, if_neg (by decide)] at CH
      have R : Hid (∀ w', Below (w5.drewN nq).heap.size (w5.drewN nq) w' → OpenPost w F E gd s a m p3 2 w') := fun w' lo => by
        have k8 : Only (fun i => w.heap.size ≤ i) w w' := K7.out.trans (Only.of_below lo) (fun i hi h => by have := K7.out.size; have h : (w5.drewN nq).heap.size ≤ i := h; omega)
        refine ⟨.inr ⟨rfl, fun hh => ?_, (HB.out w' k8).2.1⟩, k8.mono (fun i _ h => .inr h)⟩
        have := hh.root
        rw [HG1.out, hrt] at this
        cases this
      have CH := Lib.hid CH
      clear hrt
      go_wp2_with fail
      refine CH.out.mono ?_
      rintro e w8 ⟨rfl, lo⟩
      have R2 := Lib.hid (R.out w8 lo)
      clear lo R CH
      go_wp2
      exact ⟨rfl, 2, rfl, R2.out⟩
    | true =>
      rw [hrt, if_pos rfl] at CH
      have CH := Lib.hid CH
      have HR := Lib.hid hrt
      clear hrt
      go_wp2_with fail
      refine CH.out.mono ?_
      rintro e w8 ⟨rfl, lo8⟩
      have k8 : Only (fun _ => False) w5 w8 := k7.trans ⟨lo8.os, lo8.tape, lo8.output, lo8.size, fun i hi _ => lo8.block i hi⟩ (fun _ _ h => h)
      have CS := Lib.hid (pgslots_any F E G gd (w.heap.size + 1) s g1 _ w8 (ST.out _ k8) (g1.lst s.seen) hl2 ho)
      have K8 := Lib.hid k8
      clear k8 lo8 CH
      go_wp2_with fail
      refine CS.out.mono ?_
      rintro e w9 ⟨⟨hsl, v9, rfl, o9⟩ | ⟨hsl, rfl⟩, lo9⟩
      · have k9 : Only (fun _ => False) w5 w9 := K8.out.trans ⟨lo9.os, lo9.tape, lo9.output, lo9.size, fun i hi _ => lo9.block i hi⟩ (fun _ _ h => h)
        have kw9 : Only (fun i => w.heap.size ≤ i) w w9 := K5.out.trans k9 (fun _ _ h => h.elim)
        obtain ⟨⟨_, _, _, c3, f3⟩, b3, _⟩ := HB.out w9 kw9
        have s9 := ST.out _ k9
        have R : Hid (OpenPost w F E gd s a m p3 0 (w9.setCell ⟨p3, 0, none⟩ (.pointer (some ⟨w.heap.size + 1, 0, none⟩)))) := by
          have ks : Only (fun i => i = p3) w9 (w9.setCell ⟨p3, 0, none⟩ (.pointer (some ⟨w.heap.size + 1, 0, none⟩))) := (Only.refl (fun i => i = p3) w9).setCell (p := ⟨p3, 0, none⟩) (fun _ => rfl) _
          refine ⟨.inl ⟨rfl, ?_, w.heap.size + 1, G, b3.set 0 _, ?_, HGW.out⟩, (kw9.mono (fun i _ h => .inr h)).trans ks (fun i _ h => .inl h)⟩
          · rw [HG1.out]
            refine ⟨?_, HR.out, hsl⟩
            rw [HGK.out.1, HGK.out.2]
            exact HM.out
          · rw [HG1.out]
            refine s9.only ks (fun i hi e => ?_)
            subst e
            exact ⟨hp3.1, hp3.2, fun hg => by have := HGW.out _ hg; omega⟩
        obtain ⟨A9, n9, c9, rfl⟩ : ∃ A n c, v9 = .slice A n c := by
          rcases o9.1.2 with ⟨rfl, _⟩ | ⟨q, cap, cur, rfl, _⟩
          · exact ⟨_, _, _, rfl⟩
          · exact ⟨_, _, _, rfl⟩
        clear hsl o9 lo9 k9 kw9 b3 s9 CS
        go_wp2
        go_end0
        exact ⟨0, rfl, R.out⟩
      · have k9 : Only (fun _ => False) w5 w9 := K8.out.trans ⟨lo9.os, lo9.tape, lo9.output, lo9.size, fun i hi _ => lo9.block i hi⟩ (fun _ _ h => h)
        have kw9 : Only (fun i => w.heap.size ≤ i) w w9 := K5.out.trans k9 (fun _ _ h => h.elim)
        have R : Hid (OpenPost w F E gd s a m p3 2 w9) := by
          refine ⟨.inr ⟨rfl, fun hh => hsl ?_, (HB.out w9 kw9).2.1⟩, kw9.mono (fun i _ h => .inr h)⟩
          have := hh.sl
          rw [HG1.out] at this
          exact this
        clear hsl lo9 k9 kw9 CS
        go_wp2
        exact ⟨rfl, 2, rfl, R.out⟩
  · have hmay : mayH (m : Int) (k : Int) = false := by simpa using hmay
    have R : Hid (OpenPost w F E gd s a m p3 2 w5.drew) := by
      refine ⟨.inr ⟨rfl, fun hh => ?_, B3⟩, K6.out.mono (fun i _ h => .inr h)⟩
      have := hh.may
      rw [HG.out] at this
      rw [show ((⟨a, m, s.size, k⟩ : BG).n : Int) = (m : Int) from rfl, show ((⟨a, m, s.size, k⟩ : BG).k : Int) = (k : Int) from rfl, hmay] at this
      cases this
    rw [hmay] at CM
    clear B3 dk6 HB
    refine wp_region_held_drew (S := fun w' => w'.cell? ⟨p2, 0, none⟩ = some (.int .i64 (m : Int)) ∧ w'.cell? ⟨w.heap.size + 1, 4, none⟩ = some (.int .i64 (k : Int))) (by kernel_rfl) ?_ (fun hHeld => ?_)
    · exact ⟨c2, d4⟩
    refine takeH (i := 0) (d := 19) (v := ?_) (by kernel_rfl) (by kernel_rfl) (by kernel_rfl) rfl (fun _ _ _ h => h) (by rfl) ?_ hHeld ?_
    rotate_left
    · intro o ho w hSw
      cases ho
      have h1 := hSw.1
      have h2 := hSw.2
      go_simp
      try with_reducible rfl
    simp only [Act.put, List.setIfInBounds_toArray, List.set_cons_zero, List.set_cons_succ]
    refine takeH (i := 1) (d := 20) (v := ?_) (by kernel_rfl) (by kernel_rfl) (by kernel_rfl) rfl (fun _ _ _ h => h) (by rfl) ?_ hHeld ?_
    rotate_left
    · intro o ho w hSw
      cases ho
      have h1 := hSw.1
      have h2 := hSw.2
      go_simp
      try with_reducible rfl
    simp only [Act.put, List.setIfInBounds_toArray, List.set_cons_zero, List.set_cons_succ]
    refine takeH (i := 2) (d := 21) (v := ?_) (by kernel_rfl) (by kernel_rfl) (by kernel_rfl) rfl (fun _ _ _ h => h) (by rfl) ?_ hHeld ?_
    rotate_left
    · intro o ho w hSw
      cases ho
      have h1 := hSw.1
      have h2 := hSw.2
      go_simp
      try with_reducible rfl
    simp only [Act.put, List.setIfInBounds_toArray, List.set_cons_zero, List.set_cons_succ]
    refine takeH (i := 3) (d := 22) (v := ?_) (by kernel_rfl) (by kernel_rfl) (by kernel_rfl) rfl (fun _ _ _ h => h) (by rfl) ?_ hHeld ?_
    rotate_left
    · intro o ho w hSw
      cases ho
      have h1 := hSw.1
      have h2 := hSw.2
      go_simp
      try with_reducible rfl
    simp only [Act.put, List.setIfInBounds_toArray, List.set_cons_zero, List.set_cons_succ]
    refine takeH (i := 4) (d := 23) (v := ?_) (by kernel_rfl) (by kernel_rfl) (by kernel_rfl) rfl (fun _ _ _ h => h) (by rfl) ?_ hHeld ?_
    rotate_left
    · intro o ho w hSw
      cases ho
      have h1 := hSw.1
      have h2 := hSw.2
      go_simp
      try with_reducible rfl
    simp only [Act.put, List.setIfInBounds_toArray, List.set_cons_zero, List.set_cons_succ]
    refine wpAnyH_ready (rs := [5]) (by kernel_rfl) (by simp) ?_
    refine AllReadyH.cons rfl (fun K hK => ?_) AllReadyH.nil
    go_simp
    refine (CM.out _).mono ?_
    rintro e w' ⟨rfl, rfl⟩
    try go_wp2_with fail
    refine hK.out _ _ ?_ (fun hHeld => ?_)
    · exact ⟨c2, d4⟩
    clear hK K
    refine wpAnyH_ready (rs := [6]) (by kernel_rfl) (by simp) ?_
    refine AllReadyH.cons rfl (fun K hK => ?_) AllReadyH.nil
    go_simp
    refine (must_no 2 _).mono ?_
    rintro e w' ⟨rfl, rfl⟩
    exact ⟨rfl, 2, rfl, R.out⟩
end
end Go.Proofs.YtnhojcldeloigaaGreat
