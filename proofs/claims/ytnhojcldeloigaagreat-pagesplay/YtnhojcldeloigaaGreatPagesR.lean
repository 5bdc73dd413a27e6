/-
  Package pages: Format.
-/
import Derived.Test.YtnhojcldeloigaaGreatPagesQ
import Derived.Test.YtnhojcldeloigaaGreatPackPagA
namespace Go.Proofs.YtnhojcldeloigaaGreat
open Go.RowKit Go.Lib Go.Maps
set_option maxRecDepth 100000

theorem Tryz.enterFormat1 : ∀ args w, (callFunc 33 args).run Tryz.prog w = .ok (.enter 33 args) w := enters_of Tryz.func33 (by kernel_rfl) rfl
/-- The list that a new book's root tells. -/
def newL (s : D) (a : Nat) : Nat := 1 - lstOf (s.seen.getD a [])
def zslots (g : BG) : List UInt8 := List.replicate (g.M * g.z) 0
/-- What Format does to a disk where it may. -/
def formD (g : BG) (s : D) : Int × D := turnD g s (newL s g.at_) (zslots g)
/-- What Format leaves. -/
def FormPost (w : World) (F E : Nat → Prop) (gd : Nat) (s : D) (g : BG) (p : Nat) (w' : World) : Prop :=
  ∃ gb F' E' G, Has w' p 29 #[.pointer (some ⟨gb, 0, none⟩)] ∧ St w' F' E' G gd s gb g noCh ∧ (∀ i, F' i → F i ∨ w.heap.size ≤ i) ∧ (∀ i, E' i → E i ∨ w.heap.size ≤ i) ∧ (∀ i, G i → w.heap.size ≤ i) ∧ Only (fun i => F i ∨ i = p ∨ w.heap.size ≤ i) w w'
section
variable (F E : Nat → Prop) (gd : Nat) (s : D) (w : World) (h : Dk w F E gd s)
include h
set_option maxHeartbeats 2000000 in
theorem format1_yes (a m k p0 p1 p2 p3 p4 : Nat) (ho : s.off = false) (hz : 64 ≤ s.size) (ht : there s.kept.length (a : Int) (m : Int) = true) (hmay : mayH (m : Int) (k : Int) = true) (hroom : s.Room 10) (hT : (formD ⟨a, m, s.size, k⟩ s).1 = 0)
    (b0 : Has w p0 25 #[.pointer (some ⟨gd, 0, none⟩)]) (b1 : Has w p1 3 #[.int .i64 (a : Int)]) (b2 : Has w p2 3 #[.int .i64 (m : Int)]) (b3 : Has w p3 3 #[.int .i64 (k : Int)]) (b4 : Has w p4 29 #[.pointer none]) (hp4 : ¬ F p4 ∧ ¬ E p4) :
    Calls Tryz.prog 33 #[.pointer (some ⟨p0, 0, none⟩), .pointer (some ⟨p1, 0, none⟩), .pointer (some ⟨p2, 0, none⟩), .pointer (some ⟨p3, 0, none⟩), .pointer (some ⟨p4, 0, none⟩)] w fun e w' => e = endsIn 0 ∧ FormPost w F E gd (formD ⟨a, m, s.size, k⟩ s).2 ⟨a, m, s.size, k⟩ p4 w' := by
  have hlt := h.lt
  have hN := hlt.2.2.2.2.2.most
  have hz2 := hlt.2.2.2.2.2.small
  have ht' : 0 ≤ (a : Int) ∧ (a : Int) < (s.kept.length : Int) ∧ 0 ≤ (m : Int) ∧ (m : Int) ≤ (s.kept.length : Int) - (a : Int) := of_decide_eq_true ht
  have hmi2 := (mayH_iff m k).1 hmay
  have hok : BG.Ok ⟨a, m, s.size, k⟩ s.kept.length := ⟨hz, hz2, hmi2.1, hmi2.2.1, hmi2.2.2, by show a + m ≤ _; omega, hN⟩
  have HB : Hid (∀ w', Only (fun i => w.heap.size ≤ i) w w' → (w'.cell? ⟨p0, 0, none⟩ = some (.pointer (some ⟨gd, 0, none⟩)) ∧ w'.cell? ⟨p1, 0, none⟩ = some (.int .i64 (a : Int)) ∧ w'.cell? ⟨p2, 0, none⟩ = some (.int .i64 (m : Int)) ∧ w'.cell? ⟨p3, 0, none⟩ = some (.int .i64 (k : Int))) ∧ Has w' p4 29 #[.pointer none] ∧ Dk w' F E gd s) := fun w' k => by
    have l0 := b0.lt
    have l1 := b1.lt
    have l2 := b2.lt
    have l3 := b3.lt
    have l4 := b4.lt
    have B0 := b0.only k (by omega)
    have B1 := b1.only k (by omega)
    have B2 := b2.only k (by omega)
    have B3 := b3.only k (by omega)
    exact ⟨⟨B0.cell 0, B1.cell 0, B2.cell 0, B3.cell 0⟩, b4.only k (by omega), h.only k (fun i hi hs => by have hs : w.heap.size ≤ i := hs; omega)⟩
  obtain ⟨⟨c0, c1, c2, c3⟩, _, _⟩ := HB.out w (Only.refl _ _)
  have C0 := mustbethere_any F E gd s w h (a : Int) (m : Int)
  rw [endsB_yes ht] at C0
  have C0 := Lib.hid C0
  have CM : Hid (∀ W, Calls Tryz.prog 36 #[.int .i64 (m : Int), .int .i64 (k : Int)] W fun e w' => e = .returned (.bool true) ∧ w' = W) := fun W => (mayhave_any (m : Int) (k : Int) W).mono fun e w' hh => ⟨by rw [hh.1, hmay], hh.2.symm⟩
  have CO : Hid (∀ w', Only (fun i => w.heap.size ≤ i) w w' → Calls Tryz.prog 37 #[.pointer (some ⟨gd, 0, none⟩), .int .i64 (a : Int), .int .i64 (m : Int)] w' (OverAns w' gd a m s.size)) := fun w' k => pgover_any F E gd s w' (HB.out w' k).2.2 a m
  have hl4 := b4.lt
  have H := Lib.hid hlt
  have HT := Lib.hid hT
  have HOK := Lib.hid hok
  obtain ⟨g, hg⟩ : ∃ g : BG, g = ⟨a, m, s.size, k⟩ := ⟨_, rfl⟩
  rw [← hg] at HT HOK ⊢
  have hgz : g.z = s.size := by rw [hg]
  have hga : g.at_ = a := by rw [hg]
  have HG := Lib.hid hg
  have HGZ := Lib.hid hgz
  have HGA := Lib.hid hga
  have hMz := HOK.out.Mz
  clear h hlt b0 b1 b2 b3 b4 ht hmay hT hok hmi2 hg hgz hga
  rw [endsIn_zero]
  go_enter Tryz.func33, Tryz.ntmps33
  go_wp2_with fail
  refine C0.out.mono ?_
  rintro e w1 ⟨rfl, n, rfl⟩
  have K1 : Hid (Only (fun i => w.heap.size ≤ i) w (w.drewN n)) := (Only.refl _ w).drewN n
  obtain ⟨⟨c0, c1, c2, c3⟩, _, _⟩ := HB.out _ K1.out
  have C1 := Lib.hid (CO.out _ K1.out)
  clear C0 CO
  go_wp2_with fail
  refine (CM.out _).mono ?_
  rintro e w2 ⟨rfl, rfl⟩
  clear CM
  go_wp2_with fail
  refine (must_yes 1 _).mono ?_
  rintro e w2 ⟨rfl, rfl⟩
  go_wp2_with fail
  refine C1.out.mono ?_
  rintro e w2 ⟨rfl, bk2, lo2⟩
  have K2 : Hid (Only (fun i => w.heap.size ≤ i) w w2) := K1.out.trans (Only.of_below lo2) (fun _ _ h => h)
  obtain ⟨⟨c0, c1, c2, c3⟩, _, _⟩ := HB.out w2 K2.out
  obtain ⟨G, hGd⟩ : ∃ G : Nat → Prop, G = fun i => i = w.heap.size ∨ i = w.heap.size + 1 := ⟨_, rfl⟩
  obtain ⟨gm, bk4⟩ : ∃ gm, BkAt w2 G (w.heap.size + 1) gd ⟨a, m, s.size, 0⟩ (fun _ => none) gm := by
    rw [hGd]
    exact bk2
  have d4 := bk4.cells.2.2.2.2.1
  have e4 := bk4.has.frozen 4
  have hGw : ∀ i, G i → w.heap.size ≤ i := fun i hi => by
    rw [hGd] at hi
    have hi : i = w.heap.size ∨ i = w.heap.size + 1 := hi
    omega
  have K5 : Hid (Only (fun i => w.heap.size ≤ i) w (w2.setCell ⟨w.heap.size + 1, 4, none⟩ (.int .i64 (k : Int)))) := K2.out.setCell (p := ⟨w.heap.size + 1, 4, none⟩) (fun _ => by show w.heap.size ≤ w.heap.size + 1; omega) _
  have B5 : Hid (BkAt (w2.setCell ⟨w.heap.size + 1, 4, none⟩ (.int .i64 (k : Int))) G (w.heap.size + 1) gd g noCh gm) := by
    rw [HG.out]
    have ks : Only (fun i => i = w.heap.size + 1) w2 (w2.setCell ⟨w.heap.size + 1, 4, none⟩ (.int .i64 (k : Int))) := (Only.refl (fun i => i = w.heap.size + 1) _).setCell (p := ⟨w.heap.size + 1, 4, none⟩) (fun _ => rfl) _
    have hnm : gm ≠ w.heap.size + 1 := fun e => bk_ne bk4 e.symm
    refine ⟨bk4.has.set 4 _, ⟨?_, fun p bs hp => by cases hp⟩, bk4.gB, bk4.gM, fun i hi => Nat.lt_of_lt_of_le (bk4.lt i hi) ks.size⟩
    obtain ⟨n0, D0, q1, q2, q3⟩ := bk4.ch.map
    exact ⟨n0, D0, map_only q1 ks hnm, q2, fun p bs hp => by cases hp⟩
  have HGW := Lib.hid hGw
  clear bk4 bk2 lo2 hGd hGw C1 K1 K2
  go_upto_region 22 with fail
  generalize hw5 : w2.setCell ⟨w.heap.size + 1, 4, none⟩ (.int .i64 (k : Int)) = w5 at K5 B5 ⊢
  clear hw5 d4 e4 c0 c1 c2 c3
  have ST : Hid (∀ w', Only (fun i => w5.heap.size ≤ i) w5 w' → St w' F E G gd s (w.heap.size + 1) g noCh) := fun w' k' => by
    have hs5 := K5.out.size
    refine ⟨(HB.out w' (K5.out.trans k' (fun i hi h => by have h : w5.heap.size ≤ i := h; omega))).2.2, ⟨gm, B5.out.only k' (fun i hi h => by have h : w5.heap.size ≤ i := h; omega)⟩, fun i hi => ⟨fun hF => ?_, fun hE => ?_⟩, HOK.out, HGZ.out⟩
    · have := HGW.out i hi
      have := H.out.2.2.1 i hF
      omega
    · have := HGW.out i hi
      have := H.out.2.2.2.1 i hE
      omega
  have Z3 : Hid (∀ w', Only (fun i => w5.heap.size ≤ i) w5 w' → w'.cell? ⟨w.heap.size + 1, 3, none⟩ = some (.int .i64 (g.z : Int))) := fun w' k' => by
    obtain ⟨_, hb⟩ := (ST.out w' k').bk
    exact hb.cells.2.2.2.1
  have hn0 : 0 < g.n := by have := HOK.out.room; omega
  have kd : Hid (Only (fun i => w5.heap.size ≤ i) w5 w5.drew) := (Only.refl _ w5).drew
  have c3 := Z3.out _ kd.out
  have CR := Lib.hid (pgread_on F E G gd (w.heap.size + 1) s g noCh w5.drew (ST.out _ kd.out) 0 ho hn0)
  obtain ⟨lr, hlr⟩ : ∃ lr, lr = lstOf (g.sec s.seen 0) := ⟨_, rfl⟩
  have hlr2 : lr < 2 := by rw [hlr]; exact Nat.mod_lt _ (by decide)
  have HLR : Hid (newL s g.at_ = 1 - lr) := by rw [hlr]; rfl
  have HLS := Lib.hid hlr
  clear hlr
  have ew : IntKind.i64.wrap ((g.M : Int) * (g.z : Int)) = (g.M : Int) * (g.z : Int) := by
    rw [← Int.natCast_mul]
    exact IntWalk.i64_in _ (by omega)
  refine wp_region_held_drew (S := fun w' => w'.cell? ⟨w.heap.size + 1, 3, none⟩ = some (.int .i64 (g.z : Int))) (by kernel_rfl) ?_ (fun hHeld => ?_)
  · exact c3
  refine takeH (i := 0) (d := 22) (v := ?_) (by kernel_rfl) (by kernel_rfl) (by kernel_rfl) rfl (fun _ _ _ h => h) (by rfl) ?_ hHeld ?_
  rotate_left
  · intro o ho w hSw
    cases ho
    have h1 := hSw
    go_simp
    try with_reducible rfl
  simp only [Act.put, List.setIfInBounds_toArray, List.set_cons_zero, List.set_cons_succ]
  refine takeH (i := 1) (d := 23) (v := ?_) (by kernel_rfl) (by kernel_rfl) (by kernel_rfl) rfl (fun _ _ _ h => h) (by rfl) ?_ hHeld ?_
  rotate_left
  · intro o ho w hSw
    cases ho
    have h1 := hSw
    go_simp
    try with_reducible rfl
  simp only [Act.put, List.setIfInBounds_toArray, List.set_cons_zero, List.set_cons_succ]
  refine takeH (i := 5) (d := 27) (v := ?_) (by kernel_rfl) (by kernel_rfl) (by kernel_rfl) rfl (fun _ _ _ h => h) (by rfl) ?_ hHeld ?_
  rotate_left
  · intro o ho w hSw
    cases ho
    have h1 := hSw
    go_simp
    try with_reducible rfl
  simp only [Act.put, List.setIfInBounds_toArray, List.set_cons_zero, List.set_cons_succ]
  refine takeH (i := 7) (d := 29) (v := ?_) (by kernel_rfl) (by kernel_rfl) (by kernel_rfl) rfl (fun _ _ _ h => h) (by rfl) ?_ hHeld ?_
  rotate_left
  · intro o ho w hSw
    cases ho
    have h1 := hSw
    go_simp
    try with_reducible rfl
  simp only [Act.put, List.setIfInBounds_toArray, List.set_cons_zero, List.set_cons_succ]
  refine takeH (i := 8) (d := 30) (v := ?_) (by kernel_rfl) (by kernel_rfl) (by kernel_rfl) rfl (fun _ _ _ h => h) (by rfl) ?_ hHeld ?_
  rotate_left
  · intro o ho w hSw
    cases ho
    have h1 := hSw
    go_simp
    try with_reducible rfl
  simp only [Act.put, List.setIfInBounds_toArray, List.set_cons_zero, List.set_cons_succ]
  refine takeH (i := 9) (d := 31) (v := ?_) (by kernel_rfl) (by kernel_rfl) (by kernel_rfl) rfl (fun _ _ _ h => h) (by rfl) ?_ hHeld ?_
  rotate_left
  · intro o ho w hSw
    cases ho
    have h1 := hSw
    go_simp
    try with_reducible rfl
  simp only [Act.put, List.setIfInBounds_toArray, List.set_cons_zero, List.set_cons_succ]
  refine takeH (i := 10) (d := 32) (v := ?_) (by kernel_rfl) (by kernel_rfl) (by kernel_rfl) rfl (fun _ _ _ h => h) (by rfl) ?_ hHeld ?_
  rotate_left
  · intro o ho w hSw
    cases ho
    have h1 := hSw
    go_simp
    try with_reducible rfl
  simp only [Act.put, List.setIfInBounds_toArray, List.set_cons_zero, List.set_cons_succ]
  refine wpAnyH_ready (rs := [2]) (by kernel_rfl) (by simp) ?_
  refine AllReadyH.cons rfl (fun K hK => ?_) AllReadyH.nil
  go_simp
  refine CR.out.mono ?_
  rintro e w6 ⟨A, c, rfl, hx, x6, lo6⟩
  have K6 : Hid (Only (fun i => w5.heap.size ≤ i) w5 w6) := kd.out.trans (Only.of_below lo6) (fun _ _ h => h)
  have c36 := Z3.out _ K6.out
  have hx6 : (g.sec s.seen 0).length ≤ 1000000 ∧ 16 ≤ (g.sec s.seen 0).length := by have := HOK.out.z1; have := HOK.out.z2; omega
  have CL := listof_any _ _ _ _ w6 x6 hx6.1 hx6.2
  rw [← HLS.out] at CL
  have CL := Lib.hid CL
  clear CR x6 lo6 hx hx6
  try go_wp2_with fail
  refine hK.out _ _ ?_ (fun hHeld => ?_)
  · exact c36
  clear hK K
  refine wpAnyH_ready (rs := [3]) (by kernel_rfl) (by simp) ?_
  refine AllReadyH.cons rfl (fun K hK => ?_) AllReadyH.nil
  go_simp
  refine CL.out.mono ?_
  rintro e w7 ⟨rfl, n7, rfl⟩
  have K7 : Hid (Only (fun i => w5.heap.size ≤ i) w5 (w6.drewN n7)) := K6.out.drewN n7
  have c37 := Z3.out _ K7.out
  clear CL
  try go_wp2_with fail
  refine hK.out _ _ ?_ (fun hHeld => ?_)
  · exact c37
  clear hK K
  refine wpAnyH_ready (rs := [4]) (by kernel_rfl) (by simp) ?_
  refine AllReadyH.cons rfl (fun K hK => ?_) AllReadyH.nil
  go_simp
  refine (other_any lr hlr2 _).mono ?_
  rintro e w7' ⟨rfl, rfl⟩
  try go_wp2_with fail
  refine hK.out _ _ ?_ (fun hHeld => ?_)
  · exact c37
  clear hK K
  have CS := Lib.hid (listsectors_any F E G gd (w.heap.size + 1) s g noCh _ (ST.out _ K7.out))
  refine wpAnyH_ready (rs := [6]) (by kernel_rfl) (by simp) ?_
  refine AllReadyH.cons rfl (fun K hK => ?_) AllReadyH.nil
  go_simp
  refine CS.out.mono ?_
  rintro e w8 ⟨rfl, n8, rfl⟩
  have K8 : Hid (Only (fun i => w5.heap.size ≤ i) w5 ((w6.drewN n7).drewN n8)) := K7.out.drewN n8
  have c38 := Z3.out _ K8.out
  clear CS K7
  try go_wp2_with fail
  refine hK.out _ _ ?_ (fun hHeld => ?_)
  · exact c38
  clear hK K
  refine takeH (i := 11) (d := 33) (v := ?_) (by kernel_rfl) (by kernel_rfl) (by kernel_rfl) rfl (fun _ _ _ h => h) (by rfl) ?_ hHeld ?_
  rotate_left
  · intro o ho w hSw
    cases ho
    have h1 := hSw
    go_simp
    try with_reducible rfl
  simp only [Act.put, List.setIfInBounds_toArray, List.set_cons_zero, List.set_cons_succ]
  have K8 : Hid (Only (fun i => w5.heap.size ≤ i) w5 (w6.drewN (n7 + n8))) := K6.out.drewN _
  have c38 := Z3.out _ K8.out
  obtain ⟨w8, hw8⟩ : ∃ w8, w8 = w6.drewN (n7 + n8) := ⟨_, rfl⟩
  rw [← hw8] at K8 c38 ⊢
  obtain ⟨w9, hmk, o9, k9, s9⟩ := make_bytes (g.M * g.z) (by omega) w8
  rw [Int.natCast_mul] at hmk
  have K9 : Hid (Only (fun i => w5.heap.size ≤ i) w5 w9) := K8.out.trans k9 (fun _ _ h => h.elim)
  have c39 := Z3.out _ K9.out
  clear hw8 K6 c36 c37
  refine wpAnyH_ready (rs := [12]) (by kernel_rfl) (by simp) ?_
  refine AllReadyH.cons rfl (fun K hK => ?_) AllReadyH.nil
  go_simp
  refine hK.out _ _ ?_ (fun hHeld => ?_)
  · exact c39
  clear hK K
  have st9 := ST.out _ K9.out
  have sz5 := K5.out.size
  have sz8 := K8.out.size
  have sz9 := K9.out.size
  have ez : (zslots g).length = g.M * g.z := by simp [zslots]
  have hx9 : SlIs w9 w8.heap.size w9.heap.size (.slice (some ⟨w8.heap.size, 0, none⟩) (zslots g).length (g.M * g.z)) (zslots g) := by
    rw [ez]
    exact owns_SlIs (bs := zslots g) (by rw [ez]; exact o9)
  have CT := pgturn_any F E G gd (w.heap.size + 1) s g noCh w9 st9 (1 - lr) (g.M * g.z) w8.heap.size w9.heap.size ⟨w8.heap.size, 0, none⟩ (zslots g) (by omega) ho hx9 (Nat.le_refl _) (fun i h1 h2 => ⟨fun hF => by have := H.out.2.2.1 i hF; omega, fun hG => by have := B5.out.lt i hG; omega⟩) ez hroom
  have ef : turnD g s (1 - lr) (zslots g) = formD g s := by rw [← HLR.out]; rfl
  rw [ef, HT.out, endsIn_zero, ez] at CT
  have CT := Lib.hid CT
  clear st9 hx9 ez ef o9 k9 s9 hmk ew
  refine wpAnyH_ready (rs := [13]) (by kernel_rfl) (by simp) ?_
  refine AllReadyH.cons rfl (fun K hK => ?_) AllReadyH.nil
  go_simp
  refine CT.out.mono ?_
  rintro e w10 ⟨rfl, st10⟩
  obtain ⟨F', E', G', d, f, e', r, o⟩ := st10
  have c310 : w10.cell? ⟨w.heap.size + 1, 3, none⟩ = some (.int .i64 (g.z : Int)) := by
    obtain ⟨_, hb⟩ := d.bk
    exact hb.cells.2.2.2.1
  have kk9 : Only (fun i => w.heap.size ≤ i) w w9 := K5.out.trans K9.out (fun i hi h => by have h : w5.heap.size ≤ i := h; omega)
  have b4 := (HB.out w9 kk9).2.1.only o (fun h => h.elim hp4.1 (fun hG => by have := HGW.out _ hG; omega))
  have b4c := b4.cell 0
  have b4f := b4.frozen 0
  have R : Hid (FormPost w F E gd (formD g s).2 g p4 (w10.setCell ⟨p4, 0, none⟩ (.pointer (some ⟨w.heap.size + 1, 0, none⟩)))) := by
    have k11 : Only (fun i => i = p4) w10 (w10.setCell ⟨p4, 0, none⟩ (.pointer (some ⟨w.heap.size + 1, 0, none⟩))) := (Only.refl (fun i => i = p4) w10).setCell (p := ⟨p4, 0, none⟩) (fun _ => rfl) _
    refine ⟨_, F', E', G', b4.set 0 _, d.only k11 (fun i _ hi => ⟨fun hF => ?_, fun hE => ?_, fun hG => ?_⟩), fun i hi => (f i hi).imp id (fun h => by omega), fun i hi => (e' i hi).imp id (fun h => by omega), fun i hi => ?_, ((kk9.mono (T := fun i => F i ∨ i = p4 ∨ w.heap.size ≤ i) (fun _ _ h => .inr (.inr h))).trans o (fun i hi h => ?_)).trans k11 (fun i hi h => .inr (.inl h))⟩
    · have hi : i = p4 := hi
      subst hi
      rcases f _ hF with h | h
      · exact hp4.1 h
      · omega
    · have hi : i = p4 := hi
      subst hi
      rcases e' _ hE with h | h
      · exact hp4.2 h
      · omega
    · have hi : i = p4 := hi
      subst hi
      rcases r _ hG with h | h
      · have := HGW.out _ h
        omega
      · omega
    · rcases r i hi with h | h
      · exact HGW.out i h
      · omega
    · rcases h with h | h
      · exact .inl h
      · exact .inr (.inr (HGW.out i h))
  clear b4 kk9 o r e' f d CT
  try go_wp2_with fail
  refine hK.out _ _ ?_ (fun hHeld => ?_)
  · exact c310
  clear hK K
  refine wpAnyH_done (by kernel_rfl) ?_ _
  go_wp2
  go_end0
  exact ⟨rfl, R.out⟩
end
end Go.Proofs.YtnhojcldeloigaaGreat
