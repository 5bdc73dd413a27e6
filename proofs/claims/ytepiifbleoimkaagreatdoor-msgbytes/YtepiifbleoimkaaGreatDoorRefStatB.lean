/-
  The second reading's StatOf: what it answers over whatever bytes is what Decode answers.
-/
import Derived.Test.YtepiifbleoimkaaGreatDoorStatI
import Derived.Test.YtepiifbleoimkaaGreatDoorRefStatA
namespace Go.Proofs.YtepiifbleoimkaaGreatDoor
open Go.RowKit
set_option maxRecDepth 100000

/-- Between the takes: the In, what was there before, the result's block, the record's block. -/
structure Mid2 (w : World) (H g : Nat) (bs r : List UInt8) (er : Int) (sb : Nat) (s : S11) (W : World) : Prop where
  inn : RV W H g bs r er
  low : Below w.heap.size w W
  res : Has W w.heap.size 41 S11.zero.cells
  row : Has W sb 41 s.cells
theorem Mid2.step {w W W2 : World} {H g sb : Nat} {bs r r2 : List UInt8} {er er2 : Int} {s : S11} (m : Mid2 w H g bs r er sb s W) (hg : w.heap.size < g) (hs : g < sb) (i : RV W2 H g bs r2 er2) (f : Only (fun i => i = g) W W2) : Mid2 w H g bs r2 er2 sb s W2 :=
  ⟨i, m.low.trans (f.below m.low.size (fun i hi h => by omega)), m.res.only f (by omega), m.row.only f (by omega)⟩
/-- A field stored. -/
theorem Mid2.set {w W : World} {H g sb : Nat} {bs r : List UInt8} {er : Int} {s s2 : S11} (m : Mid2 w H g bs r er sb s W) (hg : w.heap.size < g) (hs : g < sb) (j : Nat) (u : Value) (e : s.cells.setIfInBounds j u = s2.cells) : Mid2 w H g bs r er sb s2 (W.setCell ⟨sb, j, none⟩ u) := by
  have k : Only (fun i => i = sb) W (W.setCell ⟨sb, j, none⟩ u) := (Only.refl (fun i => i = sb) W).setCell (p := ⟨sb, j, none⟩) (fun _ => rfl) u
  have hl := m.inn.lt
  exact ⟨m.inn.only k (by omega) (fun i hi h => by omega), m.low.trans (k.below m.low.size (fun i hi h => by omega)), m.res.only k (by omega), by rw [← e]; exact m.row.set j u⟩
theorem tst_sum {bs : List UInt8} (h : (tst bs 0).2.2 = 0) : bs.length = 2 + (tst bs 0).1.length + (tst bs 0).2.1.length ∧ ((takeSt 2 bs 0).1 : Int) = (tst bs 0).1.length := by
  have hg := rawSt_got (n := ((takeSt 2 bs 0).1 : Int)) h
  by_cases hs : bs.length < 2
  · have e := takeSt_short 2 bs (by omega) (by omega) (by omega)
    unfold tst at h
    rw [e] at h
    simp [rawSt] at h
  · have e := takeSt_long 2 bs (by omega) (by omega) (by omega)
    refine ⟨?_, hg.symm⟩
    unfold tst at h ⊢
    rw [e] at h ⊢
    unfold rawSt at h ⊢
    simp only at h ⊢
    rw [if_neg (by simp), if_neg (by omega)] at h ⊢
    by_cases h2 : ((bs.drop (2 : Int).toNat).length : Int) < (le (bs.take (2 : Int).toNat) : Nat)
    · rw [if_pos h2] at h
      simp at h
    · rw [if_neg h2]
      simp only [List.length_take, List.length_drop] at h2 ⊢
      omega

set_option maxHeartbeats 2000000 in
theorem statof_any (v : Value) (bs : List UInt8) (lo : Nat) (w : World) (hv : SlIs w lo w.heap.size v bs) (hl : bs.length ≤ 100000) :
    Calls Tryz.prog 71 #[v] w (DecodeStep w bs) := by
  have hf : decAns bs = match firstOf bs with
    | .ok (s, rest) => (s, (bs.length : Int) - rest.length, 0)
    | .error er => (S11.zero, 0, er) := rfl
  unfold firstOf at hf
  have hlt := takeSt2_lt bs 0
  have hxl := rawSt_len ((takeSt 2 bs 0).1 : Int) (takeSt 2 bs 0).2.1 (takeSt 2 bs 0).2.2
  have hsum := @tst_sum bs
  have hts : tst bs 0 = rawSt ((takeSt 2 bs 0).1 : Int) (takeSt 2 bs 0).2.1 (takeSt 2 bs 0).2.2 := rfl
  obtain ⟨A, c, rfl, hc1, hc2, hr⟩ := hv
  obtain ⟨W1, hW1⟩ : ∃ W1, W1 = (w.alloc (.cells S11.zero.cells 41)).alloc (.cells #[.slice A bs.length c, .int .i64 0, .int .i64 0] 60) := ⟨_, rfl⟩
  have k0 : Only (fun _ => False) w W1 := by rw [hW1]; exact ((Only.refl _ w).alloc _).alloc _
  have g1 : Has W1 (w.heap.size + 1) 60 #[.slice A bs.length c, .int .i64 0, .int .i64 0] := by
    rw [hW1]
    have := Has.new (w.alloc (.cells S11.zero.cells 41)) 60 #[.slice A bs.length c, .int .i64 0, .int .i64 0]
    simpa using this
  have z1 : Has W1 w.heap.size 41 S11.zero.cells := by rw [hW1]; exact (Has.new w _ _).alloc _
  have v1 : RV W1 w.heap.size (w.heap.size + 1) bs bs 0 := ⟨0, ⟨A, c, g1, hc1, hc2, (hr.wide (Nat.zero_le _) (Nat.le_refl _)).only k0 (Nat.le_refl _) (fun _ _ _ h => h), by omega, Nat.zero_le _⟩, fun _ => rfl⟩
  have c1 := rv_take w.heap.size (w.heap.size + 1) 2 bs bs 0 W1 v1
  have C1 : Hid (Calls Tryz.prog 18 #[.pointer (some ⟨w.heap.size + 1, 0, none⟩), .int .i64 2] W1 fun e w' => e = .returned (.int .u64 (takeSt 2 bs 0).1) ∧ RV w' w.heap.size (w.heap.size + 1) bs (takeSt 2 bs 0).2.1 (takeSt 2 bs 0).2.2 ∧ Below w.heap.size w w' ∧ Has w' w.heap.size 41 S11.zero.cells) :=
    Lib.hid (c1.mono (by
      rintro e w' ⟨he, i, f⟩
      exact ⟨he, i, (k0.below (Nat.le_refl _) (fun _ _ h => h)).trans (f.below k0.size (fun i hi h => by omega)), z1.only f (by omega)⟩))
  generalize takeSt 2 bs 0 = s1 at C1 hlt hxl hts hsum
  obtain ⟨n0, r0, e0⟩ := s1
  simp only at hlt hxl hts C1 hsum
  rw [← hts] at hxl
  have hwu : IntKind.i64.wrap (n0 : Int) = (n0 : Int) := IntWalk.i64_in _ (by omega)
  have Hts := Lib.hid hts
  have HF := Lib.hid hf
  have HSM := Lib.hid hsum
  rw [hW1] at C1
  clear hts hf hsum k0 g1 z1 v1 c1 hr hW1
  unfold S11.zero S11.cells at C1
  go_enter Tryz.func71, Tryz.ntmps71
  go_wp2_with fail
  refine C1.out.mono ?_
  rintro e w1 ⟨rfl, i1, b1, z1⟩
  have C2 := Lib.hid (rv_raw w.heap.size (w.heap.size + 1) (n0 : Int) bs r0 e0 w1 i1 (by omega))
  rw [← Hts.out] at C2
  have B1 := Lib.hid b1
  have Z1 : Hid (Has w1 w.heap.size 41 S11.zero.cells) := z1
  clear i1 b1 z1 C1 Hts
  go_wp2_with fail
  refine C2.out.mono ?_
  rintro e w2 ⟨u, rfl, ow, i2, f2⟩
  have cb := i2.bad
  have b2 := B1.out.trans (f2.below B1.out.size (fun i hi h => by omega))
  have z2 := Z1.out.only f2 (by omega)
  have B2 := Lib.hid b2
  have Z2 := Lib.hid z2
  obtain ⟨A2, cc, hu, hu1, hu2, hur⟩ := owns_slice ow
  clear ow f2 i2 B1 Z1 C2 W1
  generalize tst bs 0 = st at cb hu hu1 hur hxl HF HSM
  obtain ⟨x, r2, e2⟩ := st
  simp only at cb hu hu1 hur hxl HF HSM
  subst hu
  by_cases he : e2 ≠ 0
  · have hd : (e2 != 0) = true := by simpa using he
    have hA : Hid (decAns bs = (S11.zero, 0, 4)) := Lib.hid (by rw [HF.out, if_pos he])
    obtain ⟨⟨x0, x1, x2, x3, x4⟩, ⟨x5, x6, x7, x8⟩, ⟨x9, x10, x11, x12⟩⟩ := z2.cells13
    obtain ⟨⟨y0, y1, y2, y3, y4⟩, ⟨y5, y6, y7, y8⟩, ⟨y9, y10, y11, y12⟩⟩ := z2.frozen13
    clear HF HSM b2 z2 hur
    go_wp2_with fail
    refine bodyPost_ret (results_cell_row2 rfl _ _ w.heap.size 41 _ (0, 0) _ rfl (has_set13 Z2.out S11.zero) Tryz.underlying41 rfl Tryz.refStatSize13) rfl ?_
    unfold DecodeStep
    rw [hA.out]
    refine ⟨rfl, ?_⟩
    exact B2.out.trans (((Only.refl (fun i => i = w.heap.size) w2).set13 (fun _ => rfl) S11.zero).below B2.out.size (fun i hi h => by omega))
  have he : e2 = 0 := by omega
  subst he
  have hf := HF.out
  rw [if_neg (by simp)] at hf
  have HF := Lib.hid hf
  have HS2 := Lib.hid (HSM.out rfl)
  have s2 := b2.size
  have ka : Only (fun _ => False) w2 (w2.alloc (.cells #[.slice A2 x.length cc, .int .i64 0, .int .i64 0] 60)) := (Only.refl _ w2).alloc _
  have i3 : Hid (RV (w2.alloc (.cells #[.slice A2 x.length cc, .int .i64 0, .int .i64 0] 60)) w2.heap.size w2.heap.size x x 0) :=
    Lib.hid ⟨0, ⟨A2, cc, Has.new _ _ _, hu1, hu2, (hur.wide (Nat.zero_le _) (Nat.le_refl _)).only ka (Nat.le_refl _) (fun _ _ _ h => h), Nat.le_refl _, Nat.zero_le _⟩, fun _ => rfl⟩
  have B3 := Lib.hid (b2.alloc s2 (.cells #[.slice A2 x.length cc, .int .i64 0, .int .i64 0] 60))
  have Z3 := Lib.hid (z2.alloc (.cells #[.slice A2 x.length cc, .int .i64 0, .int .i64 0] 60))
  have hg : w.heap.size < w2.heap.size := z2.lt
  have tk := takeSt_lt 2 x 0
  obtain ⟨k, hk⟩ : ∃ k, k = takeSt 2 x 0 := ⟨_, rfl⟩
  rw [show takeSt ((2 : Nat) : Int) x 0 = k from hk.symm] at tk
  have td := takeSt_lt 4 k.2.1 k.2.2
  obtain ⟨d, hd⟩ : ∃ d, d = takeSt 4 k.2.1 k.2.2 := ⟨_, rfl⟩
  rw [show takeSt ((4 : Nat) : Int) k.2.1 k.2.2 = d from hd.symm] at td
  obtain ⟨q, hq⟩ : ∃ q, q = qTake d.2.1 d.2.2 := ⟨_, rfl⟩
  have tm := takeSt_lt 4 q.2.1 q.2.2
  obtain ⟨m, hm⟩ : ∃ m, m = takeSt 4 q.2.1 q.2.2 := ⟨_, rfl⟩
  rw [show takeSt ((4 : Nat) : Int) q.2.1 q.2.2 = m from hm.symm] at tm
  have ta := takeSt_lt 4 m.2.1 m.2.2
  obtain ⟨a, ha⟩ : ∃ a, a = takeSt 4 m.2.1 m.2.2 := ⟨_, rfl⟩
  rw [show takeSt ((4 : Nat) : Int) m.2.1 m.2.2 = a from ha.symm] at ta
  have tc := takeSt_lt 4 a.2.1 a.2.2
  obtain ⟨c, hcx⟩ : ∃ c, c = takeSt 4 a.2.1 a.2.2 := ⟨_, rfl⟩
  rw [show takeSt ((4 : Nat) : Int) a.2.1 a.2.2 = c from hcx.symm] at tc
  have tl := takeSt_lt 8 c.2.1 c.2.2
  obtain ⟨l, hlx⟩ : ∃ l, l = takeSt 8 c.2.1 c.2.2 := ⟨_, rfl⟩
  rw [show takeSt ((8 : Nat) : Int) c.2.1 c.2.2 = l from hlx.symm] at tl
  have hr : recOf x = (textSt l.2.1 l.2.2).bind fun n => (textSt n.2 0).bind fun u => (textSt u.2 0).bind fun g => (textSt g.2 0).bind fun x =>
      if x.2 = [] then some ⟨k.1, d.1, q.1, m.1, a.1, c.1, l.1, n.1, u.1, g.1, x.1⟩ else none := by
    rw [hlx, hcx, ha, hm, hq, hd, hk]
    rfl
  obtain ⟨k1, k2, k3⟩ := k
  obtain ⟨d1, d2, d3⟩ := d
  obtain ⟨q1, q2, q3⟩ := q
  obtain ⟨m1, m2, m3⟩ := m
  obtain ⟨a1, a2, a3⟩ := a
  obtain ⟨c1, c2, c3⟩ := c
  obtain ⟨l1, l2, l3⟩ := l
  simp only at hr tk hk td hd hq tm hm ta ha tc hcx tl hlx
  have wk : IntKind.u16.wrap (k1 : Int) = (k1 : Int) := IntWalk.u16_in _ (by omega)
  have wd : IntKind.u32.wrap (d1 : Int) = (d1 : Int) := IntWalk.u32_in _ (by omega)
  have wm : IntKind.u32.wrap (m1 : Int) = (m1 : Int) := IntWalk.u32_in _ (by omega)
  have wa : IntKind.u32.wrap (a1 : Int) = (a1 : Int) := IntWalk.u32_in _ (by omega)
  have wc : IntKind.u32.wrap (c1 : Int) = (c1 : Int) := IntWalk.u32_in _ (by omega)
  have Hk := Lib.hid hk
  have Hd := Lib.hid hd
  have Hq := Lib.hid hq
  have Hm := Lib.hid hm
  have Ha := Lib.hid ha
  have Hc := Lib.hid hcx
  have Hl := Lib.hid hlx
  have HR := Lib.hid hr
  clear hr ka b2 z2 hur HSM hf hk hd hq hm ha hcx hlx
  have w0 : (0 : Int) ≤ 0 := by omega
  go_wp2_with fail
  refine (rv_take w2.heap.size w2.heap.size 2 x x 0 _ i3.out).mono ?_
  rintro e w3 ⟨rfl, i4, f4⟩
  rw [← Hk.out] at i4 ⊢
  have b4 := B3.out.trans (f4.below B3.out.size (fun i hi h => by omega))
  have z4 := Z3.out.only f4 (by omega)
  have s3 := f4.size
  simp only [World.size_alloc] at s3
  have hs : w2.heap.size < w3.heap.size := by omega
  have M3 : Hid (Mid2 w w2.heap.size w2.heap.size x k2 k3 w3.heap.size ⟨k1, 0, Q3.zero, 0, 0, 0, 0, [], [], [], []⟩ (w3.alloc (.cells (S11.cells ⟨k1, 0, Q3.zero, 0, 0, 0, 0, [], [], [], []⟩) 41))) :=
    Lib.hid ⟨i4.only ((Only.refl (fun _ => False) w3).alloc _) (fun h => h) (fun _ _ h => h), b4.alloc b4.size _, z4.alloc _, Has.new _ _ _⟩
  clear i3 B3 Z3 i4 f4 b4 z4 s3 w0
  go_wp2_with fail
  refine (rv_take w2.heap.size w2.heap.size 4 x k2 k3 _ M3.out.inn).mono ?_
  rintro e w4 ⟨rfl, i4, f4⟩
  rw [← Hd.out] at i4 ⊢
  have m4 := M3.out.step hg hs i4 f4
  have x1 := m4.row.cell 1
  have y1 := m4.row.frozen 1
  simp [S11.cells] at x1
  have M4 := Lib.hid (m4.set (s2 := ⟨k1, d1, Q3.zero, 0, 0, 0, 0, [], [], [], []⟩) hg hs 1 (.int .u32 (d1 : Int)) (by simp [S11.cells]))
  clear m4 i4 f4 M3 Hd
  go_wp2_with fail
  refine (rv_qid w2.heap.size w2.heap.size x d2 d3 _ M4.out.inn).mono ?_
  rintro e w5 ⟨rfl, i4, f4⟩
  rw [← Hq.out] at i4 ⊢
  have m4 := M4.out.step hg hs i4 f4
  unfold Q3.val
  have x2 := m4.row.cell 2
  have x3 := m4.row.cell 3
  have x4 := m4.row.cell 4
  have y2 := m4.row.frozen 2
  have y3 := m4.row.frozen 3
  have y4 := m4.row.frozen 4
  simp [S11.cells] at x2 x3 x4
  have ma := m4.set (s2 := ⟨k1, d1, ⟨q1.t, 0, 0⟩, 0, 0, 0, 0, [], [], [], []⟩) hg hs 2 (.int .u8 (q1.t : Int)) (by simp [S11.cells, Q3.zero])
  have mb := ma.set (s2 := ⟨k1, d1, ⟨q1.t, q1.v, 0⟩, 0, 0, 0, 0, [], [], [], []⟩) hg hs 3 (.int .u32 (q1.v : Int)) (by simp [S11.cells])
  have M5 := Lib.hid (mb.set (s2 := ⟨k1, d1, q1, 0, 0, 0, 0, [], [], [], []⟩) hg hs 4 (.int .u64 (q1.p : Int)) (by simp [S11.cells]))
  clear m4 ma mb i4 f4 M4 Hq
  go_wp2_with fail
  refine (rv_take w2.heap.size w2.heap.size 4 x q2 q3 _ M5.out.inn).mono ?_
  rintro e w6 ⟨rfl, i4, f4⟩
  rw [← Hm.out] at i4 ⊢
  have m4 := M5.out.step hg hs i4 f4
  have x5 := m4.row.cell 5
  have y5 := m4.row.frozen 5
  simp [S11.cells] at x5
  have M6 := Lib.hid (m4.set (s2 := ⟨k1, d1, q1, m1, 0, 0, 0, [], [], [], []⟩) hg hs 5 (.int .u32 (m1 : Int)) (by simp [S11.cells]))
  clear m4 i4 f4 M5 Hm
  go_wp2_with fail
  refine (rv_take w2.heap.size w2.heap.size 4 x m2 m3 _ M6.out.inn).mono ?_
  rintro e w7 ⟨rfl, i4, f4⟩
  rw [← Ha.out] at i4 ⊢
  have m4 := M6.out.step hg hs i4 f4
  have x6 := m4.row.cell 6
  have y6 := m4.row.frozen 6
  simp [S11.cells] at x6
  have M7 := Lib.hid (m4.set (s2 := ⟨k1, d1, q1, m1, a1, 0, 0, [], [], [], []⟩) hg hs 6 (.int .u32 (a1 : Int)) (by simp [S11.cells]))
  clear m4 i4 f4 M6 Ha
  go_wp2_with fail
  refine (rv_take w2.heap.size w2.heap.size 4 x a2 a3 _ M7.out.inn).mono ?_
  rintro e w8 ⟨rfl, i4, f4⟩
  rw [← Hc.out] at i4 ⊢
  have m4 := M7.out.step hg hs i4 f4
  have x7 := m4.row.cell 7
  have y7 := m4.row.frozen 7
  simp [S11.cells] at x7
  have M8 := Lib.hid (m4.set (s2 := ⟨k1, d1, q1, m1, a1, c1, 0, [], [], [], []⟩) hg hs 7 (.int .u32 (c1 : Int)) (by simp [S11.cells]))
  clear m4 i4 f4 M7 Hc
  go_wp2_with fail
  refine (rv_take w2.heap.size w2.heap.size 8 x c2 c3 _ M8.out.inn).mono ?_
  rintro e w9 ⟨rfl, i4, f4⟩
  rw [← Hl.out] at i4 ⊢
  have m4 := M8.out.step hg hs i4 f4
  have x8 := m4.row.cell 8
  have y8 := m4.row.frozen 8
  simp [S11.cells] at x8
  have M9 := Lib.hid (m4.set (s2 := ⟨k1, d1, q1, m1, a1, c1, l1, [], [], [], []⟩) hg hs 8 (.int .u64 (l1 : Int)) (by simp [S11.cells]))
  clear m4 i4 f4 M8 Hl
  go_wp2_with fail
  refine (rv_text w2.heap.size w2.heap.size x l2 l3 _ M9.out.inn (by omega)).mono ?_
  rintro e w10 ⟨rfl, i4, f4⟩
  have M10 := Lib.hid (M9.out.step hg hs i4 f4)
  obtain ⟨T0, hT0⟩ : ∃ T, T = tans l2 l3 := ⟨_, rfl⟩
  obtain ⟨U0, hU0⟩ : ∃ U, U = tst l2 l3 := ⟨_, rfl⟩
  have q0 : T0.2 = 0 → U0.2.2 = 0 ∧ textSt l2 l3 = some (T0.1, U0.2.1) := by
    intro h
    rw [hT0] at h
    refine ⟨by rw [hU0]; exact (tans_zero h).1, ?_⟩
    rw [hT0, hU0, textSt, if_pos h]
  have p0 : T0.2 ≠ 0 → textSt l2 l3 = none := by
    intro h
    rw [hT0] at h
    rw [textSt, if_neg h]
  rw [← hU0] at M10
  rw [← hT0]
  have P0 := Lib.hid p0
  have Q0 := Lib.hid q0
  clear i4 f4 M9 hT0 hU0 p0 q0
  obtain ⟨t0, g0⟩ := T0
  obtain ⟨_, u0, v0⟩ := U0
  simp only at P0 Q0 M10 ⊢
  go_wp2_with fail
  refine (rv_text w2.heap.size w2.heap.size x u0 v0 _ M10.out.inn (by omega)).mono ?_
  rintro e w11 ⟨rfl, i4, f4⟩
  have M11 := Lib.hid (M10.out.step hg hs i4 f4)
  obtain ⟨T1, hT1⟩ : ∃ T, T = tans u0 v0 := ⟨_, rfl⟩
  obtain ⟨U1, hU1⟩ : ∃ U, U = tst u0 v0 := ⟨_, rfl⟩
  have q1 : T1.2 = 0 → U1.2.2 = 0 ∧ textSt u0 v0 = some (T1.1, U1.2.1) := by
    intro h
    rw [hT1] at h
    refine ⟨by rw [hU1]; exact (tans_zero h).1, ?_⟩
    rw [hT1, hU1, textSt, if_pos h]
  have p1 : T1.2 ≠ 0 → textSt u0 v0 = none := by
    intro h
    rw [hT1] at h
    rw [textSt, if_neg h]
  rw [← hU1] at M11
  rw [← hT1]
  have P1 := Lib.hid p1
  have Q1 := Lib.hid q1
  clear i4 f4 M10 hT1 hU1 p1 q1
  obtain ⟨t1, g1⟩ := T1
  obtain ⟨_, u1, v1⟩ := U1
  simp only at P1 Q1 M11 ⊢
  go_wp2_with fail
  refine (rv_text w2.heap.size w2.heap.size x u1 v1 _ M11.out.inn (by omega)).mono ?_
  rintro e w12 ⟨rfl, i4, f4⟩
  have M12 := Lib.hid (M11.out.step hg hs i4 f4)
  obtain ⟨T2, hT2⟩ : ∃ T, T = tans u1 v1 := ⟨_, rfl⟩
  obtain ⟨U2, hU2⟩ : ∃ U, U = tst u1 v1 := ⟨_, rfl⟩
  have q2 : T2.2 = 0 → U2.2.2 = 0 ∧ textSt u1 v1 = some (T2.1, U2.2.1) := by
    intro h
    rw [hT2] at h
    refine ⟨by rw [hU2]; exact (tans_zero h).1, ?_⟩
    rw [hT2, hU2, textSt, if_pos h]
  have p2 : T2.2 ≠ 0 → textSt u1 v1 = none := by
    intro h
    rw [hT2] at h
    rw [textSt, if_neg h]
  rw [← hU2] at M12
  rw [← hT2]
  have P2 := Lib.hid p2
  have Q2 := Lib.hid q2
  clear i4 f4 M11 hT2 hU2 p2 q2
  obtain ⟨t2, g2⟩ := T2
  obtain ⟨_, u2, v2⟩ := U2
  simp only at P2 Q2 M12 ⊢
  go_wp2_with fail
  refine (rv_text w2.heap.size w2.heap.size x u2 v2 _ M12.out.inn (by omega)).mono ?_
  rintro e w13 ⟨rfl, i4, f4⟩
  have M13 := Lib.hid (M12.out.step hg hs i4 f4)
  obtain ⟨T3, hT3⟩ : ∃ T, T = tans u2 v2 := ⟨_, rfl⟩
  obtain ⟨U3, hU3⟩ : ∃ U, U = tst u2 v2 := ⟨_, rfl⟩
  have q3 : T3.2 = 0 → U3.2.2 = 0 ∧ textSt u2 v2 = some (T3.1, U3.2.1) := by
    intro h
    rw [hT3] at h
    refine ⟨by rw [hU3]; exact (tans_zero h).1, ?_⟩
    rw [hT3, hU3, textSt, if_pos h]
  have p3 : T3.2 ≠ 0 → textSt u2 v2 = none := by
    intro h
    rw [hT3] at h
    rw [textSt, if_neg h]
  rw [← hU3] at M13
  rw [← hT3]
  have P3 := Lib.hid p3
  have Q3 := Lib.hid q3
  clear i4 f4 M12 hT3 hU3 p3 q3
  obtain ⟨t3, g3⟩ := T3
  obtain ⟨_, u3, v3⟩ := U3
  simp only at P3 Q3 M13 ⊢
  by_cases h0 : g0 ≠ 0
  · have hb0 : (g0 != 0) = true := by simpa using h0
    have hn : recOf x = none := by
      simp only [HR.out, P0.out h0, Option.bind_none]
    clear he
    obtain ⟨⟨x0, x1, x2, x3, x4⟩, ⟨x5, x6, x7, x8⟩, ⟨x9, x10, x11, x12⟩⟩ := M13.out.res.cells13
    obtain ⟨⟨y0, y1, y2, y3, y4⟩, ⟨y5, y6, y7, y8⟩, ⟨y9, y10, y11, y12⟩⟩ := M13.out.res.frozen13
    have B := Lib.hid M13.out.low
    have Z := Lib.hid M13.out.res
    have hA : Hid (decAns bs = (S11.zero, 0, 2)) := Lib.hid (by rw [HF.out, hn])
    clear hn HF HR
    go_wp2_with fail
    refine bodyPost_ret (results_cell_row2 rfl _ _ w.heap.size 41 _ (0, 0) _ rfl (has_set13 Z.out S11.zero) Tryz.underlying41 rfl Tryz.refStatSize13) rfl ?_
    unfold DecodeStep
    rw [hA.out]
    refine ⟨rfl, ?_⟩
    exact B.out.trans (((Only.refl (fun i => i = w.heap.size) w13).set13 (fun _ => rfl) S11.zero).below B.out.size (fun i hi h => by omega))
  have h0 : g0 = 0 := by omega
  subst h0
  have h0 := (Q0.out rfl).1
  subst h0
  by_cases h1 : g1 ≠ 0
  · have hb1 : (g1 != 0) = true := by simpa using h1
    have hn : recOf x = none := by
      simp only [HR.out, (Q0.out rfl).2, Option.bind_some, P1.out h1, Option.bind_none]
    clear he
    obtain ⟨⟨x0, x1, x2, x3, x4⟩, ⟨x5, x6, x7, x8⟩, ⟨x9, x10, x11, x12⟩⟩ := M13.out.res.cells13
    obtain ⟨⟨y0, y1, y2, y3, y4⟩, ⟨y5, y6, y7, y8⟩, ⟨y9, y10, y11, y12⟩⟩ := M13.out.res.frozen13
    have B := Lib.hid M13.out.low
    have Z := Lib.hid M13.out.res
    have hA : Hid (decAns bs = (S11.zero, 0, 2)) := Lib.hid (by rw [HF.out, hn])
    clear hn HF HR
    go_wp2_with fail
    refine bodyPost_ret (results_cell_row2 rfl _ _ w.heap.size 41 _ (0, 0) _ rfl (has_set13 Z.out S11.zero) Tryz.underlying41 rfl Tryz.refStatSize13) rfl ?_
    unfold DecodeStep
    rw [hA.out]
    refine ⟨rfl, ?_⟩
    exact B.out.trans (((Only.refl (fun i => i = w.heap.size) w13).set13 (fun _ => rfl) S11.zero).below B.out.size (fun i hi h => by omega))
  have h1 : g1 = 0 := by omega
  subst h1
  have h1 := (Q1.out rfl).1
  subst h1
  by_cases h2 : g2 ≠ 0
  · have hb2 : (g2 != 0) = true := by simpa using h2
    have hn : recOf x = none := by
      simp only [HR.out, (Q0.out rfl).2, Option.bind_some, (Q1.out rfl).2, Option.bind_some, P2.out h2, Option.bind_none]
    clear he
    obtain ⟨⟨x0, x1, x2, x3, x4⟩, ⟨x5, x6, x7, x8⟩, ⟨x9, x10, x11, x12⟩⟩ := M13.out.res.cells13
    obtain ⟨⟨y0, y1, y2, y3, y4⟩, ⟨y5, y6, y7, y8⟩, ⟨y9, y10, y11, y12⟩⟩ := M13.out.res.frozen13
    have B := Lib.hid M13.out.low
    have Z := Lib.hid M13.out.res
    have hA : Hid (decAns bs = (S11.zero, 0, 2)) := Lib.hid (by rw [HF.out, hn])
    clear hn HF HR
    go_wp2_with fail
    refine bodyPost_ret (results_cell_row2 rfl _ _ w.heap.size 41 _ (0, 0) _ rfl (has_set13 Z.out S11.zero) Tryz.underlying41 rfl Tryz.refStatSize13) rfl ?_
    unfold DecodeStep
    rw [hA.out]
    refine ⟨rfl, ?_⟩
    exact B.out.trans (((Only.refl (fun i => i = w.heap.size) w13).set13 (fun _ => rfl) S11.zero).below B.out.size (fun i hi h => by omega))
  have h2 : g2 = 0 := by omega
  subst h2
  have h2 := (Q2.out rfl).1
  subst h2
  by_cases h3 : g3 ≠ 0
  · have hb3 : (g3 != 0) = true := by simpa using h3
    have hn : recOf x = none := by
      simp only [HR.out, (Q0.out rfl).2, Option.bind_some, (Q1.out rfl).2, Option.bind_some, (Q2.out rfl).2, Option.bind_some, P3.out h3, Option.bind_none]
    clear he
    obtain ⟨⟨x0, x1, x2, x3, x4⟩, ⟨x5, x6, x7, x8⟩, ⟨x9, x10, x11, x12⟩⟩ := M13.out.res.cells13
    obtain ⟨⟨y0, y1, y2, y3, y4⟩, ⟨y5, y6, y7, y8⟩, ⟨y9, y10, y11, y12⟩⟩ := M13.out.res.frozen13
    have B := Lib.hid M13.out.low
    have Z := Lib.hid M13.out.res
    have hA : Hid (decAns bs = (S11.zero, 0, 2)) := Lib.hid (by rw [HF.out, hn])
    clear hn HF HR
    go_wp2_with fail
    refine bodyPost_ret (results_cell_row2 rfl _ _ w.heap.size 41 _ (0, 0) _ rfl (has_set13 Z.out S11.zero) Tryz.underlying41 rfl Tryz.refStatSize13) rfl ?_
    unfold DecodeStep
    rw [hA.out]
    refine ⟨rfl, ?_⟩
    exact B.out.trans (((Only.refl (fun i => i = w.heap.size) w13).set13 (fun _ => rfl) S11.zero).below B.out.size (fun i hi h => by omega))
  have h3 : g3 = 0 := by omega
  subst h3
  have h3 := (Q3.out rfl).1
  subst h3
  have hr2 : recOf x = if u3 = [] then some ⟨k1, d1, q1, m1, a1, c1, l1, t0, t1, t2, t3⟩ else none := by
    simp only [HR.out, (Q0.out rfl).2, Option.bind_some, (Q1.out rfl).2, Option.bind_some, (Q2.out rfl).2, Option.bind_some, (Q3.out rfl).2, Option.bind_some]
  clear HR P0 P1 P2 P3 Q0 Q1 Q2 Q3 he
  have HR := Lib.hid hr2
  clear hr2
  go_wp2_with fail
  refine (rv_left w2.heap.size w2.heap.size x u3 _ M13.out.inn).mono ?_
  rintro e w' ⟨rfl, m0, rfl⟩
  have kd : Only (fun _ => False) w13 (w13.drewN m0) := (Only.refl _ _).drewN m0
  have N0 := Lib.hid (Mid2.mk (M13.out.inn.only kd (fun h => h) (fun _ _ h => h)) (M13.out.low.trans (kd.below M13.out.low.size (fun _ _ h => h))) (M13.out.res.only kd (fun h => h)) (M13.out.row.only kd (fun h => h)))
  clear kd M13
  by_cases hu : u3 = []
  · subst hu
    have hA : Hid (decAns bs = (⟨k1, d1, q1, m1, a1, c1, l1, t0, t1, t2, t3⟩, (n0 : Int) + 2, 0)) := Lib.hid (by
      rw [HF.out, HR.out, if_pos rfl]
      obtain ⟨hsm, hsn⟩ := HS2.out
      simp only [Prod.mk.injEq, true_and, and_true]
      omega)
    clear HF HR HS2
    rw [List.length_nil]
    have a9 := N0.out.row.cell 9
    have a10 := N0.out.row.cell 10
    have a11 := N0.out.row.cell 11
    have a12 := N0.out.row.cell 12
    have f9 := N0.out.row.frozen 9
    have f10 := N0.out.row.frozen 10
    have f11 := N0.out.row.frozen 11
    have f12 := N0.out.row.frozen 12
    simp [S11.cells] at a9 a10 a11 a12
    have n0 := N0.out.set (s2 := ⟨k1, d1, q1, m1, a1, c1, l1, t0, [], [], []⟩) hg hs 9 (.string (strOf t0)) (by simp [S11.cells])
    have n1 := n0.set (s2 := ⟨k1, d1, q1, m1, a1, c1, l1, t0, t1, [], []⟩) hg hs 10 (.string (strOf t1)) (by simp [S11.cells])
    have n2 := n1.set (s2 := ⟨k1, d1, q1, m1, a1, c1, l1, t0, t1, t2, []⟩) hg hs 11 (.string (strOf t2)) (by simp [S11.cells])
    have n3 := n2.set (s2 := ⟨k1, d1, q1, m1, a1, c1, l1, t0, t1, t2, t3⟩) hg hs 12 (.string (strOf t3)) (by simp [S11.cells])
    obtain ⟨W5, hW5⟩ : ∃ W5, W5 = (((((w13.drewN m0).setCell ⟨w3.heap.size, 9, none⟩ (.string (strOf t0))).setCell ⟨w3.heap.size, 10, none⟩ (.string (strOf t1))).setCell ⟨w3.heap.size, 11, none⟩ (.string (strOf t2))).setCell ⟨w3.heap.size, 12, none⟩ (.string (strOf t3))) := ⟨_, rfl⟩
    rw [← hW5] at n3
    have N3 := Lib.hid n3
    have HW := Lib.hid hW5
    clear n0 n1 n2 n3 N0 hW5
    go_upto_region 24 with fail
    rw [← HW.out]
    obtain ⟨⟨d0, d1', d2', d3', d4⟩, ⟨d5, d6, d7, d8⟩, ⟨d9, d10, d11, d12⟩⟩ := N3.out.row.cells13
    obtain ⟨⟨x0, x1, x2, x3, x4⟩, ⟨x5, x6, x7, x8⟩, ⟨x9, x10, x11, x12⟩⟩ := N3.out.res.cells13
    obtain ⟨⟨y0, y1, y2, y3, y4⟩, ⟨y5, y6, y7, y8⟩, ⟨y9, y10, y11, y12⟩⟩ := N3.out.res.frozen13
    clear HW a9 a10 a11 a12 f9 f10 f11 f12
    have wn : IntKind.i64.wrap ((n0 : Int) + 2) = (n0 : Int) + 2 := IntWalk.i64_in _ (by omega)
    go_wp2_with fail
    refine bodyPost_ret (results_cell_row2 rfl _ _ w.heap.size 41 _ (0, 0) _ rfl (has_set13 N3.out.res ⟨k1, d1, q1, m1, a1, c1, l1, t0, t1, t2, t3⟩) Tryz.underlying41 rfl Tryz.refStatSize13) rfl ?_
    unfold DecodeStep
    rw [hA.out]
    refine ⟨rfl, ?_⟩
    exact N3.out.low.trans (((Only.refl (fun i => i = w.heap.size) W5).set13 (fun _ => rfl) ⟨k1, d1, q1, m1, a1, c1, l1, t0, t1, t2, t3⟩).below N3.out.low.size (fun i hi h => by omega))
  · have hp : (0 : Int) < (u3.length : Int) := by
      have : u3.length ≠ 0 := fun h => hu (List.eq_nil_of_length_eq_zero h)
      omega
    have hn : recOf x = none := by rw [HR.out, if_neg hu]
    obtain ⟨⟨x0, x1, x2, x3, x4⟩, ⟨x5, x6, x7, x8⟩, ⟨x9, x10, x11, x12⟩⟩ := N0.out.res.cells13
    obtain ⟨⟨y0, y1, y2, y3, y4⟩, ⟨y5, y6, y7, y8⟩, ⟨y9, y10, y11, y12⟩⟩ := N0.out.res.frozen13
    have B := Lib.hid N0.out.low
    have Z := Lib.hid N0.out.res
    have hA : Hid (decAns bs = (S11.zero, 0, 2)) := Lib.hid (by rw [HF.out, hn])
    clear hn HF HR
    go_wp2_with fail
    refine bodyPost_ret (results_cell_row2 rfl _ _ w.heap.size 41 _ (0, 0) _ rfl (has_set13 Z.out S11.zero) Tryz.underlying41 rfl Tryz.refStatSize13) rfl ?_
    unfold DecodeStep
    rw [hA.out]
    refine ⟨rfl, ?_⟩
    exact B.out.trans (((Only.refl (fun i => i = w.heap.size) (w13.drewN m0)).set13 (fun _ => rfl) S11.zero).below B.out.size (fun i hi h => by omega))
end Go.Proofs.YtepiifbleoimkaaGreatDoor
