/-
  Package blocks: Find, Back, Tables.
-/
import Derived.Test.YtddpedodbjibiaaBlkE
namespace Go.Proofs.Ytddpedodbjibiaa
open Go.RowKit Go.Lib
set_option maxRecDepth 100000

set_option maxHeartbeats 1000000 in
theorem bfind_any (o b : Int) (h0 : 0 ≤ o) (w : World) : Calls Try.prog 8 #[.int .u64 o, .int .i64 b] w fun e w' => e = .returned (.tuple #[(findR o b).val, .int .i64 (findE o b)]) ∧ Still w w' := by
  obtain ⟨W, hW⟩ : ∃ W, W = (((w.alloc (.cells #[.int .u64 o] 22)).alloc (.cells #[.int .i64 b] 3)).alloc (.cells #[.int .i64 0, .int .i64 0, .int .i64 0, .int .i64 0] 25)).alloc (.cells #[.int .i64 0, .int .i64 0, .int .i64 0, .int .i64 0] 25) := ⟨_, rfl⟩
  have sW : W.heap.size = w.heap.size + 1 + 1 + 1 + 1 := by rw [hW]; simp
  have kW : Still w (W.alloc errBox) := by rw [hW]; exact (((((Still.refl w).alloc _).alloc _).alloc _).alloc _).alloc _
  have ho : Has (W.alloc errBox) w.heap.size 22 #[.int .u64 o] := by rw [hW]; exact ((((Has.new w 22 _).alloc _).alloc _).alloc _).alloc _
  have hb : Has (W.alloc errBox) (w.heap.size + 1) 3 #[.int .i64 b] := by
    rw [hW]
    have := ((((Has.new (w.alloc (.cells #[.int .u64 o] 22)) 3 #[.int .i64 b]).alloc (.cells #[.int .i64 0, .int .i64 0, .int .i64 0, .int .i64 0] 25)).alloc (.cells #[.int .i64 0, .int .i64 0, .int .i64 0, .int .i64 0] 25)).alloc errBox)
    simpa using this
  have hr : Has (W.alloc errBox) (w.heap.size + 1 + 1) 25 R4.zero.cells := by
    rw [hW]
    have := ((Has.new ((w.alloc (.cells #[.int .u64 o] 22)).alloc (.cells #[.int .i64 b] 3)) 25 #[.int .i64 0, .int .i64 0, .int .i64 0, .int .i64 0]).alloc (.cells #[.int .i64 0, .int .i64 0, .int .i64 0, .int .i64 0] 25)).alloc errBox
    show Has _ _ _ #[.int .i64 0, .int .i64 0, .int .i64 0, .int .i64 0]
    simpa using this
  have hg : Has (W.alloc errBox) (w.heap.size + 1 + 1 + 1) 25 R4.zero.cells := by
    rw [hW]
    have := (Has.new (((w.alloc (.cells #[.int .u64 o] 22)).alloc (.cells #[.int .i64 b] 3)).alloc (.cells #[.int .i64 0, .int .i64 0, .int .i64 0, .int .i64 0] 25)) 25 #[.int .i64 0, .int .i64 0, .int .i64 0, .int .i64 0]).alloc errBox
    show Has _ _ _ #[.int .i64 0, .int .i64 0, .int .i64 0, .int .i64 0]
    simpa using this
  have C := Lib.hid (caught_any 16 _ Try.enterBFind1 W (findE o b) (fun w' => Only (fun i => i = w.heap.size + 1 + 1 + 1) (W.alloc errBox) w' ∧ Has w' (w.heap.size + 1 + 1 + 1) 25 (findR o b).cells)
    ((bfind1_any o b h0 _ _ _ _ hb ho hg).mono fun e w' hh => ⟨hh.1, (Has.new W 26 #[.int .i64 0]).only hh.2.1 (by omega), hh.2⟩))
  have R : Hid (∀ w1 w2, (Only (fun i => i = w.heap.size + 1 + 1 + 1) (W.alloc errBox) w1 ∧ Has w1 (w.heap.size + 1 + 1 + 1) 25 (findR o b).cells) → Only (fun i => i = W.heap.size) w1 w2 → Has w2 (w.heap.size + 1 + 1) 25 R4.zero.cells ∧ Has w2 (w.heap.size + 1 + 1 + 1) 25 (findR o b).cells ∧ Still w w2) := Lib.hid (fun w1 w2 h1 k2 => by
    obtain ⟨k1, hb⟩ := h1
    have hs := kW.size
    have hs1 := k1.size
    exact ⟨(hr.only k1 (by omega)).only k2 (by omega), hb.only k2 (by omega), Only.trans (Only.trans kW k1 (fun i hi e => by omega)) k2 (fun i hi e => by omega)⟩)
  generalize findE o b = r at *
  generalize findR o b = x at *
  have hx : x.val = .agg #[.int .i64 x.k, .int .i64 x.a, .int .i64 x.b, .int .i64 x.t] := rfl
  rw [hx]
  rw [hW] at C R
  clear ho hb hr hg kW sW hW hx h0
  go_enter Try.func8, Try.ntmps8
  go_wp2_with fail
  refine C.out.mono ?_
  rintro e w2 ⟨rfl, w1, h1, k2⟩
  obtain ⟨hr, hg, ks⟩ := R.out w1 w2 h1 k2
  obtain ⟨x0, x1, x2, x3⟩ := Has.cells4 (show Has w2 _ _ #[.int .i64 0, .int .i64 0, .int .i64 0, .int .i64 0] from hr)
  have f0 := hr.frozen 0
  have f1 := hr.frozen 1
  have f2 := hr.frozen 2
  have f3 := hr.frozen 3
  obtain ⟨y0, y1, y2, y3⟩ := hg.cells4
  have HR := Lib.hid hr
  have KS := Lib.hid ks
  clear h1 k2 hr hg ks R C
  go_wp2_with fail
  refine bodyPost_ret (results_cell_row1 rfl _ _ (w.heap.size + 1 + 1) 25 _ (0, 0) _ rfl (has_set4r HR.out _ _ _ _) Try.underlying25 rfl Try.roadSize) rfl ?_
  exact ⟨rfl, KS.out.set4 (by omega) _ _ _ _⟩

set_option maxHeartbeats 1000000 in
theorem bback_any (r : R4) (b : Int) (w : World) : Calls Try.prog 12 #[r.val, .int .i64 b] w fun e w' => e = .returned (.tuple #[.int .u64 (backO r b), .int .i64 (backE r b)]) ∧ Still w w' := by
  obtain ⟨W, hW⟩ : ∃ W, W = ((w.alloc (.cells #[.int .i64 r.k, .int .i64 r.a, .int .i64 r.b, .int .i64 r.t] 25)).alloc (.cells #[.int .i64 b] 3)).alloc (.cells #[.int .u64 0] 22) := ⟨_, rfl⟩
  have sW : W.heap.size = w.heap.size + 1 + 1 + 1 := by rw [hW]; simp
  have kW : Still w (W.alloc errBox) := by rw [hW]; exact ((((Still.refl w).alloc _).alloc _).alloc _).alloc _
  have hr : Has (W.alloc errBox) w.heap.size 25 r.cells := by rw [hW]; exact (((Has.new w 25 _).alloc _).alloc _).alloc _
  have hb : Has (W.alloc errBox) (w.heap.size + 1) 3 #[.int .i64 b] := by
    rw [hW]
    have := (((Has.new (w.alloc (.cells #[.int .i64 r.k, .int .i64 r.a, .int .i64 r.b, .int .i64 r.t] 25)) 3 #[.int .i64 b]).alloc (.cells #[.int .u64 0] 22)).alloc errBox)
    simpa using this
  have ho : Has (W.alloc errBox) (w.heap.size + 1 + 1) 22 #[.int .u64 0] := by
    rw [hW]
    have := (Has.new ((w.alloc (.cells #[.int .i64 r.k, .int .i64 r.a, .int .i64 r.b, .int .i64 r.t] 25)).alloc (.cells #[.int .i64 b] 3)) 22 #[.int .u64 0]).alloc errBox
    simpa using this
  have C := Lib.hid (caught_any 21 _ Try.enterBBack1 W (backE r b) (fun w' => Only (fun i => i = w.heap.size + 1 + 1) (W.alloc errBox) w' ∧ Has w' (w.heap.size + 1 + 1) 22 #[.int .u64 (backO r b)])
    ((bback1_any r b _ _ _ _ hb hr ho (by omega) (by omega)).mono fun e w' hh => ⟨hh.1, (Has.new W 26 #[.int .i64 0]).only hh.2.1 (by omega), hh.2⟩))
  have R : Hid (∀ w1 w2, (Only (fun i => i = w.heap.size + 1 + 1) (W.alloc errBox) w1 ∧ Has w1 (w.heap.size + 1 + 1) 22 #[.int .u64 (backO r b)]) → Only (fun i => i = W.heap.size) w1 w2 → Has w2 (w.heap.size + 1 + 1) 22 #[.int .u64 (backO r b)] ∧ Still w w2) := Lib.hid (fun w1 w2 h1 k2 => by
    obtain ⟨k1, hb⟩ := h1
    have hs := kW.size
    have hs1 := k1.size
    exact ⟨hb.only k2 (by omega), Only.trans (Only.trans kW k1 (fun i hi e => by omega)) k2 (fun i hi e => by omega)⟩)
  generalize backE r b = q at *
  generalize backO r b = x at *
  rw [hW] at C R
  show Calls Try.prog 12 #[.agg #[.int .i64 r.k, .int .i64 r.a, .int .i64 r.b, .int .i64 r.t], .int .i64 b] w _
  clear ho hb hr kW sW hW
  go_enter Try.func12, Try.ntmps12
  go_wp2_with fail
  refine C.out.mono ?_
  rintro e w2 ⟨rfl, w1, h1, k2⟩
  obtain ⟨hg, ks⟩ := R.out w1 w2 h1 k2
  have y0 : w2.cell? ⟨w.heap.size + 1 + 1, 0, none⟩ = some (.int .u64 x) := by simpa using hg.cell 0
  have KS := Lib.hid ks
  clear h1 k2 hg ks R C
  go_wp2
  go_ret2
  exact ⟨rfl, KS.out⟩

/-- How many tables a file has. -/
def tabR (r : R4) : Int := if r.k = 2 then 1 else if r.k = 3 then 2 + r.a + 1 else 0
/-- What can be reached of so many bytes. -/
def topN (s b : Int) : Int := if mostN b < s then mostN b else s
def tabN (s b : Int) : Int := if topN s b = 0 then 0 else tabR (roadN (topN s b - 1) b)
theorem topN_range (s b : Int) (h0 : 0 ≤ s) : 0 ≤ topN s b ∧ topN s b ≤ mostN b ∧ topN s b ≤ 67379200 := by
  obtain ⟨m0, m1⟩ := mostN_range b
  unfold topN
  split <;> omega
/-- A road's kind and first number are small. -/
theorem roadN_small {o b : Int} (h : Isb b) (h0 : 0 ≤ o) (h1 : o < mostN b) : ((roadN o b).k = 1 ∨ (roadN o b).k = 2 ∨ (roadN o b).k = 3) ∧ 0 ≤ (roadN o b).a ∧ (roadN o b).a ≤ 65800 := by
  obtain ⟨_, _, q0, q1, m0, m1, n0, n1, q2⟩ := road_facts h h0 h1
  unfold roadN
  generalize o / b = q at *
  generalize b / 4 = n at *
  split
  · exact ⟨.inl rfl, q0, q2⟩
  · split
    · refine ⟨.inr (.inl rfl), ?_⟩
      show 0 ≤ q - 8 ∧ q - 8 ≤ 65800
      omega
    · refine ⟨.inr (.inr rfl), ?_⟩
      show 0 ≤ (q - (8 + n)) / n ∧ (q - (8 + n)) / n ≤ 65800
      have u1 : 0 ≤ (q - (8 + n)) / n := Int.ediv_nonneg (by omega) (by omega)
      have u2 : (q - (8 + n)) / n ≤ q - (8 + n) := Int.ediv_le_self _ (by omega)
      omega
set_option maxHeartbeats 1000000 in
theorem btables_any (s b : Int) (h0 : 0 ≤ s) (w : World) : Calls Try.prog 13 #[.int .u64 s, .int .i64 b] w fun e w' => e = .returned (.int .i64 (tabN s b)) ∧ Still w w' := by
  have CM : Hid (∀ W, Calls Try.prog 9 #[.int .i64 b] W fun e w' => e = .returned (.int .u64 (mostN b)) ∧ W = w') := Lib.hid (bmost_any b)
  obtain ⟨t0, t1, t2⟩ := topN_range s b h0
  have hx : (if mostN b < s then mostN b else s) = topN s b := rfl
  by_cases hz : topN s b = 0
  · have HT : Hid (tabN s b = 0) := Lib.hid (if_pos hz)
    rw [HT.out]
    rw [hz] at hx
    generalize mostN b = m at *
    clear HT hz t0 t1 t2
    go_enter Try.func13, Try.ntmps13
    go_wp2_with fail
    refine (CM.out _).mono ?_
    rintro e w' ⟨rfl, rfl⟩
    go_wp2
    go_ret
    exact ⟨rfl, Still.refl _⟩
  · have hB : Isb b := by
      by_cases h : Isb b
      · exact h
      · rw [mostN_none h] at t1
        exact absurd (by omega) hz
    have HT : Hid (tabN s b = tabR (roadN (topN s b - 1) b)) := Lib.hid (if_neg hz)
    rw [HT.out]
    have CR : Hid (∀ W, Calls Try.prog 19 #[.int .u64 (topN s b - 1), .int .i64 b] W fun e w' => e = .returned (.agg #[.int .i64 (roadN (topN s b - 1) b).k, .int .i64 (roadN (topN s b - 1) b).a, .int .i64 (roadN (topN s b - 1) b).b, .int .i64 (roadN (topN s b - 1) b).t]) ∧ Still W w') := Lib.hid (road_any hB (by omega) (by omega))
    obtain ⟨hk, a0, a1⟩ := roadN_small (o := topN s b - 1) hB (by omega) (by omega)
    generalize mostN b = m at *
    generalize topN s b = x at *
    generalize roadN (x - 1) b = r at *
    obtain ⟨rk, ra, rb, rt⟩ := r
    simp only at hk a0 a1 CR
    have hw : IntKind.u64.wrap (x - 1) = x - 1 := IntWalk.u64_in _ (by omega)
    have z0 : (x == 0) = false := by simpa using hz
    clear HT hB t1
    rcases hk with rfl | rfl | rfl
    all_goals
      go_enter Try.func13, Try.ntmps13
      go_wp2_with fail
      refine (CM.out _).mono ?_
      rintro e w' ⟨rfl, rfl⟩
      go_wp2_with fail
      refine (CR.out _).mono ?_
      rintro e w1 ⟨rfl, k1⟩
      have K1 := Lib.hid k1
      clear k1
      go_wp2
      go_ret
      exact ⟨rfl, K1.out.alloc _⟩
end Go.Proofs.Ytddpedodbjibiaa
