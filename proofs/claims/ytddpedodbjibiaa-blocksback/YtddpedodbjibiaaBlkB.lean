/-
  Package blocks: road.
-/
import Derived.Test.YtddpedodbjibiaaBlkA
import Derived.Test.YtddpedodbjibiaaCellRow
namespace Go.Proofs.Ytddpedodbjibiaa
open Go.RowKit Go.Lib
set_option maxRecDepth 100000

theorem Try.roadSize : (Try.prog.info? 25).map (·.size) = some 4 := by kernel_rfl
/-- What is reckoned on the way. -/
theorem Isb.range {b : Int} (h : Isb b) : 64 ≤ b ∧ b ≤ 1024 := by
  unfold Isb at h
  omega
theorem road_facts {o b : Int} (h : Isb b) (h0 : 0 ≤ o) (h1 : o < mostN b) :
    o.tdiv b = o / b ∧ o.tmod b = o % b ∧ 0 ≤ o / b ∧ o / b < 8 + b / 4 + b / 4 * (b / 4) ∧ 0 ≤ o % b ∧ o % b < b ∧ 16 ≤ b / 4 ∧ b / 4 ≤ 256 ∧ o / b ≤ 65800 := by
  refine ⟨Int.tdiv_eq_ediv_of_nonneg h0, Int.tmod_eq_emod_of_nonneg h0, ?_⟩
  rcases h with rfl | rfl | rfl | rfl | rfl
  · have h2 : o < 17920 := h1
    omega
  · have h2 : o < 136192 := h1
    omega
  · have h2 : o < 1067008 := h1
    omega
  · have h2 : o < 8458240 := h1
    omega
  · have h2 : o < 67379200 := h1
    omega

set_option maxHeartbeats 4000000 in
theorem road_any {o b : Int} (h : Isb b) (h0 : 0 ≤ o) (h1 : o < mostN b) (w : World) : Calls Try.prog 19 #[.int .u64 o, .int .i64 b] w fun e w' => e = .returned (roadN o b).val ∧ Still w w' := by
  have C2 : Hid (∀ W, Calls Try.prog 20 #[.int .i64 b] W fun e w' => e = .returned (.int .i64 (b / 4)) ∧ W = w') := Lib.hid (bnames_any h)
  obtain ⟨t0, t1, q0, q1, m0, m1, n0, n1, q2⟩ := road_facts h h0 h1
  obtain ⟨b0, b1⟩ := h.range
  have hn : ¬ b = 0 := by omega
  unfold roadN
  generalize o / b = q at *
  generalize o % b = t at *
  generalize b / 4 = n at *
  have hn2 : ¬ n = 0 := by omega
  have w0 : IntKind.u64.wrap b = b := IntWalk.u64_in _ (by omega)
  clear h h0 h1 q1
  by_cases k1 : q < 8
  · have d1 : decide (q < 8) = true := decide_eq_true k1
    rw [if_pos k1]
    go_enter Try.func19, Try.ntmps19
    go_wp2_with fail
    go_quiet (first | (go_at_call 20; exact (C2.out _).mono fun _ _ h => ⟨h.1, _, h.2.symm⟩))
    go_wp2
    refine bodyPost_ret (results_cell_row rfl _ _ w.heap.size 25 _ (0, 0) _ rfl ((has_set4r ((Has.new w 25 #[.int .i64 0, .int .i64 0, .int .i64 0, .int .i64 0]).drewN nq) _ _ _ _).alloc _) Try.underlying25 rfl Try.roadSize) rfl ?_
    exact ⟨rfl, Still.alloc (Only.set4 (((Still.refl w).alloc _).drewN nq) (Nat.le_refl _) _ _ _ _) _⟩
  by_cases k2 : q < 8 + n
  · have d1 : decide (q < 8) = false := decide_eq_false k1
    have d2 : decide (q < 8 + n) = true := decide_eq_true k2
    rw [if_neg k1, if_pos k2]
    go_enter Try.func19, Try.ntmps19
    go_wp2_with fail
    go_quiet (first | (go_at_call 20; exact (C2.out _).mono fun _ _ h => ⟨h.1, _, h.2.symm⟩))
    go_wp2
    refine bodyPost_ret (results_cell_row rfl _ _ w.heap.size 25 _ (0, 0) _ rfl ((has_set4r ((Has.new w 25 #[.int .i64 0, .int .i64 0, .int .i64 0, .int .i64 0]).drewN nq) _ _ _ _).alloc _) Try.underlying25 rfl Try.roadSize) rfl ?_
    exact ⟨rfl, Still.alloc (Only.set4 (((Still.refl w).alloc _).drewN nq) (Nat.le_refl _) _ _ _ _) _⟩
  · have d1 : decide (q < 8) = false := decide_eq_false k1
    have d2 : decide (q < 8 + n) = false := decide_eq_false k2
    rw [if_neg k1, if_neg k2]
    have u0 : (q - (8 + n)).tdiv n = (q - (8 + n)) / n := Int.tdiv_eq_ediv_of_nonneg (by omega)
    have v0 : (q - (8 + n)).tmod n = (q - (8 + n)) % n := Int.tmod_eq_emod_of_nonneg (by omega)
    have u1 : 0 ≤ (q - (8 + n)) / n := Int.ediv_nonneg (by omega) (by omega)
    have u2 : (q - (8 + n)) / n ≤ 65800 := Int.le_trans (Int.ediv_le_self _ (by omega)) (by omega)
    have v1 : 0 ≤ (q - (8 + n)) % n := Int.emod_nonneg _ (by omega)
    have v2 : (q - (8 + n)) % n < n := Int.emod_lt_of_pos _ (by omega)
    generalize (q - (8 + n)) / n = u at *
    generalize (q - (8 + n)) % n = v at *
    go_enter Try.func19, Try.ntmps19
    go_wp2_with fail
    go_quiet (first | (go_at_call 20; exact (C2.out _).mono fun _ _ h => ⟨h.1, _, h.2.symm⟩))
    go_wp2
    go_region
    go_wp2
    refine bodyPost_ret (results_cell_row rfl _ _ w.heap.size 25 _ (0, 0) _ rfl ((has_set4r ((Has.new w 25 #[.int .i64 0, .int .i64 0, .int .i64 0, .int .i64 0]).drewN nq) _ _ _ _).alloc _).drew Try.underlying25 rfl Try.roadSize) rfl ?_
    exact ⟨rfl, (Still.alloc (Only.set4 (((Still.refl w).alloc _).drewN nq) (Nat.le_refl _) _ _ _ _) _).drew⟩
end Go.Proofs.Ytddpedodbjibiaa
