/-
  Layer 10's own 'check'.
-/
import Derived.Test.YtfkojilhpkklfaaGeomB
namespace Go.Proofs.Ytfkojilhpkklfaa
open Go.RowKit Go.Lib
set_option maxRecDepth 100000

/-- What the law's check tells: may each number be? -/
def chkI (g : G3) : Int := if g.may = true then 0 else 1
theorem chkI_no {g : G3} (h : g.may = false) : chkI g = 1 := by unfold chkI; rw [h]; rfl
theorem chkI_yes {g : G3} (h : g.may = true) : chkI g = 0 := by unfold chkI; rw [h]; rfl
set_option maxHeartbeats 4000000 in
theorem check10_of (b n i : Int) (hb : b = 64 ∨ b = 128 ∨ b = 256 ∨ b = 512 ∨ b = 1024) (w : World) : Calls Try.prog 10 #[.agg #[.int .i64 b, .int .i64 n, .int .i64 i]] w fun e w' => e = .returned (.int .i64 (chkI ⟨b, n, i⟩)) ∧ Still w w' := by
  have HV := Lib.hid (may_rest (n := n) (i := i) hb)
  have HY : Hid ((8 ≤ n ∧ n ≤ 65536 ∧ 1 ≤ i ∧ i ≤ 4096) → chkI ⟨b, n, i⟩ = 0) := Lib.hid (fun h => chkI_yes (by rw [HV.out]; simp [h]))
  have HN : Hid (¬ (8 ≤ n ∧ n ≤ 65536 ∧ 1 ≤ i ∧ i ≤ 4096) → chkI ⟨b, n, i⟩ = 1) := Lib.hid (fun h => chkI_no (by
    rw [HV.out]
    rw [Bool.eq_false_iff]
    intro hh
    simp only [Bool.and_eq_true, decide_eq_true_eq] at hh
    omega))
  generalize chkI ⟨b, n, i⟩ = V at *
  have K : Hid (Still w (w.alloc (.cells #[.int .i64 b, .int .i64 n, .int .i64 i] 23))) := Lib.hid ((Still.refl w).alloc _)
  clear HV
  rcases hb with rfl | rfl | rfl | rfl | rfl
  all_goals
    go_enter Try.func10, Try.ntmps10
    go_wp2
    refine wp_loop_rounds 6 ?_
    rw [rounds_succ]
    go_wp2
    rw [rounds_succ]
    go_wp2
    rw [rounds_succ]
    go_wp2
    rw [rounds_succ]
    go_wp2
    rw [rounds_succ]
    go_wp2
    rw [rounds_succ]
    go_wp2
  all_goals
    go_ret
    refine ⟨congrArg (fun x => Ending.returned (.int .i64 x)) ?_, K.out⟩
    first | exact (HY.out (by omega)).symm | exact (HN.out (by omega)).symm
set_option maxHeartbeats 4000000 in
theorem check10_none (b n i : Int) (h1 : ¬ b = 64) (h2 : ¬ b = 128) (h3 : ¬ b = 256) (h4 : ¬ b = 512) (h5 : ¬ b = 1024) (w : World) : Calls Try.prog 10 #[.agg #[.int .i64 b, .int .i64 n, .int .i64 i]] w fun e w' => e = .returned (.int .i64 1) ∧ Still w w' := by
  have K : Hid (Still w (w.alloc (.cells #[.int .i64 b, .int .i64 n, .int .i64 i] 23))) := Lib.hid ((Still.refl w).alloc _)
  have e1 : (b == 64) = false := by simpa using h1
  have e2 : (b == 128) = false := by simpa using h2
  have e3 : (b == 256) = false := by simpa using h3
  have e4 : (b == 512) = false := by simpa using h4
  have e5 : (b == 1024) = false := by simpa using h5
  go_enter Try.func10, Try.ntmps10
  go_wp2
  refine wp_loop_rounds 6 ?_
  rw [rounds_succ]
  go_wp2
  rw [rounds_succ]
  go_wp2
  rw [rounds_succ]
  go_wp2
  rw [rounds_succ]
  go_wp2
  rw [rounds_succ]
  go_wp2
  rw [rounds_succ]
  go_wp2
  go_ret
  exact ⟨rfl, K.out⟩
theorem check10_any (g : G3) (w : World) : Calls Try.prog 10 #[g.val] w fun e w' => e = .returned (.int .i64 (chkI g)) ∧ Still w w' := by
  obtain ⟨b, n, i⟩ := g
  by_cases hb : b = 64 ∨ b = 128 ∨ b = 256 ∨ b = 512 ∨ b = 1024
  · exact check10_of b n i hb w
  · have e : (G3.mk b n i).may = false := decide_eq_false (fun h => hb h.1)
    rw [chkI_no e]
    exact check10_none b n i (by omega) (by omega) (by omega) (by omega) (by omega) w
end Go.Proofs.Ytfkojilhpkklfaa
