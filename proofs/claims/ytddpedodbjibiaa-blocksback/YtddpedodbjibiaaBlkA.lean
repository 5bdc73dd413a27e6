/-
  Package blocks: roads; may, names, below, Most.
-/
import Derived.Test.YtddpedodbjibiaaCaughtA
import Derived.Test.YtddpedodbjibiaaStill
import Derived.Deep.QuietTactic
import Derived.BigQuiet
import Derived.Deep.Cut
import Derived.Deep.CutRange
import Derived.StillTailTactics
import Derived.Deep.RegionHeld3
import Derived.LoopN
namespace Go.Proofs.Ytddpedodbjibiaa
open Go.RowKit Go.Lib
set_option maxRecDepth 100000

/-- A road: its kind, its two numbers, the byte in the block. -/
structure R4 where
  k : Int
  a : Int
  b : Int
  t : Int
def R4.val (r : R4) : Value := .agg #[.int .i64 r.k, .int .i64 r.a, .int .i64 r.b, .int .i64 r.t]
def R4.cells (r : R4) : Array Value := #[.int .i64 r.k, .int .i64 r.a, .int .i64 r.b, .int .i64 r.t]
def R4.zero : R4 := ⟨0, 0, 0, 0⟩
/-- May a block have so many bytes? -/
def Isb (b : Int) : Prop := b = 64 ∨ b = 128 ∨ b = 256 ∨ b = 512 ∨ b = 1024
instance (b : Int) : Decidable (Isb b) := by unfold Isb; infer_instance
/-- How many bytes can be reached. -/
def mostN (b : Int) : Int := if Isb b then (8 + b / 4 + b / 4 * (b / 4)) * b else 0
/-- The road to byte o. -/
def roadN (o b : Int) : R4 :=
  if o / b < 8 then ⟨1, o / b, 0, o % b⟩
  else if o / b < 8 + b / 4 then ⟨2, o / b - 8, 0, o % b⟩
  else ⟨3, (o / b - (8 + b / 4)) / (b / 4), (o / b - (8 + b / 4)) % (b / 4), o % b⟩
/-- What Find answers. -/
def findE (o b : Int) : Int := if Isb b then (if o < mostN b then 0 else 3) else 1
def findR (o b : Int) : R4 := if findE o b = 0 then roadN o b else R4.zero
/-- Is it a road, where a table names n, but for the byte in the block? -/
def NumOk (r : R4) (n : Int) : Prop :=
  (r.k = 1 ∧ 0 ≤ r.a ∧ r.a < 8 ∧ 0 ≤ r.b ∧ r.b < 1) ∨ (r.k = 2 ∧ 0 ≤ r.a ∧ r.a < n ∧ 0 ≤ r.b ∧ r.b < 1) ∨ (r.k = 3 ∧ 0 ≤ r.a ∧ r.a < n ∧ 0 ≤ r.b ∧ r.b < n)
instance (r : R4) (n : Int) : Decidable (NumOk r n) := by unfold NumOk; infer_instance
/-- Which block it leads to. -/
def numN (r : R4) (n : Int) : Int := if r.k = 1 then r.a else if r.k = 2 then 8 + r.a else 8 + n + r.a * n + r.b
/-- Is it a road? -/
def RoadOk (r : R4) (b : Int) : Prop := Isb b ∧ NumOk r (b / 4) ∧ 0 ≤ r.t ∧ r.t < b
instance (r : R4) (b : Int) : Decidable (RoadOk r b) := by unfold RoadOk; infer_instance
/-- What Back answers. -/
def backE (r : R4) (b : Int) : Int := if RoadOk r b then 0 else 1
def backO (r : R4) (b : Int) : Int := if RoadOk r b then numN r (b / 4) * b + r.t else 0

theorem mostN_none {b : Int} (h : ¬ Isb b) : mostN b = 0 := if_neg h
theorem mostN_range (b : Int) : 0 ≤ mostN b ∧ mostN b ≤ 67379200 := by
  by_cases h : Isb b
  · rcases h with rfl | rfl | rfl | rfl | rfl <;> decide
  · rw [mostN_none h]
    decide

theorem bmay_yes {b : Int} (h : Isb b) (w : World) : Calls Try.prog 18 #[.int .i64 b] w fun e w' => e = .returned (.bool true) ∧ w = w' := by
  rcases h with rfl | rfl | rfl | rfl | rfl
  all_goals
    go_enter Try.func18, Try.ntmps18
    go_wp2
    go_ret
    exact ⟨rfl, rfl⟩
theorem bmay_no {b : Int} (h : ¬ Isb b) (w : World) : Calls Try.prog 18 #[.int .i64 b] w fun e w' => e = .returned (.bool false) ∧ w = w' := by
  have e1 : (b == 64) = false := by simpa using fun e => h (.inl e)
  have e2 : (b == 128) = false := by simpa using fun e => h (.inr (.inl e))
  have e3 : (b == 256) = false := by simpa using fun e => h (.inr (.inr (.inl e)))
  have e4 : (b == 512) = false := by simpa using fun e => h (.inr (.inr (.inr (.inl e))))
  have e5 : (b == 1024) = false := by simpa using fun e => h (.inr (.inr (.inr (.inr e))))
  have n1 : ¬ b = 64 := by simpa using e1
  have n2 : ¬ b = 128 := by simpa using e2
  have n3 : ¬ b = 256 := by simpa using e3
  have n4 : ¬ b = 512 := by simpa using e4
  have n5 : ¬ b = 1024 := by simpa using e5
  clear h
  go_enter Try.func18, Try.ntmps18
  go_wp2
  go_ret
  exact ⟨rfl, rfl⟩
theorem bmay_any (b : Int) (w : World) : Calls Try.prog 18 #[.int .i64 b] w fun e w' => e = .returned (.bool (decide (Isb b))) ∧ w = w' := by
  by_cases h : Isb b
  · rw [decide_eq_true h]
    exact bmay_yes h w
  · rw [decide_eq_false h]
    exact bmay_no h w
theorem bnames_any {b : Int} (h : Isb b) (w : World) : Calls Try.prog 20 #[.int .i64 b] w fun e w' => e = .returned (.int .i64 (b / 4)) ∧ w = w' := by
  rcases h with rfl | rfl | rfl | rfl | rfl
  all_goals
    go_enter Try.func20, Try.ntmps20
    go_wp2
    go_ret
    exact ⟨rfl, rfl⟩
theorem bbelow_yes {k d : Int} (h0 : 0 ≤ k) (h1 : k < d) (w : World) : Calls Try.prog 23 #[.int .i64 k, .int .i64 d] w fun e w' => e = .returned (.int .i64 k) ∧ w = w' := by
  have d0 : decide (0 ≤ k) = true := decide_eq_true h0
  have d1 : decide (k < d) = true := decide_eq_true h1
  go_enter Try.func23, Try.ntmps23
  go_wp2_with (first | (refine (must_yes 1 _).mono ?_; rintro e w' ⟨rfl, rfl⟩) | fail)
  go_ret
  exact ⟨rfl, rfl⟩
theorem bbelow_no {k d : Int} (h : ¬ (0 ≤ k ∧ k < d)) (w : World) : Calls Try.prog 23 #[.int .i64 k, .int .i64 d] w fun e w' => e = .panicked [{ v := .iface 26 (.int .i64 1), recovered := false }] ∧ w = w' := by
  by_cases h0 : 0 ≤ k
  · have h1 : ¬ k < d := fun h1 => h ⟨h0, h1⟩
    have d0 : decide (0 ≤ k) = true := decide_eq_true h0
    have d1 : decide (k < d) = false := decide_eq_false h1
    clear h
    go_enter Try.func23, Try.ntmps23
    go_wp2_with (first | (refine (must_no 1 _).mono ?_; rintro e w' ⟨rfl, rfl⟩) | fail)
    exact ⟨rfl, rfl, rfl⟩
  · have d0 : decide (0 ≤ k) = false := decide_eq_false h0
    clear h
    go_enter Try.func23, Try.ntmps23
    go_wp2_with (first | (refine (must_no 1 _).mono ?_; rintro e w' ⟨rfl, rfl⟩) | fail)
    exact ⟨rfl, rfl, rfl⟩
set_option maxHeartbeats 1000000 in
theorem bmost_yes {b : Int} (h : Isb b) (w : World) : Calls Try.prog 9 #[.int .i64 b] w fun e w' => e = .returned (.int .u64 (mostN b)) ∧ w = w' := by
  have C1 : Hid (∀ W, Calls Try.prog 18 #[.int .i64 b] W fun e w' => e = .returned (.bool true) ∧ W = w') := Lib.hid (bmay_yes h)
  have C2 : Hid (∀ W, Calls Try.prog 20 #[.int .i64 b] W fun e w' => e = .returned (.int .i64 (b / 4)) ∧ W = w') := Lib.hid (bnames_any h)
  have M : Hid (mostN b = (8 + b / 4 + b / 4 * (b / 4)) * b) := Lib.hid (if_pos h)
  generalize mostN b = m at *
  rcases h with rfl | rfl | rfl | rfl | rfl
  all_goals
    go_enter Try.func9, Try.ntmps9
    go_wp2_with fail
    refine (C1.out _).mono ?_
    rintro e w' ⟨rfl, rfl⟩
    go_wp2_with fail
    refine (C2.out _).mono ?_
    rintro e w' ⟨rfl, rfl⟩
    go_wp2
    go_ret
    exact ⟨congrArg (fun x => Ending.returned (.int .u64 x)) M.out.symm, rfl⟩
theorem bmost_no {b : Int} (h : ¬ Isb b) (w : World) : Calls Try.prog 9 #[.int .i64 b] w fun e w' => e = .returned (.int .u64 (mostN b)) ∧ w = w' := by
  have C1 : Hid (∀ W, Calls Try.prog 18 #[.int .i64 b] W fun e w' => e = .returned (.bool false) ∧ W = w') := Lib.hid (bmay_no h)
  rw [mostN_none h]
  clear h
  go_enter Try.func9, Try.ntmps9
  go_wp2_with fail
  refine (C1.out _).mono ?_
  rintro e w' ⟨rfl, rfl⟩
  go_wp2
  go_ret
  exact ⟨rfl, rfl⟩
theorem bmost_any (b : Int) (w : World) : Calls Try.prog 9 #[.int .i64 b] w fun e w' => e = .returned (.int .u64 (mostN b)) ∧ w = w' := by
  by_cases h : Isb b
  · exact bmost_yes h w
  · exact bmost_no h w
end Go.Proofs.Ytddpedodbjibiaa
