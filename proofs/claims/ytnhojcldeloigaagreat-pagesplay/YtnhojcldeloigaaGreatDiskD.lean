/-
  Package disk: mustBeOn, mustHave.
-/
import Derived.Test.YtnhojcldeloigaaGreatDiskB
namespace Go.Proofs.YtnhojcldeloigaaGreat
open Go.RowKit
set_option maxRecDepth 100000
section
variable (F E : Nat → Prop) (g : Nat) (s : D) (w : World) (h : Dk w F E g s)
include h
theorem muston_yes (ho : s.off = false) : Calls Tryz.prog 91 #[.pointer (some ⟨g, 0, none⟩)] w fun e w' => e = .returned (.tuple #[]) ∧ w = w' := by
  obtain ⟨gk, ck, gs, cs, pv, hv, h⟩ := h
  have hc := h.has.cell 5
  simp [ho] at hc
  clear h
  go_enter Tryz.func91, Tryz.ntmps91
  go_wp2_with fail
  refine (must_yes 22 w).mono ?_
  rintro e w' ⟨rfl, rfl⟩
  go_wp2
  go_end0
  exact ⟨rfl, rfl⟩
theorem muston_no (ho : s.off = true) : Calls Tryz.prog 91 #[.pointer (some ⟨g, 0, none⟩)] w fun e w' => e = .panicked [{ v := .iface 26 (.int .i64 22), recovered := false }] ∧ w = w' := by
  obtain ⟨gk, ck, gs, cs, pv, hv, h⟩ := h
  have hc := h.has.cell 5
  simp [ho] at hc
  clear h
  go_enter Tryz.func91, Tryz.ntmps91
  go_wp2_with fail
  refine (must_no 22 w).mono ?_
  rintro e w' ⟨rfl, rfl⟩
  go_wp2
  exact ⟨rfl, rfl, rfl⟩
theorem musthave_yes (i : Int) (hi : 0 ≤ i ∧ i < (s.kept.length : Int)) : Calls Tryz.prog 92 #[.pointer (some ⟨g, 0, none⟩), .int .i64 i] w fun e w' => e = .returned (.tuple #[]) ∧ w = w' := by
  obtain ⟨gk, ck, gs, cs, pv, hv, h⟩ := h
  have hc := h.has.cell 1
  simp at hc
  have d1 : decide (0 ≤ i) = true := decide_eq_true hi.1
  have d2 : decide (i < (s.kept.length : Int)) = true := decide_eq_true hi.2
  clear h hi
  go_enter Tryz.func92, Tryz.ntmps92
  go_wp2_with fail
  refine (must_yes 1 w).mono ?_
  rintro e w' ⟨rfl, rfl⟩
  go_wp2
  go_end0
  exact ⟨rfl, rfl⟩
theorem musthave_no (i : Int) (hi : ¬ (0 ≤ i ∧ i < (s.kept.length : Int))) : Calls Tryz.prog 92 #[.pointer (some ⟨g, 0, none⟩), .int .i64 i] w fun e w' => e = .panicked [{ v := .iface 26 (.int .i64 1), recovered := false }] ∧ w = w' := by
  obtain ⟨gk, ck, gs, cs, pv, hv, h⟩ := h
  have hc := h.has.cell 1
  simp at hc
  clear h
  by_cases h0 : 0 ≤ i
  · have d1 : decide (0 ≤ i) = true := decide_eq_true h0
    have d2 : decide (i < (s.kept.length : Int)) = false := decide_eq_false fun h => hi ⟨h0, h⟩
    clear hi h0
    go_enter Tryz.func92, Tryz.ntmps92
    go_wp2_with fail
    refine (must_no 1 w).mono ?_
    rintro e w' ⟨rfl, rfl⟩
    go_wp2
    exact ⟨rfl, rfl, rfl⟩
  · have d1 : decide (0 ≤ i) = false := decide_eq_false h0
    clear hi h0
    go_enter Tryz.func92, Tryz.ntmps92
    go_wp2_with fail
    refine (must_no 1 w).mono ?_
    rintro e w' ⟨rfl, rfl⟩
    go_wp2
    exact ⟨rfl, rfl, rfl⟩
end
end Go.Proofs.YtnhojcldeloigaaGreat
