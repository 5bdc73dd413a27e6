/-
  Package pages: mustBeThere, over, Open.
-/
import Derived.Test.YtnhojcldeloigaaGreatPagesE
namespace Go.Proofs.YtnhojcldeloigaaGreat
open Go.RowKit Go.Lib Go.Maps
set_option maxRecDepth 100000

/-- Are there m sectors from a on? -/
def there (N : Nat) (a m : Int) : Bool := decide (0 ≤ a ∧ a < (N : Int) ∧ 0 ≤ m ∧ m ≤ (N : Int) - a)
/-- What a check ends in. -/
def endsB (b : Bool) (r : Int) : Ending := if b = true then .returned (.tuple #[]) else .panicked [{ v := .iface 26 (.int .i64 r), recovered := false }]
theorem endsB_yes {b : Bool} (h : b = true) (r : Int) : endsB b r = .returned (.tuple #[]) := if_pos h
theorem endsB_no {b : Bool} (h : b = false) (r : Int) : endsB b r = .panicked [{ v := .iface 26 (.int .i64 r), recovered := false }] := if_neg (by rw [h]; decide)
section
variable (F E : Nat → Prop) (gd : Nat) (s : D) (w : World) (h : Dk w F E gd s)
include h
set_option maxHeartbeats 1000000 in
theorem mustbethere_any (a m : Int) : Calls Tryz.prog 34 #[.pointer (some ⟨gd, 0, none⟩), .int .i64 a, .int .i64 m] w fun e w' =>
    e = endsB (there s.kept.length a m) 1 ∧ ∃ n, w' = w.drewN n := by
  have C := Lib.hid (shape_any F E gd s w h)
  have hN := h.lt.2.2.2.2.2.most
  obtain ⟨N, hNe⟩ : ∃ N, N = s.kept.length := ⟨_, rfl⟩
  rw [← hNe] at C hN ⊢
  clear h hNe
  by_cases h1 : 0 ≤ a
  · by_cases h2 : a < (N : Int)
    · by_cases h3 : 0 ≤ m
      · have hw : IntKind.i64.wrap ((N : Int) - a) = (N : Int) - a := IntWalk.i64_in _ (by omega)
        by_cases h4 : m ≤ (N : Int) - a
        · have R : Hid (there N a m = true) := Lib.hid (decide_eq_true ⟨h1, h2, h3, h4⟩)
          go_enter Tryz.func34, Tryz.ntmps34
          go_wp2_with fail
          refine C.out.mono ?_
          rintro e w1 ⟨rfl, n, rfl⟩
          go_wp2_with fail
          refine (must_yes 1 _).mono ?_
          rintro e w2 ⟨rfl, rfl⟩
          go_wp2
          go_end0
          exact ⟨(endsB_yes R.out 1).symm, n, rfl⟩
        · have R : Hid (there N a m = false) := Lib.hid (decide_eq_false fun h => h4 h.2.2.2)
          have d4 : decide (m ≤ (N : Int) - a) = false := decide_eq_false h4
          go_enter Tryz.func34, Tryz.ntmps34
          go_wp2_with fail
          refine C.out.mono ?_
          rintro e w1 ⟨rfl, n, rfl⟩
          go_wp2_with fail
          refine (must_no 1 _).mono ?_
          rintro e w2 ⟨rfl, rfl⟩
          go_wp2
          exact ⟨rfl, (endsB_no R.out 1).symm, n, rfl⟩
      · have R : Hid (there N a m = false) := Lib.hid (decide_eq_false fun h => h3 h.2.2.1)
        go_enter Tryz.func34, Tryz.ntmps34
        go_wp2_with fail
        refine C.out.mono ?_
        rintro e w1 ⟨rfl, n, rfl⟩
        go_wp2_with fail
        refine (must_no 1 _).mono ?_
        rintro e w2 ⟨rfl, rfl⟩
        go_wp2
        exact ⟨rfl, (endsB_no R.out 1).symm, n, rfl⟩
    · have R : Hid (there N a m = false) := Lib.hid (decide_eq_false fun h => h2 h.2.1)
      go_enter Tryz.func34, Tryz.ntmps34
      go_wp2_with fail
      refine C.out.mono ?_
      rintro e w1 ⟨rfl, n, rfl⟩
      go_wp2_with fail
      refine (must_no 1 _).mono ?_
      rintro e w2 ⟨rfl, rfl⟩
      go_wp2
      exact ⟨rfl, (endsB_no R.out 1).symm, n, rfl⟩
  · have R : Hid (there N a m = false) := Lib.hid (decide_eq_false fun h => h1 h.1)
    go_enter Tryz.func34, Tryz.ntmps34
    go_wp2_with fail
    refine C.out.mono ?_
    rintro e w1 ⟨rfl, n, rfl⟩
    go_wp2_with fail
    refine (must_no 1 _).mono ?_
    rintro e w2 ⟨rfl, rfl⟩
    go_wp2
    exact ⟨rfl, (endsB_no R.out 1).symm, n, rfl⟩

/-- What over lays. -/
def OverAns (w : World) (gd : Nat) (a m : Nat) (z : Nat) (e : Ending) (w' : World) : Prop :=
  e = .returned (.pointer (some ⟨w.heap.size + 1, 0, none⟩)) ∧ Bk w' (fun i => i = w.heap.size ∨ i = w.heap.size + 1) (w.heap.size + 1) gd ⟨a, m, z, 0⟩ (fun _ => none) ∧ Below w.heap.size w w'
set_option maxHeartbeats 1000000 in
theorem pgover_any (a m : Nat) : Calls Tryz.prog 37 #[.pointer (some ⟨gd, 0, none⟩), .int .i64 (a : Int), .int .i64 (m : Int)] w (OverAns w gd a m s.size) := by
  have C := Lib.hid (shape_any F E gd s w h)
  have hmm := @run_makeMap Tryz.prog
  have R : Hid (∀ n, OverAns w gd a m s.size (.returned (.pointer (some ⟨w.heap.size + 1, 0, none⟩))) (((w.drewN n).alloc (.map #[] 0)).alloc (.cells #[.pointer (some ⟨gd, 0, none⟩), .int .i64 (a : Int), .int .i64 (m : Int), .int .i64 (s.size : Int), .int .i64 0, .map (some w.heap.size)] 67))) := fun n => by
    have hsz : ((w.drewN n).alloc (.map #[] 0)).heap.size = w.heap.size + 1 := by simp
    refine ⟨rfl, ⟨w.heap.size, ?_, ⟨?_, fun p bs hp => by cases hp⟩, .inr rfl, .inl rfl, fun i hi => by simp; omega⟩, ?_⟩
    · have := Has.new ((w.drewN n).alloc (.map #[] 0)) 67 #[.pointer (some ⟨gd, 0, none⟩), .int .i64 (a : Int), .int .i64 (m : Int), .int .i64 (s.size : Int), .int .i64 0, .map (some w.heap.size)]
      rw [hsz] at this
      exact this
    · refine ⟨0, .map [], (World.ownsMap_made (w.drewN n) Tryz.prog 3 slR).alloc _, fun i => ?_, fun p bs hp => by cases hp⟩
      simp [Maps.has]
    · exact ((((Only.refl (fun _ => False) w).drewN n).alloc _).alloc _).below (Nat.le_refl _) (fun _ _ h => h)
  clear h
  go_enter Tryz.func37, Tryz.ntmps37
  go_wp2_with fail
  refine C.out.mono ?_
  rintro e w1 ⟨rfl, n, rfl⟩
  go_wp2
  go_ret
  exact R.out n
end
end Go.Proofs.YtnhojcldeloigaaGreat
