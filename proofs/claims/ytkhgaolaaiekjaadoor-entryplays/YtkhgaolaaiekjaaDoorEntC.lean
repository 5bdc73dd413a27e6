/-
  Layer 13's own same.
-/
import Derived.Test.YtkhgaolaaiekjaaDoorEntB
namespace Go.Proofs.YtkhgaolaaiekjaaDoor
open Go.RowKit Go.Lib
set_option maxRecDepth 100000

/-- Two entries compared. -/
theorem Tryd.neqEn_same (x : En) (w : World) : (binOp .neq 38 (.agg #[.string (strOf x.n), .int .u32 (x.i : Int)]) (.agg #[.string (strOf x.n), .int .u32 (x.i : Int)])).run Tryd.prog w = .ok (.bool false) w := by
  go_simp
theorem Tryd.neqEn_diff {x y : En} (h : x ≠ y) (w : World) : (binOp .neq 38 (.agg #[.string (strOf x.n), .int .u32 (x.i : Int)]) (.agg #[.string (strOf y.n), .int .u32 (y.i : Int)])).run Tryd.prog w = .ok (.bool true) w := by
  go_simp
  rw [strOf_list, strOf_list]
  obtain ⟨a, b⟩ := x
  obtain ⟨c, d⟩ := y
  by_cases e1 : a = c
  · have e2 : ¬ (b : Int) = (d : Int) := fun e2 => h (by rw [e1, show b = d by omega])
    simp [e1, e2]
  · simp [e1]
set_option maxHeartbeats 1000000 in
theorem same13_any (E F : Nat → Prop) (u v : Value) (l m : List En) (w : World) (hl : l.length ≤ 1000000) (h : EsIs w E u l) (k : EsIs w F v m) : Calls Tryd.prog 14 #[u, v] w fun e w' => e = .returned (.bool (decide (l = m))) ∧ ∃ q, w' = w.drewN q := by
  obtain ⟨A, c, rfl⟩ := h.form
  obtain ⟨B, d, rfl⟩ := k.form
  have HA := Lib.hid h
  have HB := Lib.hid k
  clear h k
  by_cases hn : l.length = m.length
  · have HN := Lib.hid hn
    rw [← hn]
    clear hn
    go_enter Tryd.func14, Tryd.ntmps14
    go_wp2
    go_loopw [5] (fun i wr => ∃ j q : Nat, j ≤ l.length ∧ i = .int .i64 j ∧ Hid (l.take j = m.take j) ∧ wr = w.drewN q) (fun i _ => l.length - (intOf i).toNat)
    case atStart => exact ⟨0, 0, Nat.zero_le _, rfl, rfl, rfl⟩
    case round =>
      obtain ⟨j, q, hj, rfl, hrel, rfl⟩ := hrel
      by_cases hlt : j < l.length
      · have hlt2 : j < m.length := by have := HN.out; omega
        obtain ⟨a1, c1, e1, z0, z1⟩ := HA.out.at hlt
        obtain ⟨a2, c2, e2, y0, y1⟩ := HB.out.at hlt2
        rw [← HN.out] at e2
        injection e1 with e1 _ e1'
        injection e2 with e2 _ e2'
        subst e1 e2 e1' e2'
        obtain ⟨x, hx⟩ : ∃ x, x = l[j] := ⟨_, rfl⟩
        obtain ⟨y, hy⟩ : ∃ y, y = m[j] := ⟨_, rfl⟩
        rw [← hx] at z0 z1
        rw [← hy] at y0 y1
        have i0 : (0 : Int) ≤ (j : Int) := by omega
        have i1 : (j : Int) < (l.length : Int) := by omega
        by_cases hxy : x = y
        · have R : Hid (l.take (j + 1) = m.take (j + 1)) := by
            show _ = _
            rw [List.take_succ_eq_append_getElem hlt, List.take_succ_eq_append_getElem hlt2, hrel.out, ← hx, ← hy, hxy]
          subst hxy
          have qn := Tryd.neqEn_same x
          clear hx hy hrel HA HB
          go_wp2_with fail
          go_quiet (fail)
          go_wp2
          go_roundw
          case rel => exact ⟨j + 1, _, by omega, by go_num, R, rfl⟩
          case measure => simp [intOf]; omega
        · have qn := Tryd.neqEn_diff hxy
          have R : Hid (decide (l = m) = false) := by
            refine Lib.hid (decide_eq_false fun h => hxy ?_)
            subst h
            rw [hx, hy]
          clear hx hy hrel HA HB hxy
          go_wp2_with fail
          go_quiet (fail)
          go_wp2
          go_ret
          exact ⟨by rw [R.out]; rfl, _, World.drewN_drewN _ _ _⟩
      · have R : Hid (decide (l = m) = true) := by
          refine Lib.hid (decide_eq_true ?_)
          have := hrel.out
          rw [List.take_of_length_le (by omega), List.take_of_length_le (by have := HN.out; omega)] at this
          exact this
        clear hrel
        go_wp2
        go_ret
        exact ⟨by rw [R.out]; rfl, _, rfl⟩
  · have hd : (((l.length : Int) != (m.length : Int))) = true := by
      simp
      omega
    have R : Hid (decide (l = m) = false) := Lib.hid (decide_eq_false fun h => hn (by rw [h]))
    clear HA HB
    go_enter Tryd.func14, Tryd.ntmps14
    go_wp2
    go_ret
    exact ⟨by rw [R.out]; rfl, 0, rfl⟩
end Go.Proofs.YtkhgaolaaiekjaaDoor
