/-
  The statements' own comparison of bodies: are two lists of slices the same?
-/
import Derived.Test.YtfldgoggaadohaaFrameD
import Derived.Deep.QuietTactic
import Derived.BigQuiet
namespace Go.Proofs.Ytfldgoggaadohaa
open Go.RowKit
set_option maxRecDepth 100000

theorem str_ne {x y : List UInt8} (h : ¬ x = y) : ((strOf x).toList == (strOf y).toList) = false ∧ ((strOf x).toList != (strOf y).toList) = true ∧ ¬ ((strOf x).toList = (strOf y).toList) := by
  have e : ¬ ((strOf x).toList = (strOf y).toList) := by
    rw [strOf_list, strOf_list]
    exact h
  refine ⟨by simpa using e, by simpa using e, e⟩
/-- What lies at a place of a list of slices. -/
theorem LsAt.at {w : World} {E : Nat → Prop} {v : Value} {xs : List (List UInt8)} (h : LsAt w E v xs) {k : Nat} (hk : k < xs.length) :
    ∃ g c A cu, v = .slice (some ⟨g, 0, none⟩) xs.length c ∧ w.cell? ⟨g, k, none⟩ = some (.slice A xs[k].length cu) ∧ SlIs w 0 w.heap.size (.slice A xs[k].length cu) xs[k] := by
  obtain ⟨us, h1, h2, h3⟩ := h
  have hl := h3.len
  obtain ⟨u, hu, hE⟩ := h3.get hk
  rcases id h1.2 with ⟨_, h0⟩ | ⟨g, cap, cur, rfl, _⟩
  · omega
  · have hc := h1.cells (g := g) rfl k u hu
    have hs := hE.sl
    obtain ⟨A, cu, rfl, _⟩ := id hs
    have e : (⟨g, 0, none⟩ : Addr).add k = ⟨g, k, none⟩ := by unfold Addr.add; split <;> simp_all
    rw [e] at hc
    exact ⟨g, cap, A, cu, by rw [hl], hc, hs⟩

set_option maxHeartbeats 1000000 in
theorem texts_any (E F : Nat → Prop) (a b : Value) (xs ys : List (List UInt8)) (w : World) (ha : LsAt w E a xs) (hb : LsAt w F b ys) (hl : xs.length ≤ 1000000) :
    Calls Try.prog 12 #[a, b] w fun e w' => e = .returned (.bool (decide (xs = ys))) ∧ ∃ n, w' = w.drewN n := by
  obtain ⟨A, c, rfl⟩ := ha.form
  obtain ⟨B, d, rfl⟩ := hb.form
  by_cases hn : xs.length = ys.length
  · have hd : (((xs.length : Int) != (ys.length : Int))) = false := by
      simp
      omega
    have HA := Lib.hid ha
    have HB := Lib.hid hb
    have HN := Lib.hid hn
    clear ha hb hn
    rw [← HN.out]
    go_enter Try.func12, Try.ntmps12
    go_wp2_with fail
    go_loopw [5] (fun i wr => ∃ k q : Nat, k ≤ xs.length ∧ i = .int .i64 k ∧ Hid (xs.take k = ys.take k) ∧ wr = w.drewN q) (fun i _ => xs.length - (intOf i).toNat)
    case atStart => exact ⟨0, 0, Nat.zero_le _, rfl, rfl, rfl⟩
    case round =>
      obtain ⟨k, q, hk, rfl, hrel, rfl⟩ := hrel
      by_cases hlt : k < xs.length
      · have hk2 : k < ys.length := by have := HN.out; omega
        obtain ⟨g1, c1, A1, d1, e1, z1, s1⟩ := HA.out.at hlt
        obtain ⟨g2, c2, A2, d2, e2, z2, s2⟩ := HB.out.at hk2
        obtain ⟨x, hx⟩ : ∃ x, x = xs[k] := ⟨_, rfl⟩
        obtain ⟨y, hy⟩ : ∃ y, y = ys[k] := ⟨_, rfl⟩
        rw [← hx] at z1 s1
        rw [← hy] at z2 s2
        injection e1 with e1 _ e1'
        injection e2 with e2 _ e2'
        subst e1 e2 e1' e2'
        have r1 : ∀ q, (convert 22 9 (.slice A1 x.length d1)).run Try.prog (w.drewN q) = .ok (.string (strOf x)) (w.drewN q) := fun q => run_str _ x 0 w.heap.size (w.drewN q) (s1.only ((Only.refl (fun _ => False) w).drewN q) (Nat.le_refl _) (fun _ _ _ h => h))
        have r2 : ∀ q, (convert 22 9 (.slice A2 y.length d2)).run Try.prog (w.drewN q) = .ok (.string (strOf y)) (w.drewN q) := fun q => run_str _ y 0 w.heap.size (w.drewN q) (s2.only ((Only.refl (fun _ => False) w).drewN q) (Nat.le_refl _) (fun _ _ _ h => h))
        have i0 : (0 : Int) ≤ (k : Int) := by omega
        have i1 : (k : Int) < (xs.length : Int) := by omega
        by_cases hxy : x = y
        · have R : Hid (xs.take (k + 1) = ys.take (k + 1)) := by
            show _ = _
            rw [List.take_succ_eq_append_getElem hlt, List.take_succ_eq_append_getElem hk2, hrel.out, ← hx, ← hy, hxy]
          subst hxy
          clear hx hy s1 s2 hrel
          go_wp2
          go_quiet (fail)
          go_wp2
          go_roundw
          case rel => exact ⟨k + 1, _, by omega, by go_num, R, rfl⟩
          case measure => simp [intOf]; omega
        · obtain ⟨n1, n2, n3⟩ := str_ne hxy
          have R : Hid (decide (xs = ys) = false) := by
            refine Lib.hid (decide_eq_false fun h => hxy ?_)
            subst h
            rw [hx, hy]
          clear hx hy s1 s2 hrel hxy
          go_wp2
          go_quiet (fail)
          go_wp2
          go_ret
          exact ⟨by rw [R.out]; rfl, _, World.drewN_drewN _ _ _⟩
      · have R : Hid (decide (xs = ys) = true) := by
          refine Lib.hid (decide_eq_true ?_)
          have := hrel.out
          rw [List.take_of_length_le (by omega), List.take_of_length_le (by have := HN.out; omega)] at this
          exact this
        clear hrel
        go_wp2
        go_ret
        exact ⟨by rw [R.out]; rfl, _, rfl⟩
  · have hd : (((xs.length : Int) != (ys.length : Int))) = true := by
      simp
      omega
    have R : Hid (decide (xs = ys) = false) := Lib.hid (decide_eq_false fun h => hn (by rw [h]))
    clear ha hb
    go_enter Try.func12, Try.ntmps12
    go_wp2
    go_ret
    exact ⟨by rw [R.out]; rfl, 0, rfl⟩
end Go.Proofs.Ytfldgoggaadohaa
