/-
  The second reading of layer 1: Raw of its In.
-/
import Derived.Test.YtepiifbleoimkaaGreatDoorRefNum
import Derived.Deep.RegionHeld3
namespace Go.Proofs.YtepiifbleoimkaaGreatDoor
open Go.RowKit
set_option maxRecDepth 100000

theorem ref_cut {w : World} {H c k m : Nat} {A D : Option Addr} {bs : List UInt8} (h4 : Rd w 0 H A bs) (h2 : bs.length ≤ c) (h3 : c ≤ 2 ^ 63 - 1) (hk : k + m ≤ bs.length) (hD : D = if c = k then A else A.map (·.add k)) :
    SlIs w 0 H (.slice D m (c - k)) ((bs.drop k).take m) := by
  have hd := h4.drop (k := k) (by omega) h2
  rw [← hD] at hd
  refine ⟨D, c - k, ?_, ?_, by simp only [maxLen]; omega, hd.take m⟩
  · rw [List.length_take, List.length_drop, Nat.min_eq_left (by omega)]
  · rw [List.length_take, List.length_drop]; omega

/-- Behind the append: the cell of the place, and all that is left when the place is moved on. -/
theorem refraw_fin {w w0 w1 : World} {H g k m c : Nat} {A : Option Addr} {bs : List UInt8} {v1 : Value} (h1 : Has w g 60 #[.slice A bs.length c, .int .i64 (k : Int), .int .i64 0]) (h4 : Rd w 0 H A bs)
    (h2 : bs.length ≤ c) (h3 : c ≤ 2 ^ 63 - 1) (h5 : H ≤ g) (hs : (m : Int) ≤ (bs.length : Int) - k)
    (a1 : w1.ownsRow w.heap.size 5 1 v1 ([] ++ (bs.drop k).take m).length (b8s ([] ++ (bs.drop k).take m))) (b1 : w0.grownBy w1 (Value.ownBlock (.slice (some ⟨w.heap.size, 0, none⟩) 0 0)))
    (h0 : Only (fun _ => False) w w0) :
    w1.cell? ⟨g, 0, none⟩ = some (.slice A bs.length c) ∧ w1.cell? ⟨g, 1, none⟩ = some (.int .i64 (k : Int)) ∧ w1.frozen? ⟨g, 1, none⟩ = false ∧
      RefRaw w H g bs (refR m bs k 0) (.returned v1) (w1.setCell ⟨g, 1, none⟩ (.int .i64 ((k : Int) + m))) := by
  have q1 : Only (fun i => i = w.heap.size) w w1 := (h0.mono (T := fun i => i = w.heap.size) (fun _ _ h => h.elim)).trans (Only.of_grown b1) (fun i _ h => by simpa [Value.ownBlock] using h)
  have hlt := h1.lt
  have g1 : Has w1 g 60 _ := h1.only q1 (by omega)
  refine ⟨by simpa using g1.cell 0, by simpa using g1.cell 1, g1.frozen 1, ?_⟩
  have q2 : Only (fun i => i = g) w (w1.setCell ⟨g, 1, none⟩ (.int .i64 ((k : Int) + m))) :=
    (q1.mono (T := fun i => i = g) fun i hi h => by omega).setCell (p := ⟨g, 1, none⟩) (fun _ => rfl) _
  rw [refR, if_neg (by simp), if_neg (by omega), if_neg (by omega)]
  simp only [Int.toNat_natCast]
  rw [List.nil_append] at a1
  refine ⟨v1, rfl, ?_, ⟨A, c, ?_, h2, h3, h4.only q2 (by omega) (fun i _ hi h => by omega), h5, by show k + m ≤ bs.length; omega⟩, q2⟩
  · refine owns_only a1 ((Only.refl (fun i => i = g) w1).setCell (p := ⟨g, 1, none⟩) (fun _ => rfl) _) ?_
    rintro i hi rfl
    have := (a1.lt i hi).1
    omega
  · have := g1.set 1 (.int .i64 ((k : Int) + m))
    simpa using this

set_option maxHeartbeats 1000000 in
theorem refraw_any (H g k : Nat) (n : Int) (bs : List UInt8) (bad : Int) (w : World) (h : RefAt w H g bs k bad) (hlen : bs.length ≤ 140737488355328) :
    Calls Tryz.prog 70 #[.pointer (some ⟨g, 0, none⟩), .int .i64 n] w (RefRaw w H g bs (refR n bs k bad)) := by
  have HA := Lib.hid h
  obtain ⟨A, c, h1, h2, h3, h4, h5, h6⟩ := h
  have c0 := h1.cell 0
  have c1 := h1.cell 1
  have c2 := h1.cell 2
  have f1 := h1.frozen 1
  have f2 := h1.frozen 2
  simp at c0 c1 c2
  simp only [maxLen] at h3
  have H1 := Lib.hid h1
  have H4 := Lib.hid h4
  clear h1 h4
  by_cases hb : bad = 0
  · subst hb
    by_cases hn : n < 0
    · have R : Hid (RefRaw w H g bs (refR n bs k 0) (.returned (.slice none 0 0)) (w.setCell ⟨g, 2, none⟩ (.int .i64 1))) := by
        rw [refR, if_neg (by simp), if_pos hn]
        exact ⟨_, rfl, World.ownsRow_nil _ _ _ _, ref_sets 1 HA.out 0⟩
      clear HA H1 H4
      go_enter Tryz.func70, Tryz.ntmps70
      go_wp2
      go_ret
      exact R.out
    · obtain ⟨m, rfl⟩ : ∃ m : Nat, n = (m : Int) := ⟨n.toNat, by omega⟩
      by_cases hs : (bs.length : Int) - k < m
      · have R : ∀ q, Hid (RefRaw w H g bs (refR m bs k 0) (.returned (.slice none 0 0)) ((w.drewN q).setCell ⟨g, 2, none⟩ (.int .i64 4))) := by
          intro q
          rw [refR, if_neg (by simp), if_neg hn, if_pos hs]
          exact ⟨_, rfl, World.ownsRow_nil _ _ _ _, ref_sets 4 HA.out q⟩
        have RR := Lib.hid R
        have hd : decide ((bs.length : Int) - k < m) = true := decide_eq_true hs
        clear hn HA R H1 H4
        go_enter Tryz.func70, Tryz.ntmps70
        go_wp2
        go_quiet (fail)
        go_wp2
        go_ret
        exact (RR.out nq).out
      · obtain ⟨i0, hi0, hz0, hz1, hz2⟩ := info_parts Tryz.info8
        have hd : decide ((bs.length : Int) - k < m) = false := decide_eq_false hs
        have hwk : IntKind.i64.wrap ((k : Int) + (m : Int)) = (k : Int) + (m : Int) := IntWalk.i64_in _ (by omega)
        have hwt : ((k : Int) + (m : Int)).toNat = k + m := by omega
        have j0 : (0 : Int) ≤ (k : Int) := by omega
        have j1 : (k : Int) ≤ (k : Int) + (m : Int) := by omega
        have j2 : (k : Int) + (m : Int) ≤ (c : Int) := by omega
        have hglt := H1.out.lt
        clear hn HA
        have hO : (w.alloc (.cells #[] 5)).ownsRow w.heap.size 5 1 (.slice (some ⟨w.heap.size, 0, none⟩) 0 0) ([] : List UInt8).length (b8s []) := World.ownsRow_made w #[] 0 (Nat.le_refl _) (by simp [maxLen]) (by simp)
        have HO := Lib.hid hO
        have HS := Lib.hid (SlIs.alloc (o := .cells #[] 5) (ref_cut (k := k) (m := m) H4.out h2 h3 (by omega) rfl) (by omega))
        have hs' : (m : Int) ≤ (bs.length : Int) - k := by omega
        clear hO
        go_enter Tryz.func70, Tryz.ntmps70
        go_wp2
        go_quiet (fail)
        go_wp2
        go_region_held3 (fun w' => w'.cell? ⟨g, 0, none⟩ = some (.slice A bs.length c) ∧ w'.cell? ⟨g, 1, none⟩ = some (.int .i64 (k : Int))) (go_keep)
          ((refine step_append_bytes _ (by rfl) _ _ _ (by rfl) w.heap.size 5 i0 Tryz.underlying22 hi0 hz0 hz1 hz2 (.slice (some ⟨w.heap.size, 0, none⟩) 0 0) [] ((bs.drop k).take m) (by rfl) (by exact HO.out) 0 H (.slice (if c = k then A else A.map (·.add k)) m (c - k)) (by rfl) (by exact HS.out) (by rw [List.nil_append, List.length_take]; omega) (by simp) ?_; intro v1 w1 a1 b1 _; obtain ⟨r0, r1, r2, r3⟩ := refraw_fin H1.out H4.out h2 h3 h5 hs' a1 b1 (((Only.refl _ w).drewN _).alloc _)))
        have R := Lib.hid r3
        clear r3 HO HS H1 H4
        go_wp2
        all_goals
          go_ret
          exact R.out
  · have hb' : (bad != 0) = true := by simpa using hb
    have R : Hid (RefRaw w H g bs (refR n bs k bad) (.returned (.slice none 0 0)) w) := by
      rw [refR, if_pos hb]
      exact ⟨_, rfl, World.ownsRow_nil _ _ _ _, HA.out, Only.refl _ _⟩
    clear HA H1 H4
    go_enter Tryz.func70, Tryz.ntmps70
    go_wp2
    go_ret
    exact R.out
end Go.Proofs.YtepiifbleoimkaaGreatDoor
