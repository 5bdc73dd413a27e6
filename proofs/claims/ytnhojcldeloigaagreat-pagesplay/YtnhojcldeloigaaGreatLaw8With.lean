/-
  The laws of layer 8: rows of pages, one of them another.
-/
import Derived.Test.YtnhojcldeloigaaGreatLaw8Page
namespace Go.Proofs.YtnhojcldeloigaaGreat
open Go.RowKit Go.Lib Go.Maps
set_option maxRecDepth 100000

theorem svs_one8 (L : List (List UInt8)) : ∀ u ∈ svs L, u.oneCell' = true := fun u hu => by
  obtain ⟨x, _, rfl⟩ := List.mem_map.1 hu
  rfl
set_option maxHeartbeats 2000000 in
theorem with8_any (E : Nat → Prop) (A : Option Addr) (c : Nat) (L : List (List UInt8)) (p : Nat) (X : List UInt8) (w : World) (hL : RwIs w E L.length (.slice A L.length c) (svs L)) (hp : p < L.length) (hl : L.length ≤ 1024) :
    Calls Tryz.prog 14 #[.slice A L.length c, .int .i64 (p : Int), .string (strOf X)] w fun e w' => ∃ q cc, e = .returned (.slice (some ⟨q, 0, none⟩) L.length cc) ∧ w'.ownsRow w.heap.size 9 1 (.slice (some ⟨q, 0, none⟩) L.length cc) L.length (svs (L.set p X)) ∧ Below w.heap.size w w' := by
  obtain ⟨i0, hi0, hz0, hz1, hz2⟩ := info_parts Tryz.infoStr
  have hown : (w.alloc (.cells #[] 9)).ownsRow w.heap.size 9 1 (.slice (some ⟨w.heap.size, 0, none⟩) 0 0) ([] : List Value).length ([] : List Value) :=
    World.ownsRow_made w #[] 0 (Nat.le_refl _) (by simp [maxLen]) (by simp)
  have hsl : (svs L).length = L.length := by simp [svs]
  have hv : VsIs (w.alloc (.cells #[] 9)) (.slice A (svs L).length c) (svs L) := by
    obtain ⟨A', c', e, h3⟩ := hL.only ((Only.refl (fun _ => False) w).alloc (.cells #[] 9)) (fun _ _ _ h => h)
    injection e with e1 e2 e3
    subst e1 e3
    refine ⟨_, _, rfl, fun h0 => ?_⟩
    obtain ⟨ad, e, _, _, h4⟩ := h3 h0
    exact ⟨ad, e, h4⟩
  rw [hsl] at hv
  have H1 := Lib.hid hown
  have H2 := Lib.hid hv
  have HSL := Lib.hid hsl
  have x1 : (p : Int) < (L.length : Int) := by omega
  have x2 : (0 : Int) ≤ (p : Int) := by omega
  clear hown hv hL hsl
  go_enter Tryz.func14, Tryz.ntmps14
  go_wp2_with (at_builtin; go_must (refine wpList_append_vals _ rfl (.tmp 8) (.tmp 9) 32 rfl w.heap.size 9 i0 _ 16 Tryz.underlying32 hi0 hz0 hz1 hz2 rfl _ [] (svs L) rfl H1.out _ rfl H2.out (svs_one8 L) (by simp [HSL.out]; omega) (by simp [HSL.out, maxLen]; omega) (by simp) ?_))
  intro v1 w1 o1 g1 _
  have o1 : w1.ownsRow w.heap.size 9 1 v1 L.length (svs L) := by simpa [HSL.out] using o1
  have b1 : Below w.heap.size w w1 := ((Below.refl _ w).alloc (Nat.le_refl _) _).grown g1 (by simp) (by simp [Value.ownBlock])
  obtain ⟨q, cc, rfl⟩ : ∃ q cc, v1 = .slice (some ⟨q, 0, none⟩) L.length cc := by
    rcases id o1.2 with ⟨_, h0⟩ | ⟨q, cap, cur, rfl, _⟩
    · omega
    · exact ⟨q, cap, rfl⟩
  have hq := o1.lt q rfl
  have hc1 := World.ownsRow.cellAt o1 p (by omega)
  have hf1 := World.ownsRow.frozenAt o1 p
  rw [show (svs L)[p]? = some (.string (strOf L[p])) by simp [svs, sv, hp]] at hc1
  have o2 := (World.ownsRow.stored o1 p (sv X)).1
  have e2 : (svs L).set p (sv X) = svs (L.set p X) := by simp [svs, List.map_set]
  rw [e2] at o2
  have k2 : Only (fun i => w.heap.size ≤ i) w1 (w1.setCell ⟨q, p, none⟩ (sv X)) := (Only.refl (fun i => w.heap.size ≤ i) w1).setCell (p := ⟨q, p, none⟩) (fun _ => hq.1) _
  have R : Hid (∃ w', w' = w1.setCell ⟨q, p, none⟩ (.string (strOf X)) ∧ w'.ownsRow w.heap.size 9 1 (.slice (some ⟨q, 0, none⟩) L.length cc) L.length (svs (L.set p X)) ∧ Below w.heap.size w w') :=
    ⟨_, rfl, o2, b1.trans (k2.below (by have := b1.size; exact this) (fun i hi h => by have h : w.heap.size ≤ i := h; omega))⟩
  clear o1 g1 o2 k2 b1 e2 H1 H2
  go_wp2
  go_ret
  obtain ⟨w', rfl, r1, r2⟩ := R.out
  exact ⟨q, cc, rfl, r1, r2⟩
end Go.Proofs.YtnhojcldeloigaaGreat
