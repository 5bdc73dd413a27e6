/-
  Package bitmap: next.
-/
import Derived.Test.YtaenobgpbphlfaaDoorMapD
import Derived.Deep.RegionWith
import Derived.StillTailTactics
import Derived.Deep.Cut
namespace Go.Proofs.YtaenobgpbphlfaaDoor
open Go.RowKit Go.Lib
set_option maxRecDepth 100000

theorem rest_is {ws : List Nat} (v : Bool) (k : Nat) (hx : ws.getD (k / 64) 0 < 18446744073709551616) : bits .xor .u64 (ws.getD (k / 64) 0 : Int) (kindOf9 v : Int) / 2 ^ (k % 64) = (restOf ws v k : Int) := by
  rw [u64_xor_nat _ _ hx (kind_lt v)]
  unfold restOf
  simp
/-- What next answers. -/
def NextAns (L : List Bool) (v : Bool) (i : Nat) (w : World) (e : Ending) (w' : World) : Prop := (∃ r : Nat, e = .returned (.int .i64 (r : Int)) ∧ NextIs L v i r) ∧ ∃ n, w' = w.drewN n
set_option maxHeartbeats 2000000 in
theorem next_any (g gw cw : Nat) (L : List Bool) (v : Bool) (i : Nat) (w : World) (h : Mp w g gw cw L) (hT : Tz w) (hi : i ≤ L.length) :
    Calls Tryd.prog 20 #[.pointer (some ⟨g, 0, none⟩), .int .i64 (i : Int), .int .u64 (kindOf9 v : Int)] w (NextAns L v i w) := by
  obtain ⟨ws, h⟩ := h
  have c0 := h.c0
  have c1 := h.c1
  have HH := Lib.hid h
  have HTz := Lib.hid hT
  have hm := h.most
  obtain ⟨N, hN⟩ : ∃ N, N = L.length := ⟨_, rfl⟩
  rw [← hN] at c0 hm hi
  have HN := Lib.hid hN
  clear h hT hN
  go_enter Tryd.func20, Tryd.ntmps20
  go_wp2
  go_loop [1] (fun s => ∃ k : Nat, s = .int .i64 (k : Int) ∧ i ≤ k ∧ k ≤ N + 64 ∧ Hid (∀ j, i ≤ j → j < k → j < N → L.getD j false = !v)) (fun s => N + 64 - (intOf s).toNat)
  case atStart => exact ⟨i, rfl, Nat.le_refl _, by omega, Lib.hid (fun j h1 h2 _ => by omega)⟩
  case round =>
    obtain ⟨k, rfl, hk1, hk2, hno⟩ := hrel
    by_cases hlt : k < N
    · have hkL : k < L.length := by rw [← HN.out]; exact hlt
      have c2 := HH.out.word hkL
      have hl := HH.out.bm.len1 hkL
      have hx := HH.out.bm.lt (k / 64)
      have RX := rest_is (ws := ws) v k hx
      have r64 := rest_lt64 HH.out.bm v k
      by_cases h0 : restOf ws v k = 0
      · have HN2 := Lib.hid (rest_none HH.out.bm v k h0)
        rw [h0] at RX
        have RX' := Lib.hid RX
        generalize ws.getD (k / 64) 0 = x at *
        generalize kindOf9 v = K at *
        clear RX h0 r64 hkL
        go_wp2_with (simp only [RX'.out])
        go_round
        case rel => exact ⟨k + (64 - k % 64), by go_num, by omega, by omega, Lib.hid (fun j h1 h2 h3 => by
          rcases Nat.lt_or_ge j k with h4 | h4
          · exact hno.out j h1 h4 h3
          · exact HN2.out j h4 h2)⟩
        case measure => simp [intOf]; omega
      · obtain ⟨z1, z2⟩ := rest_some HH.out.bm v k (Nat.le_of_lt hkL) h0
        have R : Hid (∀ n (z : Int), z = ((min (k + ctz 64 (restOf ws v k)) N : Nat) : Int) → NextAns L v i w (.returned (.int .i64 z)) (w.drewN n)) := Lib.hid (fun n z hz => by
          rw [hz, HN.out]
          refine ⟨⟨_, rfl, by have := z2.ge; omega, z2.le, fun j h1 h2 => ?_, z2.yes⟩, n, rfl⟩
          rcases Nat.lt_or_ge j k with h4 | h4
          · exact hno.out j h1 h4 (by rw [HN.out]; omega)
          · exact z2.no j h4 h2)
        have C : Hid (∀ n, Calls Tryd.prog 25 #[.int .u64 (restOf ws v k : Int)] (w.drewN n) fun e w' => e = .returned (.int .i64 (ctz 64 (restOf ws v k) : Int)) ∧ w' = w.drewN n) := Lib.hid (fun n => (tz_any _ r64 h0 _ (HTz.out.only ((Only.refl (fun _ => False) w).drewN n) (fun h => h))).mono fun e w' hh => ⟨hh.1, hh.2.symm⟩)
        have b1 : ((restOf ws v k : Int) != 0) = true := by simp; omega
        have b2 : ((restOf ws v k : Int) == 0) = false := by simp; omega
        have RX' := Lib.hid RX
        generalize restOf ws v k = y at *
        generalize ws.getD (k / 64) 0 = x at *
        generalize kindOf9 v = K at *
        generalize ctz 64 y = c at *
        clear RX h0 r64 hkL z2
        go_upto_region 4 with (simp only [RX'.out])
        go_quiet ((go_at_call 25; exact Calls.quiet_of_same (C.out _)))
        all_goals go_wp2
        all_goals
          go_ret
          exact R.out _ _ (by omega)
    · have hje : N ≤ k := by omega
      have d1 : decide ((k : Int) < (N : Int)) = false := decide_eq_false (by omega)
      have R : Hid (NextAns L v i w (.returned (.int .i64 (N : Int))) w) := Lib.hid ⟨⟨N, rfl, hi, by rw [HN.out]; exact Nat.le_refl _, fun j h1 h2 => hno.out j h1 (by omega) h2, fun h => by rw [HN.out] at h; omega⟩, 0, rfl⟩
      go_wp2
      go_ret
      exact R.out
end Go.Proofs.YtaenobgpbphlfaaDoor
