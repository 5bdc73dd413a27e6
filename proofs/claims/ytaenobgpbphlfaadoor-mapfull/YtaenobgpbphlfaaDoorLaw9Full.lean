/-
  MapFull's walk.
-/
import Derived.Test.YtaenobgpbphlfaaDoorLaw9Known
namespace Go.Proofs.YtaenobgpbphlfaaDoor
open Go.RowKit Go.Lib
set_option maxRecDepth 100000

/-- The first i of k places are taken. -/
def Lf (k i : Nat) : List Bool := (List.range k).map fun j => decide (j < i)
theorem Lf_length (k i : Nat) : (Lf k i).length = k := by simp [Lf]
theorem Lf_get (k i j : Nat) (hj : j < k) : (Lf k i).getD j false = decide (j < i) := by
  rw [getD_in _ _ _ (by rw [Lf_length]; exact hj)]
  simp [Lf]
theorem Lf_zero (k : Nat) : Lf k 0 = List.replicate k false := by
  apply List.ext_getElem (by simp [Lf])
  intro i h1 h2
  simp [Lf]
theorem Lf_step (k i : Nat) : (Lf k i).set i true = Lf k (i + 1) := by
  apply List.ext_getElem (by simp [Lf])
  intro j h1 h2
  rw [List.getElem_set]
  by_cases e : i = j
  · subst e
    simp [Lf]
  · rw [if_neg e]
    simp only [Lf, List.getElem_map, List.getElem_range]
    exact decide_eq_decide.2 ⟨fun h => by omega, fun h => by omega⟩
theorem run_one {L : List Bool} {a : Nat} (ha : a < L.length) (hf : L.getD a false = false) (hb : ∀ b, b < a → L.getD b false = true) : RunIs L 1 a := by
  refine ⟨⟨by omega, fun k hk => ?_⟩, fun b h1 h2 => ?_⟩
  · have : k = 0 := by omega
    subst this
    exact hf
  · have := h2.2 0 (by decide)
    rw [Nat.add_zero, hb b h1] at this
    cases this
theorem run_one_none {L : List Bool} (hb : ∀ b, b < L.length → L.getD b false = true) : RunNone L 1 := fun b h2 => by
  have := h2.2 0 (by decide)
  rw [Nat.add_zero, hb b (by have := h2.1; omega)] at this
  cases this
theorem Lf_run (k i : Nat) (hi : i < k) : RunIs (Lf k i) 1 i :=
  run_one (by rw [Lf_length]; exact hi) (by rw [Lf_get _ _ _ hi]; exact decide_eq_false (by omega)) (fun b hb => by rw [Lf_get _ _ _ (by omega)]; exact decide_eq_true hb)
theorem Lf_none (k : Nat) : RunNone (Lf k k) 1 := run_one_none (fun b hb => by
  rw [Lf_length] at hb
  rw [Lf_get _ _ _ hb]
  exact decide_eq_true hb)
theorem Lf_again (k d : Nat) (hd : d < k) : RunIs ((Lf k k).set d false) 1 d :=
  run_one (by rw [List.length_set, Lf_length]; exact hd) (by rw [getD_set _ _ _ _ _ (by rw [Lf_length]; exact hd), if_pos rfl]) (fun b hb => by
    rw [getD_set _ _ _ _ _ (by rw [Lf_length]; exact hd), if_neg (by omega), Lf_get _ _ _ (by omega)]
    exact decide_eq_true (by omega))
theorem Lf_back (k d : Nat) (hd : d < k) : ((Lf k k).set d false).set d true = Lf k k := by
  rw [List.set_set]
  exact set_same (by rw [Lf_get _ _ _ hd]; exact decide_eq_true hd)
theorem Lf_free (k : Nat) : freeN (Lf k k) = 0 := by
  unfold freeN
  refine cnt_none _ (fun i hi => ?_)
  rw [Lf_length] at hi
  rw [Lf_get _ _ _ hi]
  simp [hi]
set_option maxHeartbeats 4000000 in
theorem full_any (n m : Nat) (hn : n < 256) (hm : m < 256) (w : World) (hT : Tz w) : Calls Tryd.prog 5 #[.int .u8 (n : Int), .int .u8 (m : Int)] w fun e w' => e = .returned (.bool true) ∧ Below w.heap.size w w' := by
  obtain ⟨k, hk⟩ : ∃ k, k = 1 + n := ⟨_, rfl⟩
  obtain ⟨d, hd⟩ : ∃ d, d = m % k := ⟨_, rfl⟩
  have hk1 : 1 ≤ k ∧ k ≤ 256 := by omega
  have hdk : d < k := by rw [hd]; exact Nat.mod_lt _ (by omega)
  have C0 := Lib.hid (known9_any w hT)
  have C1 : Hid (∀ wr, Below w.heap.size w wr → Calls Tryd.prog 7 #[.int .i64 (k : Int)] wr fun e w' => ∃ g gw cw, e = .returned (.tuple #[.pointer (some ⟨g, 0, none⟩), .int .i64 0]) ∧ Lm w g gw cw (Lf k 0) w') := Lib.hid (fun wr b => (new_yes k (by omega) (by omega) wr).mono fun e w' hh => by
    obtain ⟨v, rfl, hb⟩ := hh
    obtain ⟨g, gw, cw, rfl, l, _⟩ := Lm.born hb b
    exact ⟨g, gw, cw, rfl, by rw [Lf_zero]; exact l⟩)
  have C2 : Hid (∀ g gw cw j wr, j < k → Lm w g gw cw (Lf k j) wr → Calls Tryd.prog 8 #[.pointer (some ⟨g, 0, none⟩)] wr fun e w' => e = .returned (.tuple #[.int .i64 (j : Int), .int .i64 0]) ∧ Lm w g gw cw (Lf k (j + 1)) w') := Lib.hid (fun g gw cw j wr hj h => by
    have := lm_take h hT j (Lf_run k j hj)
    rwa [Lf_step] at this)
  have C3 : Hid (∀ g gw cw wr, Lm w g gw cw (Lf k k) wr → Calls Tryd.prog 8 #[.pointer (some ⟨g, 0, none⟩)] wr fun e w' => e = .returned (.tuple #[.int .i64 0, .int .i64 14]) ∧ Lm w g gw cw (Lf k k) w') := Lib.hid (fun g gw cw wr h => lm_takeno h hT (Lf_none k))
  have C4 : Hid (∀ g gw cw wr, Lm w g gw cw (Lf k k) wr → Calls Tryd.prog 11 #[.pointer (some ⟨g, 0, none⟩), .int .i64 1] wr fun e w' => e = .returned (.tuple #[.int .i64 0, .int .i64 14]) ∧ Lm w g gw cw (Lf k k) w') := Lib.hid (fun g gw cw wr h => lm_runno h hT 1 (by decide) (by decide) (Lf_none k))
  have C5 : Hid (∀ g gw cw wr, Lm w g gw cw (Lf k k) wr → Calls Tryd.prog 13 #[.pointer (some ⟨g, 0, none⟩), .int .i64 (d : Int)] wr fun e w' => e = .returned (.bool true) ∧ Lm w g gw cw ((Lf k k).set d false) w') := Lib.hid (fun g gw cw wr h => by
    have ht : thereB (Lf k k) (d : Int) = true := by rw [thereB_nat, Lf_length]; exact decide_eq_true hdk
    have e1 : hasB (Lf k k) (d : Int) = true := by
      unfold hasB
      rw [ht, Int.toNat_natCast, Lf_get _ _ _ hdk, decide_eq_true hdk]
      rfl
    have e2 : markL (Lf k k) (d : Int) false = (Lf k k).set d false := by unfold markL; rw [ht]; rfl
    have := lm_clear h (d : Int)
    rwa [e1, e2] at this)
  have C6 : Hid (∀ g gw cw wr, Lm w g gw cw ((Lf k k).set d false) wr → Calls Tryd.prog 8 #[.pointer (some ⟨g, 0, none⟩)] wr fun e w' => e = .returned (.tuple #[.int .i64 (d : Int), .int .i64 0]) ∧ Lm w g gw cw (Lf k k) w') := Lib.hid (fun g gw cw wr h => by
    have := lm_take h hT d (Lf_again k d hdk)
    rwa [Lf_back k d hdk] at this)
  have C7 : Hid (∀ g gw cw wr, Lm w g gw cw (Lf k k) wr → Calls Tryd.prog 18 #[.pointer (some ⟨g, 0, none⟩)] wr fun e w' => e = .returned (.int .i64 0) ∧ wr = w') := Lib.hid (fun g gw cw wr h => by
    have := free_any9 g gw cw _ wr h.mp
    rwa [Lf_free] at this)
  have e1 : 1 + (n : Int) = (k : Int) := by omega
  have e2 : Hid ((m : Int) % (k : Int) = (d : Int)) := Lib.hid (by rw [hd]; exact (Int.natCast_emod m k).symm)
  have n0 : ¬ ((k : Int) = 0) := by omega
  obtain ⟨hk1, hk2⟩ := hk1
  clear hT hk hd
  go_enter Tryd.func5, Tryd.ntmps5
  go_wp2_with fail
  refine C0.out.mono ?_
  rintro e w1 ⟨rfl, b1⟩
  have D1 := Lib.hid (C1.out w1 b1)
  clear b1 C0 C1
  go_wp2_with fail
  refine D1.out.mono ?_
  rintro e w2 ⟨g, gw, cw, rfl, l2⟩
  have I0 := Lib.hid l2
  clear l2 D1 e1
  go_wp2
  go_loopw [8] (fun i wr => ∃ j : Nat, j ≤ k ∧ i = .int .i64 (j : Int) ∧ Hid (Lm w g gw cw (Lf k j) wr)) (fun i _ => k - (intOf i).toNat)
  case atStart => exact ⟨0, Nat.zero_le _, rfl, I0⟩
  case round =>
    obtain ⟨j, hj, rfl, hrel⟩ := hrel
    clear I0
    by_cases hlt : j < k
    · have D2 := Lib.hid (C2.out g gw cw j wr hlt hrel.out)
      clear C2 C3 C4 C5 C6 C7 hrel
      go_wp2_with fail
      refine D2.out.mono ?_
      rintro e w3 ⟨rfl, l3⟩
      have R := Lib.hid l3
      clear l3 D2
      go_wp2
      go_roundw
      case rel => exact ⟨j + 1, by omega, by go_num, R⟩
      case measure => simp [intOf]; omega
    · have hje : j = k := by omega
      have D3 := Lib.hid (C3.out g gw cw wr (by have := hrel.out; rwa [hje] at this))
      have d1 : decide ((j : Int) < (k : Int)) = false := decide_eq_false (by omega)
      clear hje hrel C2 C3
      go_wp2_with fail
      refine D3.out.mono ?_
      rintro e w3 ⟨rfl, l3⟩
      have D4 := Lib.hid (C4.out g gw cw w3 l3)
      clear l3 D3 C4
      go_wp2_with fail
      refine D4.out.mono ?_
      rintro e w4 ⟨rfl, l4⟩
      have D5 := Lib.hid (C5.out g gw cw w4 l4)
      have e3 := e2.out
      clear l4 D4 C5 e2
      go_wp2_with fail
      refine D5.out.mono ?_
      rintro e w5 ⟨rfl, l5⟩
      have D6 := Lib.hid (C6.out g gw cw w5 l5)
      clear l5 D5 C6
      go_wp2_with fail
      refine D6.out.mono ?_
      rintro e w6 ⟨rfl, l6⟩
      have D7 := Lib.hid (C7.out g gw cw w6 l6)
      have R := Lib.hid l6.low
      clear l6 D6 C7
      go_wp2_with fail
      refine D7.out.mono ?_
      rintro e w' ⟨rfl, rfl⟩
      clear D7
      go_wp2
      go_ret
      exact ⟨rfl, R.out⟩
end Go.Proofs.YtaenobgpbphlfaaDoor
