/-
  MapPlays: the walk.
-/
import Derived.Test.YtaenobgpbphlfaaDoorLaw9PlayA
import Derived.Deep.DeepCutAuto
namespace Go.Proofs.YtaenobgpbphlfaaDoor
open Go.RowKit Go.Lib
set_option maxRecDepth 100000
set_option maxHeartbeats 40000000 in
theorem plays_main (n : Nat) (h1 : 1 ≤ n) (h2 : n ≤ 300) (A : Option Addr) (c : Nat) (xs : List A9) (w : World) (hT : Tz w) (hA : ActsAt9 w A xs) (hl : xs.length ≤ 80) :
    Calls Tryd.prog 3 #[.int .i64 (n : Int), .slice A xs.length c] w fun e w' => e = .returned (.bool true) ∧ Below w.heap.size w w' := by
  have CK := Lib.hid (known9_any w hT)
  have C1 : Hid (∀ wr, Below w.heap.size w wr → Calls Tryd.prog 7 #[.int .i64 (n : Int)] wr fun e w' => ∃ g gw cw, e = .returned (.tuple #[.pointer (some ⟨g, 0, none⟩), .int .i64 0]) ∧ Lm w g gw cw (List.replicate n false) w') := Lib.hid (fun wr b => (new_yes n h1 (by omega) wr).mono fun e w' hh => by
    obtain ⟨v, rfl, hb⟩ := hh
    obtain ⟨g, gw, cw, rfl, l, _⟩ := Lm.born hb b
    exact ⟨g, gw, cw, rfl, l⟩)
  have d1 : decide ((80 : Int) < (xs.length : Int)) = false := decide_eq_false (by omega)
  have d2 : decide ((300 : Int) < (n : Int)) = false := decide_eq_false (by omega)
  have HA := Lib.hid hA
  have HTz := Lib.hid hT
  clear hA hT
  go_enter Tryd.func3, Tryd.ntmps3
  go_wp2_with fail
  refine CK.out.mono ?_
  rintro e w1 ⟨rfl, b1⟩
  have D1 := Lib.hid (C1.out w1 b1)
  clear b1 CK C1
  go_wp2_with fail
  with_reducible refine D1.out.mono ?_
  rintro e w2 ⟨g0, gw0, cw0, rfl, l2⟩
  obtain ⟨w3, hmk, o3, k3⟩ := make_marks n (by omega) w2
  have J0 : Hid (PH w n g0 gw0 cw0 (List.replicate n false) (.slice (some ⟨w2.heap.size, 0, none⟩) n n) w3) := Lib.hid (by
    refine ⟨l2.calm k3, ?_, by simp⟩
    have := owns_base o3 l2.low.size
    unfold BRow
    rwa [List.length_replicate])
  clear l2 D1 o3 k3
  go_wp2_with fail
  go_loopw [5, 8, 9] (fun m r i wr => ∃ (q g gw cw : Nat) (L : List Bool) (rv : Value), q ≤ xs.length ∧ m = .pointer (some ⟨g, 0, none⟩) ∧ rv = r ∧ i = .int .i64 (q : Int) ∧ Hid (PH w n g gw cw L rv wr)) (fun _ _ i _ => xs.length - (RowKit.intOf i).toNat)
  case atStart => exact ⟨0, g0, gw0, cw0, _, _, Nat.zero_le _, rfl, rfl, rfl, J0⟩
  case round =>
    obtain ⟨q, g, gw, cw, L, rv, hq, rfl, rfl, rfl, hrel⟩ := hrel
    clear J0
    by_cases hlt : q < xs.length
    · obtain ⟨ad, rfl, hab, at9⟩ := HA.out.at hlt
      have a0 := (hrel.out.lm.low.cell (World.block_lt_of_cell? w _ at9.c0)).trans at9.c0
      have a1 := (hrel.out.lm.low.cell (World.block_lt_of_cell? w _ at9.c1)).trans at9.c1
      have hz := at9.hn
      obtain ⟨op, hop⟩ : ∃ op, op = xs[q].op := ⟨_, rfl⟩
      obtain ⟨z, hzz⟩ : ∃ z, z = xs[q].n := ⟨_, rfl⟩
      rw [← hop] at a0
      rw [← hzz] at a1 hz
      have q1 : (q : Int) < (xs.length : Int) := by omega
      have HM := Lib.hid (hrel.out.round op z)
      clear hop hzz at9 hrel hab
      go_upto_region 16 with fail
      generalize wr.alloc (.cells #[.int .i64 op, .int .i64 z] 30) = W at HM ⊢
      generalize wr.heap.size = bx at HM ⊢
      obtain ⟨y0, y1⟩ := HM.out.cells
      obtain ⟨y, hy⟩ : ∃ y, y = thereB L z := ⟨_, rfl⟩
      have HY := Lib.hid hy
      have HL := Lib.hid HM.out.l2
      clear hy
      go_cut [11] (fun s wx => s = .bool y ∧ W = wx)
      case first =>
        by_cases z0 : 0 ≤ z
        · by_cases z1 : z < (n : Int)
          · have R : Hid (true = y) := Lib.hid (HY.out.trans (decide_eq_true ⟨z0, by rw [HL.out]; exact z1⟩)).symm
            go_wp2
            go_meet
            exact ⟨congrArg Value.bool R.out, rfl⟩
          · have R : Hid (false = y) := Lib.hid (HY.out.trans (decide_eq_false (fun h => z1 (by rw [← HL.out]; exact h.2)))).symm
            have q2 : decide (z < (n : Int)) = false := decide_eq_false z1
            go_wp2
            go_meet
            exact ⟨congrArg Value.bool R.out, rfl⟩
        · have R : Hid (false = y) := Lib.hid (HY.out.trans (decide_eq_false (fun h => z0 h.1))).symm
          have q2 : decide (0 ≤ z) = false := decide_eq_false z0
          go_wp2
          go_meet
          exact ⟨congrArg Value.bool R.out, rfl⟩
      obtain ⟨rfl, rfl⟩ := hcut
      clear HL
      by_cases o1 : op = 1
      · subst o1
        rcases run_or L 1 with ⟨a, ha⟩ | ha
        · as_aux_lemma =>
            have la : a + 1 ≤ n := by have := ha.fits.1; have := HM.out.l2; omega
            have D1 := Lib.hid (pr_take HTz.out HM.out a ha)
            have p1 : decide ((a : Int) < 0) = false := decide_eq_false (by omega)
            have p2 : (0 : Int) ≤ (a : Int) := by omega
            clear HM
            go_wp2_with fail
            with_reducible refine D1.out.mono ?_
            rintro e w4 ⟨rfl, m4⟩
            have D2 : Hid (Calls Tryd.prog 9 #[rv, .int .i64 1] w4 fun e w' => e = .returned (.int .i64 (a : Int)) ∧ w4 = w') := Lib.hid (pr_free m4 h1 h2 1 a (Nat.le_refl _) (by decide) ha)
            have D3 : Hid (Calls Tryd.prog 10 #[rv, .int .i64 (a : Int), .int .i64 1, .bool true] w4 fun e w' => ∃ v', e = .returned v' ∧ PR w n g gw cw (putL L a true 1) (putL L a true 1) v' bx 1 z w') := Lib.hid (pr_put m4 h1 h2 a 1 true la)
            clear m4 D1
            go_wp2_with fail
            with_reducible refine D2.out.mono ?_
            rintro e w5 ⟨rfl, rfl⟩
            clear D2
            go_wp2_with fail
            with_reducible refine D3.out.mono ?_
            rintro e w6 ⟨v6, rfl, m6⟩
            have J := Lib.hid m6.back
            clear m6 D3
            go_wp2
            go_roundw
            case rel => exact ⟨q + 1, g, gw, cw, putL L a true 1, v6, by omega, rfl, rfl, by go_num, J⟩
            case measure => simp [RowKit.intOf]; omega
        · as_aux_lemma =>
            have D1 := Lib.hid (pr_takeno HTz.out HM.out ha)
            clear HM
            go_wp2_with fail
            with_reducible refine D1.out.mono ?_
            rintro e w4 ⟨rfl, m4⟩
            have D2 : Hid (Calls Tryd.prog 9 #[rv, .int .i64 1] w4 fun e w' => e = .returned (.int .i64 (-1)) ∧ w4 = w') := Lib.hid (pr_freeno m4 h1 h2 1 (Nat.le_refl _) (by decide) ha)
            have J := Lib.hid m4.back
            clear m4 D1
            go_wp2_with fail
            with_reducible refine D2.out.mono ?_
            rintro e w5 ⟨rfl, rfl⟩
            clear D2
            go_wp2
            go_roundw
            case rel => exact ⟨q + 1, g, gw, cw, L, rv, by omega, rfl, rfl, by go_num, J⟩
            case measure => simp [RowKit.intOf]; omega
      by_cases o2 : op = 2
      · subst o2
        by_cases hz1 : z < 1
        · as_aux_lemma =>
            have D1 := Lib.hid (run_no g W z hz1)
            have p1 : decide ((1 : Int) ≤ z) = false := decide_eq_false (by omega)
            have J := Lib.hid HM.out.back
            clear HM
            go_wp2_with fail
            with_reducible refine D1.out.mono ?_
            rintro e w5 ⟨rfl, rfl⟩
            clear D1
            go_wp2
            go_roundw
            case rel => exact ⟨q + 1, g, gw, cw, L, rv, by omega, rfl, rfl, by go_num, J⟩
            case measure => simp [RowKit.intOf]; omega
        · obtain ⟨m, rfl⟩ : ∃ m : Nat, z = (m : Int) := ⟨z.toNat, by omega⟩
          have hm1 : 1 ≤ m := by omega
          have hm2 : m ≤ 9223372036854775807 := by omega
          clear hz1 hz
          by_cases hmn : m ≤ n
          · rcases run_or L m with ⟨a, ha⟩ | ha
            · as_aux_lemma =>
                have la : a + m ≤ n := by have := ha.fits.1; have := HM.out.l2; omega
                have D1 := Lib.hid (pr_run HTz.out HM.out m a hm1 hm2 ha)
                have p1 : decide ((a : Int) < 0) = false := decide_eq_false (by omega)
                have p2 : (0 : Int) ≤ (a : Int) := by omega
                have p3 : decide ((m : Int) < 1) = false := decide_eq_false (by omega)
                have p4 : (1 : Int) ≤ (m : Int) := by omega
                have p5 : (m : Int) ≤ (n : Int) := by omega
                clear HM
                go_wp2_with fail
                with_reducible refine D1.out.mono ?_
                rintro e w4 ⟨rfl, m4⟩
                obtain ⟨_, y1⟩ := m4.cells
                have D2 := Lib.hid (pr_free m4 h1 h2 m a hm1 (by omega) ha)
                have D3 := Lib.hid (pr_put m4 h1 h2 a m true la)
                clear m4 D1
                go_wp2_with fail
                with_reducible refine D2.out.mono ?_
                rintro e w5 ⟨rfl, rfl⟩
                clear D2
                go_wp2_with fail
                with_reducible refine D3.out.mono ?_
                rintro e w6 ⟨v6, rfl, m6⟩
                have J := Lib.hid m6.back
                clear m6 D3
                go_wp2
                go_roundw
                case rel => exact ⟨q + 1, g, gw, cw, putL L a true m, v6, by omega, rfl, rfl, by go_num, J⟩
                case measure => simp [RowKit.intOf]; omega
            · as_aux_lemma =>
                have D1 := Lib.hid (pr_runno HTz.out HM.out m hm1 hm2 ha)
                have p3 : decide ((m : Int) < 1) = false := decide_eq_false (by omega)
                have p4 : (1 : Int) ≤ (m : Int) := by omega
                have p5 : (m : Int) ≤ (n : Int) := by omega
                clear HM
                go_wp2_with fail
                with_reducible refine D1.out.mono ?_
                rintro e w4 ⟨rfl, m4⟩
                obtain ⟨_, y1⟩ := m4.cells
                have D2 := Lib.hid (pr_freeno m4 h1 h2 m hm1 (by omega) ha)
                have J := Lib.hid m4.back
                clear m4 D1
                go_wp2_with fail
                with_reducible refine D2.out.mono ?_
                rintro e w5 ⟨rfl, rfl⟩
                clear D2
                go_wp2
                go_roundw
                case rel => exact ⟨q + 1, g, gw, cw, L, rv, by omega, rfl, rfl, by go_num, J⟩
                case measure => simp [RowKit.intOf]; omega
          · as_aux_lemma =>
              have D1 := Lib.hid (pr_runno HTz.out HM.out m hm1 hm2 (run_long (by have := HM.out.l2; omega)))
              have p3 : decide ((m : Int) < 1) = false := decide_eq_false (by omega)
              have p4 : (1 : Int) ≤ (m : Int) := by omega
              have p5 : decide ((m : Int) ≤ (n : Int)) = false := decide_eq_false (by omega)
              clear HM
              go_wp2_with fail
              with_reducible refine D1.out.mono ?_
              rintro e w4 ⟨rfl, m4⟩
              obtain ⟨_, y1⟩ := m4.cells
              have J := Lib.hid m4.back
              clear m4 D1
              go_wp2
              go_roundw
              case rel => exact ⟨q + 1, g, gw, cw, L, rv, by omega, rfl, rfl, by go_num, J⟩
              case measure => simp [RowKit.intOf]; omega
      by_cases o3 : op = 3
      · subst o3
        by_cases hin : 0 ≤ z ∧ z < (n : Int)
        · obtain ⟨k, rfl⟩ : ∃ k : Nat, z = (k : Int) := ⟨z.toNat, by omega⟩
          have hk : k < n := by omega
          have hy : y = true := HY.out.trans (decide_eq_true (by rw [HM.out.l2]; exact hin))
          subst hy
          clear hin HY
          as_aux_lemma =>
            obtain ⟨G, cG, rfl⟩ := HM.out.back.form h1
            have hl : k < L.length := by rw [HM.out.l2]; exact hk
            have D1 : Hid (Calls Tryd.prog 12 #[.pointer (some ⟨g, 0, none⟩), .int .i64 (k : Int)] W fun e w' => e = .returned (.bool (!L.getD k false)) ∧ PR w n g gw cw (putL L k true 1) L (.slice (some ⟨G, 0, none⟩) n cG) bx 3 (k : Int) w') := Lib.hid (by
              have := pr_set HM.out (k : Int)
              rwa [(set_in9 L k hl).1, (set_in9 L k hl).2] at this)
            have p1 : (0 : Int) ≤ (k : Int) := by omega
            have p2 : (k : Int) < (n : Int) := by omega
            clear HM hl
            obtain ⟨b, hb⟩ : ∃ b, b = L.getD k false := ⟨_, rfl⟩
            rw [← hb] at D1
            have HB := Lib.hid hb
            clear hb
            go_wp2_with fail
            with_reducible refine D1.out.mono ?_
            rintro e w4 ⟨rfl, m4⟩
            obtain ⟨_, y1⟩ := m4.cells
            have y2 := m4.mark2 hk
            rw [← HB.out] at y2
            have D3 : Hid (Calls Tryd.prog 10 #[.slice (some ⟨G, 0, none⟩) n cG, .int .i64 (k : Int), .int .i64 1, .bool true] w4 fun e w' => ∃ v', e = .returned v' ∧ PR w n g gw cw (putL L k true 1) (putL L k true 1) v' bx 3 (k : Int) w') := Lib.hid (pr_put m4 h1 h2 k 1 true (by omega))
            clear m4 D1
            cases b
            all_goals
              go_wp2_with fail
              with_reducible refine D3.out.mono ?_
              rintro e w6 ⟨v6, rfl, m6⟩
              have J := Lib.hid m6.back
              clear m6 D3
              go_wp2
              go_roundw
              case rel => exact ⟨q + 1, g, gw, cw, putL L k true 1, v6, by omega, rfl, rfl, by go_num, J⟩
              case measure => simp [RowKit.intOf]; omega
        · have hy : y = false := HY.out.trans (decide_eq_false (by rw [HM.out.l2]; exact hin))
          subst hy
          clear HY
          as_aux_lemma =>
            have hno : ¬ (0 ≤ z ∧ z < (L.length : Int)) := by rw [HM.out.l2]; exact hin
            have D1 : Hid (Calls Tryd.prog 12 #[.pointer (some ⟨g, 0, none⟩), .int .i64 z] W fun e w' => e = .returned (.bool false) ∧ PR w n g gw cw L L rv bx 3 z w') := Lib.hid (by
              have := pr_set HM.out z
              have e1 := not_in9 L z hno
              rw [e1.2.2] at this
              rw [e1.1] at this
              exact this)
            clear HM hno
            go_wp2_with fail
            with_reducible refine D1.out.mono ?_
            rintro e w4 ⟨rfl, m4⟩
            obtain ⟨_, y1⟩ := m4.cells
            have J := Lib.hid m4.back
            clear m4 D1
            go_wp2
            go_roundw
            case rel => exact ⟨q + 1, g, gw, cw, L, rv, by omega, rfl, rfl, by go_num, J⟩
            case measure => simp [RowKit.intOf]; omega
      by_cases o4 : op = 4
      · subst o4
        by_cases hin : 0 ≤ z ∧ z < (n : Int)
        · obtain ⟨k, rfl⟩ : ∃ k : Nat, z = (k : Int) := ⟨z.toNat, by omega⟩
          have hk : k < n := by omega
          have hy : y = true := HY.out.trans (decide_eq_true (by rw [HM.out.l2]; exact hin))
          subst hy
          clear hin HY
          as_aux_lemma =>
            obtain ⟨G, cG, rfl⟩ := HM.out.back.form h1
            have hl : k < L.length := by rw [HM.out.l2]; exact hk
            have D1 : Hid (Calls Tryd.prog 13 #[.pointer (some ⟨g, 0, none⟩), .int .i64 (k : Int)] W fun e w' => e = .returned (.bool (L.getD k false)) ∧ PR w n g gw cw (putL L k false 1) L (.slice (some ⟨G, 0, none⟩) n cG) bx 4 (k : Int) w') := Lib.hid (by
              have := pr_clear HM.out (k : Int)
              rwa [(clear_in9 L k hl).1, (clear_in9 L k hl).2] at this)
            have p1 : (0 : Int) ≤ (k : Int) := by omega
            have p2 : (k : Int) < (n : Int) := by omega
            clear HM hl
            obtain ⟨b, hb⟩ : ∃ b, b = L.getD k false := ⟨_, rfl⟩
            rw [← hb] at D1
            have HB := Lib.hid hb
            clear hb
            go_wp2_with fail
            with_reducible refine D1.out.mono ?_
            rintro e w4 ⟨rfl, m4⟩
            obtain ⟨_, y1⟩ := m4.cells
            have y2 := m4.mark2 hk
            rw [← HB.out] at y2
            have D3 : Hid (Calls Tryd.prog 10 #[.slice (some ⟨G, 0, none⟩) n cG, .int .i64 (k : Int), .int .i64 1, .bool false] w4 fun e w' => ∃ v', e = .returned v' ∧ PR w n g gw cw (putL L k false 1) (putL L k false 1) v' bx 4 (k : Int) w') := Lib.hid (pr_put m4 h1 h2 k 1 false (by omega))
            clear m4 D1
            cases b
            all_goals
              go_wp2_with fail
              with_reducible refine D3.out.mono ?_
              rintro e w6 ⟨v6, rfl, m6⟩
              have J := Lib.hid m6.back
              clear m6 D3
              go_wp2
              go_roundw
              case rel => exact ⟨q + 1, g, gw, cw, putL L k false 1, v6, by omega, rfl, rfl, by go_num, J⟩
              case measure => simp [RowKit.intOf]; omega
        · have hy : y = false := HY.out.trans (decide_eq_false (by rw [HM.out.l2]; exact hin))
          subst hy
          clear HY
          as_aux_lemma =>
            have hno : ¬ (0 ≤ z ∧ z < (L.length : Int)) := by rw [HM.out.l2]; exact hin
            have D1 : Hid (Calls Tryd.prog 13 #[.pointer (some ⟨g, 0, none⟩), .int .i64 z] W fun e w' => e = .returned (.bool false) ∧ PR w n g gw cw L L rv bx 4 z w') := Lib.hid (by
              have := pr_clear HM.out z
              have e1 := not_in9 L z hno
              rw [e1.2.2] at this
              rw [e1.2.1] at this
              exact this)
            clear HM hno
            go_wp2_with fail
            with_reducible refine D1.out.mono ?_
            rintro e w4 ⟨rfl, m4⟩
            obtain ⟨_, y1⟩ := m4.cells
            have J := Lib.hid m4.back
            clear m4 D1
            go_wp2
            go_roundw
            case rel => exact ⟨q + 1, g, gw, cw, L, rv, by omega, rfl, rfl, by go_num, J⟩
            case measure => simp [RowKit.intOf]; omega
      by_cases o5 : op = 5
      · subst o5
        as_aux_lemma =>
          have D1 := Lib.hid (pr_twin HM.out)
          clear HM
          go_wp2_with fail
          with_reducible refine D1.out.mono ?_
          rintro e w4 ⟨g2, gw2, cw2, rfl, m4⟩
          have D2 := Lib.hid (pt_run HTz.out m4)
          clear m4 D1
          go_wp2_with fail
          with_reducible refine D2.out.mono ?_
          rintro e w5 ⟨v5, M5, rfl, m5⟩
          have D3 := Lib.hid (pt_set m5)
          clear m5 D2
          go_wp2_with fail
          with_reducible refine D3.out.mono ?_
          rintro e w6 ⟨v6, rfl, m6⟩
          have J := Lib.hid m6.back
          clear m6 D3
          go_wp2
          go_roundw
          case rel => exact ⟨q + 1, g2, gw2, cw2, L, rv, by omega, rfl, rfl, by go_num, J⟩
          case measure => simp [RowKit.intOf]; omega
      by_cases o6 : op = 6
      · subst o6
        as_aux_lemma =>
          have D1 := Lib.hid (pr_bytes HM.out)
          clear HM
          go_wp2_with fail
          with_reducible refine D1.out.mono ?_
          rintro e w4 ⟨vb, bs, rfl, tb, ob, m4⟩
          have D2 := Lib.hid (pr_load m4 tb ob)
          clear m4 tb ob D1
          go_wp2_with fail
          with_reducible refine D2.out.mono ?_
          rintro e w5 ⟨g2, gw2, cw2, rfl, m5⟩
          have J := Lib.hid m5.back
          clear m5 D2
          go_wp2
          go_roundw
          case rel => exact ⟨q + 1, g2, gw2, cw2, L, rv, by omega, rfl, rfl, by go_num, J⟩
          case measure => simp [RowKit.intOf]; omega
      as_aux_lemma =>
        have J := Lib.hid HM.out.back
        clear HM
        have f1 : (op == 1) = false := by simpa using o1
        have f2 : (op == 2) = false := by simpa using o2
        have f3 : (op == 3) = false := by simpa using o3
        have f4 : (op == 4) = false := by simpa using o4
        have f5 : (op == 5) = false := by simpa using o5
        have f6 : (op == 6) = false := by simpa using o6
        clear o1
        clear o2
        clear o3
        clear o4
        clear o5
        clear o6
        go_wp2
        go_roundw
        case rel => exact ⟨q + 1, g, gw, cw, L, rv, by omega, rfl, rfl, by go_num, J⟩
        case measure => simp [RowKit.intOf]; omega
    · have i1 : decide ((q : Int) < (xs.length : Int)) = false := decide_eq_false (by omega)
      obtain ⟨G, cG, rfl⟩ := hrel.out.form h1
      have I0 : Hid (PH w n g gw cw L (.slice (some ⟨G, 0, none⟩) n cG) wr) := Lib.hid hrel.out
      have Z0 : Hid ((0 : Int) = (cnt (fun i => !L.getD i false) 0 : Int)) := Lib.hid rfl
      clear hrel
      go_wp2_with fail
      go_loopw [21, 22] (fun cc i wx => ∃ (k : Nat) (x : Int), k ≤ n ∧ i = .int .i64 (k : Int) ∧ cc = .int .i64 x ∧ Hid (x = (cnt (fun i => !L.getD i false) k : Int)) ∧ Hid (PH w n g gw cw L (.slice (some ⟨G, 0, none⟩) n cG) wx)) (fun _ i _ => n - (RowKit.intOf i).toNat)
      case atStart => exact ⟨0, _, Nat.zero_le _, rfl, rfl, Z0, I0⟩
      case round =>
        obtain ⟨k, x, hk, rfl, rfl, hx, hrel⟩ := hrel
        clear I0 Z0
        have bx : 0 ≤ x ∧ x ≤ 300 := by
          have := hx.out
          have := cnt_le (fun i => !L.getD i false) k
          omega
        obtain ⟨bx1, bx2⟩ := bx
        by_cases hkn : k < n
        · have D := Lib.hid (fun m => hrel.out.has hkn m)
          have yk : Hid (∀ m, (wr.drewN m).cell? ⟨G, k, none⟩ = some (.bool (L.getD k false))) := Lib.hid (fun m => (hrel.out.calm (Calm.drewN _ m)).mark2 hkn)
          have R : Hid (∀ m, PH w n g gw cw L (.slice (some ⟨G, 0, none⟩) n cG) (wr.drewN m)) := Lib.hid (fun m => hrel.out.calm (Calm.drewN _ _))
          have y0 : wr.cell? ⟨G, k, none⟩ = some (.bool (L.getD k false)) := hrel.out.mark2 hkn
          have HX : Hid (x + (if (!L.getD k false) = true then 1 else 0) = (cnt (fun i => !L.getD i false) (k + 1) : Int)) := Lib.hid (by
            have := hx.out
            show _ = ((cnt (fun i => !L.getD i false) k + (if (!L.getD k false) = true then 1 else 0) : Nat) : Int)
            rw [this]
            cases L.getD k false <;> simp)
          have i2 : (k : Int) < (n : Int) := by omega
          clear hrel hx
          cases hb : L.getD k false with
          | false =>
            rw [hb] at y0 D yk HX
            clear hb
            have HX2 : Hid (x + 1 = (cnt (fun i => !L.getD i false) (k + 1) : Int)) := Lib.hid (by simpa using HX.out)
            clear HX
            go_wp2
            go_quiet ((go_at_call 17; exact Calls.quiet_of_same (D.out _)))
            go_wp2
            go_roundw
            case rel => exact ⟨k + 1, x + 1, by omega, by go_num, by go_num, HX2, Lib.hid (R.out _)⟩
            case measure => simp [RowKit.intOf]; omega
          | true =>
            rw [hb] at y0 D yk HX
            clear hb
            have HX2 : Hid (x = (cnt (fun i => !L.getD i false) (k + 1) : Int)) := Lib.hid (by simpa using HX.out)
            clear HX
            go_wp2
            go_quiet ((go_at_call 17; exact Calls.quiet_of_same (D.out _)))
            go_wp2
            go_roundw
            case rel => exact ⟨k + 1, x, by omega, by go_num, rfl, HX2, Lib.hid (R.out _)⟩
            case measure => simp [RowKit.intOf]; omega
        · have hkn : k = n := by omega
          have d5 : decide ((k : Int) < (n : Int)) = false := decide_eq_false (by omega)
          have CF := Lib.hid hrel.out.free
          have CH1 := Lib.hid (hrel.out.hasno (-1) (by omega))
          have CH2 := Lib.hid (hrel.out.hasno (n : Int) (by omega))
          have R := Lib.hid hrel.out.lm.low
          have hxn := hx.out
          rw [hkn] at hxn
          rw [← hxn] at CF
          clear hrel hx hxn hkn
          go_wp2_with fail
          with_reducible refine CF.out.mono ?_
          rintro e w5 ⟨rfl, rfl⟩
          clear CF
          go_wp2_with fail
          with_reducible refine CH1.out.mono ?_
          rintro e w5 ⟨rfl, rfl⟩
          clear CH1
          go_wp2_with fail
          with_reducible refine CH2.out.mono ?_
          rintro e w5 ⟨rfl, rfl⟩
          clear CH2
          go_wp2
          go_ret
          exact ⟨rfl, R.out⟩
end Go.Proofs.YtaenobgpbphlfaaDoor
