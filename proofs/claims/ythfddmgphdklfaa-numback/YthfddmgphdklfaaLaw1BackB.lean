/-
  NumBack: its walk.
-/
import Derived.Test.YthfddmgphdklfaaLaw1BackA
import Derived.Deep.DeepCutAuto
import Derived.Deep.RegionHeld3
import Derived.Deep.DrawnRows
namespace Go.Proofs.Ythfddmgphdklfaa
open Go.RowKit

/-- At the first loop's head. -/
def BackInv (w : World) (B g : Nat) (xs : List It) (v : Value) (j : Nat) (wr : World) : Prop :=
  ∃ vo, Mid w B g vo v (itemsB (xs.take j)) (itemsB (xs.take j)) wr ∧ ∀ x ∈ xs.take j, x.bs.length ≤ 300

/-- At the second loop's head: what is left is what the items from j on have. -/
def BackInv2 (w : World) (lo gd : Nat) (xs : List It) (j : Nat) (wr : World) : Prop := InAt wr lo gd (itemsB (xs.drop j)) 0 ∧ Below w.heap.size w wr

attribute [local go_sem ↓] Go.wp_at_zero Go.wp_at_succ
set_option maxRecDepth 100000 in
set_option maxHeartbeats 4000000 in
theorem back_walk (A : Option Addr) (d : Nat) (xs : List It) (w : World) (h2 : xs.length ≤ 60) (hx : ItemsAt w w.heap.size A xs) :
    Calls Try.prog 3 #[.slice A xs.length d] w fun e w' => e = .returned (.bool true) ∧ Below w.heap.size w w' := by
  have HX := Lib.hid hx
  clear hx
  obtain ⟨ti, hi0, hz0, hz1, hz2⟩ := info_parts Try.info8
  have d2 : decide ((60 : Int) < (xs.length : Int)) = false := decide_eq_false (by omega)
  go_enter Try.func3, Try.ntmps3
  go_wp2_with fail
  refine (known1 w).mono ?_
  rintro e w1 ⟨rfl, k1⟩
  have s1 := k1.size
  have R : Hid (BackInv w w1.heap.size w1.heap.size xs (.slice none 0 0) 0 (w1.alloc (.cells #[.slice none 0 0] 27))) :=
    ⟨.slice none 0 0, ⟨new_out w1, World.ownsRow_nil _ _ _ _, by simp [Value.ownBlock], k1.alloc k1.size _, k1.size⟩, by simp⟩
  clear k1
  obtain ⟨g, hg⟩ : ∃ g, g = w1.heap.size := ⟨_, rfl⟩
  go_wp2_with fail
  rw [← hg] at R s1 ⊢
  clear hg
  go_loopw [4, 5] (fun v i wr => ∃ j : Nat, j ≤ xs.length ∧ i = .int .i64 j ∧ Hid (BackInv w g g xs v j wr)) (fun _ i _ => xs.length - (intOf i).toNat)
  case atStart => exact ⟨0, Nat.zero_le _, rfl, R⟩
  case round =>
    obtain ⟨j, hj, rfl, hrel⟩ := hrel
    clear R
    by_cases hlt : j < xs.length
    · obtain ⟨vo, hM, hB⟩ := hrel.out
      obtain ⟨ad, rfl, hadH, hxs⟩ := HX.out (by omega)
      have hit := (hxs j hlt).below hM.bel (by rw [addr_block]; exact hadH)
      obtain ⟨x, hx⟩ : ∃ x, x = xs[j] := ⟨_, rfl⟩
      rw [← hx] at hit
      have c0 := hit.c0
      have c1 := hit.c1
      have c2 := hit.c2
      have c3 := hit.c3
      have i0 : (0 : Int) ≤ (j : Int) := by omega
      have i1 : (j : Int) < (xs.length : Int) := by omega
      have HM := Lib.hid hM
      have HB := Lib.hid hB
      have HT := Lib.hid hit
      have HE := Lib.hid hx
      clear hM hB hit hx hxs hrel
      by_cases hbig : 300 < x.bs.length
      · have d3 : decide ((300 : Int) < (x.bs.length : Int)) = true := decide_eq_true (by omega)
        go_wp2
        go_ret
        exact ⟨rfl, HM.out.bel.alloc HM.out.bel.size _⟩
      · have d3 : decide ((300 : Int) < (x.bs.length : Int)) = false := decide_eq_false (by omega)
        have hL : (itemsB (xs.take j)).length ≤ 18000 := by
          have := itemsB_le _ HB.out
          rw [List.length_take] at this
          omega
        have hbs : x.bs.length ≤ 300 := by omega
        have hwr := HM.out.out.has.lt
        have hwr2 := HM.out.bel.size
        -- what the round leaves, whichever way it goes
        have fin : Hid (∀ v' vo' w3, Mid w g g vo' v' (itemsB (xs.take j) ++ itemB x) (itemsB (xs.take j) ++ itemB x) w3 → BackInv w g g xs v' (j + 1) w3) := by
          intro v' vo' w3 hm
          have e := HE.out
          refine ⟨vo', ?_, ?_⟩
          · rw [itemsB_succ xs j hlt, ← e]
            exact hm
          · intro y hy
            rw [List.take_succ_eq_append_getElem hlt, List.mem_append] at hy
            rcases hy with hy | hy
            · exact HB.out y hy
            · rw [List.mem_singleton] at hy
              rw [hy, ← e]
              exact hbs
        obtain ⟨q, hq⟩ : ∃ q, q = x.is := ⟨_, rfl⟩
        rw [← hq] at c0
        have HQ := Lib.hid hq
        clear hq HB HE
        cases q with
        | true =>
          have eb : itemB x = x.bs := by rw [itemB, if_pos HQ.out.symm]
          rw [eb] at fin
          clear eb HQ
          go_wp2_with fail
          refine (outraw_any g g vo _ (itemsB (xs.take j)) x.bs 0 w.heap.size _ (HM.out.alloc _).out (item_src HT.out ((Below.refl _ _).alloc (by omega) _)) (by rw [List.length_append]; omega)).mono ?_
          intro e w2 hstep
          obtain ⟨vo2, rfl, hM2, hF⟩ := (HM.out.alloc _).step hstep
          have hfl : ∀ i, Foot g vo i → g ≤ i ∧ i < wr.heap.size := fun i hi => HM.out.out.foot_lt hi
          have hbl : Below w.heap.size wr w2 := ((Below.refl _ wr).alloc (by omega) _).trans (hF.below (by simp; omega) (fun i hi h => by have := hfl i h; omega))
          have hxb := (Has.new wr 30 #[.bool true, .int .i64 x.n, .int .u64 x.v, .slice x.A x.bs.length x.c]).only hF (fun h => by have := hfl _ h; omega)
          have c5 := hxb.cell 3
          simp at c5
          have M2 := Lib.hid hM2
          have S2 := Lib.hid (item_src HT.out hbl)
          clear hstep hM2 hF hfl hbl hxb HM HT c0 c1 c2 c3
          go_wp2_with (at_builtin; go_must (refine wpList_append_bytes _ rfl (.tmp 38) (.tmp 40) 25 rfl g 5 ti Try.underlying25 hi0 hz0 hz1 hz2 _ (itemsB (xs.take j)) x.bs rfl M2.out.own 0 w.heap.size _ rfl S2.out (by rw [List.length_append]; omega) (by have := M2.out.out.has.lt; omega) ?_))
          intro v3 w3 a3 b3 c3
          have a3 : w3.ownsRow g 5 1 v3 (itemsB (xs.take j) ++ x.bs).length (b8s (itemsB (xs.take j) ++ x.bs)) := by simpa using a3
          have R := Lib.hid (fin.out v3 vo2 w3 (M2.out.app a3 b3 c3))
          clear a3 b3 c3 M2 S2 fin c5
          go_wp2
          go_roundw
          case rel => exact ⟨j + 1, by omega, by go_num, R⟩
          case measure => simp [intOf]; omega
        | false =>
          have eb : itemB x = putI x.n x.v := by rw [itemB, if_neg (by have := HQ.out; simp [← this])]
          rw [eb] at fin
          have hpl := putI_length x.n x.v
          have hv0 := HT.out.v0
          have hv1 := HT.out.v1
          have HV := Lib.hid hv1
          clear eb HQ hv1
          go_wp2_with fail
          refine (put_any g g vo (itemsB (xs.take j)) x.n x.v _ (HM.out.alloc _).out hv0 HV.out (by omega)).mono ?_
          intro e w2 hstep
          obtain ⟨vo2, rfl, hM2, hF⟩ := (HM.out.alloc _).step hstep
          have hfl : ∀ i, Foot g vo i → g ≤ i ∧ i < wr.heap.size := fun i hi => HM.out.out.foot_lt hi
          have hxb := (Has.new wr 30 #[.bool false, .int .i64 x.n, .int .u64 x.v, .slice x.A x.bs.length x.c]).only hF (fun h => by have := hfl _ h; omega)
          have c5 := hxb.cell 1
          have c6 := hxb.cell 2
          simp at c5 c6
          have M2 := Lib.hid hM2
          clear hstep hM2 hF hfl hxb HM HT c0 c1 c2 c3
          go_wp2_with fail
          refine (refnum_any x.n x.v w2 hv0).mono ?_
          rintro e w4 ⟨v4, rfl, a4, b4⟩
          have M4 := Lib.hid (M2.out.below b4)
          have S4 := Lib.hid (owns_SlIs a4)
          clear a4 b4 M2 c5 c6
          go_wp2_with (at_builtin; go_must (refine wpList_append_bytes _ rfl (.tmp 48) (.tmp 53) 25 rfl g 5 ti Try.underlying25 hi0 hz0 hz1 hz2 _ (itemsB (xs.take j)) (putI x.n x.v) rfl M4.out.own _ _ _ rfl S4.out (by rw [List.length_append]; omega) (by have := M4.out.out.has.lt; omega) ?_))
          intro v3 w3 a3 b3 c3
          have a3 : w3.ownsRow g 5 1 v3 (itemsB (xs.take j) ++ putI x.n x.v).length (b8s (itemsB (xs.take j) ++ putI x.n x.v)) := by simpa using a3
          have R := Lib.hid (fin.out v3 vo2 w3 (M4.out.app a3 b3 c3))
          clear a3 b3 c3 M4 S4 fin
          go_wp2
          go_roundw
          case rel => exact ⟨j + 1, by omega, by go_num, R⟩
          case measure => simp [intOf]; omega
    · have : j = xs.length := by omega
      subst this
      obtain ⟨vo, hM, hB⟩ := hrel.out
      rw [List.take_length] at hM hB
      obtain ⟨L, hLe⟩ : ∃ L, L = itemsB xs := ⟨_, rfl⟩
      rw [← hLe] at hM
      have hL : L.length ≤ 18000 := by
        have := itemsB_le _ hB
        rw [← hLe] at this
        omega
      have hM1 := hM.below ((Below.refl _ wr).drew)
      have e1 := run_str u4 L _ _ wr.drew (owns_SlIs hM1.own)
      have HM := Lib.hid hM1
      have HB := Lib.hid hB
      have HE := Lib.hid hLe
      clear hM hB hLe hrel hM1
      go_upto_region 18 with fail
      go_cut [60] (fun s60 wx => s60 = .bool false ∧ Hid (Mid w g g vo u4 L L wx))
      case first =>
        go_region_with (first | (go_at_call 10; go_must (refine (bytes_any g g vo L _ HM.out.out (by omega)).mono ?_; rintro e w2 ⟨v2, rfl, a2, b2⟩; have e2 := run_str v2 L _ _ w2 (owns_SlIs a2); have M2 : Hid (Mid w g g vo u4 L L w2) := HM.out.below b2; have e3 := run_str u4 L _ _ w2 (owns_SlIs M2.out.own); clear a2 b2)))
        all_goals
          go_wp2_with fail
          go_meet
          exact ⟨rfl, M2⟩
      case rest =>
        obtain ⟨rfl, M2⟩ := hcut
        clear e1 HM
        go_wp2_with fail
        refine (of_any u4 L _ _ wc (owns_SlIs M2.out.own) (Nat.le_refl _) (by omega)).mono ?_
        rintro e w3 ⟨gd, rfl, a3, b3⟩
        have R2 : Hid (BackInv2 w wc.heap.size gd xs 0 w3) := ⟨by rw [List.drop_zero, ← HE.out]; exact a3, M2.out.bel.trans (b3.mono M2.out.bel.size)⟩
        have hlo : w.heap.size ≤ wc.heap.size := M2.out.bel.size
        have hgd := a3.lt
        clear a3 b3 M2
        go_wp2_with fail
        go_loopw [8] (fun i wq => ∃ j : Nat, j ≤ xs.length ∧ i = .int .i64 j ∧ Hid (BackInv2 w wc.heap.size gd xs j wq)) (fun i _ => xs.length - (intOf i).toNat)
        case atStart => exact ⟨0, Nat.zero_le _, rfl, R2⟩
        case round =>
          obtain ⟨j, hj2, rfl, hrel⟩ := hrel
          clear R2
          by_cases hlt : j < xs.length
          · obtain ⟨hI, hK⟩ := hrel.out
            obtain ⟨ad, rfl, hadH, hxs⟩ := HX.out (by omega)
            have hit := (hxs j hlt).below hK (by rw [addr_block]; exact hadH)
            obtain ⟨x, hx⟩ : ∃ x, x = xs[j] := ⟨_, rfl⟩
            rw [itemsB_drop xs j hlt] at hI
            rw [← hx] at hit hI
            obtain ⟨rest, hrest⟩ : ∃ rest, rest = itemsB (xs.drop (j + 1)) := ⟨_, rfl⟩
            rw [← hrest] at hI
            have hbs : x.bs.length ≤ 300 := HB.out x (by rw [hx]; exact List.getElem_mem hlt)
            have hgw := hI.lt
            have hKs := hK.size
            have c0 := hit.c0
            have c1 := hit.c1
            have c2 := hit.c2
            have c3 := hit.c3
            have i0 : (0 : Int) ≤ (j : Int) := by omega
            have i1 : (j : Int) < (xs.length : Int) := by omega
            have fin : Hid (∀ w3, InAt w3 wc.heap.size gd rest 0 → Below w.heap.size w w3 → BackInv2 w wc.heap.size gd xs (j + 1) w3) := fun w3 h1 h2 => ⟨by rw [← hrest]; exact h1, h2⟩
            have hLr : (itemB x ++ rest).length ≤ 36000 := by
              rw [hrest, ← show itemsB (xs.drop j) = itemB x ++ itemsB (xs.drop (j + 1)) from by rw [hx]; exact itemsB_drop xs j hlt]
              have := itemsB_le (xs.drop j) (fun y hy => HB.out y (List.mem_of_mem_drop hy))
              rw [List.length_drop] at this
              omega
            have HI := Lib.hid hI
            have HK := Lib.hid hK
            have HT := Lib.hid hit
            have HLr := Lib.hid hLr
            obtain ⟨q, hq⟩ : ∃ q, q = x.is := ⟨_, rfl⟩
            rw [← hq] at c0
            have HQ := Lib.hid hq
            clear hI hK hit hx hrest hxs hrel hq hLr
            cases q with
            | true =>
              have eb : itemB x = x.bs := by rw [itemB, if_pos HQ.out.symm]
              rw [eb] at HI HLr
              have CR : Hid (∀ W, Only (fun _ => False) wr W → Calls Try.prog 12 #[.pointer (some ⟨gd, 0, none⟩), .int .i64 (x.bs.length : Int)] W (RawStep W wc.heap.size gd (x.bs, rest, 0))) := fun W h => by
                rw [← raw_item x.bs rest]
                exact raw_any _ gd _ _ 0 W (HI.out.only h (fun _ _ _ h => h)) (by have := HLr.out; omega)
              have ex := run_str _ x.bs 0 w.heap.size ((wr.alloc (.cells #[.bool true, .int .i64 x.n, .int .u64 x.v, .slice x.A x.bs.length x.c] 30)).drew) (item_src HT.out (((Below.refl _ wr).alloc (by omega) _).drew))
              have hxb := Lib.hid ((Has.new wr 30 #[.bool true, .int .i64 x.n, .int .u64 x.v, .slice x.A x.bs.length x.c]).drew)
              clear eb HQ
              go_wp2
              go_region_with (first | (go_at_call 12; go_must (refine (CR.out _ (((Only.refl _ wr).alloc _).drew)).mono ?_; rintro e w3 ⟨u3, rfl, a3, k3, b3⟩; obtain ⟨y1, y2, y3⟩ := back_two (H := w.heap.size) b3 hxb.out (by omega) (by omega) HT.out HK.out (((Below.refl _ wr).alloc (by omega) _).drew); have e3 := run_str u3 x.bs _ _ w3 (owns_SlIs a3); have e4 := run_str _ x.bs 0 w.heap.size w3 y2; have Y3 := Lib.hid (fin.out w3 k3 y3); clear y2 y3 a3 k3 b3)))
              all_goals
                go_wp2
                go_roundw
                case rel => exact ⟨j + 1, by omega, by go_num, Y3⟩
                case measure => simp [intOf]; omega
            | false =>
              have eb : itemB x = putI x.n x.v := by rw [itemB, if_neg (by have := HQ.out; simp [← this])]
              rw [eb] at HI
              clear eb HQ
              have hv0 := HT.out.v0
              have HV := Lib.hid HT.out.v1
              by_cases hN : 1 ≤ x.n ∧ x.n ≤ 8
              · obtain ⟨m, hm⟩ : ∃ m : Nat, x.n = (m : Int) := ⟨x.n.toNat, by omega⟩
                obtain ⟨y, hy⟩ : ∃ y : Nat, x.v = (y : Int) := ⟨x.v.toNat, by omega⟩
                have ep : putI x.n x.v = putB m y := by rw [putI, if_pos hN, hm, hy]; simp
                have hVy := HV.out
                rw [ep] at HI
                rw [hm] at c1
                rw [hy] at c2 hVy
                have m1 : 1 ≤ m := by omega
                have m8 : m ≤ 8 := by omega
                have I1 : Hid (InAt (wr.alloc (.cells #[.bool false, .int .i64 (m : Int), .int .u64 (y : Int), .slice x.A x.bs.length x.c] 30)) wc.heap.size gd (putB m y ++ rest) 0) := HI.out.only ((Only.refl (fun _ => False) wr).alloc _) (fun _ _ _ h => h)
                have K1 : Hid (Below w.heap.size w (wr.alloc (.cells #[.bool false, .int .i64 (m : Int), .int .u64 (y : Int), .slice x.A x.bs.length x.c] 30))) := HK.out.alloc hKs _
                clear ep hm hy hN HI HV HT HLr hv0 HK
                obtain ⟨r, hr⟩ : ∃ r, r = y % 256 ^ m := ⟨_, rfl⟩
                have ht := take_item m y rest m1 m8
                rw [← hr] at ht
                have HTK := Lib.hid ht
                by_cases hm8 : m < 8
                · obtain ⟨M, M1, hM, hM1, hMr⟩ := mask_of y m (by omega) hm8
                  rw [← hr] at hMr
                  clear ht hr hVy
                  go_wp2_with fail
                  refine (take_any _ gd (m : Int) _ 0 _ I1.out).mono ?_
                  rintro e w3 ⟨rfl, a3, b3⟩
                  rw [HTK.out] at a3 ⊢
                  have R := Lib.hid (fin.out w3 a3 (K1.out.trans (b3.below (by have := K1.out.size; omega) (fun i hi h => by omega))))
                  clear a3 b3 I1 K1 HTK fin
                  go_wp2
                  go_roundw
                  case rel => exact ⟨j + 1, by omega, by go_num, R⟩
                  case measure => simp [intOf]; omega
                · have e8 : m = 8 := by omega
                  have hrr : r = y := by rw [hr, e8]; omega
                  clear ht hr hVy e8
                  subst hrr
                  have h8' : 8 ≤ m := by omega
                  go_wp2_with fail
                  refine (take_any _ gd (m : Int) _ 0 _ I1.out).mono ?_
                  rintro e w3 ⟨rfl, a3, b3⟩
                  rw [HTK.out] at a3 ⊢
                  have R := Lib.hid (fin.out w3 a3 (K1.out.trans (b3.below (by have := K1.out.size; omega) (fun i hi h => by omega))))
                  clear a3 b3 I1 K1 HTK fin
                  go_wp2
                  go_roundw
                  case rel => exact ⟨j + 1, by omega, by go_num, R⟩
                  case measure => simp [intOf]; omega
              · have ep : putI x.n x.v = [] := by rw [putI, if_neg hN]
                rw [ep, List.nil_append] at HI
                have R := Lib.hid (fin.out _ (HI.out.only ((Only.refl (fun _ => False) wr).alloc (.cells #[.bool false, .int .i64 x.n, .int .u64 x.v, .slice x.A x.bs.length x.c] 30)) (fun _ _ _ h => h)) (HK.out.alloc hKs _))
                clear ep HI HT HK HV hv0 HLr fin
                by_cases hn1 : x.n < 1
                · have hN2 := Lib.hid hN
                  clear hN
                  go_wp2
                  go_roundw
                  case rel => exact ⟨j + 1, by omega, by go_num, R⟩
                  case measure => simp [intOf]; omega
                · have hn2 : 8 < x.n := by omega
                  have hn3 : 1 ≤ x.n := by omega
                  have hn4 : decide (x.n ≤ 8) = false := decide_eq_false (by omega)
                  have hN2 := Lib.hid hN
                  clear hN
                  go_wp2
                  go_roundw
                  case rel => exact ⟨j + 1, by omega, by go_num, R⟩
                  case measure => simp [intOf]; omega
          · have hjj : j = xs.length := by omega
            subst hjj
            obtain ⟨hI, hK⟩ := hrel.out
            rw [List.drop_length] at hI
            have HI : Hid (InAt wr wc.heap.size gd [] 0) := hI
            have HK := Lib.hid hK
            clear hI hK hrel
            go_wp2_with fail
            refine (left_any _ _ _ _ wr HI.out).mono ?_
            rintro e w' ⟨rfl, rfl⟩
            go_wp2_with fail
            refine (err_any _ _ _ _ wr HI.out).mono ?_
            rintro e w' ⟨rfl, rfl⟩
            go_wp2
            go_ret
            exact ⟨rfl, HK.out⟩
end Go.Proofs.Ythfddmgphdklfaa
