/-
  PagesWhole: the walk.
-/
import Derived.Test.YtnhojcldeloigaaGreatLaw8Whole
namespace Go.Proofs.YtnhojcldeloigaaGreat
open Go.RowKit Go.Lib Go.Maps
set_option maxRecDepth 100000

theorem cuts_at {w wr : World} {A : Option Addr} {c i : Nat} {xs : List UInt8} (hx : SlIs w 0 w.heap.size (.slice A xs.length c) xs) (hb : Below w.heap.size w wr) (hi : i < xs.length) : ∃ ad, A = some ad ∧ wr.cell? (ad.add i) = some (.int .u8 (xs[i].toNat : Int)) := by
  obtain ⟨A', c', e, _, _, h⟩ := hx.only (Only.of_below hb) (Nat.le_refl _) (fun j _ h1 h2 => by have h2 : w.heap.size ≤ j := h2; omega)
  injection e with e _ _
  subst e
  obtain ⟨ad, e, _, _, hc⟩ := h (by omega)
  exact ⟨ad, e, hc i _ (b8s_get hi)⟩
theorem keep_at {w wr : World} {n : Nat} {x : Value} {us : List Value} (h : RwIs w (fun i => i < w.heap.size) n x us) (hb : Below w.heap.size w wr) : RwIs wr (fun i => i < w.heap.size) n x us := h.only (Only.of_below hb) (fun j _ h1 h2 => by have h2 : w.heap.size ≤ j := h2; omega)
set_option maxHeartbeats 8000000 in
theorem whole_walk (n : Nat) (hn : n < 256) (A Ak : Option Addr) (c ck : Nat) (xs : List UInt8) (keep : List Bool) (w : World) (hx : SlIs w 0 w.heap.size (.slice A xs.length c) xs) (hk : RwIs w (fun i => i < w.heap.size) keep.length (.slice Ak keep.length ck) (bvs keep)) (l1 : xs.length ≤ 20) (l2 : keep.length ≤ 60) :
    Calls Tryz.prog 6 #[.int .u8 (n : Int), .slice A xs.length c, .slice Ak keep.length ck] w fun e w' => e = .returned (.bool true) ∧ Below w.heap.size w w' := by
  have CK := Lib.hid (known8_any w)
  obtain ⟨k, hkk⟩ : ∃ k, k = 1 + n % 8 := ⟨_, rfl⟩
  have k1 : 1 ≤ k := by omega
  have k8 : k ≤ 8 := by omega
  have ek : (1 : Int) + (n : Int) % 8 = (k : Int) := by omega
  have C1 := Lib.hid (whole_new w k k1 k8)
  have C2 := Lib.hid (whole_format w k k1 k8)
  have en : ((3 * k + 16 : Nat) : Int) = 3 * (k : Int) + 16 := by omega
  rw [en] at C1 C2
  have d1 : decide ((20 : Int) < (xs.length : Int)) = false := decide_eq_false (by omega)
  have d2 : decide ((60 : Int) < (keep.length : Int)) = false := decide_eq_false (by omega)
  have HX := Lib.hid hx
  have HK := Lib.hid hk
  clear hkk hx hk
  go_enter Tryz.func6, Tryz.ntmps6
  go_wp2_with fail
  refine CK.out.mono ?_
  rintro e w1 ⟨rfl, b1⟩
  have D1 := Lib.hid (C1.out w1 b1)
  clear b1 C1 CK
  go_wp2_with fail
  refine D1.out.mono ?_
  rintro e w2 ⟨gd, rfl, lv2⟩
  have D2 := Lib.hid (C2.out gd w2 lv2)
  clear lv2 C2 D1
  go_wp2_with fail
  refine D2.out.mono ?_
  rintro e w3 ⟨gb, rfl, cw3⟩
  have J0 : Hid (CutW w gd gb k (900000 - 4400 * 0) w3) := cw3
  clear cw3 D2
  go_wp2_with fail
  go_loopw [10, 12, 13] (fun u10 u12 u13 wr => ∃ (gb i v : Nat), i ≤ xs.length ∧ u10 = .pointer (some ⟨gb, 0, none⟩) ∧ u12 = .int .u16 v ∧ v < 65536 ∧ u13 = .int .i64 i ∧ Hid (CutW w gd gb k (900000 - 4400 * i) wr)) (fun _ _ u _ => xs.length - (RowKit.intOf u).toNat)
  case atStart => exact ⟨gb, 0, 0, Nat.zero_le _, rfl, rfl, by decide, rfl, J0⟩
  case round =>
    obtain ⟨gb, i, v, hi, rfl, rfl, hv, rfl, hrel⟩ := hrel
    clear J0
    obtain ⟨s, P, lv, hc, he⟩ := hrel.out
    clear hrel
    by_cases hlt : i < xs.length
    · obtain ⟨ad, rfl, hcell⟩ := cuts_at HX.out lv.low hlt
      have hx8 := xs[i].toNat_lt
      generalize xs[i].toNat = x at hcell hx8
      have i1 : (i : Int) < (xs.length : Int) := by omega
      have i2 : (0 : Int) ≤ (i : Int) := by omega
      have CA := Lib.hid (lv_arm w wr _ gd s gb (g82 k) noCh lv (x : Int) keep _ _ (keep_at HK.out lv.low) (by omega))
      have hca := calm_arm hc x hx8 keep
      have J1 : Hid (∀ w', Lv w (fun _ => False) gd (s.arm (x : Int) keep) gb (g82 k) noCh w' → TurnW w gd gb k (900000 - 4400 * i - 1100 * 0) w') := fun w' l => ⟨_, noCh, P, l, by rw [off_same hca.rest.on]; exact hca, fun _ => rfl, (fun p bs h => by cases h), he⟩
      clear lv hc he hca
      go_wp2_with fail
      refine CA.out.mono ?_
      rintro e w4 ⟨rfl, lv4, _⟩
      have J1 := Lib.hid (J1.out w4 lv4)
      clear lv4 CA hcell
      go_wp2_with fail
      go_loopw [12, 14] (fun u12 u14 wr => ∃ (v t : Nat), u12 = .int .u16 v ∧ v < 65536 ∧ t ≤ 4 ∧ u14 = .int .i64 t ∧ Hid (TurnW w gd gb k (900000 - 4400 * i - 1100 * t) wr)) (fun _ u _ => 4 - (RowKit.intOf u).toNat)
      case atStart => exact ⟨v, 0, rfl, hv, by decide, rfl, J1⟩
      case round =>
        obtain ⟨v, t, rfl, hv, ht, rfl, hrel⟩ := hrel
        clear J1
        by_cases ht4 : t < 4
        · obtain ⟨s, ch, P, lv, hc, hno, hlen, he⟩ := hrel.out
          have CO := lv_off w wr _ gd s gb (g82 k) ch lv
          have j1 : (t : Int) < 4 := by omega
          cases ho : s.off with
          | false =>
            rw [ho] at CO
            have CO := Lib.hid CO
            rw [hno ho] at lv
            rw [off_same ho] at hc
            obtain ⟨v2, hv2⟩ : ∃ v2, v2 = (v + 1) % 65536 := ⟨_, rfl⟩
            have hv3 : v2 < 65536 := by omega
            have ew : IntKind.u16.wrap ((v : Int) + 1) = (v2 : Int) := by
              have e : IntKind.u16.wrap ((v : Int) + 1) = ((v : Int) + 1) % 65536 := rfl
              rw [e, hv2]
              omega
            rw [← chJ_zero v2] at lv
            have J2 := Lib.hid lv
            have HC := Lib.hid hc
            have HE := Lib.hid he
            clear lv hc he hno hlen ho hrel hv2
            go_wp2_with fail
            refine CO.out.mono ?_
            rintro e w5 ⟨rfl, rfl⟩
            clear CO
            go_wp2_with fail
            go_loopw [15] (fun u wr => ∃ (j : Nat), j ≤ k ∧ u = .int .i64 j ∧ Hid (Lv w (fun _ => False) gd s gb (g82 k) (chJ v2 j) wr)) (fun u _ => k - (RowKit.intOf u).toNat)
            case atStart => exact ⟨0, Nat.zero_le _, rfl, J2⟩
            case round =>
              obtain ⟨j, hj, rfl, hrel⟩ := hrel
              clear J2
              by_cases hjk : j < k
              · have q1 : (j : Int) < (k : Int) := by omega
                have CP := Lib.hid (page8_any v2 wr)
                go_wp2_with fail
                refine CP.out.mono ?_
                rintro e w6 ⟨rfl, b6⟩
                have lv6 := hrel.out.below b6
                obtain ⟨A7, c7, w7, hcv, sl7, b7⟩ := str_bytes (pageB v2) w6 (by rw [pageB_len]; decide)
                have CW := whole_write w gd gb k v2 j w7 s (lv6.below b7) hjk _ _ _ sl7 (Nat.le_refl _)
                rw [pageB_len] at hcv CW
                have CW := Lib.hid CW
                clear sl7 b7 lv6 b6 CP
                go_wp2_with fail
                refine CW.out.mono ?_
                rintro e w8 ⟨rfl, lv8⟩
                have J2 := Lib.hid lv8
                clear lv8 CW hcv
                go_wp2
                go_roundw
                case rel => exact ⟨j + 1, by omega, by go_num, J2⟩
                case measure => simp [RowKit.intOf]; omega
              · have hje : j = k := by omega
                have q1 : decide ((j : Int) < (k : Int)) = false := decide_eq_false (by omega)
                have CC : Hid (Calls Tryz.prog 15 #[.pointer (some ⟨gb, 0, none⟩)] wr fun e w' => (∃ r, e = .returned (.int .i64 r)) ∧ TurnW w gd gb k (900000 - 4400 * i - 1100 * (t + 1)) w' ∧ Below w.heap.size w w') := by
                  have hl := hrel.out
                  rw [hje] at hl
                  exact whole_commit w gd gb k _ v2 wr s P hl (HC.out.more (by omega)) HE.out k1
                clear hrel hje
                go_wp2_with fail
                refine CC.out.mono ?_
                rintro e w9 ⟨⟨r, rfl⟩, tw, _⟩
                have J3 := Lib.hid tw
                clear tw CC
                go_wp2
                go_roundw
                case rel => exact ⟨v2, t + 1, rfl, hv3, by omega, by go_num, J3⟩
                case measure => simp [RowKit.intOf]; omega
          | true =>
            rw [ho] at CO
            have CO := Lib.hid CO
            have TW : Hid (TurnW w gd gb k (900000 - 4400 * (i + 1)) wr) := ⟨s, ch, P, lv, hc.more (by omega), hno, hlen, he⟩
            clear lv hc he hno hlen ho hrel
            go_wp2_with fail
            refine CO.out.mono ?_
            rintro e w5 ⟨rfl, rfl⟩
            clear CO
            obtain ⟨s3, ch3, P3, lv3, hc3, _, _, he3⟩ := TW.out
            have CX := Lib.hid (lv_cut w _ _ gd s3 gb (g82 k) ch3 lv3 keep _ _ (keep_at HK.out lv3.low) (fun _ h => .inr h) ⟨by have := hc3.rest.pend; have := hc3.small.pend; exact this, by have := hc3.small.armed; exact this, by have := hc3.small.writes; exact this⟩)
            have hc4 : Calm (g82 k) { s3.cut keep with off := false } P3 (900000 - 4400 * (i + 1)) := hc3.cut keep
            have HC4 := Lib.hid hc4
            have HE3 := Lib.hid he3
            clear lv3 hc3 he3 hc4 TW
            go_wp2_with fail
            refine CX.out.mono ?_
            rintro e w10 ⟨rfl, lv10, _⟩
            have CN := Lib.hid (lv_on w w10 _ gd _ gb (g82 k) _ lv10)
            clear lv10 CX
            go_wp2_with fail
            refine CN.out.mono ?_
            rintro e w11 ⟨rfl, lv11, _⟩
            obtain ⟨s4, hs4⟩ : ∃ s4 : D, s4 = { s3.cut keep with off := false } := ⟨_, rfl⟩
            rw [← hs4] at lv11 HC4
            have CQ := whole_open w gd k _ w11 s4 P3 lv11.live HC4.out
            rw [en] at CQ
            have CQ := Lib.hid CQ
            clear lv11 CN hs4
            go_wp2_with fail
            refine CQ.out.mono ?_
            rintro e w12 ⟨gb2, rfl, lv12⟩
            have CR := whole_read w gd gb2 k _ 0 w12 s4 P3 lv12 HC4.out HE3.out k1
            have CR := Lib.hid CR
            have LV := Lib.hid lv12
            clear lv12 CQ
            go_wp2_with fail
            refine CR.out.mono ?_
            rintro e w13 ⟨A13, c13, rfl, x13, b13⟩
            have J4 : Hid (Lv w (fun _ => False) gd s4 gb2 (g82 k) noCh w13 ∧ SlIs w13 w12.heap.size w13.heap.size (.slice A13 (P3 0).length c13) (P3 0) ∧ Only (fun _ => False) w13 w13) := ⟨LV.out.below b13, x13, Only.refl _ _⟩
            clear CR LV x13 b13
            go_wp2_with fail
            go_loopw [20] (fun u wr => ∃ (j : Nat), j ≤ k ∧ u = .int .i64 j ∧ Hid (Lv w (fun _ => False) gd s4 gb2 (g82 k) noCh wr ∧ SlIs wr w12.heap.size w13.heap.size (.slice A13 (P3 0).length c13) (P3 0) ∧ Only (fun _ => False) w13 wr)) (fun u _ => k - (RowKit.intOf u).toNat)
            case atStart => exact ⟨1, k1, rfl, J4⟩
            case round =>
              obtain ⟨j, hj, rfl, hrel⟩ := hrel
              clear J4
              by_cases hjk : j < k
              · have q1 : (j : Int) < (k : Int) := by omega
                have CR := Lib.hid (whole_read w gd gb2 k _ j wr s4 P3 hrel.out.1 HC4.out HE3.out hjk)
                go_wp2_with fail
                refine CR.out.mono ?_
                rintro e w14 ⟨A14, c14, rfl, x14, b14⟩
                have k14 : Only (fun _ => False) wr w14 := (Only.of_below b14).mono (fun i hi h => by have h : wr.heap.size ≤ i := h; omega)
                have hs13 := hrel.out.2.2.size
                have x13 := hrel.out.2.1.only k14 hs13 (fun _ _ _ h => h)
                have J4 : Hid (Lv w (fun _ => False) gd s4 gb2 (g82 k) noCh w14 ∧ SlIs w14 w12.heap.size w13.heap.size (.slice A13 (P3 0).length c13) (P3 0) ∧ Only (fun _ => False) w13 w14) := ⟨hrel.out.1.below b14, x13, hrel.out.2.2.trans k14 (fun _ _ h => h)⟩
                have r1 := run_str _ _ _ _ _ x14
                have r2 := run_str _ _ _ _ _ x13
                clear CR hrel x14 x13 b14 k14
                go_wp2
                go_roundw
                case rel => exact ⟨j + 1, by omega, by go_num, J4⟩
                case measure => simp [RowKit.intOf]; omega
              · have q1 : decide ((j : Int) < (k : Int)) = false := decide_eq_false (by omega)
                have J5 : Hid (CutW w gd gb2 k (900000 - 4400 * (i + 1)) wr) := ⟨s4, P3, hrel.out.1, HC4.out, HE3.out⟩
                clear hrel
                go_wp2
                go_roundw
                case rel => exact ⟨gb2, i + 1, v, by omega, rfl, rfl, hv, by go_num, J5⟩
                case measure => simp [RowKit.intOf]; omega
        · have j1 : decide ((t : Int) < 4) = false := decide_eq_false (by omega)
          have TW : Hid (TurnW w gd gb k (900000 - 4400 * (i + 1)) wr) := by
            obtain ⟨s, ch, P, lv, hc, hno, hlen, he⟩ := hrel.out
            exact ⟨s, ch, P, lv, hc.more (by omega), hno, hlen, he⟩
          clear hrel
          obtain ⟨s3, ch3, P3, lv3, hc3, _, _, he3⟩ := TW.out
          have CX := Lib.hid (lv_cut w _ _ gd s3 gb (g82 k) ch3 lv3 keep _ _ (keep_at HK.out lv3.low) (fun _ h => .inr h) ⟨by have := hc3.rest.pend; have := hc3.small.pend; exact this, by have := hc3.small.armed; exact this, by have := hc3.small.writes; exact this⟩)
          have hc4 : Calm (g82 k) { s3.cut keep with off := false } P3 (900000 - 4400 * (i + 1)) := hc3.cut keep
          have HC4 := Lib.hid hc4
          have HE3 := Lib.hid he3
          clear lv3 hc3 he3 hc4 TW
          go_wp2_with fail
          refine CX.out.mono ?_
          rintro e w10 ⟨rfl, lv10, _⟩
          have CN := Lib.hid (lv_on w w10 _ gd _ gb (g82 k) _ lv10)
          clear lv10 CX
          go_wp2_with fail
          refine CN.out.mono ?_
          rintro e w11 ⟨rfl, lv11, _⟩
          obtain ⟨s4, hs4⟩ : ∃ s4 : D, s4 = { s3.cut keep with off := false } := ⟨_, rfl⟩
          rw [← hs4] at lv11 HC4
          have CQ := whole_open w gd k _ w11 s4 P3 lv11.live HC4.out
          rw [en] at CQ
          have CQ := Lib.hid CQ
          clear lv11 CN hs4
          go_wp2_with fail
          refine CQ.out.mono ?_
          rintro e w12 ⟨gb2, rfl, lv12⟩
          have CR := whole_read w gd gb2 k _ 0 w12 s4 P3 lv12 HC4.out HE3.out k1
          have CR := Lib.hid CR
          have LV := Lib.hid lv12
          clear lv12 CQ
          go_wp2_with fail
          refine CR.out.mono ?_
          rintro e w13 ⟨A13, c13, rfl, x13, b13⟩
          have J4 : Hid (Lv w (fun _ => False) gd s4 gb2 (g82 k) noCh w13 ∧ SlIs w13 w12.heap.size w13.heap.size (.slice A13 (P3 0).length c13) (P3 0) ∧ Only (fun _ => False) w13 w13) := ⟨LV.out.below b13, x13, Only.refl _ _⟩
          clear CR LV x13 b13
          go_wp2_with fail
          go_loopw [20] (fun u wr => ∃ (j : Nat), j ≤ k ∧ u = .int .i64 j ∧ Hid (Lv w (fun _ => False) gd s4 gb2 (g82 k) noCh wr ∧ SlIs wr w12.heap.size w13.heap.size (.slice A13 (P3 0).length c13) (P3 0) ∧ Only (fun _ => False) w13 wr)) (fun u _ => k - (RowKit.intOf u).toNat)
          case atStart => exact ⟨1, k1, rfl, J4⟩
          case round =>
            obtain ⟨j, hj, rfl, hrel⟩ := hrel
            clear J4
            by_cases hjk : j < k
            · have q1 : (j : Int) < (k : Int) := by omega
              have CR := Lib.hid (whole_read w gd gb2 k _ j wr s4 P3 hrel.out.1 HC4.out HE3.out hjk)
              go_wp2_with fail
              refine CR.out.mono ?_
              rintro e w14 ⟨A14, c14, rfl, x14, b14⟩
              have k14 : Only (fun _ => False) wr w14 := (Only.of_below b14).mono (fun i hi h => by have h : wr.heap.size ≤ i := h; omega)
              have hs13 := hrel.out.2.2.size
              have x13 := hrel.out.2.1.only k14 hs13 (fun _ _ _ h => h)
              have J4 : Hid (Lv w (fun _ => False) gd s4 gb2 (g82 k) noCh w14 ∧ SlIs w14 w12.heap.size w13.heap.size (.slice A13 (P3 0).length c13) (P3 0) ∧ Only (fun _ => False) w13 w14) := ⟨hrel.out.1.below b14, x13, hrel.out.2.2.trans k14 (fun _ _ h => h)⟩
              have r1 := run_str _ _ _ _ _ x14
              have r2 := run_str _ _ _ _ _ x13
              clear CR hrel x14 x13 b14 k14
              go_wp2
              go_roundw
              case rel => exact ⟨j + 1, by omega, by go_num, J4⟩
              case measure => simp [RowKit.intOf]; omega
            · have q1 : decide ((j : Int) < (k : Int)) = false := decide_eq_false (by omega)
              have J5 : Hid (CutW w gd gb2 k (900000 - 4400 * (i + 1)) wr) := ⟨s4, P3, hrel.out.1, HC4.out, HE3.out⟩
              clear hrel
              go_wp2
              go_roundw
              case rel => exact ⟨gb2, i + 1, v, by omega, rfl, rfl, hv, by go_num, J5⟩
              case measure => simp [RowKit.intOf]; omega
    · have i1 : decide ((i : Int) < (xs.length : Int)) = false := decide_eq_false (by omega)
      have R := Lib.hid lv.low
      clear lv hc he
      go_wp2
      go_ret
      exact ⟨rfl, R.out⟩
end Go.Proofs.YtnhojcldeloigaaGreat
