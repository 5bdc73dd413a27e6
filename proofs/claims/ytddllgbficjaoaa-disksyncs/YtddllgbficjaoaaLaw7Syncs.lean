/-
  DiskSyncs: what was synced outlasts any cut; of what came behind just the writes that are kept.
-/
import Derived.Test.YtddllgbficjaoaaLaw7SyncA
import Derived.Deep.Cut
import Derived.BigQuiet
namespace Go.Proofs.Ytddllgbficjaoaa
open Go.RowKit Go.Lib
set_option maxRecDepth 100000

def wantC (l : List Nat) : Array Value := (l.map fun n : Nat => Value.int .i64 (n : Int)).toArray
theorem wantC_get {l : List Nat} {k : Nat} (h : k < l.length) : (wantC l)[k]? = some (.int .i64 (l[k] : Int)) := by simp [wantC, h]
theorem wantC_set (l : List Nat) (k n : Nat) : (wantC l).setIfInBounds k (.int .i64 (n : Int)) = wantC (l.set k n) := by simp [wantC, List.map_set]
/-- What the first loop keeps. -/
structure SInv (w : World) (g gw la : Nat) (ps : List (Nat × List UInt8)) (keep : List Bool) (i : Nat) (want : List Nat) (wr : World) : Prop where
  live : Live w (fun j => j = gw) g (syncSt la ps i) wr
  has : Has wr gw 52 (wantC want)
  len : want.length = 8
  eff : want.map sec = effL la ps keep i
  few : ∀ n ∈ want, n ≤ i
  low : w.heap.size ≤ gw
/-- The numbers, one set more. -/
structure WStep (w : World) (g gw la : Nat) (ps : List (Nat × List UInt8)) (keep : List Bool) (i bx k : Nat) (want : List Nat) (s : D) (x : List UInt8) (wr : World) : Prop where
  live : Live w (fun j => j = gw ∨ j = bx) g s wr
  has : Has wr gw 52 (wantC want)
  sl : SlIs wr bx (bx + 1) (.slice (some ⟨bx, 0, none⟩) 64 64) x
  len : want.length = 8
  eff : want.map sec = effL la ps keep (i + 1)
  few : ∀ n ∈ want, n ≤ i + 1
  low : w.heap.size ≤ gw
section
variable {w wr w2 : World} {g gw la : Nat} {ps : List (Nat × List UInt8)} {keep : List Bool} {i k : Nat} {want : List Nat}
/-- Behind the making of the bytes and the setting of their first. -/
theorem SInv.made (h : SInv w g gw la ps keep i want wr) (hi : i ≤ 80) (hmk : w2.ownsRow wr.heap.size 5 1 (.slice (some ⟨wr.heap.size, 0, none⟩) 64 64) 64 (b8s (List.replicate 64 0))) (k2 : Only (fun _ => False) wr w2) (hs : wr.heap.size < w2.heap.size) :
    w2.cell? ⟨wr.heap.size, 0, none⟩ = some (.int .u8 0) ∧ w2.frozen? ⟨wr.heap.size, 0, none⟩ = false ∧
    ∀ w3, w3 = w2.setCell ⟨wr.heap.size, 0, none⟩ (.int .u8 ((i + 1 : Nat) : Int)) → (Live w (fun j => j = gw ∨ j = wr.heap.size) g (syncSt la ps i) w3 ∧ Has w3 gw 52 (wantC want) ∧ SlIs w3 wr.heap.size (wr.heap.size + 1) (.slice (some ⟨wr.heap.size, 0, none⟩) 64 64) (sec (i + 1)) ∧ Below w.heap.size w w3) := by
  refine ⟨World.ownsRow.cellAt hmk 0 (by omega), World.ownsRow.frozenAt hmk 0, ?_⟩
  rintro w3 rfl
  have hg := h.has.lt
  have hlw := h.live.low.size
  obtain ⟨o3, k3⟩ := set_byte hmk 0 (UInt8.ofNat (i + 1))
  have e : b8 (UInt8.ofNat (i + 1)) = .int .u8 ((i + 1 : Nat) : Int) := by
    unfold b8
    rw [UInt8.toNat_ofNat']
    congr 2
    omega
  rw [e] at o3 k3
  have L2 := (h.live.more (K' := fun j => j = gw ∨ j = wr.heap.size) k2 (fun j hj => by
    rcases hj with rfl | rfl
    · exact ⟨.inl rfl, by omega⟩
    · exact ⟨.inr (Nat.le_refl _), hs⟩)).far k3 (fun j _ h => .inr h) (fun j hj e => by omega)
  refine ⟨L2, (h.has.only k2 (fun h => h)).only k3 (fun e => by omega), ?_, L2.low⟩
  obtain ⟨A, c, e, q1, q2, q3⟩ := owns_SlIs o3
  injection e with e1 e2 e3
  subst e1 e3
  refine ⟨_, _, rfl, q1, q2, fun hn => ?_⟩
  obtain ⟨ad, e, _, _, r⟩ := q3 hn
  injection e with e
  subst e
  exact ⟨_, rfl, Nat.le_refl _, Nat.lt_succ_self _, r⟩
theorem WStep.inv {s : D} {bx : Nat} {x : List UInt8} (h : WStep w g gw la ps keep i bx k want s x wr) (hl : Live w (fun j => j = gw ∨ j = bx) g (syncSt la ps (i + 1)) w2) (o : Only (fun j => ¬ (j = gw ∨ j = bx) ∧ w.heap.size ≤ j) wr w2) : SInv w g gw la ps keep (i + 1) want w2 :=
  ⟨hl.fewer (fun _ e => .inl e), h.has.only o (fun e => e.1 (.inl rfl)), h.len, h.eff, h.few, h.low⟩
theorem few_set {want : List Nat} (h : ∀ n ∈ want, n ≤ i) (k : Nat) : ∀ n ∈ want.set k (i + 1), n ≤ i + 1 := fun n hn => by
  rcases List.mem_or_eq_of_mem_set hn with hn | rfl
  · have := h n hn
    omega
  · omega
end

set_option maxHeartbeats 8000000 in
theorem syncs_walk (Aa : Option Addr) (ca : Nat) (xa : List UInt8) (Ab : Option Addr) (cb : Nat) (xb : List UInt8) (xk : Value) (keep : List Bool) (w : World)
    (ha : SlIs w 0 w.heap.size (.slice Aa xa.length ca) xa) (hb : SlIs w 0 w.heap.size (.slice Ab xb.length cb) xb) (hk : RwIs w (fun i => i < w.heap.size) keep.length xk (bvs keep)) (la : xa.length ≤ 40) (lb : xb.length ≤ 40) (lk : keep.length ≤ 60) :
    Calls Try.prog 5 #[.slice Aa xa.length ca, .slice Ab xb.length cb, xk] w fun e w' => e = .returned (.bool true) ∧ Below w.heap.size w w' := by
  have C0 := Lib.hid (known7_any w)
  have HKP := Lib.hid hk
  obtain ⟨Ak, ck, rfl, hkc⟩ := hk
  have HA := Lib.hid ha
  have HB := Lib.hid hb
  have HK := Lib.hid hkc
  clear ha hb hkc
  have d40 : decide (40 < xa.length) = false := decide_eq_false (by omega)
  have d41 : decide (40 < xb.length) = false := decide_eq_false (by omega)
  have d60 : decide (60 < keep.length) = false := decide_eq_false (by omega)
  go_enter Try.func5, Try.ntmps5
  go_wp2_with fail
  refine C0.out.mono ?_
  rintro e w0 ⟨rfl, b0⟩
  have C1 := Lib.hid (disknew_any 8 64 w0)
  have HB0 := Lib.hid b0
  clear C0 b0
  go_wp2_with fail
  refine C1.out.mono ?_
  intro e w1 hN
  rw [NewAns, if_pos (by decide)] at hN
  obtain ⟨v, rfl, hm⟩ := hN
  obtain ⟨g, rfl, L0, _⟩ := Live.made HB0.out (K := fun _ => False) (fun _ h => h.elim) hm
  obtain ⟨ps, hps⟩ : ∃ ps, ps = playW (xa ++ xb) := ⟨_, rfl⟩
  have I0 : Hid (SInv w g w1.heap.size xa.length ps keep 0 [0, 0, 0, 0, 0, 0, 0, 0] (w1.alloc (.cells #[.int .i64 0, .int .i64 0, .int .i64 0, .int .i64 0, .int .i64 0, .int .i64 0, .int .i64 0, .int .i64 0] 52))) := by
    refine ⟨?_, Has.new _ _ _, rfl, ?_, by simp, L0.low.size⟩
    · have e : syncSt xa.length ps 0 = D.new (Int.toNat 64) (List.replicate (Int.toNat 8) (List.replicate (Int.toNat 64) 0)) := by
        unfold syncSt
        split
        · simp [D.new, Z8]
        · have e : xa.length = 0 := by omega
          rw [e]
          simp [D.new, Z8, applyL]
      rw [e]
      exact L0.more ((Only.refl _ w1).alloc _) (fun j hj => ⟨.inr (by omega), by simp; omega⟩)
    · show List.replicate 8 (sec 0) = _
      rw [sec_zero]
      simp [effL, applyL, Z8]
  have HP := Lib.hid hps
  clear L0 hm C1 HB0 hps
  have hNl : xa.length + xb.length ≤ 80 := by omega
  go_wp2_with fail
  generalize w1.heap.size = gw at I0 ⊢
  go_loopw [10] (fun u wr => ∃ (i : Nat) (want : List Nat), i ≤ xa.length + xb.length ∧ u = .int .i64 i ∧ Hid (SInv w g gw xa.length ps keep i want wr)) (fun u _ => xa.length + xb.length - (RowKit.intOf u).toNat)
  case atStart => exact ⟨0, _, Nat.zero_le _, rfl, I0⟩
  case round =>
    obtain ⟨i, want, hi, rfl, hrel⟩ := hrel
    clear I0
    by_cases hlt : i < xa.length + xb.length
    · obtain ⟨w2, hmk0, o2, k2, s2⟩ := make_bytes 64 (by omega) wr
      have hmk : (Instr.makeSlice 34 (.int .i64 64) (.int .i64 64)).run Try.prog wr = .ok (.slice (some ⟨wr.heap.size, 0, none⟩) 64 64) w2 := hmk0
      have hI := hrel.out
      obtain ⟨c0, f0, M3⟩ := hI.made (by omega) o2 k2 s2
      obtain ⟨q, hq⟩ : ∃ q : Int, (i : Int) + 1 = q := ⟨_, rfl⟩
      have hw64 : IntKind.i64.wrap q = q := IntWalk.i64_in _ (by omega)
      have hw8 : IntKind.u8.wrap q = q := IntWalk.u8_in _ (by omega)
      obtain ⟨w3, hw3⟩ : ∃ w3, w3 = w2.setCell ⟨wr.heap.size, 0, none⟩ (.int .u8 q) := ⟨_, rfl⟩
      obtain ⟨L3, H3, X3, b3⟩ := M3 w3 (by rw [hw3, show q = ((i + 1 : Nat) : Int) by omega])
      have hgw := L3.klt gw (.inl rfl)
      have hbw := L3.klt wr.heap.size (.inr rfl)
      have hln := hI.len
      have hgl := hI.has.lt
      have hwl := hI.live.low.size
      have hlow := hI.low
      have hps := HP.out
      have hpi : ps[i]? = some (((xa ++ xb).getD i 0).toNat % 8, sec (i + 1)) := by
        rw [hps, List.getElem?_eq_getElem (by rw [playW_length, List.length_append]; exact hlt), playW_get]
      have HW3 := Lib.hid hw3
      clear hmk0 o2 k2 M3 hrel hps hw3
      have d0 : decide (i < xa.length + xb.length) = true := decide_eq_true hlt
      by_cases hia : i < xa.length
      · obtain ⟨ad, hAd, _, hbl, hcl⟩ := (show Rd w 0 w.heap.size Aa xa from by
          obtain ⟨A', c', e, _, _, r⟩ := HA.out
          injection e with e1 _ _
          rw [e1]
          exact r).at hia
        have cA : w3.cell? (ad.add i) = some (.int .u8 (xa[i].toNat : Int)) := (World.cell?_of_block (b3.block _ (by rw [addr_block]; exact hbl))).trans hcl
        have hgd : (xa ++ xb).getD i 0 = xa[i] := by simp [List.getD, List.getElem?_append_left hia, hia]
        rw [hgd] at hpi
        have hc256 : xa[i].toNat < 256 := UInt8.toNat_lt _
        generalize xa[i].toNat = c at cA hpi hc256
        obtain ⟨k, hk⟩ : ∃ k, k = c % 8 := ⟨_, rfl⟩
        rw [← hk] at hpi
        have hk8 : k < 8 := by omega
        have hmod : (c : Int) % 8 = (k : Int) := by omega
        have i2 : (0 : Int) ≤ (k : Int) := by omega
        have i3 : (k : Int) < 8 := by omega
        have i4 : (0 : Int) ≤ (i : Int) := by omega
        have i5 : (i : Int) < (xa.length : Int) := by omega
        have d1 : decide (i < xa.length) = true := decide_eq_true hia
        by_cases hla : i + 1 = xa.length
        · have n2 : ((i : Int) == (xa.length : Int) - 1) = true := beq_iff_eq.2 (by omega)
          subst hAd
          clear hcl hbl hgd hk
          go_upto_region 12 with fail
          rw [← HW3.out]
          clear HW3 hmk c0 f0 s2
          have cw := H3.cell k
          rw [wantC_get (by omega)] at cw
          have fw := H3.frozen k
          have W4 : WStep w g gw xa.length ps keep i wr.heap.size k (want.set k (i + 1)) (syncSt xa.length ps i) (sec (i + 1)) (w3.setCell ⟨gw, k, none⟩ (.int .i64 q)) := by
            have k4 : Only (fun j => j = gw) w3 (w3.setCell ⟨gw, k, none⟩ (.int .i64 q)) := (Only.refl (fun j => j = gw) w3).setCell (p := ⟨gw, k, none⟩) (fun _ => rfl) _
            have hh := H3.set k (.int .i64 q)
            rw [show q = ((i + 1 : Nat) : Int) by omega, wantC_set] at hh
            rw [show q = ((i + 1 : Nat) : Int) by omega] at k4 ⊢
            refine ⟨L3.far k4 (fun j _ e => .inl e) (fun j hj e => by omega), hh, X3.only k4 (by omega) (fun j h1 h2 e => by omega), by rw [List.length_set]; exact hI.len, ?_, few_set hI.few k, hlow⟩
            rw [List.map_set, hI.eff, effL_first hia hpi]
          have hs4 := W4.live.klt wr.heap.size (.inr rfl)

          have C4 := live_write w _ _ g _ W4.live (k : Int) _ _ _ (sec (i + 1)) W4.sl hs4 (fun j h1 h2 => .inl (.inr (by omega))) (syncSt_small (by omega) (by omega))
          rw [syncSt_write_last hla hpi hk8 (sec_length _)] at C4
          have HC4 := Lib.hid C4
          have HW4 := Lib.hid W4
          clear C4 W4 L3 H3 X3 b3 hI hpi hs4
          go_wp2_with fail
          refine HC4.out.mono ?_
          rintro e w5 ⟨rfl, l5, o5⟩

          have C5 := live_sync w _ _ g _ l5 (midSt_small (by omega))
          rw [midSt_sync] at C5
          have HC5 := Lib.hid C5
          have O5 := Lib.hid o5
          clear C5 l5 o5 HC4
          go_wp2_with fail
          refine HC5.out.mono ?_
          rintro e w6 ⟨rfl, l6, o6⟩
          have l6' : Live w (fun j => j = gw ∨ j = wr.heap.size) g (syncSt xa.length ps (i + 1)) w6 := by
            rw [hla]
            exact l6
          have R := Lib.hid (HW4.out.inv l6' (O5.out.trans o6 (fun _ _ h => h)))
          clear l6 l6' o6 O5 HC5 HW4
          go_wp2
          go_roundw
          case rel => exact ⟨i + 1, _, by omega, by go_num, R⟩
          case measure => simp [RowKit.intOf]; omega
        · have n1 : ¬ ((i : Int) = (xa.length : Int) - 1) := by omega
          have n2 : ((i : Int) == (xa.length : Int) - 1) = false := beq_eq_false_iff_ne.2 n1
          subst hAd
          clear hcl hbl hgd hk
          go_upto_region 12 with fail
          rw [← HW3.out]
          clear HW3 hmk c0 f0 s2
          have cw := H3.cell k
          rw [wantC_get (by omega)] at cw
          have fw := H3.frozen k
          have W4 : WStep w g gw xa.length ps keep i wr.heap.size k (want.set k (i + 1)) (syncSt xa.length ps i) (sec (i + 1)) (w3.setCell ⟨gw, k, none⟩ (.int .i64 q)) := by
            have k4 : Only (fun j => j = gw) w3 (w3.setCell ⟨gw, k, none⟩ (.int .i64 q)) := (Only.refl (fun j => j = gw) w3).setCell (p := ⟨gw, k, none⟩) (fun _ => rfl) _
            have hh := H3.set k (.int .i64 q)
            rw [show q = ((i + 1 : Nat) : Int) by omega, wantC_set] at hh
            rw [show q = ((i + 1 : Nat) : Int) by omega] at k4 ⊢
            refine ⟨L3.far k4 (fun j _ e => .inl e) (fun j hj e => by omega), hh, X3.only k4 (by omega) (fun j h1 h2 e => by omega), by rw [List.length_set]; exact hI.len, ?_, few_set hI.few k, hlow⟩
            rw [List.map_set, hI.eff, effL_first hia hpi]
          have hs4 := W4.live.klt wr.heap.size (.inr rfl)

          have C4 := live_write w _ _ g _ W4.live (k : Int) _ _ _ (sec (i + 1)) W4.sl hs4 (fun j h1 h2 => .inl (.inr (by omega))) (syncSt_small (by omega) (by omega))
          rw [syncSt_write_first (by omega) hpi hk8 (sec_length _)] at C4
          have HC4 := Lib.hid C4
          have HW4 := Lib.hid W4
          clear C4 W4 L3 H3 X3 b3 hI hpi hs4
          go_wp2_with fail
          refine HC4.out.mono ?_
          rintro e w5 ⟨rfl, l5, o5⟩

          have R := Lib.hid (HW4.out.inv l5 o5)
          clear l5 o5 HC4 HW4
          go_wp2
          go_roundw
          case rel => exact ⟨i + 1, _, by omega, by go_num, R⟩
          case measure => simp [RowKit.intOf]; omega
      · obtain ⟨j, hj⟩ : ∃ j : Nat, (i : Int) - (xa.length : Int) = (j : Int) := ⟨i - xa.length, by omega⟩
        have hjn : i - xa.length = j := by omega
        have hjb : j < xb.length := by omega
        obtain ⟨ad, hAd, _, hbl, hcl⟩ := (show Rd w 0 w.heap.size Ab xb from by
          obtain ⟨A', c', e, _, _, r⟩ := HB.out
          injection e with e1 _ _
          rw [e1]
          exact r).at hjb
        have cA : w3.cell? (ad.add j) = some (.int .u8 (xb[j].toNat : Int)) := (World.cell?_of_block (b3.block _ (by rw [addr_block]; exact hbl))).trans hcl
        have hgd : (xa ++ xb).getD i 0 = xb[j] := by
          have e : (xa ++ xb)[i]? = some xb[j] := by
            rw [List.getElem?_append_right (by omega), hjn, List.getElem?_eq_getElem hjb]
          rw [List.getD, e]
          rfl
        rw [hgd] at hpi
        have hc256 : xb[j].toNat < 256 := UInt8.toNat_lt _
        generalize xb[j].toNat = c at cA hpi hc256
        obtain ⟨k, hk⟩ : ∃ k, k = c % 8 := ⟨_, rfl⟩
        rw [← hk] at hpi
        have hk8 : k < 8 := by omega
        have hmod : (c : Int) % 8 = (k : Int) := by omega
        have i2 : (0 : Int) ≤ (k : Int) := by omega
        have i3 : (k : Int) < 8 := by omega
        have i4 : (0 : Int) ≤ (j : Int) := by omega
        have i5 : (j : Int) < (xb.length : Int) := by omega
        have hw65 : IntKind.i64.wrap (j : Int) = (j : Int) := IntWalk.i64_in _ (by omega)
        have d1 : decide (i < xa.length) = false := decide_eq_false hia
        have n1 : ¬ ((i : Int) = (xa.length : Int) - 1) := by omega
        have n2 : ((i : Int) == (xa.length : Int) - 1) = false := beq_eq_false_iff_ne.2 n1
        subst hAd
        clear hcl hbl hgd hk
        go_upto_region 12 with fail
        rw [← HW3.out]
        clear HW3 hmk c0 f0 s2
        by_cases hjk : j < keep.length
        · obtain ⟨ak, rfl, _, hakl, hakc⟩ := HK.out (by rw [bvs_length]; omega)
          have cK : w3.cell? (ak.add j) = some (.bool keep[j]) := (World.cell?_of_block (b3.block _ (by rw [addr_block]; exact hakl))).trans (hakc j _ (bvs_get hjk))
          have i6 : (j : Int) < (keep.length : Int) := by omega
          have dk : decide (j < keep.length) = true := decide_eq_true hjk
          cases hkj : keep[j] with
          | true =>
            rw [hkj] at cK
            have cw := H3.cell k
            rw [wantC_get (by omega)] at cw
            have fw := H3.frozen k
            have W4 : WStep w g gw xa.length ps keep i wr.heap.size k (want.set k (i + 1)) (syncSt xa.length ps i) (sec (i + 1)) (w3.setCell ⟨gw, k, none⟩ (.int .i64 q)) := by
              have k4 : Only (fun j => j = gw) w3 (w3.setCell ⟨gw, k, none⟩ (.int .i64 q)) := (Only.refl (fun j => j = gw) w3).setCell (p := ⟨gw, k, none⟩) (fun _ => rfl) _
              have hh := H3.set k (.int .i64 q)
              rw [show q = ((i + 1 : Nat) : Int) by omega, wantC_set] at hh
              rw [show q = ((i + 1 : Nat) : Int) by omega] at k4 ⊢
              refine ⟨L3.far k4 (fun j _ e => .inl e) (fun j hj e => by omega), hh, X3.only k4 (by omega) (fun j h1 h2 e => by omega), by rw [List.length_set]; exact hI.len, ?_, few_set hI.few k, hlow⟩
              rw [List.map_set, hI.eff, effL_more (by omega) hpi, if_pos (by rw [hjn, List.getElem?_eq_getElem hjk, hkj])]
            have hs4 := W4.live.klt wr.heap.size (.inr rfl)

            have C4 := live_write w _ _ g _ W4.live (k : Int) _ _ _ (sec (i + 1)) W4.sl hs4 (fun j h1 h2 => .inl (.inr (by omega))) (syncSt_small (by omega) (by omega))
            rw [syncSt_write_more (by omega) hpi hk8 (sec_length _)] at C4
            have HC4 := Lib.hid C4
            have HW4 := Lib.hid W4
            clear C4 W4 L3 H3 X3 b3 hI hpi hs4
            go_wp2_with fail
            refine HC4.out.mono ?_
            rintro e w5 ⟨rfl, l5, o5⟩

            have R := Lib.hid (HW4.out.inv l5 o5)
            clear l5 o5 HC4 HW4
            go_wp2
            go_roundw
            case rel => exact ⟨i + 1, _, by omega, by go_num, R⟩
            case measure => simp [RowKit.intOf]; omega
          | false =>
            rw [hkj] at cK
            have W4 : WStep w g gw xa.length ps keep i wr.heap.size k want (syncSt xa.length ps i) (sec (i + 1)) w3 :=
              ⟨L3, H3, X3, hI.len, by rw [hI.eff, effL_more (by omega) hpi, if_neg (by rw [hjn, List.getElem?_eq_getElem hjk, hkj]; decide)], fun n hn => by have := hI.few n hn; omega, hlow⟩
            have hs4 := W4.live.klt wr.heap.size (.inr rfl)

            have C4 := live_write w _ _ g _ W4.live (k : Int) _ _ _ (sec (i + 1)) W4.sl hs4 (fun j h1 h2 => .inl (.inr (by omega))) (syncSt_small (by omega) (by omega))
            rw [syncSt_write_more (by omega) hpi hk8 (sec_length _)] at C4
            have HC4 := Lib.hid C4
            have HW4 := Lib.hid W4
            clear C4 W4 L3 H3 X3 b3 hI hpi hs4
            go_wp2_with fail
            refine HC4.out.mono ?_
            rintro e w5 ⟨rfl, l5, o5⟩

            have R := Lib.hid (HW4.out.inv l5 o5)
            clear l5 o5 HC4 HW4
            go_wp2
            go_roundw
            case rel => exact ⟨i + 1, _, by omega, by go_num, R⟩
            case measure => simp [RowKit.intOf]; omega
        · have dk : decide (j < keep.length) = false := decide_eq_false hjk
          have W4 : WStep w g gw xa.length ps keep i wr.heap.size k want (syncSt xa.length ps i) (sec (i + 1)) w3 :=
            ⟨L3, H3, X3, hI.len, by rw [hI.eff, effL_more (by omega) hpi, if_neg (by rw [hjn, List.getElem?_eq_none (by omega)]; decide)], fun n hn => by have := hI.few n hn; omega, hlow⟩
          have hs4 := W4.live.klt wr.heap.size (.inr rfl)

          have C4 := live_write w _ _ g _ W4.live (k : Int) _ _ _ (sec (i + 1)) W4.sl hs4 (fun j h1 h2 => .inl (.inr (by omega))) (syncSt_small (by omega) (by omega))
          rw [syncSt_write_more (by omega) hpi hk8 (sec_length _)] at C4
          have HC4 := Lib.hid C4
          have HW4 := Lib.hid W4
          clear C4 W4 L3 H3 X3 b3 hI hpi hs4
          go_wp2_with fail
          refine HC4.out.mono ?_
          rintro e w5 ⟨rfl, l5, o5⟩

          have R := Lib.hid (HW4.out.inv l5 o5)
          clear l5 o5 HC4 HW4
          go_wp2
          go_roundw
          case rel => exact ⟨i + 1, _, by omega, by go_num, R⟩
          case measure => simp [RowKit.intOf]; omega
    · have hie : i = xa.length + xb.length := by omega
      subst hie
      have hI := hrel.out
      have hln := hI.len
      have CC := Lib.hid (live_cut w wr _ g _ hI.live keep (.slice Ak keep.length ck) (fun i => i < w.heap.size) (by
        obtain ⟨A', c', e, r⟩ := HKP.out
        injection e with e1 _ e3
        subst e1 e3
        refine ⟨_, _, rfl, fun hn => ?_⟩
        obtain ⟨ad, r1, r2, r3, r4⟩ := r hn
        exact ⟨ad, r1, r2, Nat.lt_of_lt_of_le r3 hI.live.low.size, fun j u hu => (World.cell?_of_block (hI.live.low.block _ (by rw [addr_block]; exact r2))).trans (r4 j u hu)⟩) (fun _ h => .inr h) (syncSt_small (by omega) (by omega)))
      have HI := Lib.hid hI
      have dl : decide (xa.length + xb.length < xa.length + xb.length) = false := decide_eq_false (by omega)
      clear hI hrel
      go_wp2_with fail
      refine CC.out.mono ?_
      rintro e w5 ⟨rfl, l5, o5⟩
      have hh5 := HI.out.has.only o5 (fun e => e.1 rfl)
      have C6 := Lib.hid (live_on w w5 _ g _ l5)
      rw [syncSt_end (by omega), ← HI.out.eff] at C6
      have H5 := Lib.hid hh5
      clear l5 o5 hh5 CC
      go_wp2_with fail
      refine C6.out.mono ?_
      rintro e w6 ⟨rfl, l6, o6⟩
      have I6 : Hid (Live w (fun j => j = gw) g (endSt (want.map sec) (xa.length + xb.length)) w6 ∧ Has w6 gw 52 (wantC want)) := ⟨l6, H5.out.only o6 (fun e => e.1 rfl)⟩
      have hfew := HI.out.few
      have HF := Lib.hid hfew
      clear l6 o6 C6 H5 HI hfew
      go_wp2_with fail
      go_loopw [13] (fun u wr => ∃ k : Nat, k ≤ 8 ∧ u = .int .i64 k ∧ Hid (Live w (fun j => j = gw) g (endSt (want.map sec) (xa.length + xb.length)) wr ∧ Has wr gw 52 (wantC want))) (fun u _ => 8 - (RowKit.intOf u).toNat)
      case atStart => exact ⟨0, Nat.zero_le _, rfl, I6⟩
      case round =>
        obtain ⟨k, hk, rfl, hrel⟩ := hrel
        clear I6
        by_cases hk8 : k < 8
        · obtain ⟨l7, h7⟩ := hrel.out
          have hkw : k < want.length := by omega
          have C7 := live_read w wr _ g _ l7 (k : Int)
          rw [endSt_read (by simpa using hkw), List.getElem_map] at C7
          have hn80 : want[k] ≤ 80 := Nat.le_trans (HF.out _ (List.getElem_mem hkw)) (by omega)
          obtain ⟨hl0, hsf⟩ := sec_first hn80
          have hsl := sec_length want[k]
          have cw := h7.cell k
          rw [wantC_get hkw] at cw
          have hgw7 := h7.lt
          generalize want[k] = n at C7 hn80 hl0 hsf hsl cw
          have C7' : Hid (Calls Try.prog 22 #[.pointer (some ⟨g, 0, none⟩), .int .i64 (k : Int)] wr fun e w' => ∃ ad c, e = .returned (.tuple #[.slice (some ad) 64 c, .int .i64 0]) ∧ w'.cell? ad = some (.int .u8 (n : Int)) ∧ w'.cell? ⟨gw, k, none⟩ = some (.int .i64 (n : Int)) ∧ Live w (fun j => j = gw) g (endSt (want.map sec) (xa.length + xb.length)) w' ∧ Has w' gw 52 (wantC want)) := C7.mono (by
            rintro e w' ⟨A, c, rfl, q1, q2⟩
            obtain ⟨ad, rfl, _, _, q3⟩ := q1.head hl0
            refine ⟨ad, c, by rw [hsl], by rw [q3]; exact congrArg some hsf, (World.cell?_of_block (q2.block gw hgw7)).trans cw, l7.below q2, (q2.block gw hgw7).trans h7⟩)
          clear C7 l7 h7 hrel hl0 hsf hsl cw
          have i2 : (0 : Int) ≤ (k : Int) := by omega
          have i3 : (k : Int) < 8 := by omega
          have d8 : decide (k < 8) = true := decide_eq_true hk8
          go_wp2_with fail
          refine C7'.out.mono ?_
          rintro e w8 ⟨ad, c, rfl, e1, e2, l8, h8⟩
          have R : Hid (∀ m, Live w (fun j => j = gw) g (endSt (want.map sec) (xa.length + xb.length)) (w8.drewN m) ∧ Has (w8.drewN m) gw 52 (wantC want)) := fun m => ⟨l8.new ((Only.refl _ w8).drewN m), h8⟩
          clear l8 h8 C7'
          go_upto_region 29 with fail
          go_quiet (fail)
          go_wp2
          go_roundw
          case rel => exact ⟨k + 1, by omega, by go_num, Lib.hid (R.out _)⟩
          case measure => simp [RowKit.intOf]; omega
        · have hke : k = 8 := by omega
          subst hke
          obtain ⟨l7, h7⟩ := hrel.out
          have C8 := Lib.hid (live_pending w wr _ g _ l7)
          rw [show (endSt (want.map sec) (xa.length + xb.length)).pend.length = 0 from rfl] at C8
          have R := Lib.hid l7.low
          clear l7 h7 hrel
          go_wp2_with fail
          refine C8.out.mono ?_
          rintro e w8 ⟨rfl, rfl⟩
          go_wp2
          go_ret
          exact ⟨rfl, R.out⟩
end Go.Proofs.Ytddllgbficjaoaa
