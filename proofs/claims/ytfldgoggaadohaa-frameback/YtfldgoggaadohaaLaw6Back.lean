/-
  FrameBack: any bodies, wrapped, in any pieces, come out as they were; the walk.
-/
import Derived.Test.YtfldgoggaadohaaLaw6Each
import Derived.Test.YtfldgoggaadohaaOpenFrame
import Derived.Deep.DeepCutAuto
import Derived.Deep.Cut
namespace Go.Proofs.Ytfldgoggaadohaa
open Go.RowKit
set_option maxRecDepth 100000

/-- The bodies that go on the road; their frames. -/
def okB (x : List UInt8) : Bool := decide (3 ≤ x.length ∧ x.length ≤ 8188)
def keptOf (ls : List (List UInt8)) (j : Nat) : List (List UInt8) := (ls.take j).filter okB
def roadOf (ls : List (List UInt8)) (j : Nat) : List UInt8 := (keptOf ls j).flatMap wrapB
theorem kept_succ {ls : List (List UInt8)} {j : Nat} (h : j < ls.length) : keptOf ls (j + 1) = keptOf ls j ++ (if okB ls[j] then [ls[j]] else []) := by
  unfold keptOf
  rw [List.take_succ_eq_append_getElem h, List.filter_append]
  congr 1
  by_cases hk : okB ls[j] = true
  · rw [List.filter_cons_of_pos hk, if_pos hk]
    rfl
  · rw [List.filter_cons_of_neg hk, if_neg hk]
    rfl
theorem road_yes {ls : List (List UInt8)} {j : Nat} (h : j < ls.length) (hk : okB ls[j] = true) : keptOf ls (j + 1) = keptOf ls j ++ [ls[j]] ∧ roadOf ls (j + 1) = roadOf ls j ++ wrapB ls[j] := by
  have e : keptOf ls (j + 1) = keptOf ls j ++ [ls[j]] := by rw [kept_succ h, if_pos hk]
  refine ⟨e, ?_⟩
  unfold roadOf
  rw [e, List.flatMap_append]
  simp
theorem road_no {ls : List (List UInt8)} {j : Nat} (h : j < ls.length) (hk : ¬ okB ls[j] = true) : keptOf ls (j + 1) = keptOf ls j ∧ roadOf ls (j + 1) = roadOf ls j := by
  have e : keptOf ls (j + 1) = keptOf ls j := by rw [kept_succ h, if_neg hk, List.append_nil]
  refine ⟨e, ?_⟩
  unfold roadOf
  rw [e]
theorem kept_len (ls : List (List UInt8)) (j : Nat) : (keptOf ls j).length ≤ j := by
  have h1 := List.length_filter_le okB (ls.take j)
  have h2 : (ls.take j).length ≤ j := by rw [List.length_take]; omega
  unfold keptOf
  omega
theorem flat_len {xs : List (List UInt8)} (h : ∀ x ∈ xs, okB x = true) : (xs.flatMap wrapB).length ≤ 8192 * xs.length := by
  induction xs with
  | nil => simp
  | cons x xs ih =>
    have hx := of_decide_eq_true (h x (by simp))
    have := ih (fun y hy => h y (by simp [hy]))
    have hl := wrapB_length x
    rw [List.flatMap_cons, List.length_append, List.length_cons]
    omega
theorem kept_ok (ls : List (List UInt8)) (j : Nat) : ∀ x ∈ keptOf ls j, okB x = true := fun _ hx => (List.mem_filter.1 hx).2
theorem road_len (ls : List (List UInt8)) (j : Nat) : (roadOf ls j).length ≤ 8192 * j := by
  have h1 := flat_len (kept_ok ls j)
  have h2 := kept_len ls j
  unfold roadOf
  omega
theorem cut_flat {xs : List (List UInt8)} (h : ∀ x ∈ xs, okB x = true) : cut 8192 (xs.flatMap wrapB) = (xs, [], false) := by
  induction xs with
  | nil => exact cut_nil _
  | cons x xs ih =>
    have hx := of_decide_eq_true (h x (by simp))
    rw [List.flatMap_cons, cut_wrap (by omega) (by omega) (by omega), ih (fun y hy => h y (by simp [hy]))]
theorem cut_road (ls : List (List UInt8)) (j : Nat) : cut 8192 (roadOf ls j) = (keptOf ls j, [], false) := cut_flat (kept_ok ls j)

/-- At the first loop's head. -/
structure KInv (w : World) (ls : List (List UInt8)) (j : Nat) (bv wv : Value) (wr : World) : Prop where
  own : wr.ownsRow w.heap.size 5 1 bv (roadOf ls j).length (b8s (roadOf ls j))
  want : LsAt wr (fun i => bv.ownBlock ≠ some i) wv (keptOf ls j)
  wlow : ∀ i, wv.ownBlock = some i → w.heap.size ≤ i
  low : Below w.heap.size w wr
section
variable {w wr w2 w3 w5 : World} {ls : List (List UInt8)} {j : Nat} {bv wv bv' wv' u : Value} {us : List Value}
theorem KInv.below (I : KInv w ls j bv wv wr) (k : Below wr.heap.size wr w2) : KInv w ls j bv wv w2 := by
  have q := Only.of_below k
  exact ⟨owns_only I.own q (fun i hi h => by have := (I.own.lt i hi).2; omega), I.want.only q (fun i hi _ h => by omega), I.wlow, I.low.trans (k.mono I.low.size)⟩
theorem KInv.skip (I : KInv w ls j bv wv wr) (h : j < ls.length) (hk : ¬ okB ls[j] = true) : KInv w ls (j + 1) bv wv wr := by
  obtain ⟨e1, e2⟩ := road_no h hk
  refine ⟨?_, ?_, I.wlow, I.low⟩
  · rw [e2]
    exact I.own
  · rw [e1]
    exact I.want
/-- One body more: first its frame. -/
theorem KInv.road (I : KInv w ls j bv wv w2) (g3 : w2.grownBy w3 bv.ownBlock) (f3 : bv'.ownBlock = bv.ownBlock ∨ bv'.ownBlock = some w2.heap.size) :
    LsAt w3 (fun i => bv'.ownBlock ≠ some i) wv (keptOf ls j) ∧ Below w.heap.size w w3 := by
  have k3 := Only.of_grown g3
  refine ⟨(I.want.mono (F := fun i => bv.ownBlock ≠ some i ∧ bv'.ownBlock ≠ some i) (fun i hi hE => ⟨hE, fun e => ?_⟩)).only k3 (fun i _ hE h => hE.1 h.symm) |>.mono (fun i _ hE => hE.2), I.low.trans (k3.below I.low.size (fun i hi h => by have := (I.own.lt i h.symm).1; omega))⟩
  rcases f3 with f3 | f3
  · exact hE (f3 ▸ e)
  · rw [f3] at e
    injection e with e
    omega
/-- Then itself. -/
theorem KInv.step (h : j < ls.length) (hk : okB ls[j] = true) (a3 : w3.ownsRow w.heap.size 5 1 bv' (roadOf ls (j + 1)).length (b8s (roadOf ls (j + 1)))) (hw : ∀ i, wv.ownBlock = some i → w.heap.size ≤ i) (hlow : Below w.heap.size w w3)
    (els : Els w3 (fun i => bv'.ownBlock ≠ some i ∧ wv.ownBlock ≠ some i) us (keptOf ls j)) (hE : ∀ i, wv.ownBlock = some i → bv'.ownBlock ≠ some i) (hu : SlIs w3 0 w.heap.size u ls[j])
    (h5 : w5.ownsRow 0 22 1 wv' (us ++ [u]).length (us ++ [u])) (g5 : (w3.alloc (.cells #[u] 22)).grownBy w5 wv.ownBlock) (f5 : wv'.ownBlock = wv.ownBlock ∨ wv'.ownBlock = some (w3.alloc (.cells #[u] 22)).heap.size) :
    KInv w ls (j + 1) bv' wv' w5 := by
  obtain ⟨e1, e2⟩ := road_yes h hk
  have hs := hlow.size
  have hsz : (w3.alloc (.cells #[u] 22)).heap.size = w3.heap.size + 1 := by simp
  have kA : Only (fun _ => False) w3 (w3.alloc (.cells #[u] 22)) := (Only.refl _ w3).alloc _
  have k5 := Only.of_grown g5
  refine ⟨?_, ?_, ?_, ?_⟩
  · exact owns_only (owns_only a3 kA (fun _ _ h => h)) k5 (fun i hi e => hE i e.symm hi)
  · rw [e1]
    refine LsAt.grow h5 g5 f5 hE (Els.only kA (fun _ _ _ h => h) els) ⟨?_, trivial⟩ (fun e => by have := (a3.lt _ e).2; omega)
    exact ((ElIs.of_sl hu hs).mono (F := fun i => bv'.ownBlock ≠ some i ∧ wv.ownBlock ≠ some i) (fun i _ hi => ⟨fun e => by have := (a3.lt i e).1; omega, fun e => by have := hw i e; omega⟩)).only kA (fun _ _ _ h => h)
  · intro i hi
    rcases f5 with f5 | f5
    · exact hw i (f5 ▸ hi)
    · rw [f5] at hi
      injection hi with hi
      omega
  · exact (hlow.alloc hs _).trans (k5.below (by omega) (fun i hi e => by have := hw i e.symm; omega))
end

set_option maxHeartbeats 8000000 in
theorem back6_walk (A : Option Addr) (c : Nat) (ls : List (List UInt8)) (z : Nat) (w : World) (hx : BsAt w w.heap.size A ls) (hl : ls.length ≤ 20) (hz : z < 256) :
    Calls Try.prog 4 #[.slice A ls.length c, .int .u8 (z : Int)] w fun e w' => e = .returned (.bool true) ∧ Below w.heap.size w w' := by
  obtain ⟨i0, hi0, hz0, hz1, hz2⟩ := info_parts Try.info8
  obtain ⟨i1, hi1, hy0, hy1, hy2⟩ := info_parts Try.infoBytes
  have hd1 : decide ((20 : Int) < (ls.length : Int)) = false := decide_eq_false (by omega)
  have HX := Lib.hid hx
  clear hx
  go_enter Try.func4, Try.ntmps4
  go_wp2_with fail
  refine (known6 w).mono ?_
  rintro e w1 ⟨rfl, b1⟩
  have I0 : Hid (KInv w ls 0 (.slice none 0 0) (.slice none 0 0) w1) := ⟨World.ownsRow_nil _ _ _ _, LsAt.nil _ _, (fun i hi => by cases hi), b1⟩
  clear b1
  go_wp2_with fail
  go_loopw [5, 6, 7] (fun bv wv i wr => ∃ j : Nat, j ≤ ls.length ∧ i = .int .i64 j ∧ Hid (KInv w ls j bv wv wr)) (fun _ _ i _ => ls.length - (intOf i).toNat)
  case atStart => exact ⟨0, Nat.zero_le _, rfl, I0⟩
  case round =>
    obtain ⟨j, hj, rfl, hrel⟩ := hrel
    clear I0
    by_cases hlt : j < ls.length
    · obtain ⟨ad, rfl, hbl, hcell⟩ := HX.out (by omega)
      obtain ⟨u, hcu, hsl⟩ := hcell j hlt
      have hs := hrel.out.low.size
      have kw : Only (fun i => w.heap.size ≤ i) w wr := Only.of_below hrel.out.low
      have zc : wr.cell? (ad.add j) = some u := (kw.cell (by rw [addr_block]; exact hbl) (by rw [addr_block]; omega)).trans hcu
      have xr := hsl.only kw (Nat.le_refl _) (fun i _ hi h => by omega)
      obtain ⟨Au, cu, rfl, _⟩ := id xr
      obtain ⟨n, hn⟩ : ∃ n, n = ls[j].length := ⟨_, rfl⟩
      have hok : okB ls[j] = decide (3 ≤ n ∧ n ≤ 8188) := by rw [hn]; rfl
      have hwr : wrapR ls[j] = if 8188 < n then ([], 3) else (wrapB ls[j], 0) := by rw [hn]; rfl
      rw [← hn] at zc xr
      have i0' : (0 : Int) ≤ (j : Int) := by omega
      have i1' : (j : Int) < (ls.length : Int) := by omega
      have XR := Lib.hid xr
      have HOK := Lib.hid hok
      have HWR := Lib.hid hwr
      have HNL := Lib.hid hn
      clear hcell hcu hsl kw xr hok hwr hn
      go_upto_region 10 with fail
      go_cut [49] (fun s wx => s = .bool (decide ((300 < n ∧ n < 8180) ∨ 8200 < n)) ∧ wx = wr)
      case first =>
        clear hrel
        by_cases h1 : 300 < n
        · have d1 : (300 : Int) < (n : Int) := by omega
          by_cases h2 : n < 8180
          · have d2 : (n : Int) < 8180 := by omega
            have R : Hid (decide ((300 < n ∧ n < 8180) ∨ 8200 < n) = true) := Lib.hid (decide_eq_true (by omega))
            clear h1 h2
            go_wp2_with fail
            go_meet
            exact ⟨by rw [R.out], rfl⟩
          · have d2 : ¬ (n : Int) < 8180 := by omega
            by_cases h3 : 8200 < n
            · have d3 : (8200 : Int) < (n : Int) := by omega
              have R : Hid (decide ((300 < n ∧ n < 8180) ∨ 8200 < n) = true) := Lib.hid (decide_eq_true (by omega))
              clear h1 h2 h3
              go_wp2_with fail
              go_meet
              exact ⟨by rw [R.out], rfl⟩
            · have d3 : ¬ (8200 : Int) < (n : Int) := by omega
              have R : Hid (decide ((300 < n ∧ n < 8180) ∨ 8200 < n) = false) := Lib.hid (decide_eq_false (by omega))
              clear h1 h2 h3
              go_wp2_with fail
              go_meet
              exact ⟨by rw [R.out], rfl⟩
        · have d1 : ¬ (300 : Int) < (n : Int) := by omega
          have d3 : ¬ (8200 : Int) < (n : Int) := by omega
          have R : Hid (decide ((300 < n ∧ n < 8180) ∨ 8200 < n) = false) := Lib.hid (decide_eq_false (by omega))
          clear h1
          go_wp2_with fail
          go_meet
          exact ⟨by rw [R.out], rfl⟩
      case rest =>
        obtain ⟨rfl, rfl⟩ := hcut
        by_cases hbad : (300 < n ∧ n < 8180) ∨ 8200 < n
        · have hbd : decide ((300 < n ∧ n < 8180) ∨ 8200 < n) = true := decide_eq_true hbad
          rw [hbd]
          have K := Lib.hid hrel.out.low
          clear hrel hbad
          go_wp2
          go_ret
          exact ⟨rfl, K.out⟩
        · have hbd : decide ((300 < n ∧ n < 8180) ∨ 8200 < n) = false := decide_eq_false hbad
          rw [hbd]
          have hn82 : n ≤ 8200 := by omega
          obtain ⟨r, hr⟩ : ∃ r, r = wrapR ls[j] := ⟨_, rfl⟩
          have C1 := Lib.hid (wrap_any _ _ _ _ wc XR.out hs (by rw [← HNL.out]; omega))
          rw [← hr] at C1
          have HR := Lib.hid hr
          have hbw : (ad.add j).block < w.heap.size := by rw [addr_block]; exact hbl
          have hbl' : (ad.add j).block < wc.heap.size := by omega
          clear hbad hbd hr
          go_wp2_with fail
          refine C1.out.mono ?_
          rintro e w2 ⟨x, rfl, ox, b2⟩
          have hs2 := b2.size
          have zc2 := (b2.cell hbl').trans zc
          have x2 := XR.out.only (Only.of_below b2) hs (fun i _ hi h => by omega)
          have C2 := Lib.hid (refwrap_any _ _ _ _ w2 x2 (by omega) (by rw [← HNL.out]; omega))
          rw [← HR.out] at C2
          have K2 := Lib.hid (hrel.out.below b2)
          have OX := Lib.hid ox
          have X2 := Lib.hid x2
          clear C1 ox b2 x2 hrel zc
          go_wp2_with fail
          refine C2.out.mono ?_
          rintro e w3 ⟨y, rfl, oy, b3⟩
          have hs3 := b3.size
          have zc3 := (b3.cell (by omega)).trans zc2
          have X3 := Lib.hid (X2.out.only (Only.of_below b3) (by omega) (fun i _ hi h => by omega))
          have ox3 := owns_only OX.out (Only.of_below b3) (fun i hi h => by have := (OX.out.lt i hi).2; omega)
          have r1 := run_str x r.1 _ _ w3 (owns_SlIs ox3)
          have r2 := run_str y r.1 _ _ w3 (owns_SlIs oy)
          have K3 := Lib.hid (K2.out.below b3)
          have OX3 := Lib.hid ox3
          clear C2 oy b3 ox3 OX X2 K2 zc2
          obtain ⟨rb, re⟩ := r
          simp only at r1 r2
          have hrl := road_len ls j
          by_cases hbig : 8188 < n
          · have hre : re = 3 := by
              have e := HR.out
              rw [HWR.out, if_pos hbig] at e
              injection e
            have R : Hid (KInv w ls (j + 1) u5 u6 w3) := K3.out.skip hlt (by rw [HOK.out]; exact fun h => by have := of_decide_eq_true h; omega)
            subst hre
            clear K3 OX3 X3 HR HWR HOK HNL hbig XR
            go_wp2
            go_roundw
            case rel => exact ⟨j + 1, by omega, by go_num, R⟩
            case measure => simp [intOf]; omega
          · have hre : re = 0 ∧ rb = wrapB ls[j] := by
              have e := HR.out
              rw [HWR.out, if_neg hbig] at e
              injection e with e1 e2
              exact ⟨e2, e1⟩
            obtain ⟨rfl, hrb⟩ := hre
            by_cases h3 : n < 3
            · have d3 : ¬ (3 : Int) ≤ (n : Int) := by omega
              have R : Hid (KInv w ls (j + 1) u5 u6 w3) := K3.out.skip hlt (by rw [HOK.out]; exact fun h => by have := of_decide_eq_true h; omega)
              clear K3 OX3 X3 HR HWR HOK HNL hbig XR hrb h3
              go_wp2
              go_roundw
              case rel => exact ⟨j + 1, by omega, by go_num, R⟩
              case measure => simp [intOf]; omega
            · have d3 : (3 : Int) ≤ (n : Int) := by omega
              have hk : okB ls[j] = true := by rw [HOK.out]; exact decide_eq_true (by omega)
              have hrbl : rb.length = n + 4 := by rw [hrb, wrapB_length, ← HNL.out]
              have hrt := (road_yes hlt hk).2
              have HRT : Hid (roadOf ls (j + 1) = roadOf ls j ++ rb) := by
                refine Lib.hid ?_
                rw [hrt, hrb]
              have HK := Lib.hid hk
              clear HR HWR HOK hbig XR hrb h3 hrt hk
              go_wp2_with (at_builtin; go_must (refine wpList_append_bytes _ rfl (.tmp 86) (.tmp 87) 22 rfl w.heap.size 5 i0 Try.underlying22 hi0 hz0 hz1 hz2 _ (roadOf ls j) rb rfl K3.out.own _ _ _ rfl (owns_SlIs OX3.out) (by rw [List.length_append]; omega) (by omega) ?_))
              intro bv' w4 a4 g4 f4
              have a4' : w4.ownsRow w.heap.size 5 1 bv' (roadOf ls (j + 1)).length (b8s (roadOf ls (j + 1))) := by
                rw [HRT.out, List.length_append, hrbl]
                exact a4
              obtain ⟨lw, b4⟩ := K3.out.road g4 f4
              have hs4 := b4.size
              have hown := K3.out.own
              have kg := Only.of_grown g4
              have zc4 := (kg.cell (by omega) (fun e => by have := (hown.lt _ e.symm).1; omega)).trans zc3
              have x4 := X3.out.only kg (by omega) (fun i _ hi e => by have := (hown.lt _ e.symm).1; omega)
              obtain ⟨us, q1, q2, q3⟩ := id lw
              have hul := q3.len
              have hkl := kept_len ls j
              have HST := Lib.hid (fun wv' w5 h5 g5 f5 => KInv.step (wv' := wv') (w5 := w5) hlt HK.out a4' K3.out.wlow b4 q3 q2 x4 h5 g5 f5)
              have Q1 := Lib.hid q1
              clear a4 a4' g4 f4 lw hown kg x4 q1 q2 q3 K3 OX3 X3 b4 HK HRT HNL r1 r2 zc3
              go_wp2_with (at_builtin; go_must (refine wpList_append_vals _ rfl (.tmp 89) (.tmp 94) 31 rfl 0 22 i1 _ 24 Try.underlying31 hi1 hy0 hy1 hy2 rfl _ us [.slice Au n cu] rfl (Q1.out.alloc _) _ rfl (VsIs.one _ _ _) (by simp [Value.oneCell']) (by simp; omega) (by simp [maxLen]; omega) (by omega) ?_))
              intro wv' w5 h1 h2 h3
              have R := Lib.hid (HST.out wv' w5 (by rw [List.length_append, List.length_singleton, hul]; simpa using h1) h2 (by simpa using h3))
              clear h1 h2 h3 HST Q1
              go_wp2
              go_roundw
              case rel => exact ⟨j + 1, by omega, by go_num, R⟩
              case measure => simp [intOf]; omega
    · have hje : j = ls.length := by omega
      subst hje
      have hrl := road_len ls ls.length
      have hcr := cut_road ls ls.length
      have hkl := kept_len ls ls.length
      obtain ⟨rd, hrd⟩ : ∃ rd, rd = roadOf ls ls.length := ⟨_, rfl⟩
      obtain ⟨kp, hkp⟩ : ∃ kp, kp = keptOf ls ls.length := ⟨_, rfl⟩
      have own := hrel.out.own
      have want := hrel.out.want
      rw [← hrd] at hrl hcr own
      rw [← hkp] at hcr want hkl
      have hlow := hrel.out.low
      have hs := hlow.size
      have XB := owns_SlIs own
      obtain ⟨Ab, cb, rfl, hb1, hb2, _⟩ := owns_slice own
      simp only [maxLen] at hb2
      have kA : Only (fun _ => False) wr (wr.alloc (.cells #[.slice none 0 0, .bool false] 47)) := (Only.refl _ wr).alloc _
      have S2 := StAt.new (t := 47) wr w.heap.size hs
      have XB2 := Lib.hid (XB.only kA (Nat.le_refl _) (fun _ _ _ h => h))
      have WT2 := Lib.hid ((want.mono (F := fun i => i < wr.heap.size) (fun i hi _ => hi)).only kA (fun _ _ _ h => h))
      have LW2 := Lib.hid (hlow.alloc hs (.cells #[.slice none 0 0, .bool false] 47))
      obtain ⟨w2, hw2⟩ : ∃ w2, w2 = wr.alloc (.cells #[.slice none 0 0, .bool false] 47) := ⟨_, rfl⟩
      have hs2 : w2.heap.size = wr.heap.size + 1 := by rw [hw2]; simp
      obtain ⟨gs, hgs⟩ : ∃ gs, gs = wr.heap.size := ⟨_, rfl⟩
      rw [← hw2] at S2 XB2 WT2 LW2
      rw [← hgs] at S2 XB2 WT2
      have I2 : Hid (FedInv w2 w.heap.size gs 8192 (rd.take 0) (.slice none 0 0) w2) :=
        ⟨.slice none 0 0, [], [], false, by rw [List.take_zero]; exact cut_nil _, S2, (fun i hi => by cases hi), LsAt.nil _ _, Only.refl _ _⟩
      have hgl : gs < w2.heap.size := by omega
      have hwg : w.heap.size ≤ gs := by omega
      obtain ⟨k, hk⟩ : ∃ k, k = 1 + 8 * z := ⟨_, rfl⟩
      have hkz : (1 : Int) + 8 * (z : Int) = (k : Int) := by omega
      have hk1 : 1 ≤ k ∧ k ≤ 2100 := by omega
      have HCR := Lib.hid hcr
      have HW2 := Lib.hid hw2
      have HGS := Lib.hid hgs
      clear hrel own want XB kA S2 hrd hkp hcr hlow hk hw2 hgs hs2
      go_wp2_with fail
      refine (new_any wr).mono ?_
      rintro e w2' ⟨rfl, rfl⟩
      rw [← HW2.out, ← HGS.out]
      clear HW2 HGS
      go_wp2_with fail
      go_loopw [13, 15] (fun ov at' wq => ∃ a : Nat, at' = .int .i64 a ∧ a ≤ rd.length + k ∧ Hid (FedInv w2 w.heap.size gs 8192 (rd.take a) ov wq)) (fun _ i _ => rd.length - (intOf i).toNat)
      case atStart => exact ⟨0, rfl, Nat.zero_le _, I2⟩
      case round =>
        obtain ⟨a, rfl, hak, hrel⟩ := hrel
        clear I2
        by_cases halt : a < rd.length
        · obtain ⟨e, he⟩ : ∃ e, e = min (a + k) rd.length := ⟨_, rfl⟩
          have da : (a : Int) < (rd.length : Int) := by omega
          have hwak : IntKind.i64.wrap ((a : Int) + (k : Int)) = (a : Int) + (k : Int) := IntWalk.i64_in _ (by omega)
          go_upto_if 114 with fail
          go_cut [16] (fun s wx => s = .int .i64 (e : Int) ∧ wx = wr)
          case first =>
            by_cases h1 : rd.length < a + k
            · have d1 : (rd.length : Int) < (a : Int) + (k : Int) := by omega
              have hev : Hid (e = rd.length) := Lib.hid (by omega)
              clear he hrel h1
              go_wp2_with fail
              go_meet
              exact ⟨by rw [hev.out], rfl⟩
            · have d1 : ¬ (rd.length : Int) < (a : Int) + (k : Int) := by omega
              have hev : Hid ((e : Int) = (a : Int) + (k : Int)) := Lib.hid (by omega)
              clear he hrel h1
              go_wp2_with fail
              go_meet
              exact ⟨by rw [hev.out], rfl⟩
          case rest =>
            obtain ⟨rfl, rfl⟩ := hcut
            obtain ⟨tv, xs, held, dead, hc, hS, ht, hL, hkk⟩ := hrel.out
            have hsr := hkk.size
            have hlen := cut_len 8192 _ (rd.take a) (Nat.le_refl _)
            rw [hc, List.length_take] at hlen
            simp only at hlen
            have Xr := XB2.out.only hkk (by omega) (fun i _ hi h => by omega)
            have hnc : ¬ cb = a := by omega
            have Xp := sl_piece (i := a) (j := e) (D := Ab.map (·.add a)) Xr (by omega) (by omega) (by rw [if_neg hnc])
            obtain ⟨b, hb⟩ : ∃ b, b = (rd.take e).drop a := ⟨_, rfl⟩
            rw [← hb] at Xp
            have hbl : b.length = e - a := by rw [hb, List.length_drop, List.length_take]; omega
            have hT : rd.take (a + k) = rd.take a ++ b := by
              have e1 : rd.take (a + k) = rd.take e := by
                by_cases h : a + k ≤ rd.length
                · rw [show e = a + k from by omega]
                · rw [show e = rd.length from by omega, List.take_of_length_le (by omega), List.take_of_length_le (Nat.le_refl _)]
              have e2 : rd.take a = (rd.take e).take a := by rw [List.take_take, Nat.min_eq_left (by omega)]
              rw [e1, hb, e2, List.take_append_drop]
            have CF := Lib.hid (feed_any w.heap.size gs tv _ held b dead 8192 _ _ wc hS Xp (by omega) (by omega))
            have hfl := feedS_len 8192 held b dead
            have HST := Lib.hid (fun v w4 (hF : FeedStep 47 wc w.heap.size gs tv (feedS 8192 held dead b) (.returned v) w4) => FedInv.step (v := v) (w2 := w4) (b := b) hc ht hL hkk hgl hF)
            rw [← hT] at HST
            have hxl : xs.length ≤ 1000000 := by omega
            obtain ⟨r, hr⟩ : ∃ r, r = feedS 8192 held dead b := ⟨_, rfl⟩
            rw [← hr] at CF HST hfl
            have hrl2 : r.1.length ≤ 1000000 := by omega
            have j1 : (a : Int) ≤ (e : Int) := by omega
            have j2 : e ≤ cb := by omega
            have j0 : (0 : Int) ≤ (a : Int) := by omega
            clear hc hS ht hL hkk Xr Xp hT hrel hlen hfl hr hb he hbl
            go_wp2_with fail
            refine CF.out.mono ?_
            intro e' w4 hF
            obtain ⟨v, _, rfl, _⟩ := id hF
            obtain ⟨us, news, q1, q2, q3, q4, q5, q6⟩ := HST.out v w4 hF
            have Q1 := Lib.hid q1
            have Q2 := Lib.hid q2
            have Q3 := Lib.hid q3
            have Q6 := Lib.hid q6
            clear q1 q2 q3 q6 hF CF HST
            go_wp2_with (at_builtin; go_must (refine wpList_append_vals _ rfl (.tmp 117) (.tmp 123) 31 rfl 0 22 i1 _ 24 Try.underlying31 hi1 hy0 hy1 hy2 rfl _ us news rfl Q1.out _ rfl Q2.out Q3.out (by rw [List.length_append]; omega) (by rw [List.length_append]; simp only [maxLen]; omega) (by omega) ?_))
            intro ov' w5 h1 h2 h3
            have R := Lib.hid (Q6.out ov' w5 (by rw [List.length_append, q4, q5]; simpa using h1) h2 h3)
            clear h1 h2 h3 Q1 Q2 Q3 Q6
            go_wp2
            go_roundw
            case rel => exact ⟨a + k, by go_num, by omega, R⟩
            case measure => simp [intOf]; omega
        · obtain ⟨tv, xs, held, dead, hc, hS, ht, hL, hkk⟩ := hrel.out
          rw [List.take_of_length_le (by omega), HCR.out] at hc
          injection hc with hc1 hc2
          injection hc2 with hc2 hc3
          subst hc1 hc2 hc3
          have da : ¬ (a : Int) < (rd.length : Int) := by omega
          have wA := WT2.out.only hkk (fun i _ hE e => by omega)
          have kq : ∀ q, Only (fun _ => False) wr (wr.drewN q) := fun q => (Only.refl _ wr).drewN q
          have CT := Lib.hid (texts_any _ _ _ _ kp kp wr hL wA (by omega))
          rw [decide_eq_true (rfl : kp = kp)] at CT
          have D1 : Hid (∀ q, Calls Try.prog 13 #[.pointer (some ⟨gs, 0, none⟩)] (wr.drewN q) fun e w' => e = .returned (.bool false) ∧ wr.drewN q = w') := fun q => dead_any _ _ _ _ _ _ (hS.only (kq q) (fun _ _ h => h))
          have H1 : Hid (∀ q, Calls Try.prog 14 #[.pointer (some ⟨gs, 0, none⟩)] (wr.drewN q) fun e w' => e = .returned (.int .i64 0) ∧ wr.drewN q = w') := fun q => held_any _ _ _ _ _ _ (hS.only (kq q) (fun _ _ h => h))
          have BB : Hid (∀ q, Below w.heap.size w (wr.drewN q)) := fun q => LW2.out.trans ((hkk.trans (kq q) (fun _ _ h => h.elim)).below (by omega) (fun i hi h => by omega))
          clear hS ht hL hkk wA kq hrel WT2 LW2 XB2 HCR
          go_wp2_with fail
          refine CT.out.mono ?_
          rintro e w6 ⟨rfl, q, rfl⟩
          clear CT
          go_wp2_with (first | (go_at_call 13; refine (D1.out _).mono ?_; rintro e w' ⟨rfl, rfl⟩) | (go_at_call 14; refine (H1.out _).mono ?_; rintro e w' ⟨rfl, rfl⟩) | fail)
          go_ret
          exact ⟨rfl, BB.out _⟩

set_option maxHeartbeats 400000 in
theorem back6_big (A : Option Addr) (n c : Nat) (v : Value) (w : World) (h : 20 < n) :
    Calls Try.prog 4 #[.slice A n c, v] w fun e w' => e = .returned (.bool true) ∧ Below w.heap.size w w' := by
  have d1 : (20 : Int) < (n : Int) := by omega
  go_enter Try.func4, Try.ntmps4
  go_wp2_with fail
  refine (known6 w).mono ?_
  rintro e w1 ⟨rfl, k1⟩
  have K1 := Lib.hid k1
  clear k1 h
  go_wp2
  go_ret
  exact ⟨rfl, K1.out⟩
end Go.Proofs.Ytfldgoggaadohaa
