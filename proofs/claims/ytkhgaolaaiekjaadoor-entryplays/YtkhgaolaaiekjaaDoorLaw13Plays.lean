/-
  EntryPlays: any entries put and cut, one after the other.
-/
import Derived.Test.YtkhgaolaaiekjaaDoorEntW
import Derived.Deep.CutBlock
namespace Go.Proofs.YtkhgaolaaiekjaaDoor
open Go.RowKit Go.Lib
set_option maxRecDepth 100000

theorem Tryd.infoEnt : (Tryd.prog.info? 38).map (fun i => (i.zero, i.size, i.bytes)) = some (some (.agg #[.string ⟨#[]⟩, .int .u32 0]), 2, 24) := by kernel_rfl
theorem drew_still {a b : World} (h : ∃ q, b = a.drewN q) : Still a b := by
  obtain ⟨q, e⟩ := h
  rw [e]
  exact (Still.refl a).drewN q
/-- Between two acts. -/
structure PL (w : World) (vr vw : Value) (l : List En) (k : Nat) (wr : World) : Prop where
  row : EsIs wr (fun i => w.heap.size ≤ i) vr l
  want : EsIs wr (fun i => w.heap.size ≤ i) vw l
  own : wr.ownsRow w.heap.size 38 2 vw l.length (enC l)
  ok : Row13 l k
  still : Still w wr

set_option maxHeartbeats 8000000 in
theorem plays_walk13 (HP : PutSpec) (HC : CutSpec) (HF : FindSpec) (HK : ∀ w, Tabs w → Calls Tryd.prog 8 #[] w fun e w' => e = .returned (.bool true) ∧ Still w w') (A : Option Addr) (c : Nat) (xs : List A13) (m : List UInt8) (w : World) (hT : Tabs w) (hA : ActsAt13 w A xs) (hl : xs.length ≤ 60) (hm : m.length ≤ 100) :
    Calls Tryd.prog 6 #[.slice A xs.length c, .string (strOf m)] w fun e w' => e = .returned (.bool true) ∧ Still w w' := by
  obtain ⟨j0, hj0, hy0, hy1, hy2⟩ := info_parts Tryd.infoEnt
  have K0 := Lib.hid (HK w hT)
  have d1 : decide (60 < (xs.length : Int)) = false := decide_eq_false (by omega)
  have szm : (strOf m).size = m.length := rfl
  have d2 : decide (100 < (m.length : Int)) = false := decide_eq_false (by omega)
  have HA : Hid (∀ wr, Still w wr → ∀ j (hj : j < xs.length), ∃ ad, A = some ad ∧ wr.cell? (ad.add (j * 3)) = some (.int .i64 xs[j].op) ∧ wr.cell? ⟨(ad.add (j * 3)).block, (ad.add (j * 3)).off + 1, none⟩ = some (.string (strOf xs[j].e.n)) ∧ wr.cell? ⟨(ad.add (j * 3)).block, (ad.add (j * 3)).off + 2, none⟩ = some (.int .u32 (xs[j].e.i : Int)) ∧ xs[j].e.i < 4294967296) := Lib.hid (fun wr k j hj => by
    obtain ⟨ad, e, hb, h⟩ := hA (by omega)
    obtain ⟨c0, c1, c2, c3⟩ := h j hj
    exact ⟨ad, e, (Only.cell k (by rw [addr_block]; exact hb) (fun h => h)).trans c0, (Only.cell k (by simp only [addr_block]; exact hb) (fun h => h)).trans c1, (Only.cell k (by simp only [addr_block]; exact hb) (fun h => h)).trans c2, c3⟩)
  clear hA
  go_enter Tryd.func6, Tryd.ntmps6
  go_wp2_with fail
  refine K0.out.mono ?_
  rintro e w1 ⟨rfl, k1⟩
  have H0 : Hid (PL w (.slice none 0 0) (.slice none 0 0) (playL (xs.take 0)) 0 w1) := Lib.hid ⟨es_nil _ _, es_nil _ _, World.ownsRow_nil _ _ _ _, row_nil, k1⟩
  clear k1 K0
  go_wp2_with fail
  go_loopw [5, 6, 7, 8, 9, 10, 11, 12, 13, 14, 15, 16] (fun vr vw i _ _ _ _ _ _ _ _ _ wr => ∃ j : Nat, j ≤ xs.length ∧ i = .int .i64 j ∧ Hid (PL w vr vw (playL (xs.take j)) j wr)) (fun _ _ i _ _ _ _ _ _ _ _ _ _ => xs.length - (intOf i).toNat)
  case atStart => exact ⟨0, Nat.zero_le _, rfl, H0⟩
  case round =>
    obtain ⟨j, hj, rfl, hrel⟩ := hrel
    clear H0
    by_cases hlt : j < xs.length
    · obtain ⟨ad, rfl, z0, z1, z2, hi32⟩ := HA.out _ hrel.out.still j hlt
      obtain ⟨l, hL⟩ : ∃ l, l = playL (xs.take j) := ⟨_, rfl⟩
      obtain ⟨x, hx⟩ : ∃ x, x = xs[j] := ⟨_, rfl⟩
      have TK : Hid (playL (xs.take (j + 1)) = stepL l x) := Lib.hid (by rw [playL_take xs j hlt, ← hL, ← hx])
      rw [← hL] at hrel
      rw [← hx] at z0 z1 z2 hi32
      clear hL hx HA
      obtain ⟨vr, vw, vo, hok, hst⟩ := hrel.out
      have i0 : (0 : Int) ≤ (j : Int) := by omega
      have i1 : (j : Int) < (xs.length : Int) := by omega
      have sz : (strOf x.e.n).size = x.e.n.length := rfl
      have hlen := hok.len
      by_cases h100 : x.e.n.length ≤ 100
      · have d3 : decide (100 < (x.e.n.length : Int)) = false := decide_eq_false (by omega)
        obtain ⟨V0, hV0⟩ : ∃ V0, V0 = wr := ⟨_, rfl⟩
        subst hV0
        obtain ⟨Wb, hWb⟩ : ∃ Wb, Wb = V0.alloc (.cells #[.int .i64 x.op, .string (strOf x.e.n), .int .u32 (x.e.i : Int)] 40) := ⟨_, rfl⟩
        have HWb := Lib.hid hWb.symm
        have sWb : Wb.heap.size = V0.heap.size + 1 := by rw [hWb]; simp
        have KB : Hid (Still V0 Wb) := Lib.hid (by rw [hWb]; exact (Still.refl _).alloc _)
        have BX : Hid (Has Wb V0.heap.size 40 #[.int .i64 x.op, .string (strOf x.e.n), .int .u32 (x.e.i : Int)]) := Lib.hid (by rw [hWb]; exact Has.new _ _ _)
        have HR := Lib.hid vr
        have HW := Lib.hid vw
        have HO := Lib.hid vo
        have LN := Lib.hid (lit_none Wb 38 2)
        have RR : Hid (EsIs (Wb.alloc (.cells #[] 38)) (fun i => w.heap.size ≤ i) _ l) := Lib.hid (EsIs.only vr (KB.out.alloc _) (fun _ _ _ h => h))
        rw [sWb] at LN
        rw [hWb] at LN RR
        obtain ⟨A5, c5, e5⟩ := vr.form
        obtain ⟨A6, c6, e6⟩ := vw.form
        subst e5 e6
        clear vr vw vo hWb hrel
        go_wp2_with (at_builtin; go_must (refine wpList_append_rows _ rfl (.tmp 45) (.tmp 46) 22 rfl _ 38 j0 _ 2 24 Tryd.underlying22 hj0 hy0 hy1 hy2 rfl (by omega) _ 0 [] rfl LN.out _ l.length _ (enC l) rfl RR.out.1 (enC_length l) (enC_one l) (by simp only [maxLen]; omega) (by omega) (by simp) ?_))
        intro v9 w9 a9 g9 _
        have S9 : Hid (Still Wb w9) := Lib.hid (by
          have b := ((Still.refl Wb).alloc (.cells #[] 38)).below
          rw [HWb.out.symm] at b ⊢
          refine Still.of_below (b.grown g9 (by simp) (fun i hi => ?_))
          simp [Value.ownBlock] at hi
          simp
          omega)
        have W9 : EsIs w9 (fun i => w.heap.size ≤ i) v9 l := by
          have a9' : w9.ownsRow (V0.heap.size + 1) 38 2 v9 l.length (enC l) := by simpa using a9
          refine EsIs.mono (EsIs.of_own a9') (fun i _ hi => ?_)
          have := (a9'.lt i hi).1
          have := hst.size
          omega
        have R9 := Lib.hid (EsIs.only HR.out (KB.out.trans S9.out) (fun _ _ _ h => h))
        have T9 := Lib.hid (EsIs.only HW.out (KB.out.trans S9.out) (fun _ _ _ h => h))
        have O9 := Lib.hid (owns_only HO.out (KB.out.trans S9.out) (fun _ _ h => h))
        have B9 := Lib.hid (S9.out.has BX.out)
        have K9 := Lib.hid ((hst.trans KB.out).trans S9.out)
        have U9 := Lib.hid W9
        obtain ⟨A9, c9, e9⟩ := W9.form
        subst e9
        clear a9 g9 W9 S9 RR LN BX KB HWb sWb
        go_upto_block 2 with fail
        have HL9 := Lib.hid K9.out.size
        go_cut [10] from 30 to 173 (fun s10 wx => s10 = .int .i64 (posE x.e.n l : Int) ∧ Hid (∃ q, wx = w9.drewN q))
        case first =>
          go_wp2_with fail
          go_loopw [10] (fun i wr => ∃ k q : Nat, k ≤ posE x.e.n l ∧ i = .int .i64 k ∧ wr = w9.drewN q) (fun i _ => posE x.e.n l - (intOf i).toNat)
          case atStart => exact ⟨0, 0, Nat.zero_le _, rfl, rfl⟩
          case round =>
            obtain ⟨k, q, hk, rfl, rfl⟩ := hrel
            have hpl := posE_le x.e.n l
            obtain ⟨b0, b1, b2⟩ := B9.out.cells3
            by_cases hk2 : k < posE x.e.n l
            · have hkl : k < l.length := by omega
              obtain ⟨a1, c1, e1, y0, y1⟩ := EsIs.at T9.out hkl
              injection e1 with e1 _ e2
              subst e1 e2
              have i2 : (0 : Int) ≤ (k : Int) := by omega
              have i3 : (k : Int) < (l.length : Int) := by omega
              have d4 : decide (k < l.length) = true := decide_eq_true hkl
              have hB : Op.bytesLess (strOf l[k].n).toList (strOf x.e.n).toList = true := by rw [strOf_list, strOf_list]; exact pos_ahead hk2 hkl
              obtain ⟨y, hy⟩ : ∃ y, y = l[k] := ⟨_, rfl⟩
              rw [← hy] at y0 y1 hB
              clear hy
              go_wp2_with fail
              go_quiet (fail)
              go_wp2
              go_roundw
              case rel => exact ⟨k + 1, _, by omega, by go_num, rfl⟩
              case measure => simp [intOf]; omega
            · have hke : k = posE x.e.n l := by omega
              by_cases hkl : k < l.length
              · obtain ⟨a1, c1, e1, y0, y1⟩ := EsIs.at T9.out hkl
                injection e1 with e1 _ e2
                subst e1 e2
                have i2 : (0 : Int) ≤ (k : Int) := by omega
                have i3 : (k : Int) < (l.length : Int) := by omega
                have d4 : decide (k < l.length) = true := decide_eq_true hkl
                have hB : Op.bytesLess (strOf l[k].n).toList (strOf x.e.n).toList = false := by
                  rw [strOf_list, strOf_list]
                  subst hke
                  exact Bool.eq_false_iff.2 (pos_stop hkl)
                obtain ⟨y, hy⟩ : ∃ y, y = l[k] := ⟨_, rfl⟩
                rw [← hy] at y0 y1 hB
                have HE := Lib.hid hke
                clear hy hke
                go_wp2_with fail
                go_quiet (fail)
                go_wp2_with fail
                go_meet
                case rel => exact ⟨by rw [HE.out], Lib.hid ⟨_, World.drewN_drewN _ _ _⟩⟩
              · have d4 : decide (k < l.length) = false := decide_eq_false hkl
                have HE := Lib.hid hke
                clear hke
                go_wp2_with fail
                go_quiet (fail)
                go_wp2_with fail
                go_meet
                case rel => exact ⟨by rw [HE.out], Lib.hid ⟨_, World.drewN_drewN _ _ _⟩⟩
        case rest =>
          obtain ⟨rfl, hq⟩ := hcut
          have SC : Hid (Still w9 wc) := Lib.hid (by
            obtain ⟨q, e⟩ := hq.out
            rw [e]
            exact (Still.refl w9).drewN q)
          have RC := Lib.hid (EsIs.only R9.out SC.out (fun _ _ _ h => h))
          have TC := Lib.hid (EsIs.only T9.out SC.out (fun _ _ _ h => h))
          have UC := Lib.hid (EsIs.only U9.out SC.out (fun _ _ _ h => h))
          have OC := Lib.hid (owns_only O9.out SC.out (fun _ _ h => h))
          have BC := Lib.hid (SC.out.has B9.out)
          have KC := Lib.hid (K9.out.trans SC.out)
          clear hq SC R9 T9 U9 B9 K9 O9 HL9 HR HW HO
          have TH := Lib.hid (there_pos (n := x.e.n) hok.good.2)
          have HPL := Lib.hid (posE_le x.e.n l)
          obtain ⟨b0, b1, b2⟩ := BC.out.cells3
          go_upto_region 17 with fail
          go_cut [11] from 30 to 173 (fun s11 wx => s11 = .bool (decide (∃ y ∈ l, y.n = x.e.n)) ∧ Hid (∃ q, wx = wc.drewN q))
          case first =>
            generalize hpe : posE x.e.n l = k at *
            by_cases hkl : k < l.length
            · obtain ⟨a1, c1, e1, y0, y1⟩ := EsIs.at TC.out hkl
              injection e1 with e1 _ e2
              subst e1 e2
              have i2 : (0 : Int) ≤ (k : Int) := by omega
              have i3 : (k : Int) < (l.length : Int) := by omega
              have d4 : decide (k < l.length) = true := decide_eq_true hkl
              by_cases hen : l[k].n = x.e.n
              · have HD : Hid (decide (∃ y ∈ l, y.n = x.e.n) = true) := Lib.hid (decide_eq_true (TH.out.2 ⟨hkl, hen⟩))
                rw [hen] at y0
                clear hen hpe
                go_quiet (fail)
                go_wp2_with fail
                go_meet
                case rel => exact ⟨by rw [HD.out], Lib.hid ⟨_, rfl⟩⟩
              · have HD : Hid (decide (∃ y ∈ l, y.n = x.e.n) = false) := Lib.hid (decide_eq_false (fun h => by
                  obtain ⟨_, e⟩ := TH.out.1 h
                  exact hen e))
                have hB : ((strOf l[k].n).toList == (strOf x.e.n).toList) = false := by
                  rw [strOf_list, strOf_list]
                  simpa using hen
                obtain ⟨y, hy⟩ : ∃ y, y = l[k] := ⟨_, rfl⟩
                rw [← hy] at y0 y1 hB
                clear hy hen hpe
                go_quiet (fail)
                go_wp2_with fail
                go_meet
                case rel => exact ⟨by rw [HD.out], Lib.hid ⟨_, rfl⟩⟩
            · have d4 : decide (k < l.length) = false := decide_eq_false hkl
              have HD : Hid (decide (∃ y ∈ l, y.n = x.e.n) = false) := Lib.hid (decide_eq_false (fun h => by
                obtain ⟨h2, _⟩ := TH.out.1 h
                exact hkl h2))
              clear hpe
              go_quiet (fail)
              go_wp2_with fail
              go_meet
              case rel => exact ⟨by rw [HD.out], Lib.hid ⟨_, rfl⟩⟩
          case rest =>
            -- ways
            obtain ⟨rfl, hq⟩ := hcut
            have SD := Lib.hid (drew_still hq.out)
            have RD := Lib.hid (EsIs.only RC.out SD.out (fun _ _ _ h => h))
            have TD := Lib.hid (EsIs.only TC.out SD.out (fun _ _ _ h => h))
            have UD := Lib.hid (EsIs.only UC.out SD.out (fun _ _ _ h => h))
            have OD := Lib.hid (owns_only OC.out SD.out (fun _ _ h => h))
            have BD := Lib.hid (SD.out.has BC.out)
            have KD := Lib.hid (KC.out.trans SD.out)
            clear hq SD RC TC UC BC KC OC b0 b1 b2
            obtain ⟨b0, b1, b2⟩ := BD.out.cells3
            by_cases ht : ∃ y ∈ l, y.n = x.e.n
            · rw [decide_eq_true ht]
              by_cases hop : x.op = 1
              · by_cases hn : nameOf x.e.n = 0
                · by_cases hi : x.e.i = 0
                  · skip
                    as_aux_lemma =>
                      have EP : putEr l x.e = 1 := by
                        unfold putEr
                        have hb : bad1 x.e = 1 := by unfold bad1; rw [if_neg (by simp [hn]), if_pos hi]
                        rw [if_pos (by rw [hb]; decide), hb]
                      have ST : Hid (stepL l x = l) := Lib.hid (by unfold stepL; rw [if_pos hop, if_neg (by rw [EP]; decide)])
                      rw [hop] at b0
                      have CP := Lib.hid (HP _ _ l x.e wc (hT.still KD.out) hok.good hok.u32 (by omega) (by omega) hi32 RD.out)
                      have CN := Lib.hid (fun W => refname_any x.e.n W (by omega))
                      rw [EP] at CP
                      rw [hn] at CN
                      generalize hxi : (x.e.i : Int) = I at *
                      have hI : I = 0 := by rw [← hxi, hi]; rfl
                      subst hI
                      clear EP hn hop hxi hi
                      go_wp2_with fail
                      refine CP.out.mono ?_
                      rintro e w20 ⟨A20, c20, rfl, e20, k20⟩
                      have K20 := Lib.hid (KD.out.trans k20)
                      have R20 := Lib.hid (EsIs.only RD.out k20 (fun _ _ _ h => h))
                      have T20 := Lib.hid (EsIs.only TD.out k20 (fun _ _ _ h => h))
                      have U20 := Lib.hid (EsIs.only UD.out k20 (fun _ _ _ h => h))
                      have O20 := Lib.hid (owns_only OD.out k20 (fun _ _ h => h))
                      have B20 := Lib.hid (k20.has BD.out)
                      have E20 := Lib.hid (EsIs.mono (F := fun i => w.heap.size ≤ i) e20 (fun i _ hi => Nat.le_trans KD.out.size hi))
                      clear b0 b1 b2 k20 e20 RD TD UD BD KD OD CP
                      obtain ⟨b0, b1, b2⟩ := B20.out.cells3
                      go_wp2_with fail
                      refine (CN.out _).mono ?_
                      rintro e w' ⟨rfl, rfl⟩
                      clear CN
                      have CS1 := Lib.hid (same13_any _ _ _ _ l l w20 (by omega) R20.out U20.out)
                      rw [decide_eq_true rfl] at CS1
                      go_wp2_with fail
                      refine CS1.out.mono ?_
                      rintro e w25 ⟨rfl, hq25⟩
                      have S25 := Lib.hid (drew_still hq25)
                      clear hq25 CS1
                      have R25 := Lib.hid (EsIs.only R20.out S25.out (fun _ _ _ h => h))
                      have T25 := Lib.hid (EsIs.only T20.out S25.out (fun _ _ _ h => h))
                      have O25 := Lib.hid (owns_only O20.out S25.out (fun _ _ h => h))
                      have CS2 := Lib.hid (same13_any _ _ _ _ l l w25 (by omega) R25.out T25.out)
                      rw [decide_eq_true rfl] at CS2
                      have K25 := Lib.hid (K20.out.trans S25.out)
                      clear b0 b1 b2 R20 T20 U20 B20 K20 O20 S25
                      go_wp2_with fail
                      refine CS2.out.mono ?_
                      rintro e w36 ⟨rfl, hq36⟩
                      have S36 := Lib.hid (drew_still hq36)
                      have R : Hid (PL w _ _ (playL (xs.take (j + 1))) (j + 1) w36) := Lib.hid (by
                        rw [TK.out, ST.out]
                        exact ⟨EsIs.only R25.out S36.out (fun _ _ _ h => h), EsIs.only T25.out S36.out (fun _ _ _ h => h), owns_only O25.out S36.out (fun _ _ h => h), ⟨hok.good, hok.u32, by omega⟩, K25.out.trans S36.out⟩)
                      clear hq36 CS2 R25 T25 O25 S36 K25
                      go_wp2
                      go_roundw
                      case rel => exact ⟨j + 1, by omega, by go_num, R⟩
                      case measure => simp [intOf]; omega
                  · skip
                    as_aux_lemma =>
                      have EP : putEr l x.e = 7 := by
                        unfold putEr
                        rw [if_neg (by rw [bad1_zero.2 ⟨hn, hi⟩]; simp), if_pos ht]
                      have ST : Hid (stepL l x = l) := Lib.hid (by unfold stepL; rw [if_pos hop, if_neg (by rw [EP]; decide)])
                      rw [hop] at b0
                      have CP := Lib.hid (HP _ _ l x.e wc (hT.still KD.out) hok.good hok.u32 (by omega) (by omega) hi32 RD.out)
                      have CN := Lib.hid (fun W => refname_any x.e.n W (by omega))
                      rw [EP] at CP
                      rw [hn] at CN
                      have n1 : ((x.e.i : Int) == 0) = false := by simpa using hi
                      clear EP hn hop
                      go_wp2_with fail
                      refine CP.out.mono ?_
                      rintro e w20 ⟨A20, c20, rfl, e20, k20⟩
                      have K20 := Lib.hid (KD.out.trans k20)
                      have R20 := Lib.hid (EsIs.only RD.out k20 (fun _ _ _ h => h))
                      have T20 := Lib.hid (EsIs.only TD.out k20 (fun _ _ _ h => h))
                      have U20 := Lib.hid (EsIs.only UD.out k20 (fun _ _ _ h => h))
                      have O20 := Lib.hid (owns_only OD.out k20 (fun _ _ h => h))
                      have B20 := Lib.hid (k20.has BD.out)
                      have E20 := Lib.hid (EsIs.mono (F := fun i => w.heap.size ≤ i) e20 (fun i _ hi => Nat.le_trans KD.out.size hi))
                      clear b0 b1 b2 k20 e20 RD TD UD BD KD OD CP
                      obtain ⟨b0, b1, b2⟩ := B20.out.cells3
                      go_wp2_with fail
                      refine (CN.out _).mono ?_
                      rintro e w' ⟨rfl, rfl⟩
                      clear CN
                      have CS1 := Lib.hid (same13_any _ _ _ _ l l w20 (by omega) R20.out U20.out)
                      rw [decide_eq_true rfl] at CS1
                      go_wp2_with fail
                      refine CS1.out.mono ?_
                      rintro e w25 ⟨rfl, hq25⟩
                      have S25 := Lib.hid (drew_still hq25)
                      clear hq25 CS1
                      have R25 := Lib.hid (EsIs.only R20.out S25.out (fun _ _ _ h => h))
                      have T25 := Lib.hid (EsIs.only T20.out S25.out (fun _ _ _ h => h))
                      have O25 := Lib.hid (owns_only O20.out S25.out (fun _ _ h => h))
                      have CS2 := Lib.hid (same13_any _ _ _ _ l l w25 (by omega) R25.out T25.out)
                      rw [decide_eq_true rfl] at CS2
                      have K25 := Lib.hid (K20.out.trans S25.out)
                      clear b0 b1 b2 R20 T20 U20 B20 K20 O20 S25
                      go_wp2_with fail
                      refine CS2.out.mono ?_
                      rintro e w36 ⟨rfl, hq36⟩
                      have S36 := Lib.hid (drew_still hq36)
                      have R : Hid (PL w _ _ (playL (xs.take (j + 1))) (j + 1) w36) := Lib.hid (by
                        rw [TK.out, ST.out]
                        exact ⟨EsIs.only R25.out S36.out (fun _ _ _ h => h), EsIs.only T25.out S36.out (fun _ _ _ h => h), owns_only O25.out S36.out (fun _ _ h => h), ⟨hok.good, hok.u32, by omega⟩, K25.out.trans S36.out⟩)
                      clear hq36 CS2 R25 T25 O25 S36 K25
                      go_wp2
                      go_roundw
                      case rel => exact ⟨j + 1, by omega, by go_num, R⟩
                      case measure => simp [intOf]; omega
                · skip
                  as_aux_lemma =>
                    have EP : putEr l x.e = nameOf x.e.n := by
                      unfold putEr
                      have hb : bad1 x.e = nameOf x.e.n := if_pos hn
                      rw [if_pos (by rw [hb]; exact hn), hb]
                    have ST : Hid (stepL l x = l) := Lib.hid (by unfold stepL; rw [if_pos hop, if_neg (by rw [EP]; exact hn)])
                    rw [hop] at b0
                    have CP := Lib.hid (HP _ _ l x.e wc (hT.still KD.out) hok.good hok.u32 (by omega) (by omega) hi32 RD.out)
                    have CN := Lib.hid (fun W => refname_any x.e.n W (by omega))
                    rw [EP] at CP
                    have n1 : (nameOf x.e.n == 0) = false := by simpa using hn
                    generalize nameOf x.e.n = N at *
                    clear EP hn hop
                    go_wp2_with fail
                    refine CP.out.mono ?_
                    rintro e w20 ⟨A20, c20, rfl, e20, k20⟩
                    have K20 := Lib.hid (KD.out.trans k20)
                    have R20 := Lib.hid (EsIs.only RD.out k20 (fun _ _ _ h => h))
                    have T20 := Lib.hid (EsIs.only TD.out k20 (fun _ _ _ h => h))
                    have U20 := Lib.hid (EsIs.only UD.out k20 (fun _ _ _ h => h))
                    have O20 := Lib.hid (owns_only OD.out k20 (fun _ _ h => h))
                    have B20 := Lib.hid (k20.has BD.out)
                    have E20 := Lib.hid (EsIs.mono (F := fun i => w.heap.size ≤ i) e20 (fun i _ hi => Nat.le_trans KD.out.size hi))
                    clear b0 b1 b2 k20 e20 RD TD UD BD KD OD CP
                    obtain ⟨b0, b1, b2⟩ := B20.out.cells3
                    go_wp2_with fail
                    refine (CN.out _).mono ?_
                    rintro e w' ⟨rfl, rfl⟩
                    clear CN
                    have CS1 := Lib.hid (same13_any _ _ _ _ l l w20 (by omega) R20.out U20.out)
                    rw [decide_eq_true rfl] at CS1
                    go_wp2_with fail
                    refine CS1.out.mono ?_
                    rintro e w25 ⟨rfl, hq25⟩
                    have S25 := Lib.hid (drew_still hq25)
                    clear hq25 CS1
                    have R25 := Lib.hid (EsIs.only R20.out S25.out (fun _ _ _ h => h))
                    have T25 := Lib.hid (EsIs.only T20.out S25.out (fun _ _ _ h => h))
                    have O25 := Lib.hid (owns_only O20.out S25.out (fun _ _ h => h))
                    have CS2 := Lib.hid (same13_any _ _ _ _ l l w25 (by omega) R25.out T25.out)
                    rw [decide_eq_true rfl] at CS2
                    have K25 := Lib.hid (K20.out.trans S25.out)
                    clear b0 b1 b2 R20 T20 U20 B20 K20 O20 S25
                    go_wp2_with fail
                    refine CS2.out.mono ?_
                    rintro e w36 ⟨rfl, hq36⟩
                    have S36 := Lib.hid (drew_still hq36)
                    have R : Hid (PL w _ _ (playL (xs.take (j + 1))) (j + 1) w36) := Lib.hid (by
                      rw [TK.out, ST.out]
                      exact ⟨EsIs.only R25.out S36.out (fun _ _ _ h => h), EsIs.only T25.out S36.out (fun _ _ _ h => h), owns_only O25.out S36.out (fun _ _ h => h), ⟨hok.good, hok.u32, by omega⟩, K25.out.trans S36.out⟩)
                    clear hq36 CS2 R25 T25 O25 S36 K25
                    go_wp2
                    go_roundw
                    case rel => exact ⟨j + 1, by omega, by go_num, R⟩
                    case measure => simp [intOf]; omega
              · skip
                as_aux_lemma =>
                  have EP : cutEr l x.e.n = 0 := if_pos ht
                  have EL : cutL l x.e.n = cutE l x.e.n := if_pos ht
                  have ST : Hid (stepL l x = cutE l x.e.n) := Lib.hid (by unfold stepL; rw [if_neg hop, if_pos ht])
                  have CP := Lib.hid (HC _ _ l x.e.n wc (hT.still KD.out) hok.good hok.u32 (by omega) (by omega) RD.out)
                  rw [EP] at CP
                  rw [EL] at CP
                  have n1 : (x.op == 1) = false := by simpa using hop
                  clear EP EL
                  go_wp2_with fail
                  refine CP.out.mono ?_
                  rintro e w20 ⟨A20, c20, rfl, e20, k20⟩
                  have K20 := Lib.hid (KD.out.trans k20)
                  have R20 := Lib.hid (EsIs.only RD.out k20 (fun _ _ _ h => h))
                  have T20 := Lib.hid (EsIs.only TD.out k20 (fun _ _ _ h => h))
                  have U20 := Lib.hid (EsIs.only UD.out k20 (fun _ _ _ h => h))
                  have O20 := Lib.hid (owns_only OD.out k20 (fun _ _ h => h))
                  have B20 := Lib.hid (k20.has BD.out)
                  have E20 := Lib.hid (EsIs.mono (F := fun i => w.heap.size ≤ i) e20 (fun i _ hi => Nat.le_trans KD.out.size hi))
                  clear b0 b1 b2 k20 e20 RD TD UD BD KD OD CP
                  obtain ⟨b0, b1, b2⟩ := B20.out.cells3
                  have CS1 := Lib.hid (same13_any _ _ _ _ l l w20 (by omega) R20.out U20.out)
                  rw [decide_eq_true rfl] at CS1
                  go_wp2_with fail
                  refine CS1.out.mono ?_
                  rintro e w25 ⟨rfl, hq25⟩
                  have S25 := Lib.hid (drew_still hq25)
                  clear hq25 CS1
                  have E25 := Lib.hid (EsIs.only E20.out S25.out (fun _ _ _ h => h))
                  have T25 := Lib.hid (EsIs.only T20.out S25.out (fun _ _ _ h => h))
                  have K25 := Lib.hid (K20.out.trans S25.out)
                  have B25 := Lib.hid (S25.out.has B20.out)
                  have H13 : Hid (Row13 (stepL l x) (j + 1)) := Lib.hid (hok.step x hi32)
                  rw [ST.out] at H13
                  clear b0 b1 b2 R20 T20 U20 E20 O20 K20 B20 S25
                  obtain ⟨hc1, hc2⟩ := Caps.slice T25.out.2
                  obtain ⟨hkl, hen⟩ := TH.out.1 ht
                  clear hen
                  have HCUT : Hid (cutE l x.e.n = l.take (posE x.e.n l) ++ l.drop (posE x.e.n l + 1)) := Lib.hid rfl
                  have HLN := Lib.hid (cutE_len l x.e.n)
                  go_upto_region 35 with fail
                  go_cut [6] from 30 to 173 (fun s6 wx => ∃ A' c', s6 = .slice A' (cutE l x.e.n).length c' ∧ Hid (wx.ownsRow w.heap.size 38 2 (.slice A' (cutE l x.e.n).length c') (cutE l x.e.n).length (enC (cutE l x.e.n)) ∧ Still w25 wx))
                  case first =>
                    have HB25 := Lib.hid K25.out.size
                    have hpl := HPL.out
                    generalize posE x.e.n l = k at *
                    have i2 : (0 : Int) ≤ (k : Int) := by omega
                    have i3 : (k : Int) ≤ (c6 : Int) := by omega
                    have i4 : (l.length : Int) ≤ (c6 : Int) := by omega
                    have i5 : (k : Int) + 1 ≤ (l.length : Int) := by omega
                    have i6 : (0 : Int) ≤ (k : Int) + 1 := by omega
                    have w6 : IntKind.i64.wrap ((k : Int) + 1) = (k : Int) + 1 := IntWalk.i64_in _ (by omega)
                    have EF : Hid (∀ w', Still w25 w' → EsIs w' (fun i => w.heap.size ≤ i) (.slice A6 k c6) (l.take k) ∧ EsIs w' (fun i => w.heap.size ≤ i) (.slice (if c6 = k + 1 then A6 else Option.map (fun x => x.add ((k + 1) * 2)) A6) (l.length - (k + 1)) (c6 - (k + 1))) (l.drop (k + 1))) := Lib.hid (fun w' q => ⟨EsIs.front (EsIs.only T25.out q (fun _ _ _ h => h)) hpl, EsIs.back (EsIs.only T25.out q (fun _ _ _ h => h)) (by omega)⟩)
                    refine wp_region_held_drew (S := fun w' => Still w25 w') (by kernel_rfl) ?_ (fun hHeld => ?_)
                    · exact (Still.refl w25).drew
                    refine takeH (i := 1) (d := 161) (v := ?_) (by kernel_rfl) (by kernel_rfl) (by kernel_rfl) rfl (fun _ _ _ h => h) (by rfl) ?_ hHeld ?_
                    rotate_left
                    · intro o ho w hSw
                      cases ho
                      go_simp
                      try with_reducible rfl
                    simp only [Act.put, List.setIfInBounds_toArray, List.set_cons_zero, List.set_cons_succ]
                    refine takeH (i := 2) (d := 162) (v := ?_) (by kernel_rfl) (by kernel_rfl) (by kernel_rfl) rfl (fun _ _ _ h => h) (by rfl) ?_ hHeld ?_
                    rotate_left
                    · intro o ho w hSw
                      cases ho
                      go_simp
                      try with_reducible rfl
                    simp only [Act.put, List.setIfInBounds_toArray, List.set_cons_zero, List.set_cons_succ]
                    refine takeH (i := 3) (d := 163) (v := ?_) (by kernel_rfl) (by kernel_rfl) (by kernel_rfl) rfl (fun _ _ _ h => h) (by rfl) ?_ hHeld ?_
                    rotate_left
                    · intro o ho w hSw
                      cases ho
                      go_simp
                      try with_reducible rfl
                    simp only [Act.put, List.setIfInBounds_toArray, List.set_cons_zero, List.set_cons_succ]
                    refine takeH (i := 5) (d := 165) (v := ?_) (by kernel_rfl) (by kernel_rfl) (by kernel_rfl) rfl (fun _ _ _ h => h) (by rfl) ?_ hHeld ?_
                    rotate_left
                    · intro o ho w hSw
                      cases ho
                      go_simp
                      try with_reducible rfl
                    simp only [Act.put, List.setIfInBounds_toArray, List.set_cons_zero, List.set_cons_succ]
                    refine takeH (i := 6) (d := 166) (v := ?_) (by kernel_rfl) (by kernel_rfl) (by kernel_rfl) rfl (fun _ _ _ h => h) (by rfl) ?_ hHeld ?_
                    rotate_left
                    · intro o ho w hSw
                      cases ho
                      go_simp
                      try with_reducible rfl
                    simp only [Act.put, List.setIfInBounds_toArray, List.set_cons_zero, List.set_cons_succ]
                    refine takeH (i := 7) (d := 167) (v := ?_) (by kernel_rfl) (by kernel_rfl) (by kernel_rfl) rfl (fun _ _ _ h => h) (by rfl) ?_ hHeld ?_
                    rotate_left
                    · intro o ho w hSw
                      cases ho
                      go_simp
                      try with_reducible rfl
                    simp only [Act.put, List.setIfInBounds_toArray, List.set_cons_zero, List.set_cons_succ]
                    refine takeH (i := 8) (d := 168) (v := ?_) (by kernel_rfl) (by kernel_rfl) (by kernel_rfl) rfl (fun _ _ _ h => h) (by rfl) ?_ hHeld ?_
                    rotate_left
                    · intro o ho w hSw
                      cases ho
                      go_simp
                      try with_reducible rfl
                    simp only [Act.put, List.setIfInBounds_toArray, List.set_cons_zero, List.set_cons_succ]
                    generalize (if c6 = k + 1 then A6 else Option.map (fun x => x.add ((k + 1) * 2)) A6) = A3 at *
                    refine forget (wpAnyH _ _ _ _ _ _ _) _ _ (fun Z => Still w25 Z) hHeld ?_
                    clear hHeld
                    intro W0 s0
                    have hHeld := s0
                    refine wpAnyH_ready (rs := [0]) (by kernel_rfl) (by simp) ?_
                    refine AllReadyH.cons rfl (fun K hK => ?_) AllReadyH.nil
                    go_simp
                    refine forget K _ _ (fun Z => Still W0 Z ∧ Still w25 Z ∧ W0.heap.size < Z.heap.size ∧ Z.ownsRow w25.heap.size 38 2 (.slice (some ⟨W0.heap.size, 0, none⟩) 0 0) ([] : List En).length (enC [])) ⟨(Still.refl _).alloc _, s0.alloc _, by simp, owns_base (lit_none _ _ _) s0.size⟩ ?_
                    rintro W1 ⟨t1, s1, z1, oL⟩
                    refine hK.out _ _ ?_ (fun hHeld => ?_)
                    · exact s1
                    clear hK K
                    refine wpAnyH_ready (rs := [4]) (by kernel_rfl) (by simp) ?_
                    refine AllReadyH.cons rfl (fun K hK => ?_) AllReadyH.nil
                    refine step_append_ents rfl (.tmp 160) (.tmp 163) rfl (.slice (some ⟨W0.heap.size, 0, none⟩) 0 0) (.slice A6 k c6) ([]) (l.take k) (l.take k) (rfl) rfl rfl oL ((EF.out _ s1).1) s1 (by simp only [List.length_nil, List.length_take]; omega) ?_
                    clear oL
                    intro A104 n104 c104 W2 hn4 oL s2 t2
                    change K (Act.put _ (some 164) _) _
                    simp only [Act.put, List.setIfInBounds_toArray, List.set_cons_zero, List.set_cons_succ]
                    refine hK.out _ _ ?_ (fun hHeld => ?_)
                    · exact s2
                    clear hK K
                    refine wpAnyH_ready (rs := [9]) (by kernel_rfl) (by simp) ?_
                    refine AllReadyH.cons rfl (fun K hK => ?_) AllReadyH.nil
                    refine step_append_ents rfl (.tmp 164) (.tmp 168) rfl (.slice A104 n104 c104) (.slice A3 (l.length - (k + 1)) (c6 - (k + 1))) (l.take k) (l.drop (k + 1)) (cutE l x.e.n) (HCUT.out) rfl rfl oL ((EF.out _ s2).2) s2 (by simp only [List.length_take, List.length_drop]; omega) ?_
                    clear oL
                    intro A109 n109 c109 W3 hn9 oL s3 t3
                    change K (Act.put _ (some 169) _) _
                    simp only [Act.put, List.setIfInBounds_toArray, List.set_cons_zero, List.set_cons_succ]
                    refine hK.out _ _ ?_ (fun hHeld => ?_)
                    · exact s3
                    clear hK K
                    refine takeH (i := 10) (d := 6) (v := ?_) (by kernel_rfl) (by kernel_rfl) (by kernel_rfl) rfl (fun _ _ _ h => h) (by rfl) ?_ hHeld ?_
                    rotate_left
                    · intro o ho w hSw
                      cases ho
                      go_simp
                      try with_reducible rfl
                    simp only [Act.put, List.setIfInBounds_toArray, List.set_cons_zero, List.set_cons_succ]
                    refine wpAnyH_done (by kernel_rfl) ?_ _
                    go_wp2_with fail
                    go_meet
                    rw [hn9.out] at oL
                    case rel => exact ⟨_, _, by rw [hn9.out], Lib.hid ⟨owns_base oL HB25.out, s3⟩⟩
                  case rest =>
                    obtain ⟨A', c', rfl, hq⟩ := hcut
                    obtain ⟨o', s'⟩ := hq.out
                    have E30 := Lib.hid (EsIs.only E25.out s' (fun _ _ _ h => h))
                    have T30 := Lib.hid (EsIs.of_own o')
                    have O30 := Lib.hid o'
                    have K30 := Lib.hid (K25.out.trans s')
                    clear hq o' s' E25 T25 K25 B25
                    have CS2 := Lib.hid (same13_any _ _ _ _ (cutE l x.e.n) (cutE l x.e.n) wc (by have := HLN.out; omega) E30.out T30.out)
                    rw [decide_eq_true rfl] at CS2
                    go_wp2_with fail
                    refine CS2.out.mono ?_
                    rintro e w36 ⟨rfl, hq36⟩
                    have S36 := Lib.hid (drew_still hq36)
                    have R : Hid (PL w _ _ (playL (xs.take (j + 1))) (j + 1) w36) := Lib.hid (by
                      rw [TK.out, ST.out]
                      exact ⟨EsIs.only E30.out S36.out (fun _ _ _ h => h), EsIs.mono (EsIs.only T30.out S36.out (fun _ _ _ h => h)) (fun i _ hi => (O30.out.lt i hi).1), owns_only O30.out S36.out (fun _ _ h => h), H13.out, K30.out.trans S36.out⟩)
                    clear hq36 CS2 E30 T30 O30 S36 K30
                    go_wp2
                    go_roundw
                    case rel => exact ⟨j + 1, by omega, by go_num, R⟩
                    case measure => simp [intOf]; omega
            · rw [decide_eq_false ht]
              by_cases hop : x.op = 1
              · by_cases hn : nameOf x.e.n = 0
                · by_cases hi : x.e.i = 0
                  · skip
                    as_aux_lemma =>
                      have EP : putEr l x.e = 1 := by
                        unfold putEr
                        have hb : bad1 x.e = 1 := by unfold bad1; rw [if_neg (by simp [hn]), if_pos hi]
                        rw [if_pos (by rw [hb]; decide), hb]
                      have ST : Hid (stepL l x = l) := Lib.hid (by unfold stepL; rw [if_pos hop, if_neg (by rw [EP]; decide)])
                      rw [hop] at b0
                      have CP := Lib.hid (HP _ _ l x.e wc (hT.still KD.out) hok.good hok.u32 (by omega) (by omega) hi32 RD.out)
                      have CN := Lib.hid (fun W => refname_any x.e.n W (by omega))
                      rw [EP] at CP
                      rw [hn] at CN
                      generalize hxi : (x.e.i : Int) = I at *
                      have hI : I = 0 := by rw [← hxi, hi]; rfl
                      subst hI
                      clear EP hn hop hxi hi
                      go_wp2_with fail
                      refine CP.out.mono ?_
                      rintro e w20 ⟨A20, c20, rfl, e20, k20⟩
                      have K20 := Lib.hid (KD.out.trans k20)
                      have R20 := Lib.hid (EsIs.only RD.out k20 (fun _ _ _ h => h))
                      have T20 := Lib.hid (EsIs.only TD.out k20 (fun _ _ _ h => h))
                      have U20 := Lib.hid (EsIs.only UD.out k20 (fun _ _ _ h => h))
                      have O20 := Lib.hid (owns_only OD.out k20 (fun _ _ h => h))
                      have B20 := Lib.hid (k20.has BD.out)
                      have E20 := Lib.hid (EsIs.mono (F := fun i => w.heap.size ≤ i) e20 (fun i _ hi => Nat.le_trans KD.out.size hi))
                      clear b0 b1 b2 k20 e20 RD TD UD BD KD OD CP
                      obtain ⟨b0, b1, b2⟩ := B20.out.cells3
                      go_wp2_with fail
                      refine (CN.out _).mono ?_
                      rintro e w' ⟨rfl, rfl⟩
                      clear CN
                      have CS1 := Lib.hid (same13_any _ _ _ _ l l w20 (by omega) R20.out U20.out)
                      rw [decide_eq_true rfl] at CS1
                      go_wp2_with fail
                      refine CS1.out.mono ?_
                      rintro e w25 ⟨rfl, hq25⟩
                      have S25 := Lib.hid (drew_still hq25)
                      clear hq25 CS1
                      have R25 := Lib.hid (EsIs.only R20.out S25.out (fun _ _ _ h => h))
                      have T25 := Lib.hid (EsIs.only T20.out S25.out (fun _ _ _ h => h))
                      have O25 := Lib.hid (owns_only O20.out S25.out (fun _ _ h => h))
                      have CS2 := Lib.hid (same13_any _ _ _ _ l l w25 (by omega) R25.out T25.out)
                      rw [decide_eq_true rfl] at CS2
                      have K25 := Lib.hid (K20.out.trans S25.out)
                      clear b0 b1 b2 R20 T20 U20 B20 K20 O20 S25
                      go_wp2_with fail
                      refine CS2.out.mono ?_
                      rintro e w36 ⟨rfl, hq36⟩
                      have S36 := Lib.hid (drew_still hq36)
                      have R : Hid (PL w _ _ (playL (xs.take (j + 1))) (j + 1) w36) := Lib.hid (by
                        rw [TK.out, ST.out]
                        exact ⟨EsIs.only R25.out S36.out (fun _ _ _ h => h), EsIs.only T25.out S36.out (fun _ _ _ h => h), owns_only O25.out S36.out (fun _ _ h => h), ⟨hok.good, hok.u32, by omega⟩, K25.out.trans S36.out⟩)
                      clear hq36 CS2 R25 T25 O25 S36 K25
                      go_wp2
                      go_roundw
                      case rel => exact ⟨j + 1, by omega, by go_num, R⟩
                      case measure => simp [intOf]; omega
                  · skip
                    as_aux_lemma =>
                      have EP : putEr l x.e = 0 := by
                        unfold putEr
                        rw [if_neg (by rw [bad1_zero.2 ⟨hn, hi⟩]; simp), if_neg ht]
                      have EL : putL l x.e = putE l x.e := if_pos EP
                      have ST : Hid (stepL l x = putE l x.e) := Lib.hid (by unfold stepL; rw [if_pos hop, if_pos EP])
                      rw [hop] at b0
                      have CP := Lib.hid (HP _ _ l x.e wc (hT.still KD.out) hok.good hok.u32 (by omega) (by omega) hi32 RD.out)
                      have CN := Lib.hid (fun W => refname_any x.e.n W (by omega))
                      rw [EP] at CP
                      rw [hn] at CN
                      rw [EL] at CP
                      have n1 : ((x.e.i : Int) == 0) = false := by simpa using hi
                      clear EP EL hn hop
                      go_wp2_with fail
                      refine CP.out.mono ?_
                      rintro e w20 ⟨A20, c20, rfl, e20, k20⟩
                      have K20 := Lib.hid (KD.out.trans k20)
                      have R20 := Lib.hid (EsIs.only RD.out k20 (fun _ _ _ h => h))
                      have T20 := Lib.hid (EsIs.only TD.out k20 (fun _ _ _ h => h))
                      have U20 := Lib.hid (EsIs.only UD.out k20 (fun _ _ _ h => h))
                      have O20 := Lib.hid (owns_only OD.out k20 (fun _ _ h => h))
                      have B20 := Lib.hid (k20.has BD.out)
                      have E20 := Lib.hid (EsIs.mono (F := fun i => w.heap.size ≤ i) e20 (fun i _ hi => Nat.le_trans KD.out.size hi))
                      clear b0 b1 b2 k20 e20 RD TD UD BD KD OD CP
                      obtain ⟨b0, b1, b2⟩ := B20.out.cells3
                      go_wp2_with fail
                      refine (CN.out _).mono ?_
                      rintro e w' ⟨rfl, rfl⟩
                      clear CN
                      have CS1 := Lib.hid (same13_any _ _ _ _ l l w20 (by omega) R20.out U20.out)
                      rw [decide_eq_true rfl] at CS1
                      go_wp2_with fail
                      refine CS1.out.mono ?_
                      rintro e w25 ⟨rfl, hq25⟩
                      have S25 := Lib.hid (drew_still hq25)
                      clear hq25 CS1
                      have E25 := Lib.hid (EsIs.only E20.out S25.out (fun _ _ _ h => h))
                      have T25 := Lib.hid (EsIs.only T20.out S25.out (fun _ _ _ h => h))
                      have K25 := Lib.hid (K20.out.trans S25.out)
                      have B25 := Lib.hid (S25.out.has B20.out)
                      have H13 : Hid (Row13 (stepL l x) (j + 1)) := Lib.hid (hok.step x hi32)
                      rw [ST.out] at H13
                      clear b0 b1 b2 R20 T20 U20 E20 O20 K20 B20 S25
                      obtain ⟨hc1, hc2⟩ := Caps.slice T25.out.2
                      have HPUT : Hid (putE l x.e = l.take (posE x.e.n l) ++ x.e :: l.drop (posE x.e.n l)) := Lib.hid rfl
                      have HLN : Hid ((putE l x.e).length = l.length + 1) := Lib.hid (putE_length _ _)
                      go_upto_region 29 with fail
                      go_cut [6] from 30 to 173 (fun s6 wx => ∃ A' c', s6 = .slice A' (putE l x.e).length c' ∧ Hid (wx.ownsRow w.heap.size 38 2 (.slice A' (putE l x.e).length c') (putE l x.e).length (enC (putE l x.e)) ∧ Still w25 wx))
                      case first =>
                        have HB25 := Lib.hid K25.out.size
                        have hpl := HPL.out
                        generalize posE x.e.n l = k at *
                        have i2 : (0 : Int) ≤ (k : Int) := by omega
                        have i3 : (k : Int) ≤ (c6 : Int) := by omega
                        have i4 : (l.length : Int) ≤ (c6 : Int) := by omega
                        have EF : Hid (∀ w', Still w25 w' → EsIs w' (fun i => w.heap.size ≤ i) (.slice A6 k c6) (l.take k) ∧ EsIs w' (fun i => w.heap.size ≤ i) (.slice (if c6 = k then A6 else Option.map (fun x => x.add ((k) * 2)) A6) (l.length - (k)) (c6 - (k))) (l.drop (k))) := Lib.hid (fun w' q => ⟨EsIs.front (EsIs.only T25.out q (fun _ _ _ h => h)) hpl, EsIs.back (EsIs.only T25.out q (fun _ _ _ h => h)) (by omega)⟩)
                        refine wp_region_held_drew (S := fun w' => Still w25 w') (by kernel_rfl) ?_ (fun hHeld => ?_)
                        · exact (Still.refl w25).drew
                        refine takeH (i := 1) (d := 120) (v := ?_) (by kernel_rfl) (by kernel_rfl) (by kernel_rfl) rfl (fun _ _ _ h => h) (by rfl) ?_ hHeld ?_
                        rotate_left
                        · intro o ho w hSw
                          cases ho
                          go_simp
                          try with_reducible rfl
                        simp only [Act.put, List.setIfInBounds_toArray, List.set_cons_zero, List.set_cons_succ]
                        refine takeH (i := 2) (d := 121) (v := ?_) (by kernel_rfl) (by kernel_rfl) (by kernel_rfl) rfl (fun _ _ _ h => h) (by rfl) ?_ hHeld ?_
                        rotate_left
                        · intro o ho w hSw
                          cases ho
                          go_simp
                          try with_reducible rfl
                        simp only [Act.put, List.setIfInBounds_toArray, List.set_cons_zero, List.set_cons_succ]
                        refine takeH (i := 3) (d := 122) (v := ?_) (by kernel_rfl) (by kernel_rfl) (by kernel_rfl) rfl (fun _ _ _ h => h) (by rfl) ?_ hHeld ?_
                        rotate_left
                        · intro o ho w hSw
                          cases ho
                          go_simp
                          try with_reducible rfl
                        simp only [Act.put, List.setIfInBounds_toArray, List.set_cons_zero, List.set_cons_succ]
                        refine takeH (i := 5) (d := 124) (v := ?_) (by kernel_rfl) (by kernel_rfl) (by kernel_rfl) rfl (fun _ _ _ h => h) (by rfl) ?_ hHeld ?_
                        rotate_left
                        · intro o ho w hSw
                          cases ho
                          obtain ⟨b0, b1, b2⟩ := (Still.has hSw B25.out).cells3
                          go_simp
                          try with_reducible rfl
                        simp only [Act.put, List.setIfInBounds_toArray, List.set_cons_zero, List.set_cons_succ]
                        refine takeH (i := 6) (d := 125) (v := ?_) (by kernel_rfl) (by kernel_rfl) (by kernel_rfl) rfl (fun _ _ _ h => h) (by rfl) ?_ hHeld ?_
                        rotate_left
                        · intro o ho w hSw
                          cases ho
                          obtain ⟨b0, b1, b2⟩ := (Still.has hSw B25.out).cells3
                          go_simp
                          try with_reducible rfl
                        simp only [Act.put, List.setIfInBounds_toArray, List.set_cons_zero, List.set_cons_succ]
                        refine takeH (i := 9) (d := 128) (v := ?_) (by kernel_rfl) (by kernel_rfl) (by kernel_rfl) rfl (fun _ _ _ h => h) (by rfl) ?_ hHeld ?_
                        rotate_left
                        · intro o ho w hSw
                          cases ho
                          go_simp
                          try with_reducible rfl
                        simp only [Act.put, List.setIfInBounds_toArray, List.set_cons_zero, List.set_cons_succ]
                        refine takeH (i := 10) (d := 129) (v := ?_) (by kernel_rfl) (by kernel_rfl) (by kernel_rfl) rfl (fun _ _ _ h => h) (by rfl) ?_ hHeld ?_
                        rotate_left
                        · intro o ho w hSw
                          cases ho
                          go_simp
                          try with_reducible rfl
                        simp only [Act.put, List.setIfInBounds_toArray, List.set_cons_zero, List.set_cons_succ]
                        refine takeH (i := 11) (d := 130) (v := ?_) (by kernel_rfl) (by kernel_rfl) (by kernel_rfl) rfl (fun _ _ _ h => h) (by rfl) ?_ hHeld ?_
                        rotate_left
                        · intro o ho w hSw
                          cases ho
                          go_simp
                          try with_reducible rfl
                        simp only [Act.put, List.setIfInBounds_toArray, List.set_cons_zero, List.set_cons_succ]
                        generalize (if c6 = k then A6 else Option.map (fun x => x.add (k * 2)) A6) = A3 at *
                        refine forget (wpAnyH _ _ _ _ _ _ _) _ _ (fun Z => Still w25 Z) hHeld ?_
                        clear hHeld
                        intro W0 s0
                        have hHeld := s0
                        refine wpAnyH_ready (rs := [0, 7]) (by kernel_rfl) (by simp) ?_
                        refine AllReadyH.cons rfl (fun K hK => ?_) (AllReadyH.cons rfl (fun K hK => ?_) AllReadyH.nil)
                        · go_simp
                          refine forget K _ _ (fun Z => Still W0 Z ∧ Still w25 Z ∧ W0.heap.size < Z.heap.size ∧ Z.ownsRow w25.heap.size 38 2 (.slice (some ⟨W0.heap.size, 0, none⟩) 0 0) ([] : List En).length (enC [])) ⟨(Still.refl _).alloc _, s0.alloc _, by simp, owns_base (lit_none _ _ _) s0.size⟩ ?_
                          rintro W1 ⟨t1, s1, z1, oL⟩
                          refine hK.out _ _ ?_ (fun hHeld => ?_)
                          · exact s1
                          clear hK K
                          refine wpAnyH_ready (rs := [4, 7]) (by kernel_rfl) (by simp) ?_
                          refine AllReadyH.cons rfl (fun K hK => ?_) (AllReadyH.cons rfl (fun K hK => ?_) AllReadyH.nil)
                          · refine step_append_ents rfl (.tmp 119) (.tmp 122) rfl (.slice (some ⟨W0.heap.size, 0, none⟩) 0 0) (.slice A6 k c6) ([]) (l.take k) (l.take k) (rfl) rfl rfl oL ((EF.out _ s1).1) s1 (by simp only [List.length_nil, List.length_take]; omega) ?_
                            clear oL
                            intro A104 n104 c104 W2 hn4 oL s2 t2
                            change K (Act.put _ (some 123) _) _
                            simp only [Act.put, List.setIfInBounds_toArray, List.set_cons_zero, List.set_cons_succ]
                            refine hK.out _ _ ?_ (fun hHeld => ?_)
                            · exact s2
                            clear hK K
                            refine wpAnyH_ready (rs := [7]) (by kernel_rfl) (by simp) ?_
                            refine AllReadyH.cons rfl (fun K hK => ?_) AllReadyH.nil
                            go_simp
                            refine forget K _ _ (fun Z => Still W2 Z ∧ Still w25 Z ∧ W2.heap.size < Z.heap.size ∧ EsIs Z (fun i => i = W2.heap.size) (.slice (some ⟨W2.heap.size, 0, none⟩) 1 1) [x.e]) ⟨(Still.refl _).alloc _, s2.alloc _, by simp, EsIs.lit _ x.e⟩ ?_
                            rintro W3 ⟨t3, s3, z3, e7⟩
                            have oL := owns_only oL t3 (fun _ _ h => h)
                            refine hK.out _ _ ?_ (fun hHeld => ?_)
                            · exact s3
                            clear hK K
                            refine wpAnyH_ready (rs := [8]) (by kernel_rfl) (by simp) ?_
                            refine AllReadyH.cons rfl (fun K hK => ?_) AllReadyH.nil
                            refine step_append_ents rfl (.tmp 123) (.tmp 126) rfl (.slice A104 n104 c104) (.slice (some ⟨W2.heap.size, 0, none⟩) 1 1) (l.take k) ([x.e]) (l.take k ++ [x.e]) (rfl) rfl rfl oL (e7) s3 (by simp only [List.length_take, List.length_cons, List.length_nil]; omega) ?_
                            clear oL
                            intro A108 n108 c108 W4 hn8 oL s4 t4
                            change K (Act.put _ (some 127) _) _
                            simp only [Act.put, List.setIfInBounds_toArray, List.set_cons_zero, List.set_cons_succ]
                            refine hK.out _ _ ?_ (fun hHeld => ?_)
                            · exact s4
                            clear hK K
                            refine wpAnyH_ready (rs := [12]) (by kernel_rfl) (by simp) ?_
                            refine AllReadyH.cons rfl (fun K hK => ?_) AllReadyH.nil
                            refine step_append_ents rfl (.tmp 127) (.tmp 130) rfl (.slice A108 n108 c108) (.slice A3 (l.length - k) (c6 - k)) (l.take k ++ [x.e]) (l.drop k) (putE l x.e) (by rw [HPUT.out]; simp) rfl rfl oL ((EF.out _ s4).2) s4 (by simp only [List.length_append, List.length_take, List.length_drop, List.length_cons, List.length_nil]; omega) ?_
                            clear oL
                            intro A112 n112 c112 W5 hn12 oL s5 t5
                            change K (Act.put _ (some 131) _) _
                            simp only [Act.put, List.setIfInBounds_toArray, List.set_cons_zero, List.set_cons_succ]
                            refine hK.out _ _ ?_ (fun hHeld => ?_)
                            · exact s5
                            clear hK K
                            refine takeH (i := 13) (d := 6) (v := ?_) (by kernel_rfl) (by kernel_rfl) (by kernel_rfl) rfl (fun _ _ _ h => h) (by rfl) ?_ hHeld ?_
                            rotate_left
                            · intro o ho w hSw
                              cases ho
                              go_simp
                              try with_reducible rfl
                            simp only [Act.put, List.setIfInBounds_toArray, List.set_cons_zero, List.set_cons_succ]
                            refine wpAnyH_done (by kernel_rfl) ?_ _
                            go_wp2_with fail
                            go_meet
                            rw [hn12.out] at oL
                            case rel => exact ⟨_, _, by rw [hn12.out], Lib.hid ⟨owns_base oL HB25.out, s5⟩⟩
                          · go_simp
                            refine forget K _ _ (fun Z => Still W1 Z ∧ Still w25 Z ∧ W1.heap.size < Z.heap.size ∧ EsIs Z (fun i => i = W1.heap.size) (.slice (some ⟨W1.heap.size, 0, none⟩) 1 1) [x.e]) ⟨(Still.refl _).alloc _, s1.alloc _, by simp, EsIs.lit _ x.e⟩ ?_
                            rintro W2 ⟨t2, s2, z2, e7⟩
                            have oL := owns_only oL t2 (fun _ _ h => h)
                            refine hK.out _ _ ?_ (fun hHeld => ?_)
                            · exact s2
                            clear hK K
                            refine wpAnyH_ready (rs := [4]) (by kernel_rfl) (by simp) ?_
                            refine AllReadyH.cons rfl (fun K hK => ?_) AllReadyH.nil
                            refine step_append_ents rfl (.tmp 119) (.tmp 122) rfl (.slice (some ⟨W0.heap.size, 0, none⟩) 0 0) (.slice A6 k c6) ([]) (l.take k) (l.take k) (rfl) rfl rfl oL ((EF.out _ s2).1) s2 (by simp only [List.length_nil, List.length_take]; omega) ?_
                            clear oL
                            intro A104 n104 c104 W3 hn4 oL s3 t3
                            have e7 := EsIs.only e7 t3 (fun i _ h1 h2 => by
                              simp [Value.ownBlock] at h2
                              omega)
                            change K (Act.put _ (some 123) _) _
                            simp only [Act.put, List.setIfInBounds_toArray, List.set_cons_zero, List.set_cons_succ]
                            refine hK.out _ _ ?_ (fun hHeld => ?_)
                            · exact s3
                            clear hK K
                            refine wpAnyH_ready (rs := [8]) (by kernel_rfl) (by simp) ?_
                            refine AllReadyH.cons rfl (fun K hK => ?_) AllReadyH.nil
                            refine step_append_ents rfl (.tmp 123) (.tmp 126) rfl (.slice A104 n104 c104) (.slice (some ⟨W1.heap.size, 0, none⟩) 1 1) (l.take k) ([x.e]) (l.take k ++ [x.e]) (rfl) rfl rfl oL (e7) s3 (by simp only [List.length_take, List.length_cons, List.length_nil]; omega) ?_
                            clear oL
                            intro A108 n108 c108 W4 hn8 oL s4 t4
                            change K (Act.put _ (some 127) _) _
                            simp only [Act.put, List.setIfInBounds_toArray, List.set_cons_zero, List.set_cons_succ]
                            refine hK.out _ _ ?_ (fun hHeld => ?_)
                            · exact s4
                            clear hK K
                            refine wpAnyH_ready (rs := [12]) (by kernel_rfl) (by simp) ?_
                            refine AllReadyH.cons rfl (fun K hK => ?_) AllReadyH.nil
                            refine step_append_ents rfl (.tmp 127) (.tmp 130) rfl (.slice A108 n108 c108) (.slice A3 (l.length - k) (c6 - k)) (l.take k ++ [x.e]) (l.drop k) (putE l x.e) (by rw [HPUT.out]; simp) rfl rfl oL ((EF.out _ s4).2) s4 (by simp only [List.length_append, List.length_take, List.length_drop, List.length_cons, List.length_nil]; omega) ?_
                            clear oL
                            intro A112 n112 c112 W5 hn12 oL s5 t5
                            change K (Act.put _ (some 131) _) _
                            simp only [Act.put, List.setIfInBounds_toArray, List.set_cons_zero, List.set_cons_succ]
                            refine hK.out _ _ ?_ (fun hHeld => ?_)
                            · exact s5
                            clear hK K
                            refine takeH (i := 13) (d := 6) (v := ?_) (by kernel_rfl) (by kernel_rfl) (by kernel_rfl) rfl (fun _ _ _ h => h) (by rfl) ?_ hHeld ?_
                            rotate_left
                            · intro o ho w hSw
                              cases ho
                              go_simp
                              try with_reducible rfl
                            simp only [Act.put, List.setIfInBounds_toArray, List.set_cons_zero, List.set_cons_succ]
                            refine wpAnyH_done (by kernel_rfl) ?_ _
                            go_wp2_with fail
                            go_meet
                            rw [hn12.out] at oL
                            case rel => exact ⟨_, _, by rw [hn12.out], Lib.hid ⟨owns_base oL HB25.out, s5⟩⟩
                        · go_simp
                          refine forget K _ _ (fun Z => Still W0 Z ∧ Still w25 Z ∧ W0.heap.size < Z.heap.size ∧ EsIs Z (fun i => i = W0.heap.size) (.slice (some ⟨W0.heap.size, 0, none⟩) 1 1) [x.e]) ⟨(Still.refl _).alloc _, s0.alloc _, by simp, EsIs.lit _ x.e⟩ ?_
                          rintro W1 ⟨t1, s1, z1, e7⟩
                          refine hK.out _ _ ?_ (fun hHeld => ?_)
                          · exact s1
                          clear hK K
                          refine wpAnyH_ready (rs := [0]) (by kernel_rfl) (by simp) ?_
                          refine AllReadyH.cons rfl (fun K hK => ?_) AllReadyH.nil
                          go_simp
                          refine forget K _ _ (fun Z => Still W1 Z ∧ Still w25 Z ∧ W1.heap.size < Z.heap.size ∧ Z.ownsRow w25.heap.size 38 2 (.slice (some ⟨W1.heap.size, 0, none⟩) 0 0) ([] : List En).length (enC [])) ⟨(Still.refl _).alloc _, s1.alloc _, by simp, owns_base (lit_none _ _ _) s1.size⟩ ?_
                          rintro W2 ⟨t2, s2, z2, oL⟩
                          have e7 := EsIs.only e7 t2 (fun _ _ _ h => h)
                          refine hK.out _ _ ?_ (fun hHeld => ?_)
                          · exact s2
                          clear hK K
                          refine wpAnyH_ready (rs := [4]) (by kernel_rfl) (by simp) ?_
                          refine AllReadyH.cons rfl (fun K hK => ?_) AllReadyH.nil
                          refine step_append_ents rfl (.tmp 119) (.tmp 122) rfl (.slice (some ⟨W1.heap.size, 0, none⟩) 0 0) (.slice A6 k c6) ([]) (l.take k) (l.take k) (rfl) rfl rfl oL ((EF.out _ s2).1) s2 (by simp only [List.length_nil, List.length_take]; omega) ?_
                          clear oL
                          intro A104 n104 c104 W3 hn4 oL s3 t3
                          have e7 := EsIs.only e7 t3 (fun i _ h1 h2 => by
                            simp [Value.ownBlock] at h2
                            omega)
                          change K (Act.put _ (some 123) _) _
                          simp only [Act.put, List.setIfInBounds_toArray, List.set_cons_zero, List.set_cons_succ]
                          refine hK.out _ _ ?_ (fun hHeld => ?_)
                          · exact s3
                          clear hK K
                          refine wpAnyH_ready (rs := [8]) (by kernel_rfl) (by simp) ?_
                          refine AllReadyH.cons rfl (fun K hK => ?_) AllReadyH.nil
                          refine step_append_ents rfl (.tmp 123) (.tmp 126) rfl (.slice A104 n104 c104) (.slice (some ⟨W0.heap.size, 0, none⟩) 1 1) (l.take k) ([x.e]) (l.take k ++ [x.e]) (rfl) rfl rfl oL (e7) s3 (by simp only [List.length_take, List.length_cons, List.length_nil]; omega) ?_
                          clear oL
                          intro A108 n108 c108 W4 hn8 oL s4 t4
                          change K (Act.put _ (some 127) _) _
                          simp only [Act.put, List.setIfInBounds_toArray, List.set_cons_zero, List.set_cons_succ]
                          refine hK.out _ _ ?_ (fun hHeld => ?_)
                          · exact s4
                          clear hK K
                          refine wpAnyH_ready (rs := [12]) (by kernel_rfl) (by simp) ?_
                          refine AllReadyH.cons rfl (fun K hK => ?_) AllReadyH.nil
                          refine step_append_ents rfl (.tmp 127) (.tmp 130) rfl (.slice A108 n108 c108) (.slice A3 (l.length - k) (c6 - k)) (l.take k ++ [x.e]) (l.drop k) (putE l x.e) (by rw [HPUT.out]; simp) rfl rfl oL ((EF.out _ s4).2) s4 (by simp only [List.length_append, List.length_take, List.length_drop, List.length_cons, List.length_nil]; omega) ?_
                          clear oL
                          intro A112 n112 c112 W5 hn12 oL s5 t5
                          change K (Act.put _ (some 131) _) _
                          simp only [Act.put, List.setIfInBounds_toArray, List.set_cons_zero, List.set_cons_succ]
                          refine hK.out _ _ ?_ (fun hHeld => ?_)
                          · exact s5
                          clear hK K
                          refine takeH (i := 13) (d := 6) (v := ?_) (by kernel_rfl) (by kernel_rfl) (by kernel_rfl) rfl (fun _ _ _ h => h) (by rfl) ?_ hHeld ?_
                          rotate_left
                          · intro o ho w hSw
                            cases ho
                            go_simp
                            try with_reducible rfl
                          simp only [Act.put, List.setIfInBounds_toArray, List.set_cons_zero, List.set_cons_succ]
                          refine wpAnyH_done (by kernel_rfl) ?_ _
                          go_wp2_with fail
                          go_meet
                          rw [hn12.out] at oL
                          case rel => exact ⟨_, _, by rw [hn12.out], Lib.hid ⟨owns_base oL HB25.out, s5⟩⟩
                      case rest =>
                        obtain ⟨A', c', rfl, hq⟩ := hcut
                        obtain ⟨o', s'⟩ := hq.out
                        have E30 := Lib.hid (EsIs.only E25.out s' (fun _ _ _ h => h))
                        have T30 := Lib.hid (EsIs.of_own o')
                        have O30 := Lib.hid o'
                        have K30 := Lib.hid (K25.out.trans s')
                        clear hq o' s' E25 T25 K25 B25
                        have CS2 := Lib.hid (same13_any _ _ _ _ (putE l x.e) (putE l x.e) wc (by have := HLN.out; omega) E30.out T30.out)
                        rw [decide_eq_true rfl] at CS2
                        go_wp2_with fail
                        refine CS2.out.mono ?_
                        rintro e w36 ⟨rfl, hq36⟩
                        have S36 := Lib.hid (drew_still hq36)
                        have R : Hid (PL w _ _ (playL (xs.take (j + 1))) (j + 1) w36) := Lib.hid (by
                          rw [TK.out, ST.out]
                          exact ⟨EsIs.only E30.out S36.out (fun _ _ _ h => h), EsIs.mono (EsIs.only T30.out S36.out (fun _ _ _ h => h)) (fun i _ hi => (O30.out.lt i hi).1), owns_only O30.out S36.out (fun _ _ h => h), H13.out, K30.out.trans S36.out⟩)
                        clear hq36 CS2 E30 T30 O30 S36 K30
                        go_wp2
                        go_roundw
                        case rel => exact ⟨j + 1, by omega, by go_num, R⟩
                        case measure => simp [intOf]; omega
                · skip
                  as_aux_lemma =>
                    have EP : putEr l x.e = nameOf x.e.n := by
                      unfold putEr
                      have hb : bad1 x.e = nameOf x.e.n := if_pos hn
                      rw [if_pos (by rw [hb]; exact hn), hb]
                    have ST : Hid (stepL l x = l) := Lib.hid (by unfold stepL; rw [if_pos hop, if_neg (by rw [EP]; exact hn)])
                    rw [hop] at b0
                    have CP := Lib.hid (HP _ _ l x.e wc (hT.still KD.out) hok.good hok.u32 (by omega) (by omega) hi32 RD.out)
                    have CN := Lib.hid (fun W => refname_any x.e.n W (by omega))
                    rw [EP] at CP
                    have n1 : (nameOf x.e.n == 0) = false := by simpa using hn
                    generalize nameOf x.e.n = N at *
                    clear EP hn hop
                    go_wp2_with fail
                    refine CP.out.mono ?_
                    rintro e w20 ⟨A20, c20, rfl, e20, k20⟩
                    have K20 := Lib.hid (KD.out.trans k20)
                    have R20 := Lib.hid (EsIs.only RD.out k20 (fun _ _ _ h => h))
                    have T20 := Lib.hid (EsIs.only TD.out k20 (fun _ _ _ h => h))
                    have U20 := Lib.hid (EsIs.only UD.out k20 (fun _ _ _ h => h))
                    have O20 := Lib.hid (owns_only OD.out k20 (fun _ _ h => h))
                    have B20 := Lib.hid (k20.has BD.out)
                    have E20 := Lib.hid (EsIs.mono (F := fun i => w.heap.size ≤ i) e20 (fun i _ hi => Nat.le_trans KD.out.size hi))
                    clear b0 b1 b2 k20 e20 RD TD UD BD KD OD CP
                    obtain ⟨b0, b1, b2⟩ := B20.out.cells3
                    go_wp2_with fail
                    refine (CN.out _).mono ?_
                    rintro e w' ⟨rfl, rfl⟩
                    clear CN
                    have CS1 := Lib.hid (same13_any _ _ _ _ l l w20 (by omega) R20.out U20.out)
                    rw [decide_eq_true rfl] at CS1
                    go_wp2_with fail
                    refine CS1.out.mono ?_
                    rintro e w25 ⟨rfl, hq25⟩
                    have S25 := Lib.hid (drew_still hq25)
                    clear hq25 CS1
                    have R25 := Lib.hid (EsIs.only R20.out S25.out (fun _ _ _ h => h))
                    have T25 := Lib.hid (EsIs.only T20.out S25.out (fun _ _ _ h => h))
                    have O25 := Lib.hid (owns_only O20.out S25.out (fun _ _ h => h))
                    have CS2 := Lib.hid (same13_any _ _ _ _ l l w25 (by omega) R25.out T25.out)
                    rw [decide_eq_true rfl] at CS2
                    have K25 := Lib.hid (K20.out.trans S25.out)
                    clear b0 b1 b2 R20 T20 U20 B20 K20 O20 S25
                    go_wp2_with fail
                    refine CS2.out.mono ?_
                    rintro e w36 ⟨rfl, hq36⟩
                    have S36 := Lib.hid (drew_still hq36)
                    have R : Hid (PL w _ _ (playL (xs.take (j + 1))) (j + 1) w36) := Lib.hid (by
                      rw [TK.out, ST.out]
                      exact ⟨EsIs.only R25.out S36.out (fun _ _ _ h => h), EsIs.only T25.out S36.out (fun _ _ _ h => h), owns_only O25.out S36.out (fun _ _ h => h), ⟨hok.good, hok.u32, by omega⟩, K25.out.trans S36.out⟩)
                    clear hq36 CS2 R25 T25 O25 S36 K25
                    go_wp2
                    go_roundw
                    case rel => exact ⟨j + 1, by omega, by go_num, R⟩
                    case measure => simp [intOf]; omega
              · skip
                as_aux_lemma =>
                  have EP : cutEr l x.e.n = 6 := if_neg ht
                  have ST : Hid (stepL l x = l) := Lib.hid (by unfold stepL; rw [if_neg hop, if_neg ht])
                  have CP := Lib.hid (HC _ _ l x.e.n wc (hT.still KD.out) hok.good hok.u32 (by omega) (by omega) RD.out)
                  rw [EP] at CP
                  have n1 : (x.op == 1) = false := by simpa using hop
                  clear EP
                  go_wp2_with fail
                  refine CP.out.mono ?_
                  rintro e w20 ⟨A20, c20, rfl, e20, k20⟩
                  have K20 := Lib.hid (KD.out.trans k20)
                  have R20 := Lib.hid (EsIs.only RD.out k20 (fun _ _ _ h => h))
                  have T20 := Lib.hid (EsIs.only TD.out k20 (fun _ _ _ h => h))
                  have U20 := Lib.hid (EsIs.only UD.out k20 (fun _ _ _ h => h))
                  have O20 := Lib.hid (owns_only OD.out k20 (fun _ _ h => h))
                  have B20 := Lib.hid (k20.has BD.out)
                  have E20 := Lib.hid (EsIs.mono (F := fun i => w.heap.size ≤ i) e20 (fun i _ hi => Nat.le_trans KD.out.size hi))
                  clear b0 b1 b2 k20 e20 RD TD UD BD KD OD CP
                  obtain ⟨b0, b1, b2⟩ := B20.out.cells3
                  have CS1 := Lib.hid (same13_any _ _ _ _ l l w20 (by omega) R20.out U20.out)
                  rw [decide_eq_true rfl] at CS1
                  go_wp2_with fail
                  refine CS1.out.mono ?_
                  rintro e w25 ⟨rfl, hq25⟩
                  have S25 := Lib.hid (drew_still hq25)
                  clear hq25 CS1
                  have R25 := Lib.hid (EsIs.only R20.out S25.out (fun _ _ _ h => h))
                  have T25 := Lib.hid (EsIs.only T20.out S25.out (fun _ _ _ h => h))
                  have O25 := Lib.hid (owns_only O20.out S25.out (fun _ _ h => h))
                  have CS2 := Lib.hid (same13_any _ _ _ _ l l w25 (by omega) R25.out T25.out)
                  rw [decide_eq_true rfl] at CS2
                  have K25 := Lib.hid (K20.out.trans S25.out)
                  clear b0 b1 b2 R20 T20 U20 B20 K20 O20 S25
                  go_wp2_with fail
                  refine CS2.out.mono ?_
                  rintro e w36 ⟨rfl, hq36⟩
                  have S36 := Lib.hid (drew_still hq36)
                  have R : Hid (PL w _ _ (playL (xs.take (j + 1))) (j + 1) w36) := Lib.hid (by
                    rw [TK.out, ST.out]
                    exact ⟨EsIs.only R25.out S36.out (fun _ _ _ h => h), EsIs.only T25.out S36.out (fun _ _ _ h => h), owns_only O25.out S36.out (fun _ _ h => h), ⟨hok.good, hok.u32, by omega⟩, K25.out.trans S36.out⟩)
                  clear hq36 CS2 R25 T25 O25 S36 K25
                  go_wp2
                  go_roundw
                  case rel => exact ⟨j + 1, by omega, by go_num, R⟩
                  case measure => simp [intOf]; omega
      · have d3 : decide (100 < (x.e.n.length : Int)) = true := decide_eq_true (by omega)
        have KS := Lib.hid hst
        clear hrel vr vw vo hst hok TK
        go_wp2
        go_ret
        exact ⟨rfl, KS.out.alloc _⟩
    · have HP0 := Lib.hid hrel.out
      rw [List.take_of_length_le (by omega)] at HP0
      obtain ⟨l, hL⟩ : ∃ l, l = playL xs := ⟨_, rfl⟩
      rw [← hL] at HP0
      obtain ⟨vr, vw, _, hok, hst⟩ := HP0.out
      have hlen := hok.len
      have CF := Lib.hid (HF _ _ l m wr (hT.still hst) hok.good hok.u32 (by omega) (by omega) vr)
      have HW := Lib.hid vw
      have KW := Lib.hid hst
      obtain ⟨A5, c5, e5⟩ := vr.form
      obtain ⟨A6, c6, e6⟩ := vw.form
      subst e5 e6
      have GR := Lib.hid hok.good.2
      clear vr vw hst HP0 hrel hL HA HP HC
      go_wp2_with fail
      refine CF.out.mono ?_
      rintro e w3 ⟨rfl, k3⟩
      have HW3 := Lib.hid (EsIs.only HW.out k3 (fun _ _ _ h => h))
      have KW3 := Lib.hid (KW.out.trans k3)
      obtain ⟨fi, hfi⟩ : ∃ fi, fi = findI l m := ⟨_, rfl⟩
      obtain ⟨tb, htb⟩ : ∃ tb, tb = decide (∃ y ∈ l, y.n = m) := ⟨_, rfl⟩
      rw [← hfi, ← htb]
      have HFI := Lib.hid hfi
      have HTB := Lib.hid htb
      clear hfi htb k3 HW KW CF
      go_wp2_with fail
      go_loopw [19] (fun i wr => ∃ k : Nat, k ≤ l.length ∧ i = .int .i64 k ∧ Hid (∀ j (hj : j < l.length), j < k → (l[j]).n ≠ m) ∧ wr = w3) (fun i _ => l.length - (intOf i).toNat)
      case atStart => exact ⟨0, Nat.zero_le _, rfl, Lib.hid (fun j _ h => absurd h (by omega)), rfl⟩
      case round =>
        obtain ⟨k, hk, rfl, hrel, rfl⟩ := hrel
        by_cases hkl : k < l.length
        · obtain ⟨a1, c1, e1, y0, y1⟩ := EsIs.at HW3.out hkl
          injection e1 with e1 _ e2
          subst e1 e2
          have i2 : (0 : Int) ≤ (k : Int) := by omega
          have i3 : (k : Int) < (l.length : Int) := by omega
          by_cases hen : l[k].n = m
          · obtain ⟨f1, f2⟩ := find_at GR.out hkl hen
            have g1 : tb = true := by rw [HTB.out]; exact decide_eq_true f1
            have g2 : fi = l[k].i := by rw [HFI.out]; exact f2
            rw [hen] at y0
            rw [← g2] at y1
            subst g1
            clear hen hrel HTB HFI g2 f1 f2
            go_wp2
            go_ret
            exact ⟨rfl, KW3.out⟩
          · have hB : ((strOf l[k].n).toList == (strOf m).toList) = false := by
              rw [strOf_list, strOf_list]
              simpa using hen
            have R : Hid (∀ j (hj : j < l.length), j < k + 1 → (l[j]).n ≠ m) := Lib.hid (fun j hj h1 => by
              rcases Nat.lt_or_eq_of_le (Nat.le_of_lt_succ h1) with h2 | h2
              · exact hrel.out j hj h2
              · subst h2
                exact hen)
            obtain ⟨y, hy⟩ : ∃ y, y = l[k] := ⟨_, rfl⟩
            rw [← hy] at y0 y1 hB
            clear hy hen hrel
            go_wp2
            go_roundw
            case rel => exact ⟨k + 1, by omega, by go_num, R, trivial⟩
            case measure => simp [intOf]; omega
        · have hno : ¬ ∃ y ∈ l, y.n = m := by
            rintro ⟨y, hy, e⟩
            obtain ⟨j, hj, rfl⟩ := List.mem_iff_getElem.1 hy
            exact hrel.out j hj (by omega) e
          have g1 : tb = false := by rw [HTB.out]; exact decide_eq_false hno
          have g2 : fi = 0 := by rw [HFI.out]; exact find_none hno
          subst g1 g2
          clear hno hrel HTB HFI
          go_wp2
          go_ret
          exact ⟨rfl, KW3.out⟩
end Go.Proofs.YtkhgaolaaiekjaaDoor
