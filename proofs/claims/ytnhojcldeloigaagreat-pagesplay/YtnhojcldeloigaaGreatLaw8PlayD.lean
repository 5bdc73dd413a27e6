/-
  PagesPlay: the walk.
-/
import Derived.Test.YtnhojcldeloigaaGreatPackPlay
namespace Go.Proofs.YtnhojcldeloigaaGreat
open Go.RowKit Go.Lib Go.Maps
set_option maxRecDepth 100000
set_option maxHeartbeats 16000000 in
/-- The way into a play: the first book, the first rows. (Up to the loop of the acts.) -/
theorem play_first (n : Nat) (hn : n < 256) (A : Option Addr) (c : Nat) (xs : List A8) (w : World) (hA : ActsAt8 w A xs) (hf : fewOk xs) :
    Calls Tryz.prog 3 #[.int .u8 (n : Int), .slice A xs.length c] w fun e w' => e = .returned (.bool true) ∧ Below w.heap.size w w' := by
  have CK := Lib.hid (known8_any w)
  obtain ⟨i0, hi0, hz0, hz1, hz2⟩ := info_parts Tryz.infoStr
  obtain ⟨k, hkk⟩ : ∃ k, k = 1 + n % 6 := ⟨_, rfl⟩
  have k1 : 1 ≤ k := by omega
  have k8 : k ≤ 8 := by omega
  have ek : (1 : Int) + (n : Int) % 6 = (k : Int) := by omega
  have CF : Hid (∀ w1, Below w.heap.size w w1 → Calls Tryz.prog 8 #[.slice A xs.length c] w1 fun e w' => e = .returned (.bool true) ∧ ∃ m, w' = w1.drewN m) := fun w1 b1 => (few8_any A c xs w1 (hA.only b1)).mono fun e w' hh => by
    obtain ⟨⟨b, rfl, hb⟩, m, rfl⟩ := hh
    exact ⟨by rw [hb.2 hf], m, rfl⟩
  have C1 := Lib.hid (play_new w k k1 k8)
  have C2 := Lib.hid (play_format w k k1 k8)
  have en : ((3 * k + 16 : Nat) : Int) = 3 * (k : Int) + 16 := by omega
  have en2 : ((3 * k + 20 : Nat) : Int) = 3 * (k : Int) + 16 + 4 := by omega
  rw [en2] at C1
  rw [en] at C2
  have HA := Lib.hid hA
  have HF := Lib.hid hf
  clear hkk hA hf
  go_enter Tryz.func3, Tryz.ntmps3
  go_wp2_with fail
  refine CK.out.mono ?_
  rintro e w1 ⟨rfl, b1⟩
  have D0 := Lib.hid (CF.out w1 b1)
  have B1 := Lib.hid b1
  clear b1 CF CK
  go_wp2_with fail
  refine D0.out.mono ?_
  rintro e w1' ⟨rfl, m, rfl⟩
  have D1 := Lib.hid (C1.out (w1.drewN m) (Below.drewN B1.out m))
  clear C1 D0
  go_wp2_with fail
  refine D1.out.mono ?_
  rintro e w2 ⟨gd, rfl, lv2⟩
  have D2 := Lib.hid (C2.out gd w2 lv2)
  clear lv2 C2 D1
  go_wp2_with fail
  refine D2.out.mono ?_
  rintro e w3 ⟨gb, s0, rfl, pb3⟩
  have J0 : Hid (PRow w gd gb k 900000 s0 noCh (fun _ => zpage 64) (.slice none 0 0) (List.replicate 0 z48) w3) := ⟨pb3.more (Only.refl _ _) (fun i hi => by cases hi), World.ownsRow_nil _ _ _ _⟩
  clear pb3 D2
  go_wp2_with fail
  go_loopw [11, 12] (fun u11 u12 wr => ∃ (j : Nat) (v : Value), j ≤ k ∧ v = u11 ∧ u12 = .int .i64 j ∧ Hid (PRow w gd gb k 900000 s0 noCh (fun _ => zpage 64) v (List.replicate j z48) wr)) (fun _ u _ => k - (RowKit.intOf u).toNat)
  case atStart => exact ⟨0, _, Nat.zero_le _, rfl, rfl, J0⟩
  case round =>
    obtain ⟨j, v, hj, rfl, rfl, hrel⟩ := hrel
    clear J0
    by_cases hjk : j < k
    · have q1 : (j : Int) < (k : Int) := by omega
      have HR := hrel
      have hrow := hrel.out.row
      obtain ⟨w4, hmk, o4, k4, s4⟩ := make_bytes 48 (by omega) wr
      have hmk : (Instr.makeSlice 33 (.int .i64 48) (.int .i64 48)).run Tryz.prog wr = .ok (.slice (some ⟨wr.heap.size, 0, none⟩) 48 48) w4 := hmk
      have hst : (convert 33 9 (.slice (some ⟨wr.heap.size, 0, none⟩) 48 48)).run Tryz.prog w4 = .ok (.string (strOf z48)) w4 := run_str _ _ _ _ _ (owns_SlIs (bs := z48) o4)
      have k5 : Only (fun _ => False) wr (w4.alloc (.cells #[.string (strOf z48)] 9)) := k4.alloc _
      have o5 := Lib.hid (owns_only hrow k5 (fun _ _ h => h))
      have hbw := HR.out.bk.low.size
      have K5 := Lib.hid k5
      have hs5 := k5.size
      have OL := Lib.hid (List.length_replicate (n := j) (a := z48))
      clear hrow o4 k4 k5 hrel
      go_wp2_with (at_builtin; go_must (refine wpList_append_vals _ rfl (.tmp 67) (.tmp 70) 32 rfl w.heap.size 9 i0 _ 16 Tryz.underlying32 hi0 hz0 hz1 hz2 rfl _ (svs (List.replicate j z48)) [.string (strOf z48)] rfl (by rw [show (svs (List.replicate j z48)).length = (List.replicate j z48).length by simp [svs]]; exact o5.out) _ rfl (VsIs.one _ _ _) (by simp [Value.oneCell']) (by simp [svs]; omega) (by simp [svs, maxLen]; omega) (by omega) ?_))
      intro v6 w6 o6 g6 h6
      rw [svs_snoc, ← List.replicate_succ'] at o6
      have J0 : Hid (PRow w gd gb k 900000 s0 noCh (fun _ => zpage 64) v6 (List.replicate (j + 1) z48) w6) := HR.out.grown K5.out (by simpa [svs] using o6) g6 (by simpa using h6)
      clear o6 g6 h6 HR o5 K5 hmk hst
      go_wp2
      go_roundw
      case rel => exact ⟨j + 1, _, by omega, rfl, by go_num, J0⟩
      case measure => simp [RowKit.intOf]; omega
    · have hje : j = k := by omega
      have q1 : decide ((j : Int) < (k : Int)) = false := decide_eq_false (by omega)
      obtain ⟨w5, hmk, o5, k5⟩ := make_bools k (by omega) wr
      have hsw := k5.size
      have hbw := hrel.out.bk.low.size
      have J1 : Hid (PAll w gd gb k (900000 - 1100 * 0) s0 noCh (fun _ => zpage 64) v v (.slice (some ⟨wr.heap.size, 0, none⟩) k k) (List.replicate k z48) (List.replicate k z48) (List.replicate k false) w5) := by
        have hr := hrel.out
        rw [hje] at hr
        have h1 := owns_only hr.row k5 (fun _ _ h => h)
        rw [List.length_replicate] at h1
        refine ⟨hr.bk.more k5 (fun i hi => ?_), h1, h1, owns_base o5 hbw, by simp, by simp, by simp, fun p h => by simp [z48, zpage], fun p h => by simp [z48, zpage, nowP, noCh]⟩
        rcases hi with hi | hi | hi
        · exact ⟨.inl hi, (h1.lt i hi).2⟩
        · exact ⟨.inl hi, (h1.lt i hi).2⟩
        · exact ⟨.inr (o5.lt i hi).1, (o5.lt i hi).2⟩
      clear hrel o5 k5 hje
      go_wp2_with fail
      go_loopw [9, 11, 13, 14, 15] (fun u9 u11 u13 u14 u15 wr => ∃ (gb q : Nat) (s : D) (ch : Nat → Option (List UInt8)) (P : Nat → List UInt8) (vk vn vc : Value) (Lk Ln : List (List UInt8)) (C : List Bool), q ≤ xs.length ∧ u9 = .pointer (some ⟨gb, 0, none⟩) ∧ vk = u11 ∧ vn = u13 ∧ vc = u14 ∧ u15 = .int .i64 q ∧ Hid (PAll w gd gb k (900000 - 1100 * q) s ch P vk vn vc Lk Ln C wr)) (fun _ _ _ _ u _ => xs.length - (RowKit.intOf u).toNat)
      case atStart => exact ⟨gb, 0, s0, noCh, _, _, _, _, _, _, _, Nat.zero_le _, rfl, rfl, rfl, rfl, rfl, J1⟩
      case round =>
        obtain ⟨gb, q, s, ch, P, vk, vn, vc, Lk, Ln, C, hq, rfl, rfl, rfl, rfl, rfl, hrel⟩ := hrel
        clear J1
        by_cases hlt : q < xs.length
        · obtain ⟨ad, rfl, hadl, hact⟩ := HA.out (by omega)
          have ha := hact q hlt
          have hkl := HF.out.2 q hlt
          have hxl := HF.out.1
          generalize xs[q] = a at ha hkl
          obtain ⟨op, page, an, va, Ak, ck, keep⟩ := a
          have hI := hrel.out
          have low := hI.bk.low
          have hpb : (ad.add (q * 5)).block < w.heap.size := by rw [addr_block]; exact hadl
          have a0 := (World.cell?_of_block (low.block _ hpb) (a := ad.add (q * 5))).trans ha.c0
          have a1 := (World.cell?_of_block (low.block _ hpb) (a := ⟨(ad.add (q * 5)).block, (ad.add (q * 5)).off + 1, none⟩)).trans ha.c1
          have a2 := (World.cell?_of_block (low.block _ hpb) (a := ⟨(ad.add (q * 5)).block, (ad.add (q * 5)).off + 2, none⟩)).trans ha.c2
          have a3 := (World.cell?_of_block (low.block _ hpb) (a := ⟨(ad.add (q * 5)).block, (ad.add (q * 5)).off + 3, none⟩)).trans ha.c3
          have a4 := (World.cell?_of_block (low.block _ hpb) (a := ⟨(ad.add (q * 5)).block, (ad.add (q * 5)).off + 4, none⟩)).trans ha.c4
          simp only at a0 a1 a2 a3 a4
          obtain ⟨qc, cc, rfl, _, _⟩ := owns_some hI.chg k1
          obtain ⟨W, hW⟩ : ∃ W, W = wr.alloc (.cells #[.int .i64 op, .int .i64 page, .int .i64 an, .int .u16 (va : Int), .slice Ak keep.length ck] 37) := ⟨_, rfl⟩
          have M0 : PMid w gd gb k (900000 - 1100 * q) s ch P vk vn (.slice (some ⟨qc, 0, none⟩) k cc) Lk Ln C wr.heap.size #[.int .i64 op, .int .i64 page, .int .i64 an, .int .u16 (va : Int), .slice Ak keep.length ck] W := by rw [hW]; exact hI.mid _
          obtain ⟨x0, x1, x2, x3, x4⟩ := M0.rows.cells
          have HKX : Hid (RwIs w (fun i => i < w.heap.size) keep.length (.slice Ak keep.length ck) (bvs keep)) := ha.hk
          have HPK := Lib.hid hI.pk
          have HPN := Lib.hid hI.pn
          have han : an ≤ 9223372036854775807 := ha.hn
          have hkl : keep.length ≤ 100 := hkl
          have HM := Lib.hid M0
          have HW := Lib.hid hW
          have HQ : Hid ((900000 - 1100 * (q + 1)) + 1100 ≤ 900000 - 1100 * q) := by show _ ≤ _; omega
          have i0 : (0 : Int) ≤ (q : Int) := by omega
          have i1 : (q : Int) < (xs.length : Int) := by omega
          clear ha hact hI low hpb M0 hW hrel hadl
          go_upto_region 22 with fail
          rw [← HW.out]
          clear HW a0 a1 a2 a3 a4
          by_cases e1 : op = 1
          · subst e1
            by_cases hp1 : page < 0
            · have hbad : ¬ (0 ≤ page ∧ page < (k : Int)) := by omega
              as_aux_lemma =>
                have CP := Lib.hid (page8_any va W)
                go_wp2_with fail
                refine CP.out.mono ?_
                rintro e w6 ⟨rfl, b6⟩
                have M6 := HM.out.below b6
                obtain ⟨A7, c7, w7, hcv, sl7, b7⟩ := str_bytes (pageB va) w6 (by rw [pageB_len]; decide)
                obtain ⟨_, y1, _, _, _⟩ := M6.rows.cells
                have CW := mid_write_bad w w7 _ _ _ _ _ _ _ _ _ _ _ _ _ _ _ (M6.below b7) page hbad _ _ _ _ sl7 (Nat.le_refl _) (pageB_len _)
                rw [pageB_len] at hcv CW
                have CW := Lib.hid CW
                clear sl7 b7 M6 b6 CP HM hbad x0 x1 x2 x3 x4
                go_wp2_with fail
                refine CW.out.mono ?_
                rintro e w8 ⟨rfl, M8⟩
                have J : Hid (PAll w gd gb k (900000 - 1100 * (q + 1)) s ch P vk vn (.slice (some ⟨qc, 0, none⟩) k cc) Lk Ln C w8) := M8.all (by omega) HPK.out HPN.out
                clear M8 CW hcv y1 HPK HPN
                have CO := Lib.hid (play_off w _ _ gd gb k _ s ch P J.out.bk)
                go_wp2_with fail
                refine CO.out.mono ?_
                rintro e wy ⟨rfl, rfl⟩
                have CS := Lib.hid (row_shows w _ gd gb k _ s ch P vn Ln J.out.bk J.out.now J.out.ln k1)
                clear CO
                go_wp2_with fail
                refine CS.out.mono ?_
                rintro e wz ⟨⟨bz, rfl, hbz⟩, oz⟩
                have hbt : bz = true := hbz.2 (fun p h _ => J.out.pn p h)
                subst hbt
                have J2 := Lib.hid (J.out.below oz)
                clear CS J oz hbz
                go_wp2
                go_roundw
                case rel => exact ⟨gb, q + 1, s, ch, P, vk, vn, (.slice (some ⟨qc, 0, none⟩) k cc), Lk, Ln, C, by omega, rfl, rfl, rfl, rfl, by go_num, J2⟩
                case measure => simp [RowKit.intOf]; omega
            · by_cases hp2 : (k : Int) ≤ page
              · have hbad : ¬ (0 ≤ page ∧ page < (k : Int)) := by omega
                have p1 : decide (page < 0) = false := decide_eq_false hp1
                as_aux_lemma =>
                  have CP := Lib.hid (page8_any va W)
                  go_wp2_with fail
                  refine CP.out.mono ?_
                  rintro e w6 ⟨rfl, b6⟩
                  have M6 := HM.out.below b6
                  obtain ⟨A7, c7, w7, hcv, sl7, b7⟩ := str_bytes (pageB va) w6 (by rw [pageB_len]; decide)
                  obtain ⟨_, y1, _, _, _⟩ := M6.rows.cells
                  have CW := mid_write_bad w w7 _ _ _ _ _ _ _ _ _ _ _ _ _ _ _ (M6.below b7) page hbad _ _ _ _ sl7 (Nat.le_refl _) (pageB_len _)
                  rw [pageB_len] at hcv CW
                  have CW := Lib.hid CW
                  clear sl7 b7 M6 b6 CP HM hbad x0 x1 x2 x3 x4
                  go_wp2_with fail
                  refine CW.out.mono ?_
                  rintro e w8 ⟨rfl, M8⟩
                  have J : Hid (PAll w gd gb k (900000 - 1100 * (q + 1)) s ch P vk vn (.slice (some ⟨qc, 0, none⟩) k cc) Lk Ln C w8) := M8.all (by omega) HPK.out HPN.out
                  clear M8 CW hcv y1 HPK HPN
                  have CO := Lib.hid (play_off w _ _ gd gb k _ s ch P J.out.bk)
                  go_wp2_with fail
                  refine CO.out.mono ?_
                  rintro e wy ⟨rfl, rfl⟩
                  have CS := Lib.hid (row_shows w _ gd gb k _ s ch P vn Ln J.out.bk J.out.now J.out.ln k1)
                  clear CO
                  go_wp2_with fail
                  refine CS.out.mono ?_
                  rintro e wz ⟨⟨bz, rfl, hbz⟩, oz⟩
                  have hbt : bz = true := hbz.2 (fun p h _ => J.out.pn p h)
                  subst hbt
                  have J2 := Lib.hid (J.out.below oz)
                  clear CS J oz hbz
                  go_wp2
                  go_roundw
                  case rel => exact ⟨gb, q + 1, s, ch, P, vk, vn, (.slice (some ⟨qc, 0, none⟩) k cc), Lk, Ln, C, by omega, rfl, rfl, rfl, rfl, by go_num, J2⟩
                  case measure => simp [RowKit.intOf]; omega
              · as_aux_lemma =>
                  obtain ⟨p, rfl⟩ : ∃ p : Nat, page = (p : Int) := ⟨page.toNat, by omega⟩
                  have hpk : p < k := by omega
                  have p1 : decide ((p : Int) < 0) = false := decide_eq_false (by omega)
                  have p2 : decide ((k : Int) ≤ (p : Int)) = false := decide_eq_false (by omega)
                  have p3 : (0 : Int) ≤ (p : Int) := by omega
                  have p4 : (p : Int) < (k : Int) := by omega
                  have CP := Lib.hid (page8_any va W)
                  clear hp1 hp2
                  go_wp2_with fail
                  refine CP.out.mono ?_
                  rintro e w6 ⟨rfl, b6⟩
                  have M6 := HM.out.below b6
                  obtain ⟨A7, c7, w7, hcv, sl7, b7⟩ := str_bytes (pageB va) w6 (by rw [pageB_len]; decide)
                  obtain ⟨_, y1, _, _, _⟩ := M6.rows.cells
                  have CW := mid_write w w7 _ _ _ _ _ _ _ _ _ _ _ _ _ _ _ (M6.below b7) p hpk _ _ _ _ sl7 (Nat.le_refl _) (pageB_len _)
                  rw [pageB_len] at hcv CW
                  have CW := Lib.hid CW
                  clear sl7 b7 M6 b6 CP HM x0 x1 x2 x3 x4
                  go_wp2_with fail
                  refine CW.out.mono ?_
                  rintro e w8 ⟨rfl, M8⟩
                  obtain ⟨_, z1, _, _, _⟩ := M8.rows.cells
                  have CX := Lib.hid (row_with w w8 k vn Ln M8.rows.now M8.rows.ln p hpk k8 (pageB va))
                  have HM8 := Lib.hid M8
                  clear M8 CW hcv y1
                  go_wp2_with fail
                  refine CX.out.mono ?_
                  rintro e w9 ⟨v2, rfl, r9, b9⟩
                  have M9 := HM8.out.now b9 r9 (by rw [List.length_set]; exact HM8.out.rows.ln)
                  obtain ⟨_, u1, _, _, _⟩ := M9.rows.cells
                  have hf9 := World.ownsRow.frozenAt M9.rows.chg p
                  have hc9 := World.ownsRow.cellAt M9.rows.chg p (by omega)
                  have hlc := M9.rows.lc
                  rw [show (bvs C)[p]? = some (.bool C[p]) by simp [bvs, hlc, hpk]] at hc9
                  generalize C[p] = cp at hc9
                  have J : Hid (PAll w gd gb k (900000 - 1100 * (q + 1)) s (updCh ch p (pageB va)) P vk v2 (.slice (some ⟨qc, 0, none⟩) k cc) Lk (Ln.set p (pageB va)) (C.set p true) (w9.setCell ⟨qc, p, none⟩ (.bool true))) := (M9.set p).all (by omega) HPK.out (nowP_set HPN.out)
                  clear M9 CX HM8 z1 r9 b9 HPK HPN
                  go_upto_region 67 with fail
                  generalize w9.setCell ⟨qc, p, none⟩ (.bool true) = wx at J ⊢
                  clear hc9 hf9 hlc u1
                  have CO := Lib.hid (play_off w _ _ gd gb k _ s (updCh ch p (pageB va)) P J.out.bk)
                  go_wp2_with fail
                  refine CO.out.mono ?_
                  rintro e wy ⟨rfl, rfl⟩
                  have CS := Lib.hid (row_shows w _ gd gb k _ s (updCh ch p (pageB va)) P v2 (Ln.set p (pageB va)) J.out.bk J.out.now J.out.ln k1)
                  clear CO
                  go_wp2_with fail
                  refine CS.out.mono ?_
                  rintro e wz ⟨⟨bz, rfl, hbz⟩, oz⟩
                  have hbt : bz = true := hbz.2 (fun p h _ => J.out.pn p h)
                  subst hbt
                  have J2 := Lib.hid (J.out.below oz)
                  clear CS J oz hbz
                  go_wp2
                  go_roundw
                  case rel => exact ⟨gb, q + 1, s, (updCh ch p (pageB va)), P, vk, v2, (.slice (some ⟨qc, 0, none⟩) k cc), Lk, (Ln.set p (pageB va)), (C.set p true), by omega, rfl, rfl, rfl, rfl, by go_num, J2⟩
                  case measure => simp [RowKit.intOf]; omega
          · have f1 : (op == 1) = false := beq_eq_false_iff_ne.2 e1
            by_cases e2 : op = 2
            · subst e2
              as_aux_lemma =>
                have CC := Lib.hid (mid_commit w W gd gb k (900000 - 1100 * (q + 1)) s ch P vk vn (.slice (some ⟨qc, 0, none⟩) k cc) Lk Ln C _ _ (HM.out.less HQ.out))
                clear HM x1 x2 x3 x4
                go_wp2_with fail
                refine CC.out.mono ?_
                rintro e w6 (⟨s2, rfl, M6⟩ | ⟨s2, rfl, M6⟩)
                · obtain ⟨w7, hmk, o7, k7⟩ := make_bools k (by omega) w6
                  have J : Hid (PAll w gd gb k (900000 - 1100 * (q + 1)) s2 noCh (nowP ch P) vn vn (.slice (some ⟨w6.heap.size, 0, none⟩) k k) Ln Ln (List.replicate k false) w7) := (M6.keep.marks k7 o7 (by simp)).all (by omega) HPN.out HPN.out
                  clear M6 CC o7 k7 HPK HPN
                  have CO := Lib.hid (play_off w _ _ gd gb k _ s2 noCh (nowP ch P) J.out.bk)
                  go_wp2_with fail
                  refine CO.out.mono ?_
                  rintro e wy ⟨rfl, rfl⟩
                  have CS := Lib.hid (row_shows w _ gd gb k _ s2 noCh (nowP ch P) vn Ln J.out.bk J.out.now J.out.ln k1)
                  clear CO
                  go_wp2_with fail
                  refine CS.out.mono ?_
                  rintro e wz ⟨⟨bz, rfl, hbz⟩, oz⟩
                  have hbt : bz = true := hbz.2 (fun p h _ => J.out.pn p h)
                  subst hbt
                  have J2 := Lib.hid (J.out.below oz)
                  clear CS J oz hbz
                  go_wp2
                  go_roundw
                  case rel => exact ⟨gb, q + 1, s2, noCh, (nowP ch P), vn, vn, (.slice (some ⟨w6.heap.size, 0, none⟩) k k), Ln, Ln, (List.replicate k false), by omega, rfl, rfl, rfl, rfl, by go_num, J2⟩
                  case measure => simp [RowKit.intOf]; omega
                · have HD := Lib.hid M6
                  clear M6 CC
                  have CO := Lib.hid (play_down w _ _ gd gb k _ _ _ HD.out.dn)
                  go_wp2_with fail
                  refine CO.out.mono ?_
                  rintro e wy ⟨rfl, rfl⟩
                  obtain ⟨_, _, _, _, y4⟩ := HD.out.rows.cells
                  have CX := Lib.hid (mid_again w _ _ _ _ _ _ _ _ _ _ _ _ _ _ _ HD.out keep _ HKX.out)
                  clear CO HD
                  go_wp2_with fail
                  refine CX.out.mono ?_
                  rintro e w10 ⟨rfl, M10⟩
                  have CN := Lib.hid (mid_on w w10 _ _ _ _ _ _ _ _ _ _ _ _ _ _ M10)
                  clear CX M10 y4
                  go_wp2_with fail
                  refine CN.out.mono ?_
                  rintro e w11 ⟨rfl, M11⟩
                  obtain ⟨s4, hs4⟩ : ∃ s4 : D, s4 = { D.cut s2 keep with off := false } := ⟨_, rfl⟩
                  rw [← hs4] at M11
                  have CQ := mid_open w w11 _ _ _ _ _ _ _ _ _ _ _ _ _ M11
                  rw [en] at CQ
                  have CQ := Lib.hid CQ
                  clear M11 CN hs4
                  go_wp2_with fail
                  refine CQ.out.mono ?_
                  rintro e w12 ⟨gb2, rfl, M12⟩
                  have HM12 := Lib.hid M12
                  clear M12 CQ
                  have CS := Lib.hid (row_shows w w12 gd gb2 k _ s4 noCh P vn Ln HM12.out.bk HM12.out.rows.now HM12.out.rows.ln k1)
                  go_wp2_with fail
                  refine CS.out.mono ?_
                  rintro e w13 ⟨⟨bs, rfl, hbs⟩, o13⟩
                  have HB13 := Lib.hid o13
                  have HBS := Lib.hid hbs
                  have hlnk := HM12.out.rows.ln
                  have HLNK := Lib.hid hlnk
                  clear CS o13 hbs hlnk
                  cases bs with
                  | true =>
                    have HPK2 : Hid (∀ p (h : p < Ln.length), Ln[p] = P p) := fun p h => (HBS.out.1 rfl) p h (by rw [← HLNK.out]; exact h)
                    have M13 := (HM12.out.below HB13.out).keep
                    obtain ⟨w14, hmk, o14, k14⟩ := make_bools k (by omega) w13
                    have M14 := (M13.back).marks k14 o14 (by simp)
                    have J : Hid (PAll w gd gb2 k (900000 - 1100 * (q + 1)) s4 noCh P vn vn (.slice (some ⟨w13.heap.size, 0, none⟩) k k) Ln Ln (List.replicate k false) w14) := M14.all (by omega) HPK2.out HPK2.out
                    clear M13 M14 o14 k14 HPK HPN
                    have CS := Lib.hid (row_shows w _ gd gb2 k _ s4 noCh P vn Ln J.out.bk J.out.now J.out.ln k1)
                    go_wp2_with fail
                    refine CS.out.mono ?_
                    rintro e wz ⟨⟨bz, rfl, hbz⟩, oz⟩
                    have hbt : bz = true := hbz.2 (fun p h _ => J.out.pn p h)
                    subst hbt
                    have J2 := Lib.hid (J.out.below oz)
                    clear CS J oz hbz
                    go_wp2
                    go_roundw
                    case rel => exact ⟨gb2, q + 1, s4, noCh, P, vn, vn, _, Ln, Ln, _, by omega, rfl, rfl, rfl, rfl, by go_num, J2⟩
                    case measure => simp [RowKit.intOf]; omega
                  | false =>
                    have M13 := HM12.out.below HB13.out
                    obtain ⟨w14, hmk, o14, k14⟩ := make_bools k (by omega) w13
                    have M14 := (M13.back).marks k14 o14 (by simp)
                    have J : Hid (PAll w gd gb2 k (900000 - 1100 * (q + 1)) s4 noCh P vk vk (.slice (some ⟨w13.heap.size, 0, none⟩) k k) Lk Lk (List.replicate k false) w14) := M14.all (by omega) HPK.out HPK.out
                    clear M13 M14 o14 k14 HPK HPN
                    have CS := Lib.hid (row_shows w _ gd gb2 k _ s4 noCh P vk Lk J.out.bk J.out.now J.out.ln k1)
                    go_wp2_with fail
                    refine CS.out.mono ?_
                    rintro e wz ⟨⟨bz, rfl, hbz⟩, oz⟩
                    have hbt : bz = true := hbz.2 (fun p h _ => J.out.pn p h)
                    subst hbt
                    have J2 := Lib.hid (J.out.below oz)
                    clear CS J oz hbz
                    go_wp2
                    go_roundw
                    case rel => exact ⟨gb2, q + 1, s4, noCh, P, vk, vk, _, Lk, Lk, _, by omega, rfl, rfl, rfl, rfl, by go_num, J2⟩
                    case measure => simp [RowKit.intOf]; omega
            · have f2 : (op == 2) = false := beq_eq_false_iff_ne.2 e2
              by_cases e3 : op = 3
              · subst e3
                as_aux_lemma =>
                  have CA := Lib.hid (mid_abort w W _ _ _ _ _ _ _ _ _ _ _ _ _ _ _ HM.out)
                  clear HM x1 x2 x3 x4
                  go_wp2_with fail
                  refine CA.out.mono ?_
                  rintro e w6 ⟨rfl, M6⟩
                  have CO := Lib.hid (play_off w w6 _ gd gb k _ _ _ _ M6.bk)
                  have HM6 := Lib.hid M6
                  clear M6 CA
                  go_wp2_with fail
                  refine CO.out.mono ?_
                  rintro e w6' ⟨rfl, rfl⟩
                  obtain ⟨w7, hmk, o7, k7⟩ := make_bools k (by omega) w6'
                  have J : Hid (PAll w gd gb k (900000 - 1100 * (q + 1)) s noCh P vk vk (.slice (some ⟨w6'.heap.size, 0, none⟩) k k) Lk Lk (List.replicate k false) w7) := (HM6.out.back.marks k7 o7 (by simp)).all (by omega) HPK.out HPK.out
                  clear HM6 CO o7 k7 HPK HPN
                  have CO := Lib.hid (play_off w _ _ gd gb k _ s noCh P J.out.bk)
                  go_wp2_with fail
                  refine CO.out.mono ?_
                  rintro e wy ⟨rfl, rfl⟩
                  have CS := Lib.hid (row_shows w _ gd gb k _ s noCh P vk Lk J.out.bk J.out.now J.out.ln k1)
                  clear CO
                  go_wp2_with fail
                  refine CS.out.mono ?_
                  rintro e wz ⟨⟨bz, rfl, hbz⟩, oz⟩
                  have hbt : bz = true := hbz.2 (fun p h _ => J.out.pn p h)
                  subst hbt
                  have J2 := Lib.hid (J.out.below oz)
                  clear CS J oz hbz
                  go_wp2
                  go_roundw
                  case rel => exact ⟨gb, q + 1, s, noCh, P, vk, vk, (.slice (some ⟨w6'.heap.size, 0, none⟩) k k), Lk, Lk, (List.replicate k false), by omega, rfl, rfl, rfl, rfl, by go_num, J2⟩
                  case measure => simp [RowKit.intOf]; omega
              · have f3 : (op == 3) = false := beq_eq_false_iff_ne.2 e3
                by_cases e4 : op = 4
                · subst e4
                  as_aux_lemma =>
                    have CU := Lib.hid (mid_cut w W _ _ _ _ _ _ _ _ _ _ _ _ _ _ _ (HM.out.less (m := (900000 - 1100 * (q + 1))) (by omega)) keep _ HKX.out)
                    clear HM
                    go_wp2_with fail
                    refine CU.out.mono ?_
                    rintro e w6 ⟨rfl, M6⟩
                    have HD := Lib.hid M6
                    clear M6 CU x1 x2 x3 x4 HPN
                    have CO := Lib.hid (play_down w _ _ gd gb k _ _ _ HD.out.dn)
                    go_wp2_with fail
                    refine CO.out.mono ?_
                    rintro e wy ⟨rfl, rfl⟩
                    obtain ⟨_, _, _, _, y4⟩ := HD.out.rows.cells
                    have CX := Lib.hid (mid_again w _ _ _ _ _ _ _ _ _ _ _ _ _ _ _ HD.out keep _ HKX.out)
                    clear CO HD
                    go_wp2_with fail
                    refine CX.out.mono ?_
                    rintro e w10 ⟨rfl, M10⟩
                    have CN := Lib.hid (mid_on w w10 _ _ _ _ _ _ _ _ _ _ _ _ _ _ M10)
                    clear CX M10 y4
                    go_wp2_with fail
                    refine CN.out.mono ?_
                    rintro e w11 ⟨rfl, M11⟩
                    obtain ⟨s4, hs4⟩ : ∃ s4 : D, s4 = { D.cut (D.cut s keep) keep with off := false } := ⟨_, rfl⟩
                    rw [← hs4] at M11
                    have CQ := mid_open w w11 _ _ _ _ _ _ _ _ _ _ _ _ _ M11
                    rw [en] at CQ
                    have CQ := Lib.hid CQ
                    clear M11 CN hs4
                    go_wp2_with fail
                    refine CQ.out.mono ?_
                    rintro e w12 ⟨gb2, rfl, M12⟩
                    have HM12 := Lib.hid M12
                    clear M12 CQ
                    have M13 := HM12.out
                    obtain ⟨w14, hmk, o14, k14⟩ := make_bools k (by omega) w12
                    have M14 := (M13.back).marks k14 o14 (by simp)
                    have J : Hid (PAll w gd gb2 k (900000 - 1100 * (q + 1)) s4 noCh P vk vk (.slice (some ⟨w12.heap.size, 0, none⟩) k k) Lk Lk (List.replicate k false) w14) := M14.all (by omega) HPK.out HPK.out
                    clear M13 M14 o14 k14 HPK
                    have CS := Lib.hid (row_shows w _ gd gb2 k _ s4 noCh P vk Lk J.out.bk J.out.now J.out.ln k1)
                    go_wp2_with fail
                    refine CS.out.mono ?_
                    rintro e wz ⟨⟨bz, rfl, hbz⟩, oz⟩
                    have hbt : bz = true := hbz.2 (fun p h _ => J.out.pn p h)
                    subst hbt
                    have J2 := Lib.hid (J.out.below oz)
                    clear CS J oz hbz
                    go_wp2
                    go_roundw
                    case rel => exact ⟨gb2, q + 1, s4, noCh, P, vk, vk, _, Lk, Lk, _, by omega, rfl, rfl, rfl, rfl, by go_num, J2⟩
                    case measure => simp [RowKit.intOf]; omega
                · have f4 : (op == 4) = false := beq_eq_false_iff_ne.2 e4
                  by_cases e5 : op = 5
                  · subst e5
                    as_aux_lemma =>
                      have CA := Lib.hid (mid_arm w W _ _ _ _ _ _ _ _ _ _ _ _ _ _ _ HM.out an han keep _ HKX.out hkl)
                      clear HM
                      go_wp2_with fail
                      refine CA.out.mono ?_
                      rintro e w6 ⟨rfl, M6⟩
                      have J : Hid (PAll w gd gb k (900000 - 1100 * (q + 1)) (s.arm an keep) ch P vk vn (.slice (some ⟨qc, 0, none⟩) k cc) Lk Ln C w6) := M6.all (by omega) HPK.out HPN.out
                      clear M6 CA x1 x2 x3 x4 HPK HPN
                      have CO := Lib.hid (play_off w _ _ gd gb k _ (D.arm s an keep) ch P J.out.bk)
                      go_wp2_with fail
                      refine CO.out.mono ?_
                      rintro e wy ⟨rfl, rfl⟩
                      have CS := Lib.hid (row_shows w _ gd gb k _ (D.arm s an keep) ch P vn Ln J.out.bk J.out.now J.out.ln k1)
                      clear CO
                      go_wp2_with fail
                      refine CS.out.mono ?_
                      rintro e wz ⟨⟨bz, rfl, hbz⟩, oz⟩
                      have hbt : bz = true := hbz.2 (fun p h _ => J.out.pn p h)
                      subst hbt
                      have J2 := Lib.hid (J.out.below oz)
                      clear CS J oz hbz
                      go_wp2
                      go_roundw
                      case rel => exact ⟨gb, q + 1, (D.arm s an keep), ch, P, vk, vn, (.slice (some ⟨qc, 0, none⟩) k cc), Lk, Ln, C, by omega, rfl, rfl, rfl, rfl, by go_num, J2⟩
                      case measure => simp [RowKit.intOf]; omega
                  · have f5 : (op == 5) = false := beq_eq_false_iff_ne.2 e5
                    as_aux_lemma =>
                      have J : Hid (PAll w gd gb k (900000 - 1100 * (q + 1)) s ch P vk vn (.slice (some ⟨qc, 0, none⟩) k cc) Lk Ln C W) := HM.out.all (by omega) HPK.out HPN.out
                      clear HM HPK HPN x1 x2 x3 x4
                      have CO := Lib.hid (play_off w _ _ gd gb k _ s ch P J.out.bk)
                      go_wp2_with fail
                      refine CO.out.mono ?_
                      rintro e wy ⟨rfl, rfl⟩
                      have CS := Lib.hid (row_shows w _ gd gb k _ s ch P vn Ln J.out.bk J.out.now J.out.ln k1)
                      clear CO
                      go_wp2_with fail
                      refine CS.out.mono ?_
                      rintro e wz ⟨⟨bz, rfl, hbz⟩, oz⟩
                      have hbt : bz = true := hbz.2 (fun p h _ => J.out.pn p h)
                      subst hbt
                      have J2 := Lib.hid (J.out.below oz)
                      clear CS J oz hbz
                      go_wp2
                      go_roundw
                      case rel => exact ⟨gb, q + 1, s, ch, P, vk, vn, (.slice (some ⟨qc, 0, none⟩) k cc), Lk, Ln, C, by omega, rfl, rfl, rfl, rfl, by go_num, J2⟩
                      case measure => simp [RowKit.intOf]; omega
        · have i1 : decide ((q : Int) < (xs.length : Int)) = false := decide_eq_false (by omega)
          have CB := Lib.hid (play_bytes w wr _ gd gb k _ s ch P hrel.out.bk)
          have LOW := Lib.hid hrel.out.bk.low
          clear hrel
          go_wp2_with fail
          refine CB.out.mono ?_
          rintro e w8 ⟨A8, c8, rfl, hz, b8⟩
          have HZ := Lib.hid hz
          have R8 := Lib.hid (LOW.out.trans (b8.mono LOW.out.size))
          clear hz b8 CB
          obtain ⟨N, hN⟩ : ∃ N, N = (3 * k + 20) * 64 := ⟨_, rfl⟩
          have hN2 : 256 ≤ N ∧ N ≤ 100000 := by omega
          rw [← hN] at HZ ⊢
          clear hN
          go_wp2_with fail
          go_loopw [30] (fun u wr => ∃ (j : Nat), j ≤ 128 ∧ u = .int .i64 j ∧ Hid (∃ m, wr = w8.drewN m)) (fun u _ => 128 - (RowKit.intOf u).toNat)
          case atStart => exact ⟨0, by decide, rfl, Lib.hid ⟨0, rfl⟩⟩
          case round =>
            obtain ⟨j, hj, rfl, hrel⟩ := hrel
            obtain ⟨m8, rfl⟩ := hrel.out
            by_cases hj8 : j < 128
            · obtain ⟨ad, rfl, z1, z2⟩ := HZ.out j hj8
              have z1 : ∀ n, ((w8.drewN m8).drewN n).cell? (ad.add j) = some (.int .u8 0) := fun _ => z1
              have z2 : ∀ n, ((w8.drewN m8).drewN n).cell? (ad.add (N - 1 - j)) = some (.int .u8 0) := fun _ => z2
              have q2 : (j : Int) < 128 := by omega
              have q3 : (256 : Int) ≤ (N : Int) := by omega
              have q4 : (0 : Int) ≤ (j : Int) := by omega
              have q5 : (j : Int) < (N : Int) := by omega
              have q6 : IntKind.i64.wrap (IntKind.i64.wrap ((N : Int) - 1) - (j : Int)) = ((N - 1 - j : Nat) : Int) := by
                rw [IntWalk.i64_in ((N : Int) - 1) (by omega), IntWalk.i64_in _ (by omega)]
                omega
              have q7 : ((N - 1 - j : Nat) : Int) < (N : Int) := by omega
              clear hrel
              go_wp2
              go_roundw
              case rel => exact ⟨j + 1, by omega, by go_num, Lib.hid ⟨_, rfl⟩⟩
              case measure => simp [RowKit.intOf]; omega
            · have q2 : decide ((j : Int) < 128) = false := decide_eq_false (by omega)
              have R9 := Lib.hid (Below.drewN R8.out m8)
              clear hrel
              go_wp2
              go_ret
              exact ⟨rfl, R9.out⟩
end Go.Proofs.YtnhojcldeloigaaGreat
