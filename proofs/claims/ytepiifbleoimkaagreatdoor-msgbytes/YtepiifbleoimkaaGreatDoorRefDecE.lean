/-
  The second reading's Decode.
-/
import Derived.Test.YtepiifbleoimkaaGreatDoorRefDecD
import Derived.Test.YtepiifbleoimkaaGreatDoorLaw5Known
namespace Go.Proofs.YtepiifbleoimkaaGreatDoor
open Go.RowKit
set_option maxRecDepth 100000

theorem rfill_any (H g t : Nat) (bs r : List UInt8) (tag : Nat) (w : World) (h : RV w H g bs r 0) (hb : bs.length ≤ 100000) (hl : r.length ≤ bs.length) (htag : tag < 65536) (ht : isType t) :
    Calls Tryz.prog 20 #[.pointer (some ⟨g, 0, none⟩), .agg (rzCells t tag)] w (fun e w' => ∃ cs', e = .returned (.agg cs') ∧ FillAns w H g t tag bs (tkL ((named t).map (·.1)) r) cs' w') := by
  rcases isType_cases ht with rfl | rfl | rfl | rfl | rfl | rfl | rfl | rfl | rfl | rfl | rfl | rfl | rfl | rfl | rfl | rfl | rfl | rfl | rfl | rfl | rfl | rfl | rfl | rfl | rfl | rfl | rfl
  · exact rfill_100 H g bs r tag w h hb hl htag
  · exact rfill_101 H g bs r tag w h hb hl htag
  · exact rfill_102 H g bs r tag w h hb hl htag
  · exact rfill_103 H g bs r tag w h hb hl htag
  · exact rfill_104 H g bs r tag w h hb hl htag
  · exact rfill_105 H g bs r tag w h hb hl htag
  · exact rfill_107 H g bs r tag w h hb hl htag
  · exact rfill_108 H g bs r tag w h hb hl htag
  · exact rfill_109 H g bs r tag w h hb hl htag
  · exact rfill_110 H g bs r tag w h hb hl htag
  · exact rfill_111 H g bs r tag w h hb hl htag
  · exact rfill_112 H g bs r tag w h hb hl htag
  · exact rfill_113 H g bs r tag w h hb hl htag
  · exact rfill_114 H g bs r tag w h hb hl htag
  · exact rfill_115 H g bs r tag w h hb hl htag
  · exact rfill_116 H g bs r tag w h hb hl htag
  · exact rfill_117 H g bs r tag w h hb hl htag
  · exact rfill_118 H g bs r tag w h hb hl htag
  · exact rfill_119 H g bs r tag w h hb hl htag
  · exact rfill_120 H g bs r tag w h hb hl htag
  · exact rfill_121 H g bs r tag w h hb hl htag
  · exact rfill_122 H g bs r tag w h hb hl htag
  · exact rfill_123 H g bs r tag w h hb hl htag
  · exact rfill_124 H g bs r tag w h hb hl htag
  · exact rfill_125 H g bs r tag w h hb hl htag
  · exact rfill_126 H g bs r tag w h hb hl htag
  · exact rfill_127 H g bs r tag w h hb hl htag
/-- What the second reading's Decode answers. -/
def RDec (w : World) (d : Option (Nat × Nat × List F)) (e : Ending) (w' : World) : Prop :=
  match d with
  | none => e = .returned (.tuple #[.agg RZ, .int .i64 2]) ∧ Below w.heap.size w w'
  | some (t, tag, fs) => ∃ cs m, e = .returned (.tuple #[.agg cs, .int .i64 0]) ∧ RMgAt w' w.heap.size w'.heap.size cs m ∧ m 0 = .num 1 t ∧ m 1 = .num 2 tag ∧ fieldsOf m (named t) = fs ∧ (∀ p ∈ places, (m p.2).Ok ∧ (m p.2).Few) ∧ Below w.heap.size w w'
theorem Tryz.builtRT (t : Int) : Tryz.prog.built 43 [(0, .int .u8 t)] = some #[.int .u8 t, .int .u16 0, .int .u32 0, .string ⟨#[]⟩, .int .u32 0, .int .u32 0, .int .u32 0, .string ⟨#[]⟩, .string ⟨#[]⟩, .string ⟨#[]⟩, .int .u16 0, .slice none 0 0, .slice none 0 0, .int .u8 0, .int .u32 0, .int .u64 0, .int .u32 0, .int .u8 0, .int .u32 0, .string ⟨#[]⟩, .int .u64 0, .int .u32 0, .string ⟨#[]⟩, .int .u16 0, .int .u32 0, .int .u8 0, .int .u32 0, .int .u64 0, .int .u32 0, .int .u32 0, .int .u32 0, .int .u64 0, .string ⟨#[]⟩, .string ⟨#[]⟩, .string ⟨#[]⟩, .string ⟨#[]⟩] := by kernel_rfl
theorem Tryz.builtR0 : Tryz.prog.built 43 [] = some #[.int .u8 0, .int .u16 0, .int .u32 0, .string ⟨#[]⟩, .int .u32 0, .int .u32 0, .int .u32 0, .string ⟨#[]⟩, .string ⟨#[]⟩, .string ⟨#[]⟩, .int .u16 0, .slice none 0 0, .slice none 0 0, .int .u8 0, .int .u32 0, .int .u64 0, .int .u32 0, .int .u8 0, .int .u32 0, .string ⟨#[]⟩, .int .u64 0, .int .u32 0, .string ⟨#[]⟩, .int .u16 0, .int .u32 0, .int .u8 0, .int .u32 0, .int .u64 0, .int .u32 0, .int .u32 0, .int .u32 0, .int .u64 0, .string ⟨#[]⟩, .string ⟨#[]⟩, .string ⟨#[]⟩, .string ⟨#[]⟩] := by kernel_rfl
theorem rz_one (t tag : Nat) : (rzCells t tag).all (fun x => x.oneCell') = true := by simp [rzCells, Value.oneCell']
theorem RZ_one : RZ.all (fun x => x.oneCell') = true := by simp [RZ, Value.oneCell']
/-- None: what was made is empty. -/
theorem rdec_none {w V : World} {d : Option (Nat × Nat × List F)} (hd : d = none) (k : Below w.heap.size w V) (r : Has V w.heap.size 43 RZ) : Has (V.setRow w.heap.size RZ) w.heap.size 43 RZ ∧ RDec w d (.returned (.tuple #[.agg RZ, .int .i64 2])) (V.setRow w.heap.size RZ) := by
  subst hd
  exact ⟨r.setRow RZ, rfl, k.trans (((Only.refl (fun i => i = w.heap.size) V).setRow (fun _ => rfl) RZ).below k.size (fun i hi h => by omega))⟩

set_option maxHeartbeats 2000000 in
theorem rdecode_any (v : Value) (bs : List UInt8) (w : World) (hv : SlIs w 0 w.heap.size v bs) (hb : bs.length ≤ 100000) : Calls Tryz.prog 6 #[v] w (RDec w (decM bs)) := by
  obtain ⟨A, c, rfl, hc1, hc2, hrd⟩ := hv
  obtain ⟨W, hW⟩ : ∃ W, W = (w.alloc (.cells #[.int .u8 0, .int .u16 0, .int .u32 0, .string ⟨#[]⟩, .int .u32 0, .int .u32 0, .int .u32 0, .string ⟨#[]⟩, .string ⟨#[]⟩, .string ⟨#[]⟩, .int .u16 0, .slice none 0 0, .slice none 0 0, .int .u8 0, .int .u32 0, .int .u64 0, .int .u32 0, .int .u8 0, .int .u32 0, .string ⟨#[]⟩, .int .u64 0, .int .u32 0, .string ⟨#[]⟩, .int .u16 0, .int .u32 0, .int .u8 0, .int .u32 0, .int .u64 0, .int .u32 0, .int .u32 0, .int .u32 0, .int .u64 0, .string ⟨#[]⟩, .string ⟨#[]⟩, .string ⟨#[]⟩, .string ⟨#[]⟩] 43)).alloc (.cells #[.slice A bs.length c, .int .i64 0, .int .i64 0] 60) := ⟨_, rfl⟩
  have k0 : Only (fun _ => False) w W := by rw [hW]; exact ((Only.refl _ w).alloc _).alloc _
  have r0 : Has W w.heap.size 43 RZ := by rw [hW]; exact (Has.new w 43 RZ).alloc _
  have i0 : Has W (w.heap.size + 1) 60 #[.slice A bs.length c, .int .i64 0, .int .i64 0] := by
    rw [hW]
    have := Has.new (w.alloc (.cells #[.int .u8 0, .int .u16 0, .int .u32 0, .string ⟨#[]⟩, .int .u32 0, .int .u32 0, .int .u32 0, .string ⟨#[]⟩, .string ⟨#[]⟩, .string ⟨#[]⟩, .int .u16 0, .slice none 0 0, .slice none 0 0, .int .u8 0, .int .u32 0, .int .u64 0, .int .u32 0, .int .u8 0, .int .u32 0, .string ⟨#[]⟩, .int .u64 0, .int .u32 0, .string ⟨#[]⟩, .int .u16 0, .int .u32 0, .int .u8 0, .int .u32 0, .int .u64 0, .int .u32 0, .int .u32 0, .int .u32 0, .int .u64 0, .string ⟨#[]⟩, .string ⟨#[]⟩, .string ⟨#[]⟩, .string ⟨#[]⟩] 43)) 60 #[.slice A bs.length c, .int .i64 0, .int .i64 0]
    simpa using this
  have rv0 : RV W w.heap.size (w.heap.size + 1) bs bs 0 := ⟨0, ⟨A, c, i0, hc1, hc2, hrd.only k0 (Nat.le_refl _) (fun _ _ _ h => h), by omega, Nat.zero_le _⟩, fun _ => rfl⟩
  have C1 := Lib.hid (rv_take w.heap.size (w.heap.size + 1) 1 bs bs 0 W rv0)
  have hlt1 := takeSt_lt 1 bs 0
  have hln1 := takeSt_len 1 bs 0
  obtain ⟨st, hst⟩ : ∃ s, s = takeSt 1 bs 0 := ⟨_, rfl⟩
  rw [show takeSt ((1 : Nat) : Int) bs 0 = st from hst.symm] at hlt1
  rw [← hst] at C1 hln1
  obtain ⟨t, b1, e1⟩ := st
  simp only at C1 hlt1 hln1
  have hlt2 := takeSt_lt 2 b1 e1
  have hln2 := takeSt_len 2 b1 e1
  obtain ⟨st2, hst2⟩ : ∃ s, s = takeSt 2 b1 e1 := ⟨_, rfl⟩
  rw [show takeSt ((2 : Nat) : Int) b1 e1 = st2 from hst2.symm] at hlt2
  rw [← hst2] at hln2
  obtain ⟨tag, b3, e3⟩ := st2
  simp only at hlt2 hln2
  have w8 : IntKind.u8.wrap (t : Int) = (t : Int) := IntWalk.u8_in _ (by omega)
  have w16 : IntKind.u16.wrap (tag : Int) = (tag : Int) := IntWalk.u16_in _ (by omega)
  have HU := Lib.hid (fun (h : ¬ isType t) => decM_unknown hst.symm (namedOf_none h))
  have HK : Hid (isType t → decM bs = endOf t tag (if e3 = 0 then tkL ((named t).map (·.1)) b3 else none)) := Lib.hid (fun h => by
    obtain ⟨l, hl⟩ := Option.isSome_iff_exists.1 (named_some h)
    have hn : named t = l := by rw [named, hl]; rfl
    rw [decM_known hst.symm hst2.symm hl, hn])
  have HT2 := Lib.hid hst2.symm
  have K0 := Lib.hid k0
  have R0 := Lib.hid r0
  have HW := Lib.hid hW.symm
  clear hrd hc1 hc2 k0 r0 i0 rv0 hW hst hst2
  go_enter Tryz.func6, Tryz.ntmps6
  go_wp2_with fail
  rw [HW.out]
  clear HW
  refine C1.out.mono ?_
  rintro e w1 ⟨rfl, q1, k1⟩
  have hs1 := k1.size
  have hsW : w.heap.size + 1 < w1.heap.size := q1.lt.2
  obtain ⟨n2, kn2⟩ := new_setRow (w := w1) (t := 43) (cs := rzCells t 0) (old := RZ)
  obtain ⟨W2, hW2⟩ : ∃ W, W = (w1.alloc (.cells RZ 43)).setRow w1.heap.size (rzCells t 0) := ⟨_, rfl⟩
  rw [← hW2] at n2 kn2
  have HW2 : Hid ((w1.alloc (.cells #[.int .u8 0, .int .u16 0, .int .u32 0, .string ⟨#[]⟩, .int .u32 0, .int .u32 0, .int .u32 0, .string ⟨#[]⟩, .string ⟨#[]⟩, .string ⟨#[]⟩, .int .u16 0, .slice none 0 0, .slice none 0 0, .int .u8 0, .int .u32 0, .int .u64 0, .int .u32 0, .int .u8 0, .int .u32 0, .string ⟨#[]⟩, .int .u64 0, .int .u32 0, .string ⟨#[]⟩, .int .u16 0, .int .u32 0, .int .u8 0, .int .u32 0, .int .u64 0, .int .u32 0, .int .u32 0, .int .u32 0, .int .u64 0, .string ⟨#[]⟩, .string ⟨#[]⟩, .string ⟨#[]⟩, .string ⟨#[]⟩] 43)).setRow w1.heap.size (rzCells t 0) = W2) := hW2.symm
  have C2 := Lib.hid (rv_take w.heap.size (w.heap.size + 1) 2 bs b1 e1 W2 (q1.only kn2 (fun h => h) (fun _ _ h => h)))
  rw [HT2.out] at C2
  have N2 := Lib.hid n2
  have K2 : Hid (Only (fun i => i = w.heap.size + 1) W W2) := Lib.hid (k1.trans kn2 (fun _ _ h => h.elim))
  clear C1 q1 k1 n2 kn2 hW2 HT2
  go_wp2_with (first
    | (refine build_struct 43 #[(0, .tmp 11)] (rzCells t 0) rfl rfl (Tryz.builtRT t) ?_)
    | (refine store_struct Tryz.refMsgSize w1.heap.size (rzCells t 0) (.tmp 5) (.tmp 12) rfl rfl rfl rfl (Has.new w1 43 RZ) rfl rfl (rz_one t 0) ?_)
    | fail)
  refine (show Calls Tryz.prog 18 _ ((w1.alloc (.cells #[.int .u8 0, .int .u16 0, .int .u32 0, .string ⟨#[]⟩, .int .u32 0, .int .u32 0, .int .u32 0, .string ⟨#[]⟩, .string ⟨#[]⟩, .string ⟨#[]⟩, .int .u16 0, .slice none 0 0, .slice none 0 0, .int .u8 0, .int .u32 0, .int .u64 0, .int .u32 0, .int .u8 0, .int .u32 0, .string ⟨#[]⟩, .int .u64 0, .int .u32 0, .string ⟨#[]⟩, .int .u16 0, .int .u32 0, .int .u8 0, .int .u32 0, .int .u64 0, .int .u32 0, .int .u32 0, .int .u32 0, .int .u64 0, .string ⟨#[]⟩, .string ⟨#[]⟩, .string ⟨#[]⟩, .string ⟨#[]⟩] 43)).setRow w1.heap.size (rzCells t 0)) _ from ?_)
  rw [HW2.out]
  clear HW2
  refine C2.out.mono ?_
  rintro e w3 ⟨rfl, q3, k3⟩
  have m3 := N2.out.only k3 (by omega)
  have c3 : w3.cell? ⟨w1.heap.size, 1, none⟩ = some (.int .u16 0) := m3.cell 1
  have f3 := m3.frozen 1
  obtain ⟨W4, hW4⟩ : ∃ W, W = w3.setCell ⟨w1.heap.size, 1, none⟩ (.int .u16 (tag : Int)) := ⟨_, rfl⟩
  have m4 : Has W4 w1.heap.size 43 (rzCells t tag) := by rw [hW4]; exact m3.set 1 (.int .u16 (tag : Int))
  have kc : Only (fun i => i = w1.heap.size) w3 W4 := by rw [hW4]; exact (Only.refl (fun i => i = w1.heap.size) w3).setCell (p := ⟨w1.heap.size, 1, none⟩) (fun _ => rfl) _
  have q4 := q3.only kc (by omega) (fun i hi h => by omega)
  have k4 : Only (fun i => i = w.heap.size + 1 ∨ i = w1.heap.size) W W4 := ((K2.out.trans k3 (fun _ _ h => h)).mono (fun _ _ h => .inl h)).trans kc (fun _ _ h => .inr h)
  have kb : Below w.heap.size w W4 := (K0.out.below (Nat.le_refl _) (fun _ _ h => h)).trans (k4.below K0.out.size (fun i hi h => by omega))
  have r4 := R0.out.only k4 (by omega)
  have HW4 := Lib.hid hW4.symm
  have cbad := q4.bad
  have cty : W4.cell? ⟨w1.heap.size, 0, none⟩ = some (.int .u8 (t : Int)) := m4.cell 0
  have M4 := Lib.hid m4
  have Q4 := Lib.hid q4
  have KB := Lib.hid kb
  have R4 := Lib.hid r4
  clear C2 q3 k3 m3 hW4 m4 kc q4 k4 kb r4 N2 K2 K0 R0
  go_upto_region 4 with fail
  refine (show Code.wp _ _ _ _ (w3.setCell ⟨w1.heap.size, 1, none⟩ (.int .u16 (tag : Int))) from ?_)
  rw [HW4.out]
  clear HW4 c3 f3
  by_cases h3 : e3 = 0
  · subst h3
    go_wp2_with fail
    refine (refknown_any t W4).mono ?_
    rintro e w' ⟨rfl, rfl⟩
    by_cases hty : isType t
    · have hk1 : decide (isType t) = true := decide_eq_true hty
      rw [hk1]
      have hdec := HK.out hty
      rw [if_pos trivial] at hdec
      have CF := Lib.hid (rfill_any w.heap.size (w.heap.size + 1) t bs b3 tag W4 Q4.out hb (by omega) (by omega) hty)
      have hz4 := Q4.out.lt
      have hm4 := M4.out.lt
      clear HU HK hk1 cbad cty Q4
      go_wp2_with (first
        | (refine load_struct Tryz.underlying43 rfl Tryz.refMsgSize w1.heap.size (rzCells t tag) (.tmp 5) rfl rfl rfl M4.out rfl ?_)
        | fail)
      refine CF.out.mono ?_
      rintro e w5 ⟨cf, rfl, ⟨mx, rx, ex, q5, g5, x0, x1, hyes, hno⟩, l5⟩
      have hs5 := l5.size
      have m5 := M4.out.only l5 (by omega)
      obtain ⟨W6, hW6⟩ : ∃ W, W = w5.setRow w1.heap.size cf := ⟨_, rfl⟩
      have ks : Only (fun i => i = w1.heap.size) w5 W6 := by rw [hW6]; exact (Only.refl (fun i => i = w1.heap.size) w5).setRow (fun _ => rfl) cf
      have m6 : Has W6 w1.heap.size 43 cf := by rw [hW6]; exact m5.setRow cf
      have q6 := q5.only ks (by omega) (fun i hi h => by omega)
      have g6 := g5.keep (ks.keeps (Nat.le_refl _) (fun i hi _ h => by omega))
      have k46 : Only (fun i => i = w.heap.size + 1 ∨ i = w1.heap.size) W4 W6 := (l5.mono (fun _ _ h => .inl h)).trans ks (fun _ _ h => .inr h)
      have hs6 := k46.size
      have kb6 : Below w.heap.size w W6 := KB.out.trans (k46.below KB.out.size (fun i hi h => by omega))
      have r6 := R4.out.only k46 (by omega)
      have gz := g5.size
      have go := g5.one
      have HGZ := Lib.hid gz
      have HGO := Lib.hid go
      have M5 := Lib.hid m5
      have HW6 := Lib.hid hW6.symm
      clear KB R4
      have KB := Lib.hid kb6
      have R4 := Lib.hid r6
      have M6 := Lib.hid m6
      have Q6 := Lib.hid q6
      have G6 := Lib.hid (g6.wide (lo' := w.heap.size + 1) (hi' := W6.heap.size) (by omega) ks.size)
      have cbad := q6.bad
      have HY := Lib.hid hyes
      have HN := Lib.hid hno
      clear CF q5 g5 l5 m5 hW6 ks m6 q6 g6 k46 kb6 r6 gz go hyes hno M4
      go_upto_region 7 with (first
        | (refine store_struct Tryz.refMsgSize w1.heap.size cf (.tmp 5) (.tmp 31) rfl rfl rfl rfl M5.out rfl HGZ.out HGO.out ?_)
        | fail)
      refine (show Code.wp _ _ _ _ (w5.setRow w1.heap.size cf) from ?_)
      rw [HW6.out]
      clear HW6 M5
      by_cases hx : ex = 0
      · subst hx
        obtain ⟨hT, hok⟩ := HY.out rfl
        rw [hT] at hdec
        have hdec : decM bs = if rx = [] then some (t, tag, fieldsOf mx (named t)) else none := hdec
        go_wp2_with fail
        refine (rv_left w.heap.size (w.heap.size + 1) bs rx W6 Q6.out).mono ?_
        rintro e w' ⟨rfl, nd, rfl⟩
        have kd : Only (fun _ => False) W6 (W6.drewN nd) := (Only.refl _ W6).drewN nd
        have kbd : Below W6.heap.size W6 (W6.drewN nd) := below_drewN W6 nd
        obtain ⟨V, hV⟩ : ∃ V, V = W6.drewN nd := ⟨_, rfl⟩
        rw [← hV] at kd kbd ⊢
        have KBd := Lib.hid (KB.out.trans (kbd.mono KB.out.size))
        have RV' := Lib.hid (R4.out.only kd (fun h => h))
        have MV := Lib.hid (M6.out.only kd (fun h => h))
        have GV := Lib.hid (G6.out.keep (kd.keeps (Nat.le_refl _) (fun _ _ _ h => h)))
        have hsv := kd.size
        clear KB R4 M6 G6 Q6 kd kbd hV cbad HY HN hT
        have KB := KBd
        have R4 := RV'
        clear KBd RV'
        by_cases hr : rx = []
        · rw [if_pos hr] at hdec
          have hi : ¬ (0 : Int) < (rx.length : Int) := by rw [hr]; simp
          have FIN : Hid (RDec w (decM bs) (.returned (.tuple #[.agg cf, .int .i64 0])) (V.setRow w.heap.size cf)) := Lib.hid (by
            rw [hdec]
            have kf : Only (fun i => i = w.heap.size) V (V.setRow w.heap.size cf) := (Only.refl (fun i => i = w.heap.size) V).setRow (fun _ => rfl) cf
            have kfs := kf.size
            exact ⟨cf, mx, rfl, (GV.out.keep (kf.keeps hsv (fun i hi _ h => by omega))).wide (by omega) (Nat.le_trans hsv kfs), x0, x1, rfl, hok, KB.out.trans (kf.below KB.out.size (fun i hi h => by omega))⟩)
          have RR := Lib.hid R4.out
          clear hr hdec hok x0 x1 KB GV
          go_wp2_with (first
            | (refine load_struct Tryz.underlying43 rfl Tryz.refMsgSize w1.heap.size cf (.tmp 5) rfl rfl rfl MV.out HGZ.out ?_)
            | (refine store_struct Tryz.refMsgSize w.heap.size cf (.tmp 2) (.tmp 43) rfl rfl rfl rfl RR.out rfl HGZ.out HGO.out ?_)
            | fail)
          refine bodyPost_ret (results_cell_row1 rfl _ _ w.heap.size 43 _ (0, 0) _ rfl (RR.out.setRow cf) Tryz.underlying43 rfl (by rw [HGZ.out]; exact Tryz.refMsgSize)) rfl ?_
          exact FIN.out
        · rw [if_neg hr] at hdec
          have hi : (0 : Int) < (rx.length : Int) := by
            have : rx.length ≠ 0 := fun h => hr (List.eq_nil_of_length_eq_zero h)
            omega
          have hnone := hdec
          clear hr hdec hok x0 x1 GV MV
          obtain ⟨n9, ans⟩ := rdec_none hnone KB.out R4.out
          have N9 := Lib.hid n9
          have ANS := Lib.hid ans
          have RR := Lib.hid R4.out
          clear n9 ans hnone
          go_wp2_with (first
            | (refine build_struct 43 #[] RZ rfl rfl Tryz.builtR0 ?_)
            | (refine store_struct Tryz.refMsgSize w.heap.size RZ (.tmp 2) (.tmp 42) rfl rfl rfl rfl RR.out rfl rfl RZ_one ?_)
            | fail)
          refine bodyPost_ret (results_cell_row1 rfl _ _ w.heap.size 43 _ (0, 0) _ rfl N9.out Tryz.underlying43 rfl Tryz.refMsgSize) rfl ?_
          exact ANS.out
      · have hd : (ex != 0) = true := by simpa using hx
        have hnone : decM bs = none := by rw [hdec, HN.out hx]; rfl
        clear HY HN hdec hx x0 x1 M6 Q6 G6
        obtain ⟨n9, ans⟩ := rdec_none hnone KB.out R4.out
        have N9 := Lib.hid n9
        have ANS := Lib.hid ans
        have RR := Lib.hid R4.out
        clear n9 ans hnone
        go_wp2_with (first
          | (refine build_struct 43 #[] RZ rfl rfl Tryz.builtR0 ?_)
          | (refine store_struct Tryz.refMsgSize w.heap.size RZ (.tmp 2) (.tmp 42) rfl rfl rfl rfl RR.out rfl rfl RZ_one ?_)
          | fail)
        refine bodyPost_ret (results_cell_row1 rfl _ _ w.heap.size 43 _ (0, 0) _ rfl N9.out Tryz.underlying43 rfl Tryz.refMsgSize) rfl ?_
        exact ANS.out
    · have hk1 : decide (isType t) = false := decide_eq_false hty
      rw [hk1]
      have hnone := HU.out hty
      clear HU HK hk1 hty M4 Q4
      obtain ⟨n9, ans⟩ := rdec_none hnone KB.out R4.out
      have N9 := Lib.hid n9
      have ANS := Lib.hid ans
      have RR := Lib.hid R4.out
      clear n9 ans hnone
      go_wp2_with (first
        | (refine build_struct 43 #[] RZ rfl rfl Tryz.builtR0 ?_)
        | (refine store_struct Tryz.refMsgSize w.heap.size RZ (.tmp 2) (.tmp 28) rfl rfl rfl rfl RR.out rfl rfl RZ_one ?_)
        | fail)
      refine bodyPost_ret (results_cell_row1 rfl _ _ w.heap.size 43 _ (0, 0) _ rfl N9.out Tryz.underlying43 rfl Tryz.refMsgSize) rfl ?_
      exact ANS.out
  · have hd : (e3 != 0) = true := by simpa using h3
    have hnone : decM bs = none := by
      by_cases hty : isType t
      · rw [HK.out hty, if_neg h3]; rfl
      · exact HU.out hty
    clear HU HK h3 M4 Q4
    obtain ⟨n9, ans⟩ := rdec_none hnone KB.out R4.out
    have N9 := Lib.hid n9
    have ANS := Lib.hid ans
    have RR := Lib.hid R4.out
    clear n9 ans hnone
    go_wp2_with (first
      | (refine build_struct 43 #[] RZ rfl rfl Tryz.builtR0 ?_)
      | (refine store_struct Tryz.refMsgSize w.heap.size RZ (.tmp 2) (.tmp 28) rfl rfl rfl rfl RR.out rfl rfl RZ_one ?_)
      | fail)
    refine bodyPost_ret (results_cell_row1 rfl _ _ w.heap.size 43 _ (0, 0) _ rfl N9.out Tryz.underlying43 rfl Tryz.refMsgSize) rfl ?_
    exact ANS.out
end Go.Proofs.YtepiifbleoimkaaGreatDoor
