/-
  Package disk: Write's function where nothing is wrong.
-/
import Derived.Test.YtnhojcldeloigaaGreatDiskI
import Derived.Deep.Cut
import Derived.Deep.CutRange
import Derived.Deep.RegionLaw
namespace Go.Proofs.YtnhojcldeloigaaGreat
open Go.RowKit
set_option maxRecDepth 100000

theorem D.count_ne {s : D} (h : s.armed ≠ 1) : s.count = { s with armed := s.armed - 1 } := by
  unfold D.count
  by_cases h0 : s.armed = 0
  · rw [if_pos h0]
    obtain ⟨a1, a2, a3, a4, a5, a6, a7⟩ := s
    simp at h0
    subst h0
    rfl
  · rw [if_neg h0, if_neg h]
/-- Behind the store of the list of what is pending. -/
def PutMid (w : World) (F E : Nat → Prop) (g : Nat) (s : D) (k : Nat) (b : List UInt8) (p0 p1 bx gs cs : Nat) (z z1 : Int) (w5 : World) : Prop :=
  (w5.cell? ⟨p0, 0, none⟩ = some (.pointer (some ⟨g, 0, none⟩)) ∧ w5.cell? ⟨p1, 0, none⟩ = some (.int .i64 (k : Int)) ∧ w5.cell? ⟨g, 2, none⟩ = some (.slice (some ⟨gs, 0, none⟩) s.kept.length cs) ∧ w5.cell? ⟨bx, 1, none⟩ = some (.string (strOf b)) ∧
        (∃ y, w5.cell? ⟨gs, k, none⟩ = some (.string (strOf y))) ∧ w5.frozen? ⟨gs, k, none⟩ = false) ∧
      ∀ w6, w6 = (w5.setCell ⟨gs, k, none⟩ (.string (strOf b))).drew → w6.cell? ⟨p0, 0, none⟩ = some (.pointer (some ⟨g, 0, none⟩)) ∧ w6.cell? ⟨g, 4, none⟩ = some (.int .i64 z) ∧ w6.frozen? ⟨g, 4, none⟩ = false ∧
        DkStep w F E g (s.put k b) (w6.setCell ⟨g, 4, none⟩ (.int .i64 z1))
section
variable (F E : Nat → Prop) (g p0 p1 p2 lo hi k : Nat) (x : Value) (b : List UInt8) (s : D) (w : World) (h : Dk w F E g s) (hb : WBox w F g p0 p1 p2 lo hi (k : Int) x b)
  (ho : s.off = false) (hk : k < s.kept.length) (hl : b.length = s.size) (hn : s.pend.length ≤ 1000000) (ha : s.armed ≤ 9223372036854775807)
include h hb ho hk hl hn ha
set_option maxHeartbeats 1000000 in
theorem write1_cut (h1 : s.armed = 1) : Calls Tryz.prog 100 #[.pointer (some ⟨p0, 0, none⟩), .pointer (some ⟨p1, 0, none⟩), .pointer (some ⟨p2, 0, none⟩)] w fun e w' =>
    e = .panicked [{ v := .iface 26 (.int .i64 22), recovered := false }] ∧ DkStep w F E g (s.cut s.keep) w' := by
  have C := Lib.hid (muston_yes F E g s w h ho)
  have C2 := Lib.hid (musthave_yes F E g s w h k (by omega))
  have C3 := Lib.hid (countdown_any F E g s w.drew h.drew hn ha)
  have hc : s.count = s.cut s.keep := by rw [D.count, if_neg (by omega), if_pos h1]
  rw [hc] at C3
  have c0 := hb.b0.cell 0
  have c1 := hb.b1.cell 0
  have c2 := hb.b2.cell 0
  obtain ⟨A, c, hxe, _⟩ := hb.sl
  rw [hxe] at c2
  have cg : w.cell? ⟨g, 0, none⟩ = some (.int .i64 (s.size : Int)) := by
    obtain ⟨gk, ck, gs, cs, pv, hv, h⟩ := h
    have := h.has.cell 0
    simpa using this
  simp at c0 c1 c2
  have hle : (b.length : Int) = (s.size : Int) := by omega
  have HB := Lib.hid hb
  rw [hl] at c2
  clear h hb hl hk hle hxe hc h1 ha
  go_enter Tryz.func100, Tryz.ntmps100
  go_wp2_with fail
  refine C.out.mono ?_
  rintro e w' ⟨rfl, rfl⟩
  go_wp2_with fail
  refine C2.out.mono ?_
  rintro e w' ⟨rfl, rfl⟩
  go_wp2_with fail
  go_still_tail 7, (by kernel_rfl)
  go_wp2_with fail
  refine (must_yes 1 _).mono ?_
  rintro e w' ⟨rfl, rfl⟩
  clear C C2
  go_wp2_with fail
  refine C3.out.mono ?_
  rintro e w1 ⟨rfl, hd⟩
  have R := Lib.hid (hd.lift (w := w) ((Only.refl _ w).drew))
  obtain ⟨F', E', d', hF', hE', o'⟩ := hd
  have hb1 := (HB.out.only (S := fun _ => False) (F' := F) ((Only.refl _ w).drew) (fun _ _ h => h.elim) (fun _ h => .inl h)).only (F' := F') o' (fun _ _ h => h) hF'
  have d0 := hb1.b0.cell 0
  simp at d0
  have CN := Lib.hid (muston_no F' E' g (s.cut s.keep) w1 d' rfl)
  clear hb1 d' hF' hE' o' C3 HB
  go_wp2_with fail
  refine CN.out.mono ?_
  rintro e w' ⟨rfl, rfl⟩
  go_wp2
  exact ⟨rfl, rfl, R.out⟩
set_option maxHeartbeats 4000000 in
theorem write1_put (h1 : s.armed ≠ 1) (hwr : s.writes ≤ 1000000) : Calls Tryz.prog 100 #[.pointer (some ⟨p0, 0, none⟩), .pointer (some ⟨p1, 0, none⟩), .pointer (some ⟨p2, 0, none⟩)] w fun e w' =>
    e = .returned (.tuple #[]) ∧ DkStep w F E g (s.put k b) w' := by
  have C := Lib.hid (muston_yes F E g s w h ho)
  have C2 := Lib.hid (musthave_yes F E g s w h k (by omega))
  have C3 := Lib.hid (countdown_any F E g s w.drew h.drew hn ha)
  rw [D.count_ne h1] at C3
  have c0 := hb.b0.cell 0
  have c1 := hb.b1.cell 0
  have c2 := hb.b2.cell 0
  obtain ⟨A, c, hxe, _⟩ := id hb.sl
  rw [hxe] at c2
  have cg : w.cell? ⟨g, 0, none⟩ = some (.int .i64 (s.size : Int)) := by
    obtain ⟨gk, ck, gs, cs, pv, hv, h⟩ := h
    have := h.has.cell 0
    simpa using this
  simp at c0 c1 c2
  have hle : (b.length : Int) = (s.size : Int) := by omega
  have HB := Lib.hid hb
  have HX := Lib.hid hxe
  rw [hl] at c2
  have HL := Lib.hid hl
  clear h hb hl hle hxe h1 ha
  go_enter Tryz.func100, Tryz.ntmps100
  go_wp2_with fail
  refine C.out.mono ?_
  rintro e w' ⟨rfl, rfl⟩
  go_wp2_with fail
  refine C2.out.mono ?_
  rintro e w' ⟨rfl, rfl⟩
  go_wp2_with fail
  go_still_tail 7, (by kernel_rfl)
  go_wp2_with fail
  refine (must_yes 1 _).mono ?_
  rintro e w' ⟨rfl, rfl⟩
  clear C C2 c0 c1 c2 cg
  have c0 := HB.out.b0.cell 0
  simp at c0
  go_wp2_with fail
  refine C3.out.mono ?_
  rintro e w1 ⟨rfl, hd⟩
  obtain ⟨F', E', d', hF', hE', o'⟩ := hd
  have hb1 := (HB.out.only (S := fun _ => False) (F' := F) ((Only.refl _ w).drew) (fun _ _ h => h.elim) (fun _ h => .inl h)).only (F' := F') o' (fun _ _ h => h) hF'
  have d0 := hb1.b0.cell 0
  have d1 := hb1.b1.cell 0
  have d2 := hb1.b2.cell 0
  rw [HX.out] at d2
  simp at d0 d1 d2
  have CN := Lib.hid (muston_yes F' E' g _ w1 d' ho)
  have hstr := run_str x b lo hi w1 hb1.sl
  rw [HX.out] at hstr
  obtain ⟨gk, ck, gs, cs, pv, hv, hat⟩ := d'
  obtain ⟨Ap, cp, hpe, _⟩ := RwIs.of_own hat.pend
  have P0 := Lib.hid fun (o1 o2 : Obj) (w4 : World) (v' : Value) => hat.putted (o1 := o1) (o2 := o2) (k := k) (b := b) (w4 := w4) (v' := v') (by simpa using hk) HL.out
  have RR : Hid (∀ w' , DkStep w1 F' E' g { s with armed := s.armed - 1, pend := s.pend ++ [(k, b)], writes := s.writes + 1 } w' → DkStep w F E g (s.put k b) w') := fun w' hw =>
    (DkStep.trans (F := F) (E := E) (w := w.drew) hF' hE' o' hw).lift ((Only.refl _ w).drew)
  have g3 := hat.has.cell 3
  rw [hpe] at g3
  simp at g3
  have l0 := hb1.b0.lt
  have l1 := hb1.b1.lt
  have lg := hat.has.lt
  have HAT := Lib.hid hat
  have HB1 := Lib.hid hb1
  have HPE := Lib.hid hpe
  clear hat hb1 hpe C3 HB hF' hE' o' c0
  go_wp2_with fail
  refine CN.out.mono ?_
  rintro e w' ⟨rfl, rfl⟩
  clear CN
  obtain ⟨i0, hi0, hz0, hz1, hz2⟩ := info_parts Tryz.infoWr
  have ow : Hid ((((w1.alloc (.cells #[.int .i64 (k : Int), .string (strOf b)] 79)).alloc (.cells #[.int .i64 (k : Int), .string (strOf b)] 79)).drew).ownsRow 0 79 2 (.slice Ap s.pend.length cp) s.pend.length (wvs s.pend)) := by
    have := owns_only HAT.out.pend ((((Only.refl (fun _ => False) w1).alloc (.cells #[.int .i64 (k : Int), .string (strOf b)] 79)).alloc (.cells #[.int .i64 (k : Int), .string (strOf b)] 79)).drew) (fun _ _ h => h)
    rw [HPE.out] at this
    exact this
  have hnews : Hid (∀ j u, [Value.int .i64 (k : Int), .string (strOf b)][j]? = some u → ((w1.alloc (.cells #[.int .i64 (k : Int), .string (strOf b)] 79)).alloc (.cells #[.int .i64 (k : Int), .string (strOf b)] 79)).drew.cell? ((⟨w1.heap.size + 1, 0, none⟩ : Addr).add j) = some u) := by
    have := World.news_of_block (cs := #[.int .i64 (k : Int), .string (strOf b)]) (t := 79) (fr := (0, 0)) (heap_alloc_new (w1.alloc (.cells #[.int .i64 (k : Int), .string (strOf b)] 79)) _)
    simp only [World.size_alloc] at this
    exact this
  have ST : Hid (∀ w4 gg cap, w4.ownsRow 0 79 2 (.slice (some ⟨gg, 0, none⟩) (s.pend.length + 1) cap) (s.pend.length + 1) (wvs s.pend ++ [.int .i64 (k : Int), .string (strOf b)]) →
      ((w1.alloc (.cells #[.int .i64 (k : Int), .string (strOf b)] 79)).alloc (.cells #[.int .i64 (k : Int), .string (strOf b)] 79)).drew.grownBy w4 (Value.slice Ap s.pend.length cp).ownBlock → ((Value.slice Ap s.pend.length cp).ownBlock = some gg ∨ gg = w1.heap.size + 2) →
      (w4.cell? ⟨p0, 0, none⟩ = some (.pointer (some ⟨g, 0, none⟩)) ∧ w4.cell? ⟨g, 3, none⟩ = some (.slice Ap s.pend.length cp) ∧ w4.frozen? ⟨g, 3, none⟩ = false) ∧
      ∀ w5, w5 = w4.setCell ⟨g, 3, none⟩ (.slice (some ⟨gg, 0, none⟩) (s.pend.length + 1) cap) →
      PutMid w F E g s k b p0 p1 w1.heap.size gs cs s.writes ((s.writes + 1 : Nat) : Int) w5) := by
    intro w4 gg cap ho4 hg4 ha4
    have hat := HAT.out
    have hb1 := HB1.out
    obtain ⟨k4, q4, P5⟩ := P0.out _ _ w4 _ ho4 (by rw [HPE.out]; exact hg4) (by
      rw [HPE.out]
      have hs : ((w1.alloc (.cells #[.int .i64 (k : Int), .string (strOf b)] 79)).alloc (.cells #[.int .i64 (k : Int), .string (strOf b)] 79)).drew.heap.size = w1.heap.size + 2 := by
        show ((w1.alloc _).alloc _).heap.size = _
        simp
      rw [hs]
      rcases ha4 with e | e
      · exact .inl e.symm
      · exact .inr (by rw [e]; rfl))
    have n0 : p0 ≠ g := fun e => hb1.n0 (by rw [e]; exact hat.fg)
    have n1 : p1 ≠ g := fun e => hb1.n1 (by rw [e]; exact hat.fg)
    have m0 : p0 ≠ gs := fun e => hb1.n0 (by rw [e]; exact hat.fs)
    have b04 := hb1.b0.only k4 (fun e => hb1.n0 (hat.fp _ e))
    have b14 := hb1.b1.only k4 (fun e => hb1.n1 (hat.fp _ e))
    have bx : Has w4 w1.heap.size 79 #[.int .i64 (k : Int), .string (strOf b)] := by
      have kA : Only (fun i => (Value.slice Ap s.pend.length cp).ownBlock = some i) ((w1.alloc (.cells #[.int .i64 (k : Int), .string (strOf b)] 79)).alloc (.cells #[.int .i64 (k : Int), .string (strOf b)] 79)).drew w4 := (Only.of_grown hg4).mono (fun i _ e => e.symm)
      refine Has.only (a := ((w1.alloc (.cells #[.int .i64 (k : Int), .string (strOf b)] 79)).alloc (.cells #[.int .i64 (k : Int), .string (strOf b)] 79)).drew) (((Has.new w1 _ _).alloc _).drew) kA (fun e => ?_)
      have := hat.lt _ (hat.fp w1.heap.size (by rw [HPE.out]; exact e))
      omega
    have e3 := q4.cell 3
    have e0 := b04.cell 0
    rw [HPE.out] at e3
    refine ⟨⟨by simpa using e0, by simpa using e3, q4.frozen 3⟩, fun w5 hw5 => ?_⟩
    obtain ⟨q5, r5, k5, P6⟩ := P5 w5 hw5
    have b05 := b04.only k5 n0
    have b15 := b14.only k5 n1
    have hgl := hat.has.lt
    have bx5 := bx.only k5 (fun e => by omega)
    have hsl : k < s.seen.length := by rw [D.seen_length]; exact hk
    have f0 := b05.cell 0
    have f1 := b15.cell 0
    have f2 := q5.cell 2
    have f3 := bx5.cell 1
    refine ⟨⟨by simpa using f0, by simpa using f1, by simpa using f2, by simpa using f3, ⟨_, r5.cell (i := k) hsl⟩, r5.frozen k⟩, fun w6 hw6 => ?_⟩
    obtain ⟨q6, k6, D6⟩ := P6 w6 hw6
    have g0 := (b05.only k6 m0).cell 0
    have g4 := q6.cell 4
    exact ⟨by simpa using g0, by simpa using g4, q6.frozen 4, RR.out _ D6⟩
  clear P0 RR HAT HB1 HX HL HPE
  have i2 : (0 : Int) ≤ (k : Int) := by omega
  have i3 : (k : Int) < (s.kept.length : Int) := by omega
  obtain ⟨z, hz⟩ : ∃ z : Int, z = (s.writes : Int) := ⟨_, rfl⟩
  obtain ⟨z1, hzz⟩ : ∃ z : Int, z = ((s.writes + 1 : Nat) : Int) := ⟨_, rfl⟩
  have hw : IntKind.i64.wrap (z + 1) = z1 := by rw [IntWalk.i64_in _ (by omega)]; omega
  rw [← hz, ← hzz] at ST
  clear hz hzz
  go_upto_region 6 with fail
  go_cut [32] from 25 to 34 (fun _ wx => Hid (PutMid w F E g s k b p0 p1 w1.heap.size gs cs z z1 wx))
  case first =>
    go_region_law (refine step_append_lies _ (by rfl) _ _ _ (by rfl) 0 79 i0 _ 2 24 Tryz.underlying75 hi0 hz0 hz1 hz2 rfl (by omega) _ _ _ (by rfl) ow.out ⟨w1.heap.size + 1, 0, none⟩ 1 1 [.int .i64 (k : Int), .string (strOf b)] (by rfl) (by rfl) hnews.out (by simp [Value.oneCell']) (by omega) (by simp [maxLen]; omega) (by omega) (by simp) (w1.heap.size + 2) (by simp) ?_; intro gg cap w4 hown1 hgrow hat4 hlt1; obtain ⟨⟨x1, x2, x3⟩, ST5⟩ := ST.out w4 gg cap hown1 hgrow hat4; have S5 := Lib.hid ST5; clear hown1 hgrow hat4 hlt1 ST5)
    all_goals
      go_wp2_with fail
      go_meet
      exact S5.out _ rfl
  case rest =>
    obtain ⟨⟨x0, x1, x2, x3, ⟨y, x4⟩, x5⟩, P6⟩ := hcut.out
    have HP := Lib.hid P6
    clear hcut P6 ST ow hnews
    go_upto_region 7 with fail
    go_still_tail 8, (by kernel_rfl)
    go_upto_region 8 with fail
    obtain ⟨w6, hw6⟩ : ∃ w6, w6 = (wc.setCell ⟨gs, k, none⟩ (.string (strOf b))).drew := ⟨_, rfl⟩
    obtain ⟨y0, y1, y2, y3⟩ := HP.out w6 hw6
    have R := Lib.hid y3
    clear HP y3 x0 x1 x2 x3 x4 x5
    rw [← hw6]
    clear hw6
    go_wp2
    go_end0
    exact ⟨rfl, R.out⟩
end
end Go.Proofs.YtnhojcldeloigaaGreat
