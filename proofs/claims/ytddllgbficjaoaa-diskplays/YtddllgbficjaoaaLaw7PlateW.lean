/-
  The law's own disk: write.
-/
import Derived.Test.YtddllgbficjaoaaLaw7Plate
namespace Go.Proofs.Ytddllgbficjaoaa
open Go.RowKit Go.Lib
set_option maxRecDepth 100000

section
variable {w wa : World} {E : Nat → Prop} {gp : Nat} {s : D} {gk ck gn cn : Nat} {wv hv : Value} {kp : List Bool}
/-- The count of what is armed, set. -/
theorem PlA.armed (h : PlA w E gp s gk ck gn cn wv hv kp) (a : Nat) (ha : 0 < a → 0 < s.armed) : PlA (w.setCell ⟨gp, 5, none⟩ (.int .i64 (a : Int))) E gp { s with armed := a } gk ck gn cn wv hv kp ∧ Only (fun i => i = gp) w (w.setCell ⟨gp, 5, none⟩ (.int .i64 (a : Int))) := by
  have k : Only (fun i => i = gp) w (w.setCell ⟨gp, 5, none⟩ (.int .i64 (a : Int))) := (Only.refl (fun i => i = gp) w).setCell (p := ⟨gp, 5, none⟩) (fun _ => rfl) _
  exact ⟨⟨h.has.set 5 _, h.kept.only k (fun e => h.far _ h.ek e), h.now.only k (fun e => h.far _ h.en e), owns_only h.wait k (fun i hi e => h.far _ (h.ew i hi) e), h.keep.only k (fun i _ hE e => h.far i hE e), fun h0 => h.arm (ha h0), h.ek, h.en, h.ew, h.far, ⟨h.ok.pos, h.ok.most, h.ok.small, h.ok.sect, h.ok.long, h.ok.longp⟩⟩, k⟩
/-- One write more: w2 behind the row's copy, w5 and w6 behind the copies of what waits. -/
theorem PlA.put (h : PlA wa E gp s gk ck gn cn wv hv kp) {k : Nat} {b : List UInt8} (hk : k < s.kept.length) (hb : b.length = s.size) {w2 : World} {g2 c2 : Nat} (o2 : w2.ownsRow wa.heap.size 9 1 (.slice (some ⟨g2, 0, none⟩) s.kept.length c2) s.kept.length (svs s.seen)) (k2 : Only (fun _ => False) wa w2) :
    (∃ y, w2.cell? ⟨g2, k, none⟩ = some (.string (strOf y))) ∧ w2.frozen? ⟨g2, k, none⟩ = false ∧ (∀ u, (w2.setCell ⟨g2, k, none⟩ u).cell? ⟨gp, 2, none⟩ = some (.slice (some ⟨gn, 0, none⟩) s.kept.length cn) ∧ (w2.setCell ⟨g2, k, none⟩ u).frozen? ⟨gp, 2, none⟩ = false) ∧
    ∀ w4, w4 = (w2.setCell ⟨g2, k, none⟩ (.string (strOf b))).setCell ⟨gp, 2, none⟩ (.slice (some ⟨g2, 0, none⟩) s.kept.length c2) → (w4.cell? ⟨gp, 3, none⟩ = some wv ∧ RwIs (w4.alloc (.cells #[] 70)) (fun i => wv.ownBlock = some i) s.pend.length wv (wvs s.pend) ∧ wa.heap.size ≤ w4.heap.size) ∧
    ∀ w5, Only (fun _ => False) w4 w5 → ∀ w6 v6, Only (fun _ => False) w5 w6 → w6.ownsRow w4.heap.size 70 2 v6 (s.pend.length + 1) (wvs s.pend ++ [.int .i64 (k : Int), .string (strOf b)]) → (w6.cell? ⟨gp, 3, none⟩ = some wv ∧ w6.frozen? ⟨gp, 3, none⟩ = false) ∧
    ∀ w7, w7 = w6.setCell ⟨gp, 3, none⟩ v6 → (w7.cell? ⟨gp, 7, none⟩ = some (.int .i64 (s.writes : Int)) ∧ w7.frozen? ⟨gp, 7, none⟩ = false) ∧
    PlStep wa E gp { s with pend := s.pend ++ [(k, b)], writes := s.writes + 1 } (w7.setCell ⟨gp, 7, none⟩ (.int .i64 ((s.writes + 1 : Nat) : Int))) := by
  have hgl := h.has.lt
  have hg2 := o2.lt g2 rfl
  have r2 : StrRow w2 g2 c2 s.seen := by
    unfold StrRow
    rw [D.seen_length]
    exact owns_base o2 (Nat.zero_le _)
  have hks : k < s.seen.length := by rw [D.seen_length]; exact hk
  have hb2 := h.has.only k2 (fun h => h)
  refine ⟨⟨_, r2.cell hks⟩, r2.frozen k, fun u => ?_, ?_⟩
  · have k3 : Only (fun i => i = g2) w2 (w2.setCell ⟨g2, k, none⟩ u) := (Only.refl (fun i => i = g2) w2).setCell (p := ⟨g2, k, none⟩) (fun _ => rfl) _
    have hb3 := hb2.only k3 (fun e => by omega)
    have e := hb3.cell 2
    exact ⟨by simpa using e, hb3.frozen 2⟩
  rintro w4 rfl
  have k3 : Only (fun i => i = g2) w2 (w2.setCell ⟨g2, k, none⟩ (.string (strOf b))) := (Only.refl (fun i => i = g2) w2).setCell (p := ⟨g2, k, none⟩) (fun _ => rfl) _
  have k4 : Only (fun i => i = gp) (w2.setCell ⟨g2, k, none⟩ (.string (strOf b))) ((w2.setCell ⟨g2, k, none⟩ (.string (strOf b))).setCell ⟨gp, 2, none⟩ (.slice (some ⟨g2, 0, none⟩) s.kept.length c2)) := (Only.refl (fun i => i = gp) _).setCell (p := ⟨gp, 2, none⟩) (fun _ => rfl) _
  have hb4 := (hb2.only k3 (fun e => by omega)).set 2 (.slice (some ⟨g2, 0, none⟩) s.kept.length c2)
  have r4 := (r2.set k b).only k4 (fun e => by omega)
  have kk : Only (fun i => i = gp) wa ((w2.setCell ⟨g2, k, none⟩ (.string (strOf b))).setCell ⟨gp, 2, none⟩ (.slice (some ⟨g2, 0, none⟩) s.kept.length c2)) := ((k2.mono (T := fun i => i = gp) (fun _ _ h => h.elim)).trans k3 (fun i hi e => by omega)).trans k4 (fun _ _ h => h)
  generalize (w2.setCell ⟨g2, k, none⟩ (.string (strOf b))).setCell ⟨gp, 2, none⟩ (.slice (some ⟨g2, 0, none⟩) s.kept.length c2) = w4 at *
  have hw4 := owns_only h.wait kk (fun i hi e => h.far i (h.ew i hi) e)
  have hk4 := h.kept.only kk (fun e => h.far _ h.ek e)
  have hp4 := h.keep.only kk (fun i _ hE e => h.far i hE e)
  have e3 := hb4.cell 3
  have s4 := kk.size
  refine ⟨⟨by simpa using e3, (RwIs.of_own hw4).only ((Only.refl (fun _ => False) w4).alloc _) (fun _ _ _ h => h), s4⟩, ?_⟩
  intro w5 k5 w6 v6 k6 o6
  have k46 : Only (fun _ => False) w4 w6 := k5.trans k6 (fun _ _ h => h)
  have hb6 := hb4.only k46 (fun h => h)
  have e6 := hb6.cell 3
  refine ⟨⟨by simpa using e6, hb6.frozen 3⟩, ?_⟩
  rintro w7 rfl
  have k7 : Only (fun i => i = gp) w6 (w6.setCell ⟨gp, 3, none⟩ v6) := (Only.refl (fun i => i = gp) _).setCell (p := ⟨gp, 3, none⟩) (fun _ => rfl) _
  have hb7 := hb6.set 3 v6
  have s6 := k46.size
  have o7 := owns_only o6 k7 (fun i hi e => by have := (o6.lt i hi).1; omega)
  generalize w6.setCell ⟨gp, 3, none⟩ v6 = w7 at *
  have e7 := hb7.cell 7
  refine ⟨⟨by simpa using e7, hb7.frozen 7⟩, ?_⟩
  have k8 : Only (fun i => i = gp) w7 (w7.setCell ⟨gp, 7, none⟩ (.int .i64 ((s.writes + 1 : Nat) : Int))) := (Only.refl (fun i => i = gp) _).setCell (p := ⟨gp, 7, none⟩) (fun _ => rfl) _
  have hb8 := hb7.set 7 (.int .i64 ((s.writes + 1 : Nat) : Int))
  have kz : Only (fun i => i = gp) w4 (w7.setCell ⟨gp, 7, none⟩ (.int .i64 ((s.writes + 1 : Nat) : Int))) := ((k46.mono (T := fun i => i = gp) (fun _ _ h => h.elim)).trans k7 (fun _ _ h => h)).trans k8 (fun _ _ h => h)
  refine ⟨⟨gk, ck, g2, c2, v6, hv, kp, ⟨hb8, hk4.only kz (fun e => h.far _ h.ek e), ?_, ?_, (hp4.only kz (fun i _ hE e => h.far i hE e)).mono (fun i _ hi => .inl hi), h.arm, .inl h.ek, .inr (by omega), fun i hi => ?_, fun i hi => ?_, ?_⟩⟩, kk.trans kz (fun _ _ h => h)⟩
  · have e : D.seen { s with pend := s.pend ++ [(k, b)], writes := s.writes + 1 } = s.seen.set k b := applyL_one _ _ _ _
    rw [e]
    exact r4.only kz (fun e => by omega)
  · have q := owns_only o7 k8 (fun i hi e => by have := (o6.lt i hi).1; omega)
    show World.ownsRow _ 0 _ 2 v6 (s.pend ++ [(k, b)]).length (wvs (s.pend ++ [(k, b)]))
    rw [wvs_append, List.length_append]
    exact owns_base q (Nat.zero_le _)
  · have := (o6.lt i hi).1
    right
    omega
  · rcases hi with hi | hi
    · exact h.far i hi
    · omega
  · have := h.ok.put hk hb
    exact ⟨this.pos, this.most, this.small, this.sect, this.long, this.longp⟩
end

set_option maxHeartbeats 4000000 in
theorem pwrite_any (E : Nat → Prop) (gp : Nat) (i : Int) (b : List UInt8) (s : D) (w : World) (h : PlAt w E gp s) (hs : s.Small) :
    Calls Try.prog 10 #[.pointer (some ⟨gp, 0, none⟩), .int .i64 i, .string (strOf b)] w fun e w' => e = .returned (.int .i64 (s.write i b).1) ∧ PlStep w E gp (s.write i b).2 w' := by
  obtain ⟨gk, ck, gn, cn, wv, hv, kp, h⟩ := h
  have R0 : Hid (PlStep w E gp s w) := ⟨⟨gk, ck, gn, cn, wv, hv, kp, h.mono (fun _ h => .inl h) (fun i hi => by
    rcases hi with hi | hi
    · exact h.far i hi
    · have := h.has.lt
      omega)⟩, Only.refl _ _⟩
  have c0 := h.has.cell 0
  have c2 := h.has.cell 2
  have c4 := h.has.cell 4
  have c5 := h.has.cell 5
  have f5 := h.has.frozen 5
  have c6 := h.has.cell 6
  simp at c0 c2 c4 c5 c6
  have hsz := size_of_str b
  cases ho : s.off with
  | true =>
    rw [D.write, if_pos ho]
    rw [ho] at c4
    clear h
    go_enter Try.func10, Try.ntmps10
    go_wp2
    go_ret
    exact ⟨rfl, R0.out⟩
  | false =>
    rw [ho] at c4
    by_cases hi : 0 ≤ i ∧ i < (s.kept.length : Int) ∧ b.length = s.size
    · obtain ⟨k, rfl⟩ : ∃ k : Nat, i = (k : Int) := ⟨i.toNat, by omega⟩
      have hk : k < s.kept.length := by omega
      have hbl := hi.2.2
      have hle : (b.length : Int) = (s.size : Int) := by omega
      have i2 : (0 : Int) ≤ (k : Int) := by omega
      have i3 : (k : Int) < (s.kept.length : Int) := by omega
      have d1 : decide ((k : Int) < 0) = false := decide_eq_false (by omega)
      have d2 : decide ((s.kept.length : Int) ≤ (k : Int)) = false := decide_eq_false (by omega)
      have d2' : decide (s.kept.length ≤ k) = false := decide_eq_false (by omega)
      have hw : s.write (k : Int) b = if s.armed = 1 then (22, s.cut s.keep) else (0, s.put k b) := by
        rw [D.write, if_neg (by rw [ho]; decide), if_neg (by simpa using hi)]
        rfl
      rw [hw]
      rw [hbl] at hsz
      by_cases h1 : s.armed = 1
      · rw [if_pos h1]
        obtain ⟨ha, ka⟩ := h.armed 0 (fun h => absurd h (by omega))
        have hkp : kp = s.keep := h.arm (by omega)
        have C := Lib.hid (power_any E E gp _ s.keep hv _ ⟨gk, ck, gn, cn, wv, hv, kp, ha⟩ (by rw [← hkp]; exact ha.keep) hs.pend)
        have R : Hid (∀ w', PlStep (w.setCell ⟨gp, 5, none⟩ (.int .i64 ((0 : Nat) : Int))) E gp (D.cut { s with armed := 0 } s.keep) w' → PlStep w E gp (s.cut s.keep) w') := fun w' hh => by
          have hsz : (w.setCell ⟨gp, 5, none⟩ (.int .i64 ((0 : Nat) : Int))).heap.size = w.heap.size := by simp [World.setCell]
          refine ⟨?_, ka.trans hh.2 (fun _ _ h => h)⟩
          have := hh.1
          rw [hsz] at this
          exact this
        obtain ⟨Ah, ch, rfl, _⟩ := h.keep
        have hah := ha.has.cell 5
        have ha6 := ha.has.cell 6
        simp at hah ha6
        rw [h1] at c5
        clear h ha ka hkp R0 hi
        go_enter Try.func10, Try.ntmps10
        go_wp2_with fail
        refine C.out.mono ?_
        rintro e w' ⟨rfl, hh⟩
        have R2 := Lib.hid (R.out w' hh)
        clear hh R C
        go_wp2
        go_ret
        exact ⟨rfl, R2.out⟩
      · rw [if_neg h1]
        obtain ⟨i0, hi0, hz0, hz1, hz2⟩ := info_parts Try.infoStr
        obtain ⟨j0, hj0, hy0, hy1, hy2⟩ := info_parts Try.infoLate
        have hpos := h.ok.pos
        have hmost := h.ok.most
        have hpend := hs.pend
        have hwrs := hs.writes
        by_cases h0 : s.armed = 0
        · have rN : Hid (RwIs (w.alloc (.cells #[] 9)) (fun i => i = gn) s.kept.length (.slice (some ⟨gn, 0, none⟩) s.kept.length cn) (svs s.seen)) := by
            have := h.now
            unfold StrRow at this
            rw [D.seen_length] at this
            have := (RwIs.of_own this).only ((Only.refl (fun _ => False) w).alloc (.cells #[] 9)) (fun _ _ _ h => h)
            exact this.mono (fun i _ hi => by simpa [Value.ownBlock] using hi.symm)
          have hown := Lib.hid (lit_none w 9 1)
          have e2 : w.cell? ⟨gp, 2, none⟩ = some (.slice (some ⟨gn, 0, none⟩) s.kept.length cn) := h.has.cell 2
          have PT := Lib.hid fun w2 g2 c2 => h.put (k := k) (b := b) (w2 := w2) (g2 := g2) (c2 := c2) hk hbl
          have FN : Hid (∀ w', PlStep w E gp { s with pend := s.pend ++ [(k, b)], writes := s.writes + 1 } w' → PlStep w E gp (s.put k b) w') := fun w' hh => by
            have e : s.put k b = { s with pend := s.pend ++ [(k, b)], writes := s.writes + 1 } := by
              unfold D.put
              rw [h0]
            rw [e]
            exact hh
          obtain ⟨Aw, cw, hwe, _⟩ := RwIs.of_own h.wait
          obtain ⟨Ah, ch, hhe, _⟩ := h.keep
          rw [hwe] at PT
          rw [h0] at c5
          obtain ⟨y, hy⟩ : ∃ y : Int, y = (s.writes : Int) := ⟨_, rfl⟩
          obtain ⟨y1, hyy⟩ : ∃ y : Int, y = ((s.writes + 1 : Nat) : Int) := ⟨_, rfl⟩
          have hwy : IntKind.i64.wrap (y + 1) = y1 := by rw [IntWalk.i64_in _ (by omega)]; omega
          have hgl : gp < w.heap.size := h.has.lt
          simp only [← hy, ← hyy] at PT
          clear h R0 hi h0 hw hwe hhe hy hyy h1
          go_enter Try.func10, Try.ntmps10
          go_upto_region 10 with fail
          go_wp2_with (at_builtin; go_must (refine wpList_append_rows _ rfl (.tmp 57) (.tmp 61) 29 rfl w.heap.size 9 i0 _ 1 16 Try.underlying29 hi0 hz0 hz1 hz2 rfl (by omega) _ _ _ rfl hown.out _ _ _ _ rfl rN.out (by simp [svs_length, D.seen_length]) (svs_one _) (by simp [maxLen]; omega) (by omega) (by simp) ?_))
          intro v2 w2 o2 g2' _
          have k2 : Only (fun _ => False) w w2 := by
            have b2 : Below w.heap.size w w2 := ((Below.refl _ w).alloc (Nat.le_refl _) _).grown g2' (by simp) (by simp [Value.ownBlock])
            exact ⟨b2.os, b2.tape, b2.output, b2.size, fun i hi _ => b2.block i hi⟩
          have o2 : w2.ownsRow w.heap.size 9 1 v2 s.kept.length (svs s.seen) := by simpa using o2
          obtain ⟨g2, c2, rfl, _⟩ := owns_some o2 hpos
          obtain ⟨⟨yy, x1⟩, x2, x3, PT4⟩ := PT.out w2 g2 c2 o2 k2
          obtain ⟨x3a, x3b⟩ := x3 (.string (strOf b))
          have hgg : g2 ≠ gp := by
            have := (o2.lt g2 rfl).1
            omega
          obtain ⟨w4, hw4⟩ : ∃ w4, w4 = (w2.setCell ⟨g2, k, none⟩ (.string (strOf b))).setCell ⟨gp, 2, none⟩ (.slice (some ⟨g2, 0, none⟩) s.kept.length c2) := ⟨_, rfl⟩
          obtain ⟨⟨y1', y2', y3'⟩, PT6⟩ := PT4 w4 hw4
          have PT6' := Lib.hid PT6
          have Y2 := Lib.hid y2'
          have HW4 := Lib.hid hw4
          clear o2 g2' k2 PT PT4 PT6 rN hown x3 y2' hw4
          go_upto_region 13 with fail
          rw [← HW4.out]
          clear HW4 x1 x2 x3a x3b
          have hown4 := Lib.hid (lit_none w4 70 2)
          have hg4 : gp < w4.heap.size := by omega
          go_wp2_with (at_builtin; go_must (refine wpList_append_rows _ rfl (.tmp 72) (.tmp 76) 30 rfl w4.heap.size 70 j0 _ 2 24 Try.underlying30 hj0 hy0 hy1 hy2 rfl (by omega) _ _ _ rfl hown4.out _ _ _ _ rfl Y2.out (by simp [wvs_length]) (wvs_one _) (by simp [maxLen]; omega) (by omega) (by simp) ?_))
          intro v5 w5 o5 g5 _
          have k5 : Only (fun _ => False) w4 w5 := by
            have b5 : Below w4.heap.size w4 w5 := ((Below.refl _ w4).alloc (Nat.le_refl _) _).grown g5 (by simp) (by simp [Value.ownBlock])
            exact ⟨b5.os, b5.tape, b5.output, b5.size, fun i hi _ => b5.block i hi⟩
          have o5 : w5.ownsRow w4.heap.size 70 2 v5 s.pend.length (wvs s.pend) := by simpa using o5
          have kx : Only (fun _ => False) w5 (w5.alloc (.cells #[.int .i64 (k : Int), .string (strOf b)] 70)) := (Only.refl _ w5).alloc _
          have O5 := Lib.hid (owns_only o5 kx (fun _ _ h => h))
          have RL : Hid (RwIs (w5.alloc (.cells #[.int .i64 (k : Int), .string (strOf b)] 70)) (fun i => i = w5.heap.size) 1 (.slice (some ⟨w5.heap.size, 0, none⟩) 1 1) [.int .i64 (k : Int), .string (strOf b)]) :=
            ⟨_, 1, rfl, fun _ => ⟨_, rfl, rfl, by simp, World.news_of_block (cs := #[.int .i64 (k : Int), .string (strOf b)]) (t := 70) (fr := (0, 0)) (heap_alloc_new w5 _)⟩⟩
          have S6 : Hid (∀ v6 w6, (w5.alloc (.cells #[.int .i64 (k : Int), .string (strOf b)] 70)).grownBy w6 v5.ownBlock → w6.ownsRow w4.heap.size 70 2 v6 (s.pend.length + 1) (wvs s.pend ++ [.int .i64 (k : Int), .string (strOf b)]) → Only (fun _ => False) w4 w6) := fun v6 w6 g6 _ => by
            have hz5 := k5.size
            have b6 : Below w4.heap.size w5 w6 := ((Below.refl w4.heap.size w5).alloc hz5 _).grown g6 (by simp; omega) (fun i hi => (o5.lt i hi).1)
            exact ⟨b6.os.trans k5.os, b6.tape.trans k5.tape, b6.output.trans k5.output, Nat.le_trans hz5 b6.size, fun i hi _ => (b6.block i hi).trans (k5.block i hi (fun h => h))⟩
          have hz5 := k5.size
          obtain ⟨A5, n5, c5', rfl⟩ := owns_form o5
          clear o5 g5 k5 kx hown4 Y2
          go_wp2_with (at_builtin; go_must (refine wpList_append_rows _ rfl (.tmp 77) (.tmp 81) 30 rfl w4.heap.size 70 j0 _ 2 24 Try.underlying30 hj0 hy0 hy1 hy2 rfl (by omega) _ _ _ rfl O5.out _ _ _ _ rfl RL.out rfl (by simp [Value.oneCell']) (by simp [maxLen]; omega) (by omega) (by simp; omega) ?_))
          intro v6 w6 o6 g6 _
          have k6 := S6.out v6 w6 g6 o6
          obtain ⟨⟨t1, t2⟩, PT7⟩ := PT6'.out w4 (Only.refl _ _) w6 v6 k6 o6
          obtain ⟨A6, n6, c6', rfl⟩ := owns_form o6
          obtain ⟨w7, hw7⟩ : ∃ w7, w7 = w6.setCell ⟨gp, 3, none⟩ (.slice A6 n6 c6') := ⟨_, rfl⟩
          obtain ⟨⟨t3, t4⟩, t5⟩ := PT7 w7 hw7
          have R := Lib.hid (FN.out _ t5)
          have HW7 := Lib.hid hw7
          clear o6 g6 k6 S6 PT6' PT7 t5 FN O5 RL hw7
          go_upto_region 14 with fail
          rw [← HW7.out]
          clear HW7 t1 t2
          go_wp2
          go_ret
          exact ⟨rfl, R.out⟩
        · have harm := hs.armed
          obtain ⟨z, hz⟩ : ∃ z : Int, z = (s.armed : Int) := ⟨_, rfl⟩
          obtain ⟨z1, hzz⟩ : ∃ z : Int, z = ((s.armed - 1 : Nat) : Int) := ⟨_, rfl⟩
          have hwz : IntKind.i64.wrap (z - 1) = z1 := by rw [IntWalk.i64_in _ (by omega)]; omega
          have dz : decide (0 < z) = true := decide_eq_true (by omega)
          have pz : (0 : Int) < z := by omega
          have nz : ¬ (z1 = 0) := by omega
          have nzb : (z1 == 0) = false := beq_eq_false_iff_ne.2 nz
          rw [← hz] at c5
          obtain ⟨h', ka⟩ := h.armed (s.armed - 1) (fun h => by omega)
          rw [← hzz] at h' ka
          have rN : Hid (RwIs ((w.setCell ⟨gp, 5, none⟩ (.int .i64 z1)).alloc (.cells #[] 9)) (fun i => i = gn) s.kept.length (.slice (some ⟨gn, 0, none⟩) s.kept.length cn) (svs s.seen)) := by
            have := h'.now
            unfold StrRow at this
            rw [D.seen_length] at this
            have := (RwIs.of_own this).only ((Only.refl (fun _ => False) (w.setCell ⟨gp, 5, none⟩ (.int .i64 z1))).alloc (.cells #[] 9)) (fun _ _ _ h => h)
            exact this.mono (fun i _ hi => by simpa [Value.ownBlock] using hi.symm)
          have hown := Lib.hid (lit_none (w.setCell ⟨gp, 5, none⟩ (.int .i64 z1)) 9 1)
          have e2 : (w.setCell ⟨gp, 5, none⟩ (.int .i64 z1)).cell? ⟨gp, 2, none⟩ = some (.slice (some ⟨gn, 0, none⟩) s.kept.length cn) := h'.has.cell 2
          have PT := Lib.hid fun w2 g2 c2 => h'.put (k := k) (b := b) (w2 := w2) (g2 := g2) (c2 := c2) hk hbl
          have FN : Hid (∀ w', PlStep (w.setCell ⟨gp, 5, none⟩ (.int .i64 z1)) E gp { s with armed := s.armed - 1, pend := s.pend ++ [(k, b)], writes := s.writes + 1 } w' → PlStep w E gp (s.put k b) w') := fun w' hh => by
            have hsz : (w.setCell ⟨gp, 5, none⟩ (.int .i64 z1)).heap.size = w.heap.size := by simp [World.setCell]
            refine ⟨?_, ka.trans hh.2 (fun _ _ h => h)⟩
            have := hh.1
            rw [hsz] at this
            exact this
          obtain ⟨Aw, cw, hwe, _⟩ := RwIs.of_own h'.wait
          obtain ⟨Ah, ch, hhe, _⟩ := h'.keep
          rw [hwe] at PT
          skip
          obtain ⟨y, hy⟩ : ∃ y : Int, y = (s.writes : Int) := ⟨_, rfl⟩
          obtain ⟨y1, hyy⟩ : ∃ y : Int, y = ((s.writes + 1 : Nat) : Int) := ⟨_, rfl⟩
          have hwy : IntKind.i64.wrap (y + 1) = y1 := by rw [IntWalk.i64_in _ (by omega)]; omega
          have hgl : gp < (w.setCell ⟨gp, 5, none⟩ (.int .i64 z1)).heap.size := h'.has.lt
          obtain ⟨wa, hwa⟩ : ∃ wa, wa = w.setCell ⟨gp, 5, none⟩ (.int .i64 z1) := ⟨_, rfl⟩
          rw [← hwa] at rN hown e2 PT FN hgl
          simp only [← hy, ← hyy] at PT
          have HWA := Lib.hid hwa
          clear h R0 hi h' ka hz hzz h0 hwa hw hwe hhe hy hyy h1
          go_enter Try.func10, Try.ntmps10
          go_upto_region 10 with fail
          rw [← HWA.out]
          clear HWA
          go_wp2_with (at_builtin; go_must (refine wpList_append_rows _ rfl (.tmp 57) (.tmp 61) 29 rfl wa.heap.size 9 i0 _ 1 16 Try.underlying29 hi0 hz0 hz1 hz2 rfl (by omega) _ _ _ rfl hown.out _ _ _ _ rfl rN.out (by simp [svs_length, D.seen_length]) (svs_one _) (by simp [maxLen]; omega) (by omega) (by simp) ?_))
          intro v2 w2 o2 g2' _
          have k2 : Only (fun _ => False) wa w2 := by
            have b2 : Below wa.heap.size wa w2 := ((Below.refl _ wa).alloc (Nat.le_refl _) _).grown g2' (by simp) (by simp [Value.ownBlock])
            exact ⟨b2.os, b2.tape, b2.output, b2.size, fun i hi _ => b2.block i hi⟩
          have o2 : w2.ownsRow wa.heap.size 9 1 v2 s.kept.length (svs s.seen) := by simpa using o2
          obtain ⟨g2, c2, rfl, _⟩ := owns_some o2 hpos
          obtain ⟨⟨yy, x1⟩, x2, x3, PT4⟩ := PT.out w2 g2 c2 o2 k2
          obtain ⟨x3a, x3b⟩ := x3 (.string (strOf b))
          have hgg : g2 ≠ gp := by
            have := (o2.lt g2 rfl).1
            omega
          obtain ⟨w4, hw4⟩ : ∃ w4, w4 = (w2.setCell ⟨g2, k, none⟩ (.string (strOf b))).setCell ⟨gp, 2, none⟩ (.slice (some ⟨g2, 0, none⟩) s.kept.length c2) := ⟨_, rfl⟩
          obtain ⟨⟨y1', y2', y3'⟩, PT6⟩ := PT4 w4 hw4
          have PT6' := Lib.hid PT6
          have Y2 := Lib.hid y2'
          have HW4 := Lib.hid hw4
          clear o2 g2' k2 PT PT4 PT6 rN hown x3 y2' hw4
          go_upto_region 13 with fail
          rw [← HW4.out]
          clear HW4 x1 x2 x3a x3b
          have hown4 := Lib.hid (lit_none w4 70 2)
          have hg4 : gp < w4.heap.size := by omega
          go_wp2_with (at_builtin; go_must (refine wpList_append_rows _ rfl (.tmp 72) (.tmp 76) 30 rfl w4.heap.size 70 j0 _ 2 24 Try.underlying30 hj0 hy0 hy1 hy2 rfl (by omega) _ _ _ rfl hown4.out _ _ _ _ rfl Y2.out (by simp [wvs_length]) (wvs_one _) (by simp [maxLen]; omega) (by omega) (by simp) ?_))
          intro v5 w5 o5 g5 _
          have k5 : Only (fun _ => False) w4 w5 := by
            have b5 : Below w4.heap.size w4 w5 := ((Below.refl _ w4).alloc (Nat.le_refl _) _).grown g5 (by simp) (by simp [Value.ownBlock])
            exact ⟨b5.os, b5.tape, b5.output, b5.size, fun i hi _ => b5.block i hi⟩
          have o5 : w5.ownsRow w4.heap.size 70 2 v5 s.pend.length (wvs s.pend) := by simpa using o5
          have kx : Only (fun _ => False) w5 (w5.alloc (.cells #[.int .i64 (k : Int), .string (strOf b)] 70)) := (Only.refl _ w5).alloc _
          have O5 := Lib.hid (owns_only o5 kx (fun _ _ h => h))
          have RL : Hid (RwIs (w5.alloc (.cells #[.int .i64 (k : Int), .string (strOf b)] 70)) (fun i => i = w5.heap.size) 1 (.slice (some ⟨w5.heap.size, 0, none⟩) 1 1) [.int .i64 (k : Int), .string (strOf b)]) :=
            ⟨_, 1, rfl, fun _ => ⟨_, rfl, rfl, by simp, World.news_of_block (cs := #[.int .i64 (k : Int), .string (strOf b)]) (t := 70) (fr := (0, 0)) (heap_alloc_new w5 _)⟩⟩
          have S6 : Hid (∀ v6 w6, (w5.alloc (.cells #[.int .i64 (k : Int), .string (strOf b)] 70)).grownBy w6 v5.ownBlock → w6.ownsRow w4.heap.size 70 2 v6 (s.pend.length + 1) (wvs s.pend ++ [.int .i64 (k : Int), .string (strOf b)]) → Only (fun _ => False) w4 w6) := fun v6 w6 g6 _ => by
            have hz5 := k5.size
            have b6 : Below w4.heap.size w5 w6 := ((Below.refl w4.heap.size w5).alloc hz5 _).grown g6 (by simp; omega) (fun i hi => (o5.lt i hi).1)
            exact ⟨b6.os.trans k5.os, b6.tape.trans k5.tape, b6.output.trans k5.output, Nat.le_trans hz5 b6.size, fun i hi _ => (b6.block i hi).trans (k5.block i hi (fun h => h))⟩
          have hz5 := k5.size
          obtain ⟨A5, n5, c5', rfl⟩ := owns_form o5
          clear o5 g5 k5 kx hown4 Y2
          go_wp2_with (at_builtin; go_must (refine wpList_append_rows _ rfl (.tmp 77) (.tmp 81) 30 rfl w4.heap.size 70 j0 _ 2 24 Try.underlying30 hj0 hy0 hy1 hy2 rfl (by omega) _ _ _ rfl O5.out _ _ _ _ rfl RL.out rfl (by simp [Value.oneCell']) (by simp [maxLen]; omega) (by omega) (by simp; omega) ?_))
          intro v6 w6 o6 g6 _
          have k6 := S6.out v6 w6 g6 o6
          obtain ⟨⟨t1, t2⟩, PT7⟩ := PT6'.out w4 (Only.refl _ _) w6 v6 k6 o6
          obtain ⟨A6, n6, c6', rfl⟩ := owns_form o6
          obtain ⟨w7, hw7⟩ : ∃ w7, w7 = w6.setCell ⟨gp, 3, none⟩ (.slice A6 n6 c6') := ⟨_, rfl⟩
          obtain ⟨⟨t3, t4⟩, t5⟩ := PT7 w7 hw7
          have R := Lib.hid (FN.out _ t5)
          have HW7 := Lib.hid hw7
          clear o6 g6 k6 S6 PT6' PT7 t5 FN O5 RL hw7
          go_upto_region 14 with fail
          rw [← HW7.out]
          clear HW7 t1 t2
          go_wp2
          go_ret
          exact ⟨rfl, R.out⟩
    · have hw : s.write i b = (1, s) := by rw [D.write, if_neg (by rw [ho]; decide), if_pos hi]
      rw [hw]
      clear h
      by_cases d1 : i < 0
      · have d1' : decide (i < 0) = true := decide_eq_true d1
        clear hi
        go_enter Try.func10, Try.ntmps10
        go_wp2
        go_ret
        exact ⟨rfl, R0.out⟩
      · have d1' : decide (i < 0) = false := decide_eq_false d1
        by_cases d2 : (s.kept.length : Int) ≤ i
        · have d2' : decide ((s.kept.length : Int) ≤ i) = true := decide_eq_true d2
          clear hi
          go_enter Try.func10, Try.ntmps10
          go_wp2
          go_ret
          exact ⟨rfl, R0.out⟩
        · have d2' : decide ((s.kept.length : Int) ≤ i) = false := decide_eq_false d2
          have d3 : ¬ ((b.length : Int) = (s.size : Int)) := fun e => hi ⟨by omega, by omega, by omega⟩
          have d4 : ((b.length : Int) == (s.size : Int)) = false := beq_eq_false_iff_ne.2 d3
          have d5 : ((b.length : Int) != (s.size : Int)) = true := by simp [bne, d4]
          have d6 : ¬ (b.length = s.size) := by omega
          clear hi
          go_enter Try.func10, Try.ntmps10
          go_wp2
          go_ret
          exact ⟨rfl, R0.out⟩
end Go.Proofs.Ytddllgbficjaoaa
