/-
  Package disk: Cut, countDown.
-/
import Derived.Test.YtnhojcldeloigaaGreatDiskF
namespace Go.Proofs.YtnhojcldeloigaaGreat
open Go.RowKit
set_option maxRecDepth 100000

theorem KInv.alloc {w wr : World} {gk ck : Nat} {l : List (List UInt8)} (h : KInv w gk ck l wr) (o : Obj) : KInv w gk ck l (wr.alloc o) :=
  ⟨h.1.only ((Only.refl (fun _ => False) wr).alloc o) (fun h => h), h.2.alloc o⟩
/-- The row that is read is being set to what is kept; ps: the writes still to come. -/
def CInv (w : World) (gk ck gs cs : Nat) (k' : List (List UInt8)) (ps : List (Nat × List UInt8)) (wr : World) : Prop :=
  StrRow wr gk ck k' ∧ Only (fun i => i = gk ∨ i = gs) w wr ∧ ∃ l, StrRow wr gs cs l ∧ l.length = k'.length ∧ ∀ m, (∀ p ∈ ps, p.1 ≠ m) → l[m]? = k'[m]?
section
variable {w wr : World} {gk ck gs cs : Nat} {k' l : List (List UInt8)} {ps : List (Nat × List UInt8)} {p : Nat × List UInt8}
theorem CInv.step (h : CInv w gk ck gs cs k' (p :: ps) wr) (hne : gk ≠ gs) (o : Obj) {y : List UInt8} (hy : k'[p.1]? = some y) : CInv w gk ck gs cs k' ps ((wr.alloc o).setCell ⟨gs, p.1, none⟩ (.string (strOf y))).drew := by
  obtain ⟨h1, h2, l, h3, h4, h5⟩ := h
  have k : Only (fun _ => False) wr (wr.alloc o) := (Only.refl _ wr).alloc o
  have k1 : Only (fun i => i = gs) (wr.alloc o) ((wr.alloc o).setCell ⟨gs, p.1, none⟩ (.string (strOf y))) := (Only.refl (fun i => i = gs) _).setCell (p := ⟨gs, p.1, none⟩) (fun _ => rfl) _
  have r3 : StrRow ((wr.alloc o).setCell ⟨gs, p.1, none⟩ (.string (strOf y))) gs cs (l.set p.1 y) := (h3.only k (fun h => h)).set p.1 y
  have r1 : StrRow ((wr.alloc o).setCell ⟨gs, p.1, none⟩ (.string (strOf y))) gk ck k' := (h1.only k (fun h => h)).only k1 (fun e => hne e)
  refine ⟨r1, ((h2.alloc o).setCell (p := ⟨gs, p.1, none⟩) (fun _ => .inr rfl) _).drew, l.set p.1 y, r3, by rw [List.length_set]; exact h4, fun m hm => ?_⟩
  by_cases e : p.1 = m
  · subst e
    have hl : p.1 < l.length := by
      have := (List.getElem?_eq_some_iff.1 hy).1
      omega
    rw [List.getElem?_set_self hl, hy]
  · rw [List.getElem?_set_ne e]
    refine h5 m (fun q hq => ?_)
    rcases List.mem_cons.1 hq with rfl | hq
    · exact e
    · exact hm q hq
theorem CInv.done (h : CInv w gk ck gs cs k' [] wr) : StrRow wr gk ck k' ∧ StrRow wr gs cs k' ∧ Only (fun i => i = gk ∨ i = gs) w wr := by
  obtain ⟨h1, h2, l, h3, h4, h5⟩ := h
  have : l = k' := List.ext_getElem? (fun m => h5 m (fun p hp => absurd hp (by simp)))
  subst this
  exact ⟨h1, h3, h2⟩
end
section
variable {w wr : World} {F E : Nat → Prop} {g : Nat} {s : D} {gk ck gs cs : Nat} {pv hv : Value}
/-- At the head of Cut's second loop. -/
theorem DkAt.cutting (h : DkAt w F E g s gk ck gs cs pv hv) (keep : List Bool) (k : KInv w gk ck (applyL s.kept (chosen s.pend keep)) wr) : CInv w gk ck gs cs (applyL s.kept (chosen s.pend keep)) s.pend wr := by
  refine ⟨k.1, k.2.mono (fun i _ e => .inl e), s.seen, h.seen.only k.2 (fun e => h.ne e.symm), by rw [applyL_length, D.seen_length], fun m hm => ?_⟩
  rw [D.seen, applyL_other _ _ _ hm, applyL_other _ _ _ (fun p hp => hm p (chosen_mem _ _ p hp))]
theorem DkAt.cutted (h : DkAt w F E g s gk ck gs cs pv hv) (keep : List Bool) (k : CInv w gk ck gs cs (applyL s.kept (chosen s.pend keep)) [] wr) :
    DkStep w F E g (s.cut keep) ((((wr.setCell ⟨g, 3, none⟩ (.slice none 0 0)).setCell ⟨g, 5, none⟩ (.bool true)).setCell ⟨g, 6, none⟩ (.int .i64 0)).setCell ⟨g, 7, none⟩ (.slice none 0 0)) := by
  obtain ⟨q1, q2, q3⟩ := k.done
  have hl : (applyL s.kept (chosen s.pend keep)).length = s.kept.length := applyL_length _ _
  have hg := h.has.only q3 (fun e => e.elim (fun e => h.neK e) (fun e => h.neS e))
  have hset := (((hg.set 3 (.slice none 0 0)).set 5 (.bool true)).set 6 (.int .i64 0)).set 7 (.slice none 0 0)
  obtain ⟨w4, hw4⟩ : ∃ w4, w4 = (((wr.setCell ⟨g, 3, none⟩ (.slice none 0 0)).setCell ⟨g, 5, none⟩ (.bool true)).setCell ⟨g, 6, none⟩ (.int .i64 0)).setCell ⟨g, 7, none⟩ (.slice none 0 0) := ⟨_, rfl⟩
  have k1 : Only (fun i => i = g) wr w4 := by
    rw [hw4]
    exact ((((Only.refl (fun i => i = g) wr).setCell (p := ⟨g, 3, none⟩) (fun _ => rfl) _).setCell (p := ⟨g, 5, none⟩) (fun _ => rfl) _).setCell (p := ⟨g, 6, none⟩) (fun _ => rfl) _).setCell (p := ⟨g, 7, none⟩) (fun _ => rfl) _
  rw [← hw4] at hset ⊢
  have hFk : Only F w wr := q3.mono (fun i _ e => by
    rcases e with e | e
    · rw [e]; exact h.fk
    · rw [e]; exact h.fs)
  refine ⟨F, E, ⟨gk, ck, gs, cs, .slice none 0 0, .slice none 0 0, ?_⟩, fun _ h => .inl h, fun _ h => .inl h, hFk.trans k1 (fun i _ e => by rw [e]; exact h.fg)⟩
  refine ⟨?_, q1.only k1 (fun e => h.neK e.symm), ?_, World.ownsRow_nil _ _ _ _, RwIs.nil _ _, h.ne, h.fg, h.fk, h.fs, (fun i hi => by cases hi), fun i hi => ?_, fun i hi => ?_, h.apart, h.ok.cut keep⟩
  · show Has _ g _ #[.int .i64 (s.size : Int), .slice (some ⟨gk, 0, none⟩) (applyL s.kept (chosen s.pend keep)).length ck, .slice (some ⟨gs, 0, none⟩) (applyL s.kept (chosen s.pend keep)).length cs, .slice none 0 0, .int .i64 (s.writes : Int), .bool true, .int .i64 0, .slice none 0 0]
    rw [hl]
    exact hset
  · exact q2.only k1 (fun e => h.neS e.symm)
  · exact Nat.lt_of_lt_of_le (h.lt i hi) (Nat.le_trans q3.size k1.size)
  · exact Nat.lt_of_lt_of_le (h.lte i hi) (Nat.le_trans q3.size k1.size)
end

set_option maxHeartbeats 4000000 in
theorem cut_any (F E K : Nat → Prop) (g : Nat) (s : D) (keep : List Bool) (x : Value) (w : World) (h : Dk w F E g s) (hx : RwIs w K keep.length x (bvs keep)) (hK : ∀ i, K i → ¬ F i) (hn : s.pend.length ≤ 1000000) :
    Calls Tryz.prog 18 #[.pointer (some ⟨g, 0, none⟩), x] w fun e w' => e = .returned (.tuple #[]) ∧ DkStep w F E g (s.cut keep) w' := by
  obtain ⟨gk, ck, gs, cs, pv, hv, h⟩ := h
  obtain ⟨Ax, cx, rfl, hr⟩ := hx
  obtain ⟨A, c, hpe, _⟩ := RwIs.of_own h.pend
  have c3 := h.has.cell 3
  rw [hpe] at c3
  simp at c3
  have I0 : Hid (KInv w gk ck (applyL s.kept (chosen (s.pend.take 0) keep)) w) := by
    have e : chosen (s.pend.take 0) keep = [] := by simp [chosen]
    rw [e]
    exact ⟨h.kept, Only.refl _ _⟩
  have HH := Lib.hid h
  have HE := Lib.hid hpe
  have HR := Lib.hid hr
  clear h hpe hr
  go_enter Tryz.func18, Tryz.ntmps18
  go_wp2
  go_loopw [13] (fun i wr => ∃ j : Nat, j ≤ s.pend.length ∧ i = .int .i64 j ∧ Hid (KInv w gk ck (applyL s.kept (chosen (s.pend.take j) keep)) wr)) (fun i _ => s.pend.length - (intOf i).toNat)
  case atStart => exact ⟨0, Nat.zero_le _, rfl, I0⟩
  case round =>
    obtain ⟨j, hj, rfl, hrel⟩ := hrel
    clear I0
    by_cases hlt : j < s.pend.length
    · have KK := hrel.out
      have hh := HH.out
      obtain ⟨gp, c', he, _⟩ := owns_some hh.pend (by omega)
      have hpe := HE.out
      rw [he] at hpe
      injection hpe with e1 _ e2
      subst e1 e2
      have hpend := owns_only hh.pend KK.2 (fun i hi e => by have := hh.pne i hi; omega)
      rw [he] at hpend
      obtain ⟨q0, q1⟩ := pend_cells hpend hlt
      have hsec := hh.ok.sect _ (List.getElem_mem hlt)
      have hcs := chosen_step s.pend keep j hlt
      have hll : (applyL s.kept (chosen (s.pend.take j) keep)).length = s.kept.length := applyL_length _ _
      have hone := fun a b => applyL_one s.kept (chosen (s.pend.take j) keep) a b
      have hpj : s.pend[j] = (s.pend[j].1, s.pend[j].2) := rfl
      rw [hpj] at hcs
      obtain ⟨i, hi⟩ : ∃ i, i = s.pend[j].1 := ⟨_, rfl⟩
      obtain ⟨z, hz⟩ : ∃ z, z = s.pend[j].2 := ⟨_, rfl⟩
      rw [← hi] at q0 hsec
      rw [← hz] at q1
      rw [← hi, ← hz] at hcs
      have kA : Only (fun a => a = gk) w (wr.alloc (.cells #[.int .i64 (i : Int), .string (strOf z)] 79)) := KK.2.alloc _
      have cG := (hh.has.only kA (fun e => hh.neK e)).cell 1
      have rK : StrRow (wr.alloc (.cells #[.int .i64 (i : Int), .string (strOf z)] 79)) gk ck (applyL s.kept (chosen (s.pend.take j) keep)) := KK.1.only ((Only.refl (fun _ => False) wr).alloc _) (fun h => h)
      obtain ⟨y, cK⟩ : ∃ y, (wr.alloc (.cells #[.int .i64 (i : Int), .string (strOf z)] 79)).cell? ⟨gk, i, none⟩ = some (.string (strOf y)) := ⟨_, rK.cell (i := i) (by omega)⟩
      have fK := rK.frozen i
      simp at cG
      have i0' : (0 : Int) ≤ (j : Int) := by omega
      have i1 : (j : Int) < (s.pend.length : Int) := by omega
      have i2 : (0 : Int) ≤ (i : Int) := by omega
      have i3 : (i : Int) < (s.kept.length : Int) := by omega
      by_cases hjk : j < keep.length
      · obtain ⟨ad, rfl, hKa, hal, hac⟩ := HR.out (by rw [bvs_length]; omega)
        have cB : (wr.alloc (.cells #[.int .i64 (i : Int), .string (strOf z)] 79)).cell? (ad.add j) = some (.bool keep[j]) :=
          (kA.cell (by rw [addr_block]; exact hal) (by rw [addr_block]; exact fun e => hK _ hKa (by rw [e]; exact hh.fk))).trans (hac j _ (bvs_get hjk))
        have dk : decide ((j : Int) < (keep.length : Int)) = true := decide_eq_true (by omega)
        have k1 : (j : Int) < (keep.length : Int) := by omega
        cases hb : keep[j] with
        | true =>
          rw [if_pos (by rw [List.getElem?_eq_getElem hjk, hb])] at hcs
          have KS := Lib.hid (KK.step (.cells #[.int .i64 (i : Int), .string (strOf z)] 79) i z)
          rw [← hone, ← hcs] at KS
          rw [hb] at cB
          clear KK hh he hpend hll hi hz hrel kA rK hsec hcs hone hpj hb hac
          go_wp2
          go_region
          all_goals
            go_wp2
            go_roundw
            case rel => exact ⟨j + 1, by omega, by go_num, KS⟩
            case measure => simp [intOf]; omega
        | false =>
          rw [if_neg (by rw [List.getElem?_eq_getElem hjk, hb]; decide), List.append_nil] at hcs
          have KS := Lib.hid (KK.alloc (.cells #[.int .i64 (i : Int), .string (strOf z)] 79))
          rw [← hcs] at KS
          rw [hb] at cB
          clear KK hh he hpend hll hi hz hrel kA rK hsec hcs hone hpj hb hac
          go_wp2
          go_roundw
          case rel => exact ⟨j + 1, by omega, by go_num, KS⟩
          case measure => simp [intOf]; omega
      · have dk : decide ((j : Int) < (keep.length : Int)) = false := decide_eq_false (by omega)
        rw [if_neg (by rw [List.getElem?_eq_none (by omega)]; decide), List.append_nil] at hcs
        have KS := Lib.hid (KK.alloc (.cells #[.int .i64 (i : Int), .string (strOf z)] 79))
        rw [← hcs] at KS
        clear KK hh he hpend hll hi hz hrel kA rK hsec hcs hone hpj
        go_wp2
        go_roundw
        case rel => exact ⟨j + 1, by omega, by go_num, KS⟩
        case measure => simp [intOf]; omega
    · have hje : j = s.pend.length := by omega
      subst hje
      have KK := hrel.out
      rw [List.take_length] at KK
      have cG := (HH.out.has.only KK.2 (fun e => HH.out.neK e)).cell 3
      rw [HE.out] at cG
      simp at cG
      have I1 : Hid (CInv w gk ck gs cs (applyL s.kept (chosen s.pend keep)) (s.pend.drop 0) wr) := HH.out.cutting keep KK
      clear KK hrel
      obtain ⟨k', hk'⟩ : ∃ k', k' = applyL s.kept (chosen s.pend keep) := ⟨_, rfl⟩
      have hkl : k'.length = s.kept.length := by rw [hk']; exact applyL_length _ _
      rw [← hk'] at I1
      have HK' := Lib.hid hk'
      clear hk'
      go_wp2
      go_loopw [43] (fun i wr => ∃ j : Nat, j ≤ s.pend.length ∧ i = .int .i64 j ∧ Hid (CInv w gk ck gs cs k' (s.pend.drop j) wr)) (fun i _ => s.pend.length - (intOf i).toNat)
      case atStart => exact ⟨0, Nat.zero_le _, rfl, I1⟩
      case round =>
        obtain ⟨j, hj, rfl, hrel⟩ := hrel
        clear I1
        by_cases hlt : j < s.pend.length
        · have KK := hrel.out
          have hh := HH.out
          obtain ⟨gp, c', he, _⟩ := owns_some hh.pend (by omega)
          have hpe := HE.out
          rw [he] at hpe
          injection hpe with e1 _ e2
          subst e1 e2
          have hpend := owns_only hh.pend KK.2.1 (fun i hi e => by have := hh.pne i hi; omega)
          rw [he] at hpend
          obtain ⟨q0, q1⟩ := pend_cells hpend hlt
          have hsec := hh.ok.sect _ (List.getElem_mem hlt)
          rw [List.drop_eq_getElem_cons hlt] at KK
          obtain ⟨p, hp⟩ : ∃ p, p = s.pend[j] := ⟨_, rfl⟩
          rw [← hp] at q0 q1 hsec KK
          obtain ⟨i, z⟩ := p
          simp only at q0 q1 hsec
          obtain ⟨y, hy⟩ : ∃ y, k'[i]? = some y := ⟨_, List.getElem?_eq_getElem (by omega)⟩
          have KS := Lib.hid (KK.step hh.ne (.cells #[.int .i64 (i : Int), .string (strOf z)] 79) hy)
          obtain ⟨r1, kO, l, r2, hll, _⟩ := KK
          have kA : Only (fun _ => False) wr (wr.alloc (.cells #[.int .i64 (i : Int), .string (strOf z)] 79)) := (Only.refl _ _).alloc _
          have hg := hh.has.only (kO.alloc (.cells #[.int .i64 (i : Int), .string (strOf z)] 79)) (fun e => e.elim (fun e => hh.neK e) (fun e => hh.neS e))
          have cG1 := hg.cell 1
          have cG2 := hg.cell 2
          have rK := r1.only kA (fun h => h)
          have rS := r2.only kA (fun h => h)
          have cK : (wr.alloc (.cells #[.int .i64 (i : Int), .string (strOf z)] 79)).cell? ⟨gk, i, none⟩ = some (.string (strOf y)) := by
            have hi : i < k'.length := by omega
            rw [rK.cell hi]
            rw [List.getElem?_eq_getElem hi] at hy
            injection hy with hy
            rw [hy]
            rfl
          obtain ⟨y', cS⟩ : ∃ y, (wr.alloc (.cells #[.int .i64 (i : Int), .string (strOf z)] 79)).cell? ⟨gs, i, none⟩ = some (.string (strOf y)) := ⟨_, rS.cell (i := i) (by omega)⟩
          have fS := rS.frozen i
          simp at cG1 cG2
          have i0' : (0 : Int) ≤ (j : Int) := by omega
          have i1 : (j : Int) < (s.pend.length : Int) := by omega
          have i2 : (0 : Int) ≤ (i : Int) := by omega
          have i3 : (i : Int) < (s.kept.length : Int) := by omega
          clear hh he hpend hp hrel kA rK rS hsec hg kO r1 r2 hll hy
          go_wp2
          go_region
          all_goals
            go_wp2
            go_roundw
            case rel => exact ⟨j + 1, by omega, by go_num, KS⟩
            case measure => simp [intOf]; omega
        · have hje : j = s.pend.length := by omega
          subst hje
          have KK := hrel.out
          rw [List.drop_length, HK'.out] at KK
          have R := Lib.hid (HH.out.cutted keep KK)
          have hg := HH.out.has.only KK.2.1 (fun e => e.elim (fun e => HH.out.neK e) (fun e => HH.out.neS e))
          have g3 := hg.cell 3
          have f3 := hg.frozen 3
          have g5 := hg.cell 5
          have f5 := hg.frozen 5
          have g6 := hg.cell 6
          have f6 := hg.frozen 6
          have g7 := hg.cell 7
          have f7 := hg.frozen 7
          rw [HE.out] at g3
          obtain ⟨Ah, ch, hhv, _⟩ := HH.out.keep
          rw [hhv] at g7
          simp at g3 g5 g6 g7
          clear KK hrel hg hhv
          go_wp2
          go_end0
          exact ⟨rfl, R.out⟩
end Go.Proofs.YtnhojcldeloigaaGreat
