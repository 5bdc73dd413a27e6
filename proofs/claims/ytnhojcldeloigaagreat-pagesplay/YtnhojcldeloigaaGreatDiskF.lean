/-
  Package disk: Sync's function, Cut, countDown.
-/
import Derived.Test.YtnhojcldeloigaaGreatDiskD
namespace Go.Proofs.YtnhojcldeloigaaGreat
open Go.RowKit
set_option maxRecDepth 100000

theorem pend_cells {w : World} {gp n c j : Nat} {l : List (Nat × List UInt8)} (h : w.ownsRow 0 79 2 (.slice (some ⟨gp, 0, none⟩) n c) n (wvs l)) (hj : j < l.length) :
    w.cell? ⟨gp, j * 2, none⟩ = some (.int .i64 (l[j].1 : Int)) ∧ w.cell? ⟨gp, j * 2 + 1, none⟩ = some (.string (strOf l[j].2)) := by
  have hl := h.1
  rw [wvs_length] at hl
  obtain ⟨a, b⟩ := wvs_get l j hj
  exact ⟨(World.ownsRow.cellAt h (j * 2) (by omega)).trans a, (World.ownsRow.cellAt h (j * 2 + 1) (by omega)).trans b⟩
/-- A row of strings that is being set; nothing else has turned. -/
def KInv (w : World) (gk ck : Nat) (l : List (List UInt8)) (wr : World) : Prop := StrRow wr gk ck l ∧ Only (fun i => i = gk) w wr
theorem KInv.step {w wr : World} {gk ck : Nat} {l : List (List UInt8)} (h : KInv w gk ck l wr) (o : Obj) (i : Nat) (x : List UInt8) : KInv w gk ck (l.set i x) ((wr.alloc o).setCell ⟨gk, i, none⟩ (.string (strOf x))).drew :=
  have h1 : StrRow (wr.alloc o) gk ck l := h.1.only ((Only.refl (fun _ => False) wr).alloc o) (fun h => h)
  ⟨h1.set i x, ((h.2.alloc o).setCell (p := ⟨gk, i, none⟩) (fun _ => rfl) _).drew⟩

section
variable {w wr : World} {F E : Nat → Prop} {g : Nat} {s : D} {gk ck gs cs : Nat} {pv hv : Value}
theorem DkAt.pne (h : DkAt w F E g s gk ck gs cs pv hv) : ∀ i, pv.ownBlock = some i → i ≠ g ∧ i ≠ gk ∧ i ≠ gs := fun i hi => by
  refine ⟨fun e => owns_ne h.pend h.has (by decide) (by rw [hi, e]), fun e => ?_, fun e => ?_⟩
  · subst e
    obtain ⟨cap, cur, hh⟩ : ∃ cap cur, w.heap[i]? = some (.cells cur 9 (0, 0)) ∧ cap = 0 := by
      rcases id h.kept.2 with ⟨he, _⟩ | ⟨g', cap, cur, he, _, hh, _⟩
      · cases he
      · injection he with he
        injection he with he
        injection he with he
        subst he
        exact ⟨0, cur, hh, rfl⟩
    exact owns_ne h.pend (t := 9) (cs := cur) hh.1 (by decide) (by rw [hi])
  · subst e
    obtain ⟨cap, cur, hh⟩ : ∃ cap cur, w.heap[i]? = some (.cells cur 9 (0, 0)) ∧ cap = 0 := by
      rcases id h.seen.2 with ⟨he, _⟩ | ⟨g', cap, cur, he, _, hh, _⟩
      · cases he
      · injection he with he
        injection he with he
        injection he with he
        subst he
        exact ⟨0, cur, hh, rfl⟩
    exact owns_ne h.pend (t := 9) (cs := cur) hh.1 (by decide) (by rw [hi])
/-- Behind the last store of a Sync. -/
theorem DkAt.synced (h : DkAt w F E g s gk ck gs cs pv hv) (k : KInv w gk ck s.seen wr) : DkStep w F E g { s with kept := s.seen, pend := [] } (wr.setCell ⟨g, 3, none⟩ (.slice none 0 0)) := by
  have hl := s.seen_length
  have hg := h.has.only k.2 (fun e => h.neK e)
  have hs := h.seen.only k.2 (fun e => h.ne e.symm)
  have hk := h.keep.only k.2 (fun i _ hE e => h.apart i hE (by rw [e]; exact h.fk))
  have k1 : Only (fun i => i = g) wr (wr.setCell ⟨g, 3, none⟩ (.slice none 0 0)) := (Only.refl (fun i => i = g) wr).setCell (p := ⟨g, 3, none⟩) (fun _ => rfl) _
  refine ⟨F, E, ⟨gk, ck, gs, cs, .slice none 0 0, hv, ?_⟩, fun _ h => .inl h, fun _ h => .inl h, (k.2.mono (T := F) (fun i _ e => by rw [e]; exact h.fk)).trans k1 (fun i _ e => by rw [e]; exact h.fg)⟩
  have hset := hg.set 3 (.slice none 0 0)
  refine ⟨?_, k.1.only k1 (fun e => h.neK e.symm), ?_, World.ownsRow_nil _ _ _ _, hk.only k1 (fun i _ hE e => h.apart i hE (by rw [e]; exact h.fg)), h.ne, h.fg, h.fk, h.fs, (fun i hi => by cases hi), fun i hi => ?_, fun i hi => ?_, h.apart, h.ok.synced⟩
  · show Has _ g _ #[.int .i64 (s.size : Int), .slice (some ⟨gk, 0, none⟩) s.seen.length ck, .slice (some ⟨gs, 0, none⟩) s.seen.length cs, .slice none 0 0, .int .i64 (s.writes : Int), .bool s.off, .int .i64 (s.armed : Int), hv]
    rw [hl]
    exact hset
  · exact hs.only k1 (fun e => h.neS e.symm)
  · exact Nat.lt_of_lt_of_le (h.lt i hi) (Nat.le_trans k.2.size k1.size)
  · exact Nat.lt_of_lt_of_le (h.lte i hi) (Nat.le_trans k.2.size k1.size)
end

set_option maxHeartbeats 2000000 in
theorem sync1_on (F E : Nat → Prop) (g p : Nat) (s : D) (w : World) (h : Dk w F E g s) (ho : s.off = false) (hp : Has w p 25 #[.pointer (some ⟨g, 0, none⟩)]) (hn : s.pend.length ≤ 1000000) :
    Calls Tryz.prog 94 #[.pointer (some ⟨p, 0, none⟩)] w fun e w' => e = .returned (.tuple #[]) ∧ DkStep w F E g { s with kept := s.seen, pend := [] } w' := by
  have CM := Lib.hid (muston_yes F E g s w h ho)
  obtain ⟨gk, ck, gs, cs, pv, hv, h⟩ := h
  obtain ⟨A, c, hpe, _⟩ := RwIs.of_own h.pend
  have c3 := h.has.cell 3
  have cp := hp.cell 0
  rw [hpe] at c3
  simp at c3 cp
  have hpk : p ≠ gk := (h.kept.ne_has hp (by decide))
  have I0 : Hid (KInv w gk ck (applyL s.kept (s.pend.take 0)) w) := ⟨h.kept, Only.refl _ _⟩
  have HH := Lib.hid h
  have HP := Lib.hid hp
  have HE := Lib.hid hpe
  clear h hp hpe
  go_enter Tryz.func94, Tryz.ntmps94
  go_wp2_with fail
  refine CM.out.mono ?_
  rintro e w' ⟨rfl, rfl⟩
  clear CM
  go_wp2
  go_loopw [10] (fun i wr => ∃ j : Nat, j ≤ s.pend.length ∧ i = .int .i64 j ∧ Hid (KInv w gk ck (applyL s.kept (s.pend.take j)) wr)) (fun i _ => s.pend.length - (intOf i).toNat)
  case atStart => exact ⟨0, Nat.zero_le _, rfl, I0⟩
  case round =>
    obtain ⟨j, hj, rfl, hrel⟩ := hrel
    clear I0
    by_cases hlt : j < s.pend.length
    · have K := hrel.out
      have hh := HH.out
      obtain ⟨gp, c', he, _⟩ := owns_some hh.pend (by omega)
      have hpe := HE.out
      rw [he] at hpe
      injection hpe with e1 _ e2
      subst e1 e2
      have hpn := hh.pne gp (by rw [he]; rfl)
      have hpend := owns_only hh.pend K.2 (fun i hi e => by have := hh.pne i hi; omega)
      rw [he] at hpend
      obtain ⟨q0, q1⟩ := pend_cells hpend hlt
      have hsec := hh.ok.sect _ (List.getElem_mem hlt)
      have hstep : applyL s.kept (s.pend.take (j + 1)) = (applyL s.kept (s.pend.take j)).set s.pend[j].1 s.pend[j].2 := by
        rw [List.take_succ_eq_append_getElem hlt]
        exact applyL_one _ _ _ _
      have hll : (applyL s.kept (s.pend.take j)).length = s.kept.length := applyL_length _ _
      obtain ⟨i, hi⟩ : ∃ i, i = s.pend[j].1 := ⟨_, rfl⟩
      obtain ⟨x, hx⟩ : ∃ x, x = s.pend[j].2 := ⟨_, rfl⟩
      rw [← hi] at q0 hsec
      rw [← hx] at q1
      rw [← hi, ← hx] at hstep
      have KS := Lib.hid (K.step (.cells #[.int .i64 (i : Int), .string (strOf x)] 79) i x)
      rw [← hstep] at KS
      have kA : Only (fun a => a = gk) w (wr.alloc (.cells #[.int .i64 (i : Int), .string (strOf x)] 79)) := K.2.alloc _
      have cP := (HP.out.only kA hpk).cell 0
      have cG := (hh.has.only kA (fun e => hh.neK e)).cell 1
      have rK : StrRow (wr.alloc (.cells #[.int .i64 (i : Int), .string (strOf x)] 79)) gk ck (applyL s.kept (s.pend.take j)) := K.1.only ((Only.refl (fun _ => False) wr).alloc _) (fun h => h)
      obtain ⟨y, cK⟩ : ∃ y, (wr.alloc (.cells #[.int .i64 (i : Int), .string (strOf x)] 79)).cell? ⟨gk, i, none⟩ = some (.string (strOf y)) := ⟨_, rK.cell (i := i) (by omega)⟩
      have fK := rK.frozen i
      simp at cP cG
      have i0' : (0 : Int) ≤ (j : Int) := by omega
      have i1 : (j : Int) < (s.pend.length : Int) := by omega
      have i2 : (0 : Int) ≤ (i : Int) := by omega
      have i3 : (i : Int) < (s.kept.length : Int) := by omega
      clear K hh he hpn hpend hstep hll hi hx hrel kA rK hsec
      go_wp2
      go_region
      all_goals
        go_wp2
        go_roundw
        case rel => exact ⟨j + 1, by omega, by go_num, KS⟩
        case measure => simp [intOf]; omega
    · have hje : j = s.pend.length := by omega
      subst hje
      have K := hrel.out
      rw [List.take_length] at K
      have R := Lib.hid (HH.out.synced K)
      have cP := (HP.out.only K.2 hpk).cell 0
      have hg := HH.out.has.only K.2 (fun e => HH.out.neK e)
      have cG := hg.cell 3
      have fG := hg.frozen 3
      rw [HE.out] at cG
      simp at cP cG
      clear K hrel hg
      go_wp2
      go_end0
      exact ⟨rfl, R.out⟩
end Go.Proofs.YtnhojcldeloigaaGreat
