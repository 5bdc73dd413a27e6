/-
  Package disk: Read, Arm.
-/
import Derived.Test.YtnhojcldeloigaaGreatDiskK
namespace Go.Proofs.YtnhojcldeloigaaGreat
open Go.RowKit Go.Lib
set_option maxRecDepth 100000

theorem Tryz.enterRead1 : ∀ args w, (callFunc 90 args).run Tryz.prog w = .ok (.enter 90 args) w := enters_of Tryz.func90 (by kernel_rfl) rfl
/-- What Read's function leaves in its box. -/
def RdBox (w : World) (p : Nat) (l : List UInt8) (w' : World) : Prop :=
  ∃ v, Has w' p 33 #[v] ∧ SlIs w' w.heap.size w'.heap.size v l ∧ Only (fun i => i = p) w w'
set_option maxHeartbeats 1000000 in
theorem read1_any (F E : Nat → Prop) (g p0 p1 p2 : Nat) (i : Int) (s : D) (w : World) (h : Dk w F E g s) (b0 : Has w p0 25 #[.pointer (some ⟨g, 0, none⟩)]) (b1 : Has w p1 3 #[.int .i64 i]) (b2 : Has w p2 33 #[.slice none 0 0]) :
    Calls Tryz.prog 90 #[.pointer (some ⟨p0, 0, none⟩), .pointer (some ⟨p1, 0, none⟩), .pointer (some ⟨p2, 0, none⟩)] w fun e w' => e = endsIn (s.read i).1 ∧ RdBox w p2 (s.read i).2 w' := by
  have R0 : Hid (RdBox w p2 [] w) := ⟨_, b2, ⟨none, 0, rfl, by simp, by simp, Rd.empty _ _ _ _⟩, Only.refl _ _⟩
  have c0 := b0.cell 0
  have c1 := b1.cell 0
  simp at c0 c1
  cases ho : s.off with
  | true =>
    have hr : s.read i = (22, []) := by rw [D.read, if_pos ho]
    rw [hr]
    have C := Lib.hid (muston_no F E g s w h ho)
    clear h b0 b1 b2 hr ho
    go_enter Tryz.func90, Tryz.ntmps90
    go_wp2_with fail
    refine C.out.mono ?_
    rintro e w' ⟨rfl, rfl⟩
    go_wp2
    exact ⟨rfl, rfl, R0.out⟩
  | false =>
    have C := Lib.hid (muston_yes F E g s w h ho)
    by_cases hi : 0 ≤ i ∧ i < (s.kept.length : Int)
    · have hr : s.read i = (0, s.seen.getD i.toNat []) := by rw [D.read, if_neg (by rw [ho]; decide), if_pos hi]
      rw [hr]
      have C2 := Lib.hid (musthave_yes F E g s w h i hi)
      obtain ⟨k, rfl⟩ : ∃ k : Nat, i = (k : Int) := ⟨i.toNat, by omega⟩
      have hk : k < s.seen.length := by rw [D.seen_length]; omega
      have hg : s.seen.getD (k : Int).toNat [] = s.seen[k] := by simp [List.getD, hk]
      rw [hg]
      have hlen : s.seen[k].length ≤ 1024 := by
        have := h.lt.2.2.2.2.2
        rw [this.seen _ (List.getElem_mem hk)]
        exact this.small
      obtain ⟨gk, ck, gs, cs, pv, hv, h⟩ := h
      have cg := h.has.cell 2
      have cS := h.seen.cell hk
      simp at cg
      generalize s.seen[k] = x at cS hlen ⊢
      obtain ⟨A, c, w2, hcv, hsl, hbl⟩ := str_bytes x w.drew (by simp [maxLen]; omega)
      have hb2 : Has w2 p2 33 #[.slice none 0 0] := (hbl.block p2 b2.lt).trans b2
      have hc2 := hb2.cell 0
      have hf2 := hb2.frozen 0
      have hsz : w.heap.size ≤ w2.heap.size := hbl.size
      have R : Hid (RdBox w p2 x (w2.setCell ⟨p2, 0, none⟩ (.slice A x.length c))) := by
        have k2 : Only (fun i => i = p2) w2 (w2.setCell ⟨p2, 0, none⟩ (.slice A x.length c)) := (Only.refl (fun i => i = p2) w2).setCell (p := ⟨p2, 0, none⟩) (fun _ => rfl) _
        have k0 : Only (fun i => i = p2) w w2 := ⟨hbl.os, hbl.tape, hbl.output, hbl.size, fun i hi _ => hbl.block i hi⟩
        refine ⟨_, hb2.set 0 _, ?_, k0.trans k2 (fun _ _ h => h)⟩
        have := hsl.only k2 (Nat.le_refl _) (fun i h1 _ e => by have := b2.lt; have h1 : w.heap.size ≤ i := h1; omega)
        obtain ⟨A', c', e, q1, q2, q3⟩ := this
        exact ⟨A', c', e, q1, q2, q3.wide (Nat.le_refl _) k2.size⟩
      simp at hc2
      have cS' : w.cell? ⟨gs, k, none⟩ = some (.string (strOf x)) := cS
      have i2 : (0 : Int) ≤ (k : Int) := by omega
      have i3 : (k : Int) < (s.kept.length : Int) := hi.2
      clear h b0 b1 b2 hr ho hsl hbl hb2 cS hi hk hg hlen R0 hsz
      go_enter Tryz.func90, Tryz.ntmps90
      go_wp2_with fail
      refine C.out.mono ?_
      rintro e w' ⟨rfl, rfl⟩
      go_wp2_with fail
      refine C2.out.mono ?_
      rintro e w' ⟨rfl, rfl⟩
      go_upto_region 2 with fail
      go_still_tail 7, (by kernel_rfl)
      go_wp2
      go_end0
      exact ⟨rfl, R.out⟩
    · have hr : s.read i = (1, []) := by rw [D.read, if_neg (by rw [ho]; decide), if_neg hi]
      rw [hr]
      have C2 := Lib.hid (musthave_no F E g s w h i hi)
      clear h b0 b1 b2 hr ho hi
      go_enter Tryz.func90, Tryz.ntmps90
      go_wp2_with fail
      refine C.out.mono ?_
      rintro e w' ⟨rfl, rfl⟩
      go_wp2_with fail
      refine C2.out.mono ?_
      rintro e w' ⟨rfl, rfl⟩
      go_wp2
      exact ⟨rfl, rfl, R0.out⟩

set_option maxHeartbeats 1000000 in
theorem read_any (F E : Nat → Prop) (g : Nat) (i : Int) (s : D) (w : World) (h : Dk w F E g s) :
    Calls Tryz.prog 71 #[.pointer (some ⟨g, 0, none⟩), .int .i64 i] w fun e w' => ∃ v, e = .returned (.tuple #[v, .int .i64 (s.read i).1]) ∧ SlIs w' w.heap.size w'.heap.size v (s.read i).2 ∧ Below w.heap.size w w' := by
  obtain ⟨lg, fg, lF, lE, ap, ok⟩ := h.lt
  obtain ⟨W, hW⟩ : ∃ W, W = ((w.alloc (.cells #[.pointer (some ⟨g, 0, none⟩)] 25)).alloc (.cells #[.int .i64 i] 3)).alloc (.cells #[.slice none 0 0] 33) := ⟨_, rfl⟩
  have sW : W.heap.size = w.heap.size + 3 := by rw [hW]; simp
  have kE : Only (fun _ => False) w (W.alloc errBox) := by rw [hW]; exact ((((Only.refl _ w).alloc _).alloc _).alloc _).alloc _
  have sE : (W.alloc errBox).heap.size = w.heap.size + 4 := by simp [sW]
  have b0 : Has (W.alloc errBox) w.heap.size 25 #[.pointer (some ⟨g, 0, none⟩)] := by
    rw [hW]
    exact (((Has.new w _ _).alloc _).alloc _).alloc _
  have b1 : Has (W.alloc errBox) (w.heap.size + 1) 3 #[.int .i64 i] := by
    rw [hW]
    have := (((Has.new (w.alloc (.cells #[.pointer (some ⟨g, 0, none⟩)] 25)) 3 #[.int .i64 i]).alloc (.cells #[.slice none 0 0] 33)).alloc errBox)
    simpa using this
  have b2 : Has (W.alloc errBox) (w.heap.size + 2) 33 #[.slice none 0 0] := by
    rw [hW]
    have := ((Has.new ((w.alloc (.cells #[.pointer (some ⟨g, 0, none⟩)] 25)).alloc (.cells #[.int .i64 i] 3)) 33 #[.slice none 0 0]).alloc errBox)
    simpa using this
  have C1 := read1_any F E g _ _ _ i s _ (h.only kE (fun _ _ h => h.elim)) b0 b1 b2
  have C := Lib.hid (caught_any 90 _ Tryz.enterRead1 W (s.read i).1 (RdBox (W.alloc errBox) (w.heap.size + 2) (s.read i).2) (C1.mono fun e w' hh => ⟨hh.1, by
    obtain ⟨_, _, _, o⟩ := hh.2
    exact (Has.new W 26 #[.int .i64 0]).only o (fun h => by omega), hh.2⟩))
  have R : Hid (∀ w1 w', RdBox (W.alloc errBox) (w.heap.size + 2) (s.read i).2 w1 → Only (fun i => i = W.heap.size) w1 w' → ∃ A c, w'.cell? ⟨w.heap.size + 2, 0, none⟩ = some (.slice A (s.read i).2.length c) ∧ SlIs w' w.heap.size w'.heap.size (.slice A (s.read i).2.length c) (s.read i).2 ∧ Below w.heap.size w w') := by
    rintro w1 w' ⟨v, q1, q2, q3⟩ k2
    have := q3.size
    have hv := q2.only k2 (Nat.le_refl _) (fun j h1 _ e => by omega)
    obtain ⟨A, c, rfl, r1, r2, r3⟩ := hv
    have e0 := (q1.only k2 (fun e => by omega)).cell 0
    refine ⟨A, c, by simpa using e0, ⟨A, c, rfl, r1, r2, r3.wide (by omega) k2.size⟩, ?_⟩
    have k3 := (kE.mono (T := fun _ => False) (fun _ _ h => h)).below (B := w.heap.size) (Nat.le_refl _) (fun _ _ h => h)
    exact (k3.trans (q3.below (by omega) (fun j hj e => by omega))).trans (k2.below (by omega) (fun j hj e => by omega))
  generalize s.read i = r at C R ⊢
  rw [hW] at C R
  clear b0 b1 b2 C1 kE sE sW hW h
  go_enter Tryz.func71, Tryz.ntmps71
  go_wp2_with fail
  refine C.out.mono ?_
  rintro e w' ⟨rfl, w1, hd, k2⟩
  obtain ⟨A, c, cA, q2, q3⟩ := R.out w1 w' hd k2
  have R2 := Lib.hid q2
  have R3 := Lib.hid q3
  clear C R hd k2 q2 q3
  go_wp2
  go_ret2
  exact ⟨_, rfl, R2.out, R3.out⟩

set_option maxHeartbeats 1000000 in
theorem arm_any (F E K : Nat → Prop) (g : Nat) (n : Int) (s : D) (keep : List Bool) (x : Value) (w : World) (h : Dk w F E g s) (hx : RwIs w K keep.length x (bvs keep)) (hl : keep.length ≤ 1000000) :
    Calls Tryz.prog 19 #[.pointer (some ⟨g, 0, none⟩), .int .i64 n, x] w fun e w' => e = .returned (.tuple #[]) ∧ DkStep w F E g (s.arm n keep) w' := by
  have C := Lib.hid (cloneBo_any K keep.length x (bvs keep) w hx (by simp [bvs_length]) (bvs_one keep) (by omega))
  obtain ⟨Ax, cx, rfl, _⟩ := hx
  obtain ⟨gk, ck, gs, cs, pv, hv, h⟩ := h
  obtain ⟨m, hm⟩ : ∃ m : Int, m = max n 1 := ⟨_, rfl⟩
  have hmn : m = (((if n < 1 then 1 else n.toNat : Nat)) : Int) := by rw [hm]; split <;> omega
  have R : Hid (∀ v w1, w1.ownsRow w.heap.size 4 1 v keep.length (bvs keep) → Below w.heap.size w w1 → (∃ A c, v = .slice A keep.length c) ∧ (w1.cell? ⟨g, 6, none⟩ = some (.int .i64 (s.armed : Int)) ∧ w1.frozen? ⟨g, 6, none⟩ = false ∧ w1.cell? ⟨g, 7, none⟩ = some hv ∧ w1.frozen? ⟨g, 7, none⟩ = false) ∧
      DkStep w F E g (s.arm n keep) ((w1.setCell ⟨g, 6, none⟩ (.int .i64 m)).setCell ⟨g, 7, none⟩ v)) := by
    intro v w1 hv1 hb
    have kb : Only (fun _ => False) w w1 := ⟨hb.os, hb.tape, hb.output, hb.size, fun i hi _ => hb.block i hi⟩
    have hg1 := h.has.only kb (fun h => h)
    have e6 := hg1.cell 6
    have e7 := hg1.cell 7
    refine ⟨by obtain ⟨A, c, e, _⟩ := RwIs.of_own hv1; exact ⟨A, c, e⟩, ⟨by simpa using e6, hg1.frozen 6, by simpa using e7, hg1.frozen 7⟩, ?_⟩
    have d1 := h.only kb (fun _ _ h => h.elim)
    have k1 : Only (fun i => i = g) w1 ((w1.setCell ⟨g, 6, none⟩ (.int .i64 m)).setCell ⟨g, 7, none⟩ v) := ((Only.refl (fun i => i = g) w1).setCell (p := ⟨g, 6, none⟩) (fun _ => rfl) _).setCell (p := ⟨g, 7, none⟩) (fun _ => rfl) _
    have hset := (hg1.set 6 (.int .i64 m)).set 7 v
    have hgl := h.has.lt
    refine ⟨F, fun i => v.ownBlock = some i, ⟨gk, ck, gs, cs, pv, v, ?_⟩, fun _ h => .inl h, fun i hi => .inr (hv1.lt i hi).1, (kb.mono (T := F) (fun _ _ h => h.elim)).trans k1 (fun i _ e => by rw [e]; exact h.fg)⟩
    refine ⟨?_, d1.kept.only k1 (fun e => h.neK e.symm), d1.seen.only k1 (fun e => h.neS e.symm), owns_only d1.pend k1 (fun i hi e => (h.pne i hi).1 e), (RwIs.of_own hv1).only k1 (fun i _ hi e => by have := (hv1.lt i hi).1; omega), h.ne, h.fg, h.fk, h.fs, h.fp, fun i hi => ?_, fun i hi => ?_, fun i hi hF => ?_, h.ok.arm n keep⟩
    · show Has _ g _ #[.int .i64 (s.size : Int), .slice (some ⟨gk, 0, none⟩) s.kept.length ck, .slice (some ⟨gs, 0, none⟩) s.kept.length cs, pv, .int .i64 (s.writes : Int), .bool s.off, .int .i64 (((if n < 1 then 1 else n.toNat : Nat)) : Int), v]
      rw [← hmn]
      exact hset
    · have := h.lt i hi
      have := kb.size
      have := k1.size
      omega
    · have := (hv1.lt i hi).2
      have := k1.size
      omega
    · have := h.lt i hF
      have := (hv1.lt i hi).1
      omega
  obtain ⟨Ah, ch, rfl, _⟩ := h.keep
  clear h hmn
  rw [hm] at R
  clear hm
  go_enter Tryz.func19, Tryz.ntmps19
  go_wp2_with fail
  refine C.out.mono ?_
  rintro e w1 ⟨v, rfl, h1, h2⟩
  obtain ⟨⟨A, c, rfl⟩, ⟨e6, f6, e7, f7⟩, hd⟩ := R.out v w1 h1 h2
  have R2 := Lib.hid hd
  clear h1 h2 hd R C
  go_wp2
  go_end0
  exact ⟨rfl, R2.out⟩
end Go.Proofs.YtnhojcldeloigaaGreat
