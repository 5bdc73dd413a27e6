/-
  Package disk: Write's function.
-/
import Derived.Test.YtnhojcldeloigaaGreatDiskH
namespace Go.Proofs.YtnhojcldeloigaaGreat
open Go.RowKit
set_option maxRecDepth 100000

section
variable {w w4 : World} {F E : Nat → Prop} {g : Nat} {s : D} {gk ck gs cs : Nat} {pv hv v' : Value} {o1 o2 : Obj} {k : Nat} {b : List UInt8}
/-- One write more: behind the append, the store of the list, the store of the sector, the count. -/
theorem DkAt.putted (h : DkAt w F E g s gk ck gs cs pv hv) (hk : k < s.kept.length) (hb : b.length = s.size)
    (hown : w4.ownsRow 0 79 2 v' (s.pend.length + 1) (wvs s.pend ++ [.int .i64 (k : Int), .string (strOf b)])) (hgr : ((w.alloc o1).alloc o2).drew.grownBy w4 pv.ownBlock)
    (hat : v'.ownBlock = pv.ownBlock ∨ v'.ownBlock = some ((w.alloc o1).alloc o2).drew.heap.size) :
    Only (fun i => pv.ownBlock = some i) w w4 ∧ Has w4 g 77 #[.int .i64 (s.size : Int), .slice (some ⟨gk, 0, none⟩) s.kept.length ck, .slice (some ⟨gs, 0, none⟩) s.kept.length cs, pv, .int .i64 (s.writes : Int), .bool s.off, .int .i64 (s.armed : Int), hv] ∧
    ∀ w5, w5 = w4.setCell ⟨g, 3, none⟩ v' → Has w5 g 77 #[.int .i64 (s.size : Int), .slice (some ⟨gk, 0, none⟩) s.kept.length ck, .slice (some ⟨gs, 0, none⟩) s.kept.length cs, v', .int .i64 (s.writes : Int), .bool s.off, .int .i64 (s.armed : Int), hv] ∧ StrRow w5 gs cs s.seen ∧ Only (fun i => i = g) w4 w5 ∧
    ∀ w6, w6 = (w5.setCell ⟨gs, k, none⟩ (.string (strOf b))).drew → Has w6 g 77 #[.int .i64 (s.size : Int), .slice (some ⟨gk, 0, none⟩) s.kept.length ck, .slice (some ⟨gs, 0, none⟩) s.kept.length cs, v', .int .i64 (s.writes : Int), .bool s.off, .int .i64 (s.armed : Int), hv] ∧ Only (fun i => i = gs) w5 w6 ∧
    DkStep w F E g { s with pend := s.pend ++ [(k, b)], writes := s.writes + 1 } (w6.setCell ⟨g, 4, none⟩ (.int .i64 ((s.writes + 1 : Nat) : Int))) := by
  have kA : Only (fun _ => False) w ((w.alloc o1).alloc o2).drew := (((Only.refl _ w).alloc _).alloc _).drew
  have hsA : ((w.alloc o1).alloc o2).drew.heap.size = w.heap.size + 2 := by
    show ((w.alloc o1).alloc o2).heap.size = _
    simp
  rw [hsA] at hat
  have k4 : Only (fun i => pv.ownBlock = some i) w w4 := (kA.mono (T := fun i => pv.ownBlock = some i) (fun _ _ h => h.elim)).trans (Only.of_grown hgr) (fun i _ e => e.symm)
  have hs4 := k4.size
  have hpn := h.pne
  have hg4 := h.has.only k4 (fun e => (hpn _ e).1 rfl)
  have rk4 := h.kept.only k4 (fun e => (hpn _ e).2.1 rfl)
  have rs4 := h.seen.only k4 (fun e => (hpn _ e).2.2 rfl)
  have hh4 := h.keep.only k4 (fun i _ hE e => h.apart i hE (h.fp i e))
  have hvb : ∀ i, v'.ownBlock = some i → (pv.ownBlock = some i ∨ w.heap.size ≤ i) ∧ i < w4.heap.size := fun i hi => by
    refine ⟨?_, (hown.lt i hi).2⟩
    rcases hat with e | e
    · exact .inl (e ▸ hi)
    · rw [e] at hi
      injection hi with hi
      right; omega
  refine ⟨k4, hg4, ?_⟩
  rintro w5 rfl
  have k5 : Only (fun i => i = g) w4 (w4.setCell ⟨g, 3, none⟩ v') := (Only.refl (fun i => i = g) w4).setCell (p := ⟨g, 3, none⟩) (fun _ => rfl) _
  have hg5 : Has (w4.setCell ⟨g, 3, none⟩ v') g 77 _ := hg4.set 3 v'
  have rk5 := rk4.only k5 (fun e => h.neK e.symm)
  have rs5 := rs4.only k5 (fun e => h.neS e.symm)
  have hh5 := hh4.only k5 (fun i _ hE e => h.apart i hE (by rw [e]; exact h.fg))
  have hgl := h.has.lt
  have hp5 := owns_only hown k5 (fun i hi e => by
    rcases (hvb i hi).1 with h1 | h1
    · exact (hpn i h1).1 e
    · omega)
  generalize w4.setCell ⟨g, 3, none⟩ v' = w5 at *
  refine ⟨hg5, rs5, k5, ?_⟩
  rintro w6 rfl
  have k6 : Only (fun i => i = gs) w5 (w5.setCell ⟨gs, k, none⟩ (.string (strOf b))).drew := ((Only.refl (fun i => i = gs) w5).setCell (p := ⟨gs, k, none⟩) (fun _ => rfl) _).drew
  have hg6 := hg5.only k6 (fun e => h.neS e)
  have rk6 := rk5.only k6 (fun e => h.ne e)
  have rs6 : StrRow (w5.setCell ⟨gs, k, none⟩ (.string (strOf b))).drew gs cs (s.seen.set k b) := rs5.set k b
  have hh6 := hh5.only k6 (fun i _ hE e => h.apart i hE (by rw [e]; exact h.fs))
  have hgsl := h.seen.lt
  have hp6 := owns_only hp5 k6 (fun i hi e => by
    rcases (hvb i hi).1 with h1 | h1
    · exact (hpn i h1).2.2 e
    · omega)
  generalize (w5.setCell ⟨gs, k, none⟩ (.string (strOf b))).drew = w6 at *
  refine ⟨hg6, k6, ?_⟩
  have k7 : Only (fun i => i = g) w6 (w6.setCell ⟨g, 4, none⟩ (.int .i64 ((s.writes + 1 : Nat) : Int))) := (Only.refl (fun i => i = g) w6).setCell (p := ⟨g, 4, none⟩) (fun _ => rfl) _
  have hg7 := hg6.set 4 (.int .i64 ((s.writes + 1 : Nat) : Int))
  have s5 := k5.size
  have s6 := k6.size
  have s7 := k7.size
  refine ⟨fun i => F i ∨ v'.ownBlock = some i, E, ⟨gk, ck, gs, cs, v', hv, ?_⟩, fun i hi => ?_, fun _ h => .inl h, ?_⟩
  · refine ⟨hg7, rk6.only k7 (fun e => h.neK e.symm), ?_, ?_, hh6.only k7 (fun i _ hE e => h.apart i hE (by rw [e]; exact h.fg)), h.ne, .inl h.fg, .inl h.fk, .inl h.fs, fun i hi => .inr hi, fun i hi => ?_, fun i hi => ?_, fun i hE hi => ?_, ?_⟩
    · have e : D.seen { s with pend := s.pend ++ [(k, b)], writes := s.writes + 1 } = s.seen.set k b := applyL_one _ _ _ _
      rw [e]
      exact rs6.only k7 (fun e => h.neS e.symm)
    · have q := owns_only hp6 k7 (fun i hi e => by
        rcases (hvb i hi).1 with h1 | h1
        · exact (hpn i h1).1 e
        · omega)
      show World.ownsRow _ 0 _ 2 v' (s.pend ++ [(k, b)]).length (wvs (s.pend ++ [(k, b)]))
      rw [wvs_append, List.length_append]
      exact q
    · rcases hi with hi | hi
      · have := h.lt i hi
        omega
      · have := (hvb i hi).2
        omega
    · have := h.lte i hi
      omega
    · rcases hi with hi | hi
      · exact h.apart i hE hi
      · rcases (hvb i hi).1 with h1 | h1
        · exact h.apart i hE (h.fp i h1)
        · have := h.lte i hE
          omega
    · have := h.ok.put hk hb
      exact ⟨this.pos, this.most, this.small, this.sect, this.long, this.longp⟩
  · rcases hi with hi | hi
    · exact .inl hi
    · rcases (hvb i hi).1 with h1 | h1
      · exact .inl (h.fp i h1)
      · exact .inr h1
  · refine (((k4.mono (T := F) (fun i _ e => h.fp i e)).trans k5 (fun i _ e => ?_)).trans k6 (fun i _ e => ?_)).trans k7 (fun i _ e => ?_)
    · rw [e]; exact h.fg
    · rw [e]; exact h.fs
    · rw [e]; exact h.fg
end

/-- What Write's function finds of its three boxes, and of the bytes. -/
structure WBox (w : World) (F : Nat → Prop) (g p0 p1 p2 lo hi : Nat) (i : Int) (x : Value) (b : List UInt8) : Prop where
  b0 : Has w p0 25 #[.pointer (some ⟨g, 0, none⟩)]
  b1 : Has w p1 3 #[.int .i64 i]
  b2 : Has w p2 33 #[x]
  n0 : ¬ F p0
  n1 : ¬ F p1
  n2 : ¬ F p2
  sl : SlIs w lo hi x b
  top : hi ≤ w.heap.size
  far : ∀ i, lo ≤ i → i < hi → ¬ F i
theorem WBox.only {w w' : World} {S F F' : Nat → Prop} {g p0 p1 p2 lo hi : Nat} {i : Int} {x : Value} {b : List UInt8} (h : WBox w F g p0 p1 p2 lo hi i x b) (k : Only S w w') (hS : ∀ i, i < w.heap.size → S i → F i) (hF : ∀ i, F' i → F i ∨ w.heap.size ≤ i) : WBox w' F' g p0 p1 p2 lo hi i x b := by
  have hn : ∀ j, j < w.heap.size → ¬ F j → ¬ F' j := fun j hj hn hf => by
    rcases hF j hf with h | h
    · exact hn h
    · omega
  have ht := h.top
  exact ⟨h.b0.only k (fun e => h.n0 (hS _ h.b0.lt e)), h.b1.only k (fun e => h.n1 (hS _ h.b1.lt e)), h.b2.only k (fun e => h.n2 (hS _ h.b2.lt e)), hn _ h.b0.lt h.n0, hn _ h.b1.lt h.n1, hn _ h.b2.lt h.n2,
    h.sl.only k h.top (fun j h1 h2 e => h.far j h1 h2 (hS j (by omega) e)), Nat.le_trans h.top k.size, fun j h1 h2 => hn j (by omega) (h.far j h1 h2)⟩

section
variable (F E : Nat → Prop) (g p0 p1 p2 lo hi : Nat) (i : Int) (x : Value) (b : List UInt8) (s : D) (w : World) (h : Dk w F E g s) (hb : WBox w F g p0 p1 p2 lo hi i x b)
include h hb
theorem write1_off (ho : s.off = true) : Calls Tryz.prog 100 #[.pointer (some ⟨p0, 0, none⟩), .pointer (some ⟨p1, 0, none⟩), .pointer (some ⟨p2, 0, none⟩)] w fun e w' =>
    e = .panicked [{ v := .iface 26 (.int .i64 22), recovered := false }] ∧ DkStep w F E g s w' := by
  have C := Lib.hid (muston_no F E g s w h ho)
  have R := Lib.hid h.same
  have c0 := hb.b0.cell 0
  simp at c0
  clear h hb
  go_enter Tryz.func100, Tryz.ntmps100
  go_wp2_with fail
  refine C.out.mono ?_
  rintro e w' ⟨rfl, rfl⟩
  go_wp2
  exact ⟨rfl, rfl, R.out⟩
theorem write1_none (ho : s.off = false) (hi' : ¬ (0 ≤ i ∧ i < (s.kept.length : Int))) : Calls Tryz.prog 100 #[.pointer (some ⟨p0, 0, none⟩), .pointer (some ⟨p1, 0, none⟩), .pointer (some ⟨p2, 0, none⟩)] w fun e w' =>
    e = .panicked [{ v := .iface 26 (.int .i64 1), recovered := false }] ∧ DkStep w F E g s w' := by
  have C := Lib.hid (muston_yes F E g s w h ho)
  have C2 := Lib.hid (musthave_no F E g s w h i hi')
  have R := Lib.hid h.same
  have c0 := hb.b0.cell 0
  have c1 := hb.b1.cell 0
  simp at c0 c1
  clear h hb hi'
  go_enter Tryz.func100, Tryz.ntmps100
  go_wp2_with fail
  refine C.out.mono ?_
  rintro e w' ⟨rfl, rfl⟩
  go_wp2_with fail
  refine C2.out.mono ?_
  rintro e w' ⟨rfl, rfl⟩
  go_wp2
  exact ⟨rfl, rfl, R.out⟩
set_option maxHeartbeats 1000000 in
theorem write1_long (ho : s.off = false) (hi' : 0 ≤ i ∧ i < (s.kept.length : Int)) (hl : b.length ≠ s.size) : Calls Tryz.prog 100 #[.pointer (some ⟨p0, 0, none⟩), .pointer (some ⟨p1, 0, none⟩), .pointer (some ⟨p2, 0, none⟩)] w fun e w' =>
    e = .panicked [{ v := .iface 26 (.int .i64 1), recovered := false }] ∧ DkStep w F E g s w' := by
  have C := Lib.hid (muston_yes F E g s w h ho)
  have C2 := Lib.hid (musthave_yes F E g s w h i hi')
  have R : Hid (DkStep w F E g s w.drew) := ⟨F, E, h.drew, fun _ h => .inl h, fun _ h => .inl h, (Only.refl _ w).drew⟩
  have c0 := hb.b0.cell 0
  have c1 := hb.b1.cell 0
  have c2 := hb.b2.cell 0
  obtain ⟨A, c, rfl, _⟩ := hb.sl
  obtain ⟨gk, ck, gs, cs, pv, hv, h⟩ := h
  have cg := h.has.cell 0
  simp at c0 c1 c2 cg
  have hne : ((b.length : Int) == (s.size : Int)) = false := beq_eq_false_iff_ne.2 (by omega)
  clear h hb hi' hl
  go_enter Tryz.func100, Tryz.ntmps100
  go_wp2_with fail
  refine C.out.mono ?_
  rintro e w' ⟨rfl, rfl⟩
  go_wp2_with fail
  refine C2.out.mono ?_
  rintro e w' ⟨rfl, rfl⟩
  go_wp2_with fail
  go_still_tail 7, (by kernel_rfl)
  go_wp2_with fail
  refine (must_no 1 _).mono ?_
  rintro e w' ⟨rfl, rfl⟩
  go_wp2
  exact ⟨rfl, rfl, R.out⟩
end
end Go.Proofs.YtnhojcldeloigaaGreat
