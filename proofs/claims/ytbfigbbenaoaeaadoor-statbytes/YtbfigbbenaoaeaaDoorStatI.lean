/-
  Package stat: All and Keep; the second reading's Size and Keep; what a record is as the second reading has it.
-/
import Derived.Test.YtbfigbbenaoaeaaDoorStatH
import Derived.Test.YtbfigbbenaoaeaaDoorRefQid
namespace Go.Proofs.YtbfigbbenaoaeaaDoor
open Go.RowKit
set_option maxRecDepth 100000

theorem allOf_errs {f : Nat} {bs : List UInt8} {e : Int} (h : allOf f bs = .error e) : e = 4 ∨ e = 2 := by
  induction f generalizing bs with
  | zero => cases h
  | succ f ih =>
    rw [allOf] at h
    split at h
    · cases h
    · split at h
      · rename_i hr
        injection h with h
        subst h
        exact firstOf_err hr
      · split at h
        · rename_i hr
          injection h with h
          subst h
          exact ih hr
        · cases h
theorem Tryd.enterAll : ∀ args w, (callFunc 38 args).run Tryd.prog w = .ok (.enter 38 args) w := enters_of Tryd.func38 (by kernel_rfl) rfl

/-- What All answers (the element's type is t). -/
def AllStep (t : TypeId) (w : World) (bs : List UInt8) (e : Ending) (w' : World) : Prop :=
  match allOf bs.length bs with
  | .ok L => ∃ v, e = .returned (.tuple #[v, .int .i64 0]) ∧ w'.ownsRow w.heap.size t 13 v L.length (rowsOf L) ∧ Below w.heap.size w w'
  | .error er => e = .returned (.tuple #[.slice none 0 0, .int .i64 er]) ∧ Below w.heap.size w w'

set_option maxHeartbeats 400000 in
theorem all_any (v : Value) (bs : List UInt8) (lo hi : Nat) (w : World) (hv : SlIs w lo hi v bs) (hhi : hi ≤ w.heap.size) (hl : bs.length ≤ 100000) (hT : Tabs w) :
    Calls Tryd.prog 17 #[v] w (AllStep 28 w bs) := by
  have hlt := hT.lt
  obtain ⟨W, hW⟩ : ∃ W, W = w.alloc (.cells #[.slice none 0 0] 49) := ⟨_, rfl⟩
  have k0 : Only (fun _ => False) w W := by rw [hW]; exact (Only.refl _ w).alloc _
  have ra : Has W w.heap.size 49 #[.slice none 0 0] := by rw [hW]; exact Has.new w _ _
  have sW : W.heap.size = w.heap.size + 1 := by rw [hW]; simp
  have c0 := of_any v bs lo hi W (hv.only k0 hhi (fun _ _ _ h => h)) (by omega) (by omega)
  have C0 : Hid (Calls Tryd.prog 29 #[v] W (fun e w1 => ∃ g, e = .returned (.pointer (some ⟨g, 0, none⟩)) ∧ w.heap.size + 1 ≤ g ∧ g < w1.heap.size ∧ InAt w1 (w.heap.size + 1) g bs 0 ∧ Below w.heap.size w w1 ∧ Has w1 w.heap.size 49 #[.slice none 0 0] ∧ Tabs w1)) :=
    Lib.hid (c0.mono (by
      rintro e w1 ⟨g, he, i1, b1⟩
      rw [sW] at i1 b1
      have := i1.lt
      exact ⟨g, he, by omega, by omega, i1, (k0.below (Nat.le_refl _) (fun _ _ h => h)).trans (b1.mono (by omega)), ra.only (Only.of_below b1) (by omega), (hT.only k0 (fun h => h) (fun h => h)).only (Only.of_below b1) (by omega) (by omega)⟩))
  clear k0 ra c0 hT hhi sW hv
  rw [hW] at C0
  clear hW
  go_enter Tryd.func17, Tryd.ntmps17
  go_wp2_with fail
  refine C0.out.mono ?_
  rintro e w1 ⟨g, rfl, hg, hg1, i1, b1, a1, t1⟩
  obtain ⟨w2, hw2⟩ : ∃ w2, w2 = w1.alloc (.cells #[.pointer (some ⟨g, 0, none⟩)] 69) := ⟨_, rfl⟩
  have s1 := b1.size
  have p2 : Has w2 w1.heap.size 69 #[.pointer (some ⟨g, 0, none⟩)] := by rw [hw2]; exact Has.new _ _ _
  have i2 : InAt w2 (w.heap.size + 1) g bs 0 := by rw [hw2]; exact i1.only ((Only.refl (fun _ => False) w1).alloc _) (fun _ _ _ h => h)
  have b2 : Below w.heap.size w w2 := by rw [hw2]; exact b1.alloc s1 _
  have a2 : Has w2 w.heap.size 49 #[.slice none 0 0] := by rw [hw2]; exact a1.alloc _
  have t2 : Tabs w2 := by rw [hw2]; exact t1.only ((Only.refl (fun _ => False) w1).alloc _) (fun h => h) (fun h => h)
  have s2 : w2.heap.size = w1.heap.size + 1 := by rw [hw2]; simp
  have ke : Only (fun _ => False) w2 (w2.alloc errBox) := (Only.refl _ w2).alloc _
  have C1 := all1_any (w.heap.size + 1) g w1.heap.size w.heap.size bs (w2.alloc errBox) (i2.only ke (fun _ _ _ h => h)) (p2.alloc _) (a2.alloc _) (by omega) (t2.only ke (fun h => h) (fun h => h)) (by omega) hl
  have hE : Has (w2.alloc errBox) w2.heap.size 32 #[.int .i64 0] := Has.new _ _ _
  have hW2 := Lib.hid hw2.symm
  cases hr : allOf bs.length bs with
  | error er =>
    rw [hr] at C1
    have her : er ≠ 0 := by rcases allOf_errs hr with h | h <;> omega
    have hd : (er != 0) = true := by simpa using her
    have C := Lib.hid (caught_panic 38 _ Tryd.enterAll w2 er (fun w' => Below w.heap.size w w') (C1.mono (by
      rintro e w' ⟨he, k⟩
      have k2 : Only (fun i => i = g ∨ i = w.heap.size) w2 w' := (ke.mono (fun _ _ h => h.elim)).trans k (fun _ _ h => h)
      exact ⟨he, hE.only k (by omega), b2.trans (k2.below b2.size (fun i hi h => by omega))⟩)))
    have fin : Hid (∀ w', Below w.heap.size w w' → AllStep 28 w bs (.returned (.tuple #[.slice none 0 0, .int .i64 er])) w') := by
      intro w' b
      unfold AllStep
      rw [hr]
      exact ⟨rfl, b⟩
    clear C1 hE ke t2 a2 b2 i2 p2 t1 a1 b1 i1 C0 hw2 hr her
    go_wp2_with fail
    rw [hW2.out]
    refine C.out.mono ?_
    rintro e w3 ⟨rfl, w4, h4, b4, hw3⟩
    have R := Lib.hid (fin.out w3 (by rw [hw3]; exact b4.setCell (p := ⟨w2.heap.size, 0, none⟩) (by simp; omega) (.int .i64 er)))
    clear C hW2 hw3 h4 b4 s2 fin s1
    go_wp2
    go_ret2
    exact R.out
  | ok L =>
    rw [hr] at C1
    have C := Lib.hid (caught_ok 38 _ Tryd.enterAll w2 (fun w' => Below w.heap.size w w' ∧ ∃ v, Has w' w.heap.size 49 #[v] ∧ w'.ownsRow w.heap.size 28 13 v L.length (rowsOf L)) (C1.mono (by
      rintro e w' ⟨he, ⟨v, h1, h2⟩, k⟩
      have k2 : Only (fun i => i = g ∨ i = w.heap.size) w2 w' := (ke.mono (fun _ _ h => h.elim)).trans k (fun _ _ h => h)
      exact ⟨he, hE.only k (by omega), b2.trans (k2.below b2.size (fun i hi h => by omega)), v, h1, owns_base h2 (by simp; omega)⟩)))
    have fin : Hid (∀ v w', w'.ownsRow w.heap.size 28 13 v L.length (rowsOf L) → Below w.heap.size w w' → AllStep 28 w bs (.returned (.tuple #[v, .int .i64 0])) w') := by
      intro v w' o b
      unfold AllStep
      rw [hr]
      exact ⟨v, rfl, o, b⟩
    clear C1 hE ke t2 a2 b2 i2 p2 t1 a1 b1 i1 C0 hw2 hr
    go_wp2_with fail
    rw [hW2.out]
    refine C.out.mono ?_
    rintro e w3 ⟨rfl, b3, v3, a3, o3⟩
    have R := Lib.hid (fin.out v3 w3 o3 b3)
    have c3 := a3.cell 0
    simp at c3
    clear C hW2 b3 a3 o3 s2 fin s1
    go_wp2
    go_ret2
    exact R.out

/-- What a change leaves as it is. -/
def S11.keep : S11 := ⟨65535, 4294967295, ⟨255, 4294967295, 18446744073709551615⟩, 4294967295, 4294967295, 4294967295, 18446744073709551615, [], [], [], []⟩
theorem Tryd.refStatSize13 : (Tryd.prog.info? 39).map (·.size) = some 13 := by kernel_rfl

set_option maxHeartbeats 400000 in
theorem keep_any (w : World) : Calls Tryd.prog 14 #[] w fun e w' => e = .returned S11.keep.val ∧ Below w.heap.size w w' := by
  have h := Has.new w 28 S11.zero.cells
  obtain ⟨⟨x0, x1, x2, x3, x4⟩, ⟨x5, x6, x7, x8⟩, ⟨x9, x10, x11, x12⟩⟩ := h.cells13
  obtain ⟨⟨y0, y1, y2, y3, y4⟩, ⟨y5, y6, y7, y8⟩, ⟨y9, y10, y11, y12⟩⟩ := h.frozen13
  unfold S11.zero S11.cells at *
  clear h
  go_enter Tryd.func14, Tryd.ntmps14
  go_wp2_with fail
  refine bodyPost_ret (results_cell_row rfl _ _ w.heap.size 28 _ (0, 0) _ rfl (Has.new w 28 _) Tryd.underlying28 rfl Tryd.statSize13) rfl ?_
  exact ⟨by rfl, (Below.refl w.heap.size w).alloc (Nat.le_refl _) _⟩

set_option maxHeartbeats 400000 in
theorem refkeep_any (w : World) : Calls Tryd.prog 15 #[] w fun e w' => e = .returned S11.keep.val ∧ Below w.heap.size w w' := by
  have h := Has.new w 39 S11.zero.cells
  obtain ⟨⟨x0, x1, x2, x3, x4⟩, ⟨x5, x6, x7, x8⟩, ⟨x9, x10, x11, x12⟩⟩ := h.cells13
  obtain ⟨⟨y0, y1, y2, y3, y4⟩, ⟨y5, y6, y7, y8⟩, ⟨y9, y10, y11, y12⟩⟩ := h.frozen13
  unfold S11.zero S11.cells at *
  clear h
  go_enter Tryd.func15, Tryd.ntmps15
  go_wp2_with fail
  refine bodyPost_ret (results_cell_row rfl _ _ w.heap.size 39 _ (0, 0) _ rfl (Has.new w 39 _) Tryd.underlying39 rfl Tryd.refStatSize13) rfl ?_
  exact ⟨by rfl, (Below.refl w.heap.size w).alloc (Nat.le_refl _) _⟩

set_option maxHeartbeats 400000 in
theorem refsize_any (s : S11) (w : World) (h : s.Few) : Calls Tryd.prog 12 #[s.val] w fun e w' => e = .returned (.int .i64 (s.size : Int)) ∧ Below w.heap.size w w' := by
  obtain ⟨h1, h2, h3, h4⟩ := h
  have z1 : (strOf s.n).size = s.n.length := strOf_size _
  have z2 : (strOf s.u).size = s.u.length := strOf_size _
  have z3 : (strOf s.g).size = s.g.length := strOf_size _
  have z4 : (strOf s.x).size = s.x.length := strOf_size _
  obtain ⟨_, _, ⟨c9, c10, c11, c12⟩⟩ := (Has.new w 39 s.cells).cells13
  have R := Lib.hid ((Below.refl w.heap.size w).alloc (Nat.le_refl _) (.cells s.cells 39))
  unfold S11.val
  unfold S11.cells at *
  go_enter Tryd.func12, Tryd.ntmps12
  go_wp2
  go_ret
  refine ⟨?_, R.out⟩
  unfold S11.size
  congr 2

/-- Are its texts short? -/
def S11.isFew (s : S11) : Prop := s.n.length ≤ 200 ∧ s.u.length ≤ 200 ∧ s.g.length ≤ 200 ∧ s.x.length ≤ 200
theorem few_yes (s : S11) (w : World) (h : s.isFew) : Calls Tryd.prog 7 #[s.val] w fun e w' => e = .returned (.bool true) ∧ Below w.heap.size w w' := by
  obtain ⟨h1, h2, h3, h4⟩ := h
  have z1 : (strOf s.n).size = s.n.length := strOf_size _
  have z2 : (strOf s.u).size = s.u.length := strOf_size _
  have z3 : (strOf s.g).size = s.g.length := strOf_size _
  have z4 : (strOf s.x).size = s.x.length := strOf_size _
  have d1 : decide ((s.n.length : Int) ≤ 200) = true := decide_eq_true (by omega)
  have d2 : decide ((s.u.length : Int) ≤ 200) = true := decide_eq_true (by omega)
  have d3 : decide ((s.g.length : Int) ≤ 200) = true := decide_eq_true (by omega)
  have d4 : decide ((s.x.length : Int) ≤ 200) = true := decide_eq_true (by omega)
  obtain ⟨_, _, ⟨c9, c10, c11, c12⟩⟩ := (Has.new w 28 s.cells).cells13
  have R := Lib.hid ((Below.refl w.heap.size w).alloc (Nat.le_refl _) (.cells s.cells 28))
  unfold S11.val
  unfold S11.cells at *
  go_enter Tryd.func7, Tryd.ntmps7
  go_wp2
  go_ret
  exact ⟨rfl, R.out⟩
theorem few_no (s : S11) (w : World) (h : ¬ s.isFew) : Calls Tryd.prog 7 #[s.val] w fun e w' => e = .returned (.bool false) ∧ Below w.heap.size w w' := by
  have z1 : (strOf s.n).size = s.n.length := strOf_size _
  have z2 : (strOf s.u).size = s.u.length := strOf_size _
  have z3 : (strOf s.g).size = s.g.length := strOf_size _
  have z4 : (strOf s.x).size = s.x.length := strOf_size _
  obtain ⟨_, _, ⟨c9, c10, c11, c12⟩⟩ := (Has.new w 28 s.cells).cells13
  have R := Lib.hid ((Below.refl w.heap.size w).alloc (Nat.le_refl _) (.cells s.cells 28))
  unfold S11.val
  unfold S11.cells at *
  by_cases h1 : s.n.length ≤ 200
  · have d1 : decide ((s.n.length : Int) ≤ 200) = true := decide_eq_true (by omega)
    by_cases h2 : s.u.length ≤ 200
    · have d2 : decide ((s.u.length : Int) ≤ 200) = true := decide_eq_true (by omega)
      by_cases h3 : s.g.length ≤ 200
      · have d3 : decide ((s.g.length : Int) ≤ 200) = true := decide_eq_true (by omega)
        have h4 : ¬ s.x.length ≤ 200 := fun h4 => h ⟨h1, h2, h3, h4⟩
        have d4 : decide ((s.x.length : Int) ≤ 200) = false := decide_eq_false (by omega)
        clear h
        go_enter Tryd.func7, Tryd.ntmps7
        go_wp2
        go_ret
        exact ⟨rfl, R.out⟩
      · have d3 : decide ((s.g.length : Int) ≤ 200) = false := decide_eq_false (by omega)
        clear h
        go_enter Tryd.func7, Tryd.ntmps7
        go_wp2
        go_ret
        exact ⟨rfl, R.out⟩
    · have d2 : decide ((s.u.length : Int) ≤ 200) = false := decide_eq_false (by omega)
      clear h
      go_enter Tryd.func7, Tryd.ntmps7
      go_wp2
      go_ret
      exact ⟨rfl, R.out⟩
  · have d1 : decide ((s.n.length : Int) ≤ 200) = false := decide_eq_false (by omega)
    clear h
    go_enter Tryd.func7, Tryd.ntmps7
    go_wp2
    go_ret
    exact ⟨rfl, R.out⟩

/-- Its cells in one row of facts. -/
theorem Has.flat13 {w : World} {b : Nat} {t : TypeId} {s : S11} (h : Has w b t s.cells) :
    w.cell? ⟨b, 0, none⟩ = some (.int .u16 (s.k : Int)) ∧ w.cell? ⟨b, 1, none⟩ = some (.int .u32 (s.d : Int)) ∧ w.cell? ⟨b, 2, none⟩ = some (.int .u8 (s.q.t : Int)) ∧ w.cell? ⟨b, 3, none⟩ = some (.int .u32 (s.q.v : Int)) ∧ w.cell? ⟨b, 4, none⟩ = some (.int .u64 (s.q.p : Int)) ∧
    w.cell? ⟨b, 5, none⟩ = some (.int .u32 (s.m : Int)) ∧ w.cell? ⟨b, 6, none⟩ = some (.int .u32 (s.a : Int)) ∧ w.cell? ⟨b, 7, none⟩ = some (.int .u32 (s.c : Int)) ∧ w.cell? ⟨b, 8, none⟩ = some (.int .u64 (s.l : Int)) ∧
    w.cell? ⟨b, 9, none⟩ = some (.string (strOf s.n)) ∧ w.cell? ⟨b, 10, none⟩ = some (.string (strOf s.u)) ∧ w.cell? ⟨b, 11, none⟩ = some (.string (strOf s.g)) ∧ w.cell? ⟨b, 12, none⟩ = some (.string (strOf s.x)) :=
  ⟨h.cell 0, h.cell 1, h.cell 2, h.cell 3, h.cell 4, h.cell 5, h.cell 6, h.cell 7, h.cell 8, h.cell 9, h.cell 10, h.cell 11, h.cell 12⟩

set_option maxHeartbeats 400000 in
theorem of4_any (s : S11) (w : World) : Calls Tryd.prog 10 #[s.val] w fun e w' => e = .returned s.val ∧ Below w.heap.size w w' := by
  have A0 := Lib.hid ((Has.new w 28 s.cells).alloc (.cells S11.zero.cells 39))
  have Z0 : Hid (Has ((w.alloc (.cells s.cells 28)).alloc (.cells S11.zero.cells 39)) (w.heap.size + 1) 39 S11.zero.cells) := Lib.hid (by
    have := Has.new (w.alloc (.cells s.cells 28)) 39 S11.zero.cells
    simpa using this)
  have B0 := Lib.hid (((Below.refl w.heap.size w).alloc (Nat.le_refl _) (.cells s.cells 28)).alloc (by simp) (.cells S11.zero.cells 39))
  have CO : Hid (∀ W, Calls Tryd.prog 28 #[.agg #[.int .u8 (s.q.t : Int), .int .u32 (s.q.v : Int), .int .u64 (s.q.p : Int)]] W fun e w' => e = .returned s.q.val ∧ Below W.heap.size W w') := fun W => law3of_any s.q W
  unfold S11.val
  go_enter Tryd.func10, Tryd.ntmps10
  unfold S11.cells
  go_wp2_with fail
  refine wp_region_held_drew (S := fun w' => w'.cell? ⟨w.heap.size, 0, none⟩ = some (.int .u16 (s.k : Int)) ∧ w'.cell? ⟨w.heap.size, 1, none⟩ = some (.int .u32 (s.d : Int)) ∧ w'.cell? ⟨w.heap.size, 2, none⟩ = some (.int .u8 (s.q.t : Int)) ∧ w'.cell? ⟨w.heap.size, 3, none⟩ = some (.int .u32 (s.q.v : Int)) ∧ w'.cell? ⟨w.heap.size, 4, none⟩ = some (.int .u64 (s.q.p : Int)) ∧ w'.cell? ⟨w.heap.size, 5, none⟩ = some (.int .u32 (s.m : Int)) ∧ w'.cell? ⟨w.heap.size, 6, none⟩ = some (.int .u32 (s.a : Int)) ∧ w'.cell? ⟨w.heap.size, 7, none⟩ = some (.int .u32 (s.c : Int)) ∧ w'.cell? ⟨w.heap.size, 8, none⟩ = some (.int .u64 (s.l : Int)) ∧ w'.cell? ⟨w.heap.size, 9, none⟩ = some (.string (strOf s.n)) ∧ w'.cell? ⟨w.heap.size, 10, none⟩ = some (.string (strOf s.u)) ∧ w'.cell? ⟨w.heap.size, 11, none⟩ = some (.string (strOf s.g)) ∧ w'.cell? ⟨w.heap.size, 12, none⟩ = some (.string (strOf s.x))) (by kernel_rfl) ?_ (fun hHeld => ?_)
  · exact (A0.out.drew).flat13
  refine takeH (i := 0) (d := 3) (v := ?_) (by kernel_rfl) (by kernel_rfl) (by kernel_rfl) rfl (fun _ _ _ h => h) (by rfl) ?_ hHeld ?_
  rotate_left
  · intro o ho w hSw
    cases ho
    go_simp
    try with_reducible rfl
  simp only [Act.put, List.setIfInBounds_toArray, List.set_cons_zero, List.set_cons_succ]
  refine takeH (i := 1) (d := 4) (v := ?_) (by kernel_rfl) (by kernel_rfl) (by kernel_rfl) rfl (fun _ _ _ h => h) (by rfl) ?_ hHeld ?_
  rotate_left
  · intro o ho w hSw
    cases ho
    go_simp
    try with_reducible rfl
  simp only [Act.put, List.setIfInBounds_toArray, List.set_cons_zero, List.set_cons_succ]
  refine takeH (i := 2) (d := 5) (v := ?_) (by kernel_rfl) (by kernel_rfl) (by kernel_rfl) rfl (fun _ _ _ h => h) (by rfl) ?_ hHeld ?_
  rotate_left
  · intro o ho w hSw
    cases ho
    go_simp
    try with_reducible rfl
  simp only [Act.put, List.setIfInBounds_toArray, List.set_cons_zero, List.set_cons_succ]
  refine takeH (i := 3) (d := 6) (v := ?_) (by kernel_rfl) (by kernel_rfl) (by kernel_rfl) rfl (fun _ _ _ h => h) (by rfl) ?_ hHeld ?_
  rotate_left
  · intro o ho w hSw
    cases ho
    go_simp
    try with_reducible rfl
  simp only [Act.put, List.setIfInBounds_toArray, List.set_cons_zero, List.set_cons_succ]
  refine takeH (i := 4) (d := 7) (v := ?_) (by kernel_rfl) (by kernel_rfl) (by kernel_rfl) rfl (fun _ _ _ h => h) (by rfl) ?_ hHeld ?_
  rotate_left
  · intro o ho w hSw
    cases ho
    go_simp
    try with_reducible rfl
  simp only [Act.put, List.setIfInBounds_toArray, List.set_cons_zero, List.set_cons_succ]
  refine takeH (i := 5) (d := 8) (v := ?_) (by kernel_rfl) (by kernel_rfl) (by kernel_rfl) rfl (fun _ _ _ h => h) (by rfl) ?_ hHeld ?_
  rotate_left
  · intro o ho w hSw
    cases ho
    go_simp
    try with_reducible rfl
  simp only [Act.put, List.setIfInBounds_toArray, List.set_cons_zero, List.set_cons_succ]
  refine takeH (i := 7) (d := 10) (v := ?_) (by kernel_rfl) (by kernel_rfl) (by kernel_rfl) rfl (fun _ _ _ h => h) (by rfl) ?_ hHeld ?_
  rotate_left
  · intro o ho w hSw
    cases ho
    go_simp
    try with_reducible rfl
  simp only [Act.put, List.setIfInBounds_toArray, List.set_cons_zero, List.set_cons_succ]
  refine takeH (i := 8) (d := 11) (v := ?_) (by kernel_rfl) (by kernel_rfl) (by kernel_rfl) rfl (fun _ _ _ h => h) (by rfl) ?_ hHeld ?_
  rotate_left
  · intro o ho w hSw
    cases ho
    go_simp
    try with_reducible rfl
  simp only [Act.put, List.setIfInBounds_toArray, List.set_cons_zero, List.set_cons_succ]
  refine takeH (i := 9) (d := 12) (v := ?_) (by kernel_rfl) (by kernel_rfl) (by kernel_rfl) rfl (fun _ _ _ h => h) (by rfl) ?_ hHeld ?_
  rotate_left
  · intro o ho w hSw
    cases ho
    go_simp
    try with_reducible rfl
  simp only [Act.put, List.setIfInBounds_toArray, List.set_cons_zero, List.set_cons_succ]
  refine takeH (i := 10) (d := 13) (v := ?_) (by kernel_rfl) (by kernel_rfl) (by kernel_rfl) rfl (fun _ _ _ h => h) (by rfl) ?_ hHeld ?_
  rotate_left
  · intro o ho w hSw
    cases ho
    go_simp
    try with_reducible rfl
  simp only [Act.put, List.setIfInBounds_toArray, List.set_cons_zero, List.set_cons_succ]
  refine takeH (i := 11) (d := 14) (v := ?_) (by kernel_rfl) (by kernel_rfl) (by kernel_rfl) rfl (fun _ _ _ h => h) (by rfl) ?_ hHeld ?_
  rotate_left
  · intro o ho w hSw
    cases ho
    go_simp
    try with_reducible rfl
  simp only [Act.put, List.setIfInBounds_toArray, List.set_cons_zero, List.set_cons_succ]
  refine takeH (i := 12) (d := 15) (v := ?_) (by kernel_rfl) (by kernel_rfl) (by kernel_rfl) rfl (fun _ _ _ h => h) (by rfl) ?_ hHeld ?_
  rotate_left
  · intro o ho w hSw
    cases ho
    go_simp
    try with_reducible rfl
  simp only [Act.put, List.setIfInBounds_toArray, List.set_cons_zero, List.set_cons_succ]
  refine takeH (i := 13) (d := 16) (v := ?_) (by kernel_rfl) (by kernel_rfl) (by kernel_rfl) rfl (fun _ _ _ h => h) (by rfl) ?_ hHeld ?_
  rotate_left
  · intro o ho w hSw
    cases ho
    go_simp
    try with_reducible rfl
  simp only [Act.put, List.setIfInBounds_toArray, List.set_cons_zero, List.set_cons_succ]
  refine takeH (i := 14) (d := 17) (v := ?_) (by kernel_rfl) (by kernel_rfl) (by kernel_rfl) rfl (fun _ _ _ h => h) (by rfl) ?_ hHeld ?_
  rotate_left
  · intro o ho w hSw
    cases ho
    go_simp
    try with_reducible rfl
  simp only [Act.put, List.setIfInBounds_toArray, List.set_cons_zero, List.set_cons_succ]
  refine takeH (i := 15) (d := 18) (v := ?_) (by kernel_rfl) (by kernel_rfl) (by kernel_rfl) rfl (fun _ _ _ h => h) (by rfl) ?_ hHeld ?_
  rotate_left
  · intro o ho w hSw
    cases ho
    go_simp
    try with_reducible rfl
  simp only [Act.put, List.setIfInBounds_toArray, List.set_cons_zero, List.set_cons_succ]
  refine takeH (i := 16) (d := 19) (v := ?_) (by kernel_rfl) (by kernel_rfl) (by kernel_rfl) rfl (fun _ _ _ h => h) (by rfl) ?_ hHeld ?_
  rotate_left
  · intro o ho w hSw
    cases ho
    go_simp
    try with_reducible rfl
  simp only [Act.put, List.setIfInBounds_toArray, List.set_cons_zero, List.set_cons_succ]
  refine takeH (i := 17) (d := 20) (v := ?_) (by kernel_rfl) (by kernel_rfl) (by kernel_rfl) rfl (fun _ _ _ h => h) (by rfl) ?_ hHeld ?_
  rotate_left
  · intro o ho w hSw
    cases ho
    go_simp
    try with_reducible rfl
  simp only [Act.put, List.setIfInBounds_toArray, List.set_cons_zero, List.set_cons_succ]
  refine takeH (i := 18) (d := 21) (v := ?_) (by kernel_rfl) (by kernel_rfl) (by kernel_rfl) rfl (fun _ _ _ h => h) (by rfl) ?_ hHeld ?_
  rotate_left
  · intro o ho w hSw
    cases ho
    go_simp
    try with_reducible rfl
  simp only [Act.put, List.setIfInBounds_toArray, List.set_cons_zero, List.set_cons_succ]
  refine takeH (i := 19) (d := 22) (v := ?_) (by kernel_rfl) (by kernel_rfl) (by kernel_rfl) rfl (fun _ _ _ h => h) (by rfl) ?_ hHeld ?_
  rotate_left
  · intro o ho w hSw
    cases ho
    go_simp
    try with_reducible rfl
  simp only [Act.put, List.setIfInBounds_toArray, List.set_cons_zero, List.set_cons_succ]
  refine takeH (i := 20) (d := 23) (v := ?_) (by kernel_rfl) (by kernel_rfl) (by kernel_rfl) rfl (fun _ _ _ h => h) (by rfl) ?_ hHeld ?_
  rotate_left
  · intro o ho w hSw
    cases ho
    go_simp
    try with_reducible rfl
  simp only [Act.put, List.setIfInBounds_toArray, List.set_cons_zero, List.set_cons_succ]
  refine takeH (i := 21) (d := 24) (v := ?_) (by kernel_rfl) (by kernel_rfl) (by kernel_rfl) rfl (fun _ _ _ h => h) (by rfl) ?_ hHeld ?_
  rotate_left
  · intro o ho w hSw
    cases ho
    go_simp
    try with_reducible rfl
  simp only [Act.put, List.setIfInBounds_toArray, List.set_cons_zero, List.set_cons_succ]
  refine takeH (i := 22) (d := 25) (v := ?_) (by kernel_rfl) (by kernel_rfl) (by kernel_rfl) rfl (fun _ _ _ h => h) (by rfl) ?_ hHeld ?_
  rotate_left
  · intro o ho w hSw
    cases ho
    go_simp
    try with_reducible rfl
  simp only [Act.put, List.setIfInBounds_toArray, List.set_cons_zero, List.set_cons_succ]
  refine wpAnyH_ready (rs := [6]) (by kernel_rfl) (by simp) ?_
  refine AllReadyH.cons rfl (fun K hK => ?_) AllReadyH.nil
  go_simp
  refine (CO.out _).mono ?_
  rintro e w4 ⟨rfl, k4⟩
  have A4 := Lib.hid (A0.out.drew.only (Only.of_below k4) (by simp; omega))
  have Z4 := Lib.hid (Z0.out.drew.only (Only.of_below k4) (by simp))
  have B4 := Lib.hid (B0.out.drew.trans (k4.mono (by simp; omega)))
  clear k4 CO A0 Z0 B0
  unfold Q3.val
  try go_wp2_with fail
  refine hK.out _ _ ?_ (fun hHeld => ?_)
  · exact A4.out.flat13
  clear hK K
  refine takeH (i := 23) (d := 26) (v := ?_) (by kernel_rfl) (by kernel_rfl) (by kernel_rfl) rfl (fun _ _ _ h => h) (by rfl) ?_ hHeld ?_
  rotate_left
  · intro o ho w hSw
    cases ho
    go_simp
    try with_reducible rfl
  simp only [Act.put, List.setIfInBounds_toArray, List.set_cons_zero, List.set_cons_succ]
  refine wpAnyH_ready (rs := [24]) (by kernel_rfl) (by simp) ?_
  refine AllReadyH.cons rfl (fun K hK => ?_) AllReadyH.nil
  rw [if_pos (by rfl)]
  refine wp_store_row 39 _ _ rfl (w.heap.size + 1) s.cells rfl rfl 39 S11.zero.cells Z4.out Tryd.refStatSize13 rfl s.one ?_
  refine hK.out _ _ ?_ (fun hHeld => ?_)
  · exact ((A4.out.only ((Only.refl (fun i => i = w.heap.size + 1) w4).setRow (fun _ => rfl) s.cells) (by omega)).flat13)
  clear hK K
  simp only [Act.put]
  refine wpAnyH_done (by kernel_rfl) ?_ _
  go_wp2_with fail
  refine bodyPost_ret (results_cell_row rfl _ _ (w.heap.size + 1) 39 _ (0, 0) _ rfl (Z4.out.setRow s.cells) Tryd.underlying39 rfl Tryd.refStatSize13) rfl ?_
  exact ⟨rfl, B4.out.trans (((Only.refl (fun i => i = w.heap.size + 1) w4).setRow (fun _ => rfl) s.cells).below B4.out.size (fun i hi h => by omega))⟩
end Go.Proofs.YtbfigbbenaoaeaaDoor
