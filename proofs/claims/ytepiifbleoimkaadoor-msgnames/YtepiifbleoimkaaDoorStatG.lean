/-
  Package stat: Decode of whatever bytes; Keep.
-/
import Derived.Test.YtepiifbleoimkaaDoorStatF
import Derived.Test.YtepiifbleoimkaaDoorDrawn
namespace Go.Proofs.YtepiifbleoimkaaDoor
open Go.RowKit
set_option maxRecDepth 100000

/-- A struct and two more results. -/
theorem results_cell_row2 {P : Program} {fn : Func} {p u1 u2 : Tmp} {ty : TypeId} (h : fn.results = #[.cell p ty, .tmp u1, .tmp u2]) (tmps : Array Value) (w : World) (g : Nat) (t : TypeId) (cs : Array Value) (fr : Nat × Nat) (d : TypeDesc)
    (hp : tmps.getD p undef = .pointer (some ⟨g, 0, none⟩)) (hg : w.heap[g]? = some (.cells cs t fr))
    (hu : P.underlying ty = some d) (hd : (match d with | .struct _ | .array _ _ => true | _ => false) = true) (hi : (P.info? ty).map (·.size) = some cs.size) :
    (results fn tmps).run P w = .ok (.tuple #[.agg cs, tmps.getD u1 undef, tmps.getD u2 undef]) w := by
  have hp' : tmps[p]?.getD undef = .pointer (some ⟨g, 0, none⟩) := by simpa using hp
  simp [results, h, hp', asAddr, run_loadVar_row w g t ty cs fr d hg hu hd hi, Result.andThen]

theorem Tryd.enterDecode : ∀ args w, (callFunc 90 args).run Tryd.prog w = .ok (.enter 90 args) w := enters_of Tryd.func90 (by kernel_rfl) rfl

theorem S11.one (s : S11) : s.cells.all (fun x => x.oneCell') = true := by simp [S11.cells, Value.oneCell']
/-- What Decode answers. -/
def decAns (bs : List UInt8) : S11 × Int × Int :=
  match firstOf bs with
  | .ok (s, rest) => (s, (bs.length : Int) - rest.length, 0)
  | .error er => (S11.zero, 0, er)
def DecodeStep (w : World) (bs : List UInt8) (e : Ending) (w' : World) : Prop :=
  e = .returned (.tuple #[(decAns bs).1.val, .int .i64 (decAns bs).2.1, .int .i64 (decAns bs).2.2]) ∧ Below w.heap.size w w'
theorem firstOf_len {bs : List UInt8} {s : S11} {rest : List UInt8} (h : firstOf bs = .ok (s, rest)) : rest.length ≤ bs.length ∧ recOf (tst bs 0).1 = some s ∧ (tst bs 0).2.2 = 0 ∧ rest = (tst bs 0).2.1 := by
  unfold firstOf at h
  split at h
  · cases h
  · rename_i h0
    split at h
    · cases h
    · rename_i s' hr
      injection h with h
      injection h with h1 h2
      exact ⟨by rw [← h2]; exact tst_len _ _, by rw [hr, h1], by simpa using h0, h2.symm⟩
theorem firstOf_err {bs : List UInt8} {er : Int} (h : firstOf bs = .error er) : er = 4 ∨ er = 2 := by
  unfold firstOf at h
  split at h
  · injection h with h
    exact .inl h.symm
  · split at h
    · injection h with h
      exact .inr h.symm
    · cases h

set_option maxHeartbeats 1000000 in
theorem decode_any (v : Value) (bs : List UInt8) (lo hi : Nat) (w : World) (hv : SlIs w lo hi v bs) (hhi : hi ≤ w.heap.size) (hl : bs.length ≤ 100000) (hT : Tabs w) :
    Calls Tryd.prog 84 #[v] w (DecodeStep w bs) := by
  have hlt := hT.lt
  obtain ⟨W, hW⟩ : ∃ W, W = (w.alloc (.cells S11.zero.cells 31)).alloc (.cells S11.zero.cells 31) := ⟨_, rfl⟩
  have k0 : Only (fun _ => False) w W := by rw [hW]; exact ((Only.refl _ w).alloc _).alloc _
  have ra : Has W w.heap.size 31 S11.zero.cells := by rw [hW]; exact (Has.new w _ _).alloc _
  have rb : Has W (w.heap.size + 1) 31 S11.zero.cells := by
    rw [hW]
    have := Has.new (w.alloc (.cells S11.zero.cells 31)) 31 S11.zero.cells
    simpa using this
  have sW : W.heap.size = w.heap.size + 2 := by rw [hW]; simp
  have c0 := of_any v bs lo hi W (hv.only k0 hhi (fun _ _ _ h => h)) (by omega) (by omega)
  have C0 : Hid (Calls Tryd.prog 36 #[v] W (fun e w1 => ∃ g, e = .returned (.pointer (some ⟨g, 0, none⟩)) ∧ w.heap.size + 2 ≤ g ∧ g < w1.heap.size ∧ InAt w1 (w.heap.size + 2) g bs 0 ∧ Below w.heap.size w w1 ∧ Has w1 w.heap.size 31 S11.zero.cells ∧ Has w1 (w.heap.size + 1) 31 S11.zero.cells ∧ Tabs w1)) :=
    Lib.hid (c0.mono (by
      rintro e w1 ⟨g, he, i1, b1⟩
      rw [sW] at i1 b1
      have := i1.lt
      exact ⟨g, he, by omega, by omega, i1, (k0.below (Nat.le_refl _) (fun _ _ h => h)).trans (b1.mono (by omega)), ra.only (Only.of_below b1) (by omega), rb.only (Only.of_below b1) (by omega), (hT.only k0 (fun h => h) (fun h => h)).only (Only.of_below b1) (by omega) (by omega)⟩))
  obtain ⟨A, c, rfl, _, _, _⟩ := hv
  clear k0 ra rb c0 hT hhi sW
  rw [hW] at C0
  clear hW
  unfold S11.zero S11.cells at C0
  go_enter Tryd.func84, Tryd.ntmps84
  go_wp2_with fail
  refine C0.out.mono ?_
  rintro e w1 ⟨g, rfl, hg, hg1, i1, b1, a1, z1, t1⟩
  obtain ⟨w2, hw2⟩ : ∃ w2, w2 = w1.alloc (.cells #[.pointer (some ⟨g, 0, none⟩)] 77) := ⟨_, rfl⟩
  have s1 := b1.size
  have p2 : Has w2 w1.heap.size 77 #[.pointer (some ⟨g, 0, none⟩)] := by rw [hw2]; exact Has.new _ _ _
  have i2 : InAt w2 (w.heap.size + 2) g bs 0 := by rw [hw2]; exact i1.only ((Only.refl (fun _ => False) w1).alloc _) (fun _ _ _ h => h)
  have b2 : Below w.heap.size w w2 := by rw [hw2]; exact b1.alloc s1 _
  have a2 : Has w2 w.heap.size 31 S11.zero.cells := by rw [hw2]; exact a1.alloc _
  have z2 : Has w2 (w.heap.size + 1) 31 S11.zero.cells := by rw [hw2]; exact z1.alloc _
  have t2 : Tabs w2 := by rw [hw2]; exact t1.only ((Only.refl (fun _ => False) w1).alloc _) (fun h => h) (fun h => h)
  have s2 : w2.heap.size = w1.heap.size + 1 := by rw [hw2]; simp
  have ke : Only (fun _ => False) w2 (w2.alloc errBox) := (Only.refl _ w2).alloc _
  have C1 := decode1_any (w.heap.size + 2) g w1.heap.size (w.heap.size + 1) bs (w2.alloc errBox) (i2.only ke (fun _ _ _ h => h)) (p2.alloc _) (z2.alloc _) (by omega) (t2.only ke (fun h => h) (fun h => h)) (by omega) hl
  have hE : Has (w2.alloc errBox) w2.heap.size 36 #[.int .i64 0] := Has.new _ _ _
  have hW2 := Lib.hid hw2.symm
  cases hr : firstOf bs with
  | error er =>
    rw [hr] at C1
    have her : er ≠ 0 := by rcases firstOf_err hr with h | h <;> omega
    have hd : (er != 0) = true := by simpa using her
    have C := Lib.hid (caught_panic 90 _ Tryd.enterDecode w2 er (fun w' => Below w.heap.size w w' ∧ Has w' w.heap.size 31 S11.zero.cells) (C1.mono (by
      rintro e w' ⟨he, k⟩
      have k2 : Only (fun i => i = g ∨ i = w.heap.size + 1) w2 w' := (ke.mono (fun _ _ h => h.elim)).trans k (fun _ _ h => h)
      exact ⟨he, hE.only k (by omega), b2.trans (k2.below b2.size (fun i hi h => by omega)), a2.only k2 (by omega)⟩)))
    have hA : Hid (decAns bs = (S11.zero, 0, er)) := Lib.hid (by unfold decAns; rw [hr])
    clear C1 hE ke t2 z2 a2 b2 i2 p2 t1 z1 a1 b1 i1 C0 hw2 hr her s1
    go_wp2_with fail
    rw [hW2.out]
    refine C.out.mono ?_
    rintro e w3 ⟨rfl, w4, h4, ⟨b4, a4⟩, hw3⟩
    have s4 := b4.size
    have b3 : Below w.heap.size w w3 := by rw [hw3]; exact b4.setCell (p := ⟨w2.heap.size, 0, none⟩) (by simp; omega) (.int .i64 er)
    have a3 : Has w3 w.heap.size 31 S11.zero.cells := by rw [hw3]; exact a4.far (by simp; omega) _
    obtain ⟨⟨x0, x1, x2, x3, x4⟩, ⟨x5, x6, x7, x8⟩, ⟨x9, x10, x11, x12⟩⟩ := a3.cells13
    obtain ⟨⟨y0, y1, y2, y3, y4⟩, ⟨y5, y6, y7, y8⟩, ⟨y9, y10, y11, y12⟩⟩ := a3.frozen13
    have A3 := Lib.hid a3
    have B3 := Lib.hid b3
    clear C hW2 hw3 h4 b4 a4 a3 b3 s2 s4
    go_wp2_with fail
    refine bodyPost_ret (results_cell_row2 rfl _ _ w.heap.size 31 _ (0, 0) _ rfl (has_set13 A3.out S11.zero) Tryd.underlying31 rfl Tryd.statSize13) rfl ?_
    unfold DecodeStep
    rw [hA.out]
    refine ⟨rfl, ?_⟩
    exact B3.out.trans (((Only.refl (fun i => i = w.heap.size) w3).set13 (fun _ => rfl) S11.zero).below B3.out.size (fun i hi h => by omega))
  | ok p =>
    obtain ⟨s, rest⟩ := p
    rw [hr] at C1
    have C := Lib.hid (caught_ok 90 _ Tryd.enterDecode w2 (fun w' => Below w.heap.size w w' ∧ Has w' w.heap.size 31 S11.zero.cells ∧ Has w' (w.heap.size + 1) 31 s.cells ∧ InAt w' (w.heap.size + 2) g rest 0 ∧ Has w' w1.heap.size 77 #[.pointer (some ⟨g, 0, none⟩)]) (C1.mono (by
      rintro e w' ⟨he, h1, h2, k⟩
      have k2 : Only (fun i => i = g ∨ i = w.heap.size + 1) w2 w' := (ke.mono (fun _ _ h => h.elim)).trans k (fun _ _ h => h)
      exact ⟨he, hE.only k (by omega), b2.trans (k2.below b2.size (fun i hi h => by omega)), a2.only k2 (by omega), h1, h2, p2.only k2 (by omega)⟩)))
    have hA : Hid (decAns bs = (s, (bs.length : Int) - rest.length, 0)) := Lib.hid (by unfold decAns; rw [hr])
    have hrl := (firstOf_len hr).1
    clear C1 hE ke t2 z2 a2 b2 i2 p2 t1 z1 a1 b1 i1 C0 hw2 hr s1 s2
    go_wp2_with fail
    rw [hW2.out]
    refine C.out.mono ?_
    rintro e w3 ⟨rfl, b3, a3, z3, i3, p3⟩
    clear C hW2
    go_wp2_with fail
    have d13 := p3.cell 0
    simp at d13
    have hwr : IntKind.i64.wrap ((bs.length : Int) - rest.length) = (bs.length : Int) - rest.length := IntWalk.i64_in _ (by omega)
    have hlt1 := p3.lt
    have A3 := Lib.hid a3
    have B3 := Lib.hid b3
    have CL := Lib.hid (fun n => left_any (w.heap.size + 2) g rest 0 (w3.drewN n) (i3.only ((Only.refl (fun _ => False) w3).drewN n) (fun _ _ _ h => h)))
    clear a3 b3 p3 i3
    refine wp_region_held_drew (S := fun w' => Has w' (w.heap.size + 1) 31 s.cells ∧ w'.cell? ⟨w1.heap.size, 0, none⟩ = some (.pointer (some ⟨g, 0, none⟩))) (by kernel_rfl) ?_ (fun hHeld => ?_)
    · exact ⟨z3, d13⟩
    refine takeH (i := 0) (d := 16) (v := s.val) (by kernel_rfl) (by kernel_rfl) (by kernel_rfl) rfl (fun _ _ _ h => h) (by rfl) ?_ hHeld ?_
    · intro o ho w hSw
      cases ho
      exact exec_load_row rfl rfl hSw.1 Tryd.underlying31 rfl Tryd.statSize13
    simp only [Act.put, List.setIfInBounds_toArray, List.set_cons_zero, List.set_cons_succ]
    refine takeH (i := 1) (d := 17) (v := ?_) (by kernel_rfl) (by kernel_rfl) (by kernel_rfl) rfl (fun _ _ _ h => h) (by rfl) ?_ hHeld ?_
    rotate_left
    · intro o ho w hSw
      cases ho
      go_simp
      try with_reducible rfl
    simp only [Act.put, List.setIfInBounds_toArray, List.set_cons_zero, List.set_cons_succ]
    refine takeH (i := 2) (d := 18) (v := ?_) (by kernel_rfl) (by kernel_rfl) (by kernel_rfl) rfl (fun _ _ _ h => h) (by rfl) ?_ hHeld ?_
    rotate_left
    · intro o ho w hSw
      cases ho
      go_simp
      try with_reducible rfl
    simp only [Act.put, List.setIfInBounds_toArray, List.set_cons_zero, List.set_cons_succ]
    refine takeH (i := 3) (d := 19) (v := ?_) (by kernel_rfl) (by kernel_rfl) (by kernel_rfl) rfl (fun _ _ _ h => h) (by rfl) ?_ hHeld ?_
    rotate_left
    · intro o ho w hSw
      cases ho
      go_simp
      try with_reducible rfl
    simp only [Act.put, List.setIfInBounds_toArray, List.set_cons_zero, List.set_cons_succ]
    refine wpAnyH_ready (rs := [4]) (by kernel_rfl) (by simp) ?_
    refine AllReadyH.cons rfl (fun K hK => ?_) AllReadyH.nil
    go_simp
    refine (CL.out 1).mono ?_
    rintro e w4 ⟨rfl, rfl⟩
    try go_wp2_with fail
    refine hK.out _ _ ?_ (fun hHeld => ?_)
    · exact ⟨z3, d13⟩
    clear hK K
    refine takeH (i := 5) (d := 21) (v := ?_) (by kernel_rfl) (by kernel_rfl) (by kernel_rfl) rfl (fun _ _ _ h => h) (by rfl) ?_ hHeld ?_
    rotate_left
    · intro o ho w hSw
      cases ho
      go_simp
      try with_reducible rfl
    simp only [Act.put, List.setIfInBounds_toArray, List.set_cons_zero, List.set_cons_succ]
    refine wpAnyH_ready (rs := [6]) (by kernel_rfl) (by simp) ?_
    refine AllReadyH.cons rfl (fun K hK => ?_) AllReadyH.nil
    rw [if_pos (by rfl)]
    refine wp_store_row 31 _ _ rfl w.heap.size s.cells rfl rfl 31 S11.zero.cells A3.out Tryd.statSize13 rfl s.one ?_
    refine hK.out _ _ ?_ (fun hHeld => ?_)
    · exact ⟨z3.only ((Only.refl (fun i => i = w.heap.size) w3).drew.setRow (fun _ => rfl) s.cells) (by omega), (((Only.refl (fun i => i = w.heap.size) w3).drew.setRow (fun _ => rfl) s.cells).cell (p := ⟨w1.heap.size, 0, none⟩) hlt1 (by simp; omega)).trans d13⟩
    clear hK K
    simp only [Act.put]
    refine takeH (i := 7) (d := 3) (v := ?_) (by kernel_rfl) (by kernel_rfl) (by kernel_rfl) rfl (fun _ _ _ h => h) (by rfl) ?_ hHeld ?_
    rotate_left
    · intro o ho w hSw
      cases ho
      go_simp
      try with_reducible rfl
    simp only [Act.put, List.setIfInBounds_toArray]
    refine takeH (i := 8) (d := 4) (v := ?_) (by kernel_rfl) (by kernel_rfl) (by kernel_rfl) rfl (fun _ _ _ h => h) (by rfl) ?_ hHeld ?_
    rotate_left
    · intro o ho w hSw
      cases ho
      go_simp
      try with_reducible rfl
    simp only [Act.put]
    refine wpAnyH_done (by kernel_rfl) ?_ _
    go_wp2_with fail
    refine bodyPost_ret (results_cell_row2 rfl _ _ w.heap.size 31 _ (0, 0) _ rfl (A3.out.drew.setRow s.cells) Tryd.underlying31 rfl Tryd.statSize13) rfl ?_
    unfold DecodeStep
    rw [hA.out]
    refine ⟨rfl, ?_⟩
    exact B3.out.trans (((Only.refl (fun i => i = w.heap.size) w3).drew.setRow (fun _ => rfl) s.cells).below B3.out.size (fun i hi h => by omega))
end Go.Proofs.YtepiifbleoimkaaDoor
