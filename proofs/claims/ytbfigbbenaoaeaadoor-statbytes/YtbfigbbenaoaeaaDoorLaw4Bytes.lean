/-
  Layer 4's StatBytes: whatever bytes, it answers true and leaves what was there.
-/
import Derived.Test.YtbfigbbenaoaeaaDoorLaw4Keep
import Derived.Test.YtbfigbbenaoaeaaDoorRefStatD
import Derived.Deep.AppendLies
namespace Go.Proofs.YtbfigbbenaoaeaaDoor
open Go.RowKit
set_option maxRecDepth 100000
attribute [local go_sem ↓] Go.wp_at_zero Go.wp_at_succ

/-- A whole struct loaded from the midst of a row. -/
theorem exec_load_at {P : Program} {o : Oper} {a : Act} {w : World} {ty : TypeId} {x : Operand} {p : Addr} {cs : Array Value} {d : TypeDesc} (ho : o.op = .load ty x)
    (hx : a.eval x = .pointer (some p)) (hc : ∀ (j : Nat) (u : Value), cs.toList[j]? = some u → w.cell? (p.add j) = some u) (hu : P.underlying ty = some d) (hd : (match d with | .struct _ | .array _ _ => true | _ => false) = true) (hi : (P.info? ty).map (·.size) = some cs.size) :
    (execOp a.eval o).run P w = .ok (.value (.agg cs)) w := by
  have hl : (loadCells p cs.toList.length).run P w = .ok cs.toList.toArray w := run_loadCells_list (P := P) w p cs.toList hc
  simp only [Array.length_toList, Array.toArray_toList] at hl
  have hv : (loadVar ty p).run P w = .ok (.agg cs) w := by
    cases hq : P.info? ty with
    | none => simp [hq] at hi
    | some i =>
      have hs : i.size = cs.size := by simpa [hq] using hi
      have hagg : (isAgg ty).run P w = .ok true w := by
        unfold isAgg
        rw [Sem.run_bind, run_underlying hu w]
        cases d <;> simp_all
      simp [loadVar, Sem.run_bind, hagg, sizeOf, typeInfo, hq, hs, hl]
  unfold execOp
  simp only [ho, hx, Instr.loadAt, Instr.sureAddr, Sem.run_bind, Sem.run_pure, Result.andThen_ok, hv]

theorem rowsOf_get (L : List S11) (i j : Nat) (hi : i < L.length) (hj : j < 13) : (rowsOf L)[i * 13 + j]? = (L[i].cells.toList)[j]? := by
  induction L generalizing i with
  | nil => simp at hi
  | cons s L ih =>
    have hl : s.cells.toList.length = 13 := rfl
    have e : rowsOf (s :: L) = s.cells.toList ++ rowsOf L := by simp [rowsOf]
    rw [e]
    cases i with
    | zero => rw [List.getElem?_append_left (by omega)]; simp
    | succ i =>
      rw [List.getElem?_append_right (by omega), hl, show (i + 1) * 13 + j - 13 = i * 13 + j by omega, ih i (by simpa using hi)]
      simp
/-- Records one behind the other, somewhere in memory. -/
def RowsAt (w : World) (v : Value) (L : List S11) : Prop :=
  ∃ A c, v = .slice A L.length c ∧ (0 < L.length → ∃ a, A = some a ∧ ∀ i (h : i < L.length) (j : Nat) (u : Value), L[i].cells.toList[j]? = some u → w.cell? ((a.add (i * 13)).add j) = some u)
theorem RowsAt.of_own {w : World} {base : Nat} {t : TypeId} {v : Value} {L : List S11} (h : w.ownsRow base t 13 v L.length (rowsOf L)) : RowsAt w v L := by
  rcases Nat.eq_zero_or_pos L.length with h0 | h0
  · obtain ⟨_, ⟨rfl, h1⟩ | ⟨g, cap, cur, rfl, _⟩⟩ := h
    · exact ⟨none, 0, by rw [h1], fun h => by omega⟩
    · exact ⟨_, _, rfl, fun h => by omega⟩
  · obtain ⟨g, cap, rfl, _, _⟩ := h.form h0
    refine ⟨_, _, rfl, fun _ => ⟨⟨g, 0, none⟩, rfl, fun i hi j u hu => ?_⟩⟩
    have hj : j < 13 := by
      have := (List.getElem?_eq_some_iff.1 hu).1
      have hl : (L[i].cells.toList).length = 13 := rfl
      omega
    rw [addr_add]
    exact h.cells (g := g) rfl (i * 13 + j) u (by rw [rowsOf_get L i j hi hj]; exact hu)
theorem RowsAt.nil (w : World) : RowsAt w (.slice none 0 0) [] := ⟨none, 0, rfl, fun h => by simp at h⟩
theorem rows_keep {W W2 : World} {p : Addr} {x : S11} (b : Below W.heap.size W W2) (h : ∀ (j : Nat) (u : Value), x.cells.toList[j]? = some u → W.cell? (p.add j) = some u) : ∀ (j : Nat) (u : Value), x.cells.toList[j]? = some u → W2.cell? (p.add j) = some u := by
  intro j u hu
  have h1 := h j u hu
  exact (b.cell (World.block_lt_of_cell? W _ h1)).trans h1
theorem RowsAt.next {W W2 : World} {v : Value} {L : List S11} (h : RowsAt W v L) (b : Below W.heap.size W W2) : RowsAt W2 v L := by
  obtain ⟨A, c, hv, h1⟩ := h
  refine ⟨A, c, hv, fun h0 => ?_⟩
  obtain ⟨a, ha, h2⟩ := h1 h0
  exact ⟨a, ha, fun i hi => rows_keep b (h2 i hi)⟩

/-- What the walk keeps: the two records' blocks, the two rows. -/
structure KB (w W : World) (s : S11) (sb1 sb2 : Nat) (L : List S11) (v9 v11 : Value) : Prop where
  low : Below w.heap.size w W
  p1 : Has W sb1 28 s.cells
  p2 : Has W sb2 39 s.cells
  r1 : RowsAt W v9 L
  r2 : RowsAt W v11 L
theorem KB.next {w W W2 : World} {s : S11} {sb1 sb2 : Nat} {L : List S11} {v9 v11 : Value} (k : KB w W s sb1 sb2 L v9 v11) (b : Below W.heap.size W W2) : KB w W2 s sb1 sb2 L v9 v11 :=
  ⟨k.low.trans (b.mono k.low.size), k.p1.only (Only.of_below b) (Nat.not_le_of_lt k.p1.lt), k.p2.only (Only.of_below b) (Nat.not_le_of_lt k.p2.lt), k.r1.next b, k.r2.next b⟩
/-- In the loop. -/
structure KL (w W : World) (L : List S11) (v9 v11 : Value) : Prop where
  low : Below w.heap.size w W
  r1 : RowsAt W v9 L
  r2 : RowsAt W v11 L
theorem KL.next {w W W2 : World} {L : List S11} {v9 v11 : Value} (k : KL w W L v9 v11) (b : Below W.heap.size W W2) : KL w W2 L v9 v11 := ⟨k.low.trans (b.mono k.low.size), k.r1.next b, k.r2.next b⟩
theorem below_drew (W : World) : Below W.heap.size W W.drew := ⟨rfl, rfl, rfl, Nat.le_refl _, fun _ _ => rfl⟩
theorem KL.drew {w W : World} {L : List S11} {v9 v11 : Value} (k : KL w W L v9 v11) : KL w W.drew L v9 v11 := k.next (below_drew W)

/-- All's answer and StatAll's, in one form. -/
def allAns (bs : List UInt8) : List S11 × Int := match allOf bs.length bs with
  | .ok L => (L, 0)
  | .error er => ([], er)
theorem all_rows {t : TypeId} {w W : World} {bs : List UInt8} {e : Ending} (h : AllStep t w bs e W) : ∃ v, e = .returned (.tuple #[v, .int .i64 (allAns bs).2]) ∧ RowsAt W v (allAns bs).1 ∧ Below w.heap.size w W := by
  unfold AllStep at h
  unfold allAns
  cases hr : allOf bs.length bs with
  | ok L =>
    rw [hr] at h
    obtain ⟨v, he, ho, hb⟩ := h
    exact ⟨v, he, RowsAt.of_own ho, hb⟩
  | error er =>
    rw [hr] at h
    obtain ⟨he, hb⟩ := h
    exact ⟨_, he, RowsAt.nil _, hb⟩

theorem allOf_len {f : Nat} {bs : List UInt8} {L : List S11} (h : allOf f bs = .ok L) : 2 * L.length ≤ bs.length := by
  induction f generalizing bs L with
  | zero =>
    injection h with h
    rw [← h]
    simp
  | succ f ih =>
    rw [allOf] at h
    split at h
    · injection h with h
      rw [← h]
      simp
    · split at h
      · cases h
      · rename_i hr
        split at h
        · cases h
        · rename_i hr2
          injection h with h
          have h1 := ih hr2
          have h2 := firstOf_shrinks hr
          rw [← h, List.length_cons]
          omega
theorem allAns_len (bs : List UInt8) : 2 * (allAns bs).1.length ≤ bs.length := by
  unfold allAns
  cases hr : allOf bs.length bs with
  | ok L => exact allOf_len hr
  | error er => simp

set_option maxHeartbeats 1000000 in
theorem bytes4_early (A : Option Addr) (n c : Nat) (w : World) (hT : Tabs w) (h : 1000 < n) : Calls Tryd.prog 4 #[.slice A n c] w fun e w' => e = .returned (.bool true) ∧ Below w.heap.size w w' := by
  have d1 : decide ((1000 : Int) < (n : Int)) = true := decide_eq_true (by omega)
  have C0 := Lib.hid (known4 w hT)
  clear hT h
  go_enter Tryd.func4, Tryd.ntmps4
  go_wp2_with fail
  refine C0.out.mono ?_
  rintro e w1 ⟨rfl, k1⟩
  have K1 := Lib.hid k1
  clear k1 C0
  go_wp2
  go_ret
  exact ⟨rfl, K1.out⟩

set_option maxHeartbeats 2000000 in
theorem bytes4_walk (A : Option Addr) (c : Nat) (bs : List UInt8) (w : World) (hT : Tabs w) (hs : SlIs w 0 w.heap.size (.slice A bs.length c) bs) (hl : bs.length ≤ 1000) :
    Calls Tryd.prog 4 #[.slice A bs.length c] w fun e w' => e = .returned (.bool true) ∧ Below w.heap.size w w' := by
  have d1 : decide ((1000 : Int) < (bs.length : Int)) = false := decide_eq_false (by omega)
  have C0 := Lib.hid (known4 w hT)
  have C1 : Hid (∀ W, Below w.heap.size w W → Calls Tryd.prog 13 #[.slice A bs.length c] W (DecodeStep W bs)) := fun W b =>
    decode_any _ bs 0 w.heap.size W (hs.only (Only.of_below b) (Nat.le_refl _) (fun i _ hi h => by omega)) b.size (by omega) (hT.below b)
  have C2 : Hid (∀ W, Below w.heap.size w W → Calls Tryd.prog 16 #[.slice A bs.length c] W (DecodeStep W bs)) := fun W b =>
    statof_any _ bs 0 W ((hs.only (Only.of_below b) (Nat.le_refl _) (fun i _ hi h => by omega)).wide b.size) (by omega)
  have C3 : Hid (∀ W, Below w.heap.size w W → Calls Tryd.prog 17 #[.slice A bs.length c] W fun e W2 => ∃ v, e = .returned (.tuple #[v, .int .i64 (allAns bs).2]) ∧ RowsAt W2 v (allAns bs).1 ∧ Below W.heap.size W W2) := fun W b =>
    (all_any _ bs 0 w.heap.size W (hs.only (Only.of_below b) (Nat.le_refl _) (fun i _ hi h => by omega)) b.size (by omega) (hT.below b)).mono fun _ _ h => all_rows h
  have C4 : Hid (∀ W, Below w.heap.size w W → Calls Tryd.prog 18 #[.slice A bs.length c] W fun e W2 => ∃ v, e = .returned (.tuple #[v, .int .i64 (allAns bs).2]) ∧ RowsAt W2 v (allAns bs).1 ∧ Below W.heap.size W W2) := fun W b =>
    (statall_any _ bs W ((hs.only (Only.of_below b) (Nat.le_refl _) (fun i _ hi h => by omega)).wide b.size) (by omega)).mono fun _ _ h => all_rows h
  have CO : Hid (∀ (s : S11) W, Calls Tryd.prog 10 #[s.val] W fun e w' => e = .returned s.val ∧ Below W.heap.size W w') := fun s W => of4_any s W
  unfold DecodeStep at C1 C2
  generalize decAns bs = dec at C1 C2
  have hal := allAns_len bs
  generalize allAns bs = al at C3 C4 hal
  obtain ⟨s, n, er⟩ := dec
  obtain ⟨L, ae⟩ := al
  unfold S11.val at C1 C2 CO
  unfold S11.cells at C1 C2 CO
  simp only at C1 C2 C3 C4 hal
  clear hT hs
  go_enter Tryd.func4, Tryd.ntmps4
  go_wp2_with fail
  refine C0.out.mono ?_
  rintro e w1 ⟨rfl, k1⟩
  have K1 := Lib.hid k1
  clear k1 C0
  go_wp2_with fail
  refine (C1.out w1 K1.out).mono ?_
  rintro e w2 ⟨rfl, b2⟩
  have k2 := K1.out.trans (b2.mono K1.out.size)
  have K3 : Hid (Below w.heap.size w (w2.alloc (.cells s.cells 28)) ∧ Has (w2.alloc (.cells s.cells 28)) w2.heap.size 28 s.cells) := Lib.hid ⟨k2.alloc k2.size _, Has.new _ _ _⟩
  clear b2 k2 K1 C1
  go_wp2_with fail
  refine (C2.out _ K3.out.1).mono ?_
  rintro e w4 ⟨rfl, b4⟩
  have k4 := K3.out.1.trans (b4.mono K3.out.1.size)
  have p4 := K3.out.2.only (Only.of_below b4) (Nat.not_le_of_lt K3.out.2.lt)
  have K5 : Hid (Below w.heap.size w (w4.alloc (.cells s.cells 39)) ∧ Has (w4.alloc (.cells s.cells 39)) w2.heap.size 28 s.cells ∧ Has (w4.alloc (.cells s.cells 39)) w4.heap.size 39 s.cells) := Lib.hid ⟨k4.alloc k4.size _, p4.alloc _, Has.new _ _ _⟩
  clear b4 k4 p4 K3 C2
  go_wp2_with fail
  refine (C3.out _ K5.out.1).mono ?_
  rintro e w6 ⟨v9, rfl, r9, b6⟩
  have K6 : Hid (Below w.heap.size w w6 ∧ Has w6 w2.heap.size 28 s.cells ∧ Has w6 w4.heap.size 39 s.cells ∧ RowsAt w6 v9 L) :=
    Lib.hid ⟨K5.out.1.trans (b6.mono K5.out.1.size), K5.out.2.1.only (Only.of_below b6) (Nat.not_le_of_lt K5.out.2.1.lt), K5.out.2.2.only (Only.of_below b6) (Nat.not_le_of_lt K5.out.2.2.lt), r9⟩
  clear r9 b6 K5 C3
  go_wp2_with fail
  refine (C4.out _ K6.out.1).mono ?_
  rintro e w7 ⟨v11, rfl, r11, b7⟩
  have kb : KB w w7 s w2.heap.size w4.heap.size L v9 v11 :=
    ⟨K6.out.1.trans (b7.mono K6.out.1.size), K6.out.2.1.only (Only.of_below b7) (Nat.not_le_of_lt K6.out.2.1.lt), K6.out.2.2.1.only (Only.of_below b7) (Nat.not_le_of_lt K6.out.2.2.1.lt), K6.out.2.2.2.next b7, r11⟩
  have KD := Lib.hid (kb.next (below_drew w7))
  obtain ⟨A9, c9, hv9, _⟩ := kb.r1
  obtain ⟨A11, c11, hv11, _⟩ := kb.r2
  subst hv9
  subst hv11
  obtain ⟨sb1, hsb1⟩ : ∃ sb1, sb1 = w2.heap.size := ⟨_, rfl⟩
  obtain ⟨sb2, hsb2⟩ : ∃ sb2, sb2 = w4.heap.size := ⟨_, rfl⟩
  rw [← hsb1, ← hsb2] at KD
  clear r11 b7 K6 C4 kb
  go_upto_region 9 with fail
  rw [← hsb1, ← hsb2]
  refine wp_region_held_drew (S := fun w' => Has w' sb1 28 s.cells ∧ Has w' sb2 39 s.cells) (by kernel_rfl) ?_ (fun hHeld => ?_)
  · exact ⟨KD.out.p1, KD.out.p2⟩
  refine takeH (i := 0) (d := 41) (v := .agg #[.int .u16 (s.k : Int), .int .u32 (s.d : Int), .int .u8 (s.q.t : Int), .int .u32 (s.q.v : Int), .int .u64 (s.q.p : Int), .int .u32 (s.m : Int), .int .u32 (s.a : Int), .int .u32 (s.c : Int), .int .u64 (s.l : Int), .string (strOf s.n), .string (strOf s.u), .string (strOf s.g), .string (strOf s.x)]) (by kernel_rfl) (by kernel_rfl) (by kernel_rfl) rfl (fun _ _ _ h => h) (by rfl) ?_ hHeld ?_
  · intro o ho w hSw
    cases ho
    exact exec_load_row rfl rfl hSw.1 Tryd.underlying28 rfl Tryd.statSize13
  simp only [Act.put, List.setIfInBounds_toArray, List.set_cons_zero, List.set_cons_succ]
  refine takeH (i := 2) (d := 43) (v := .agg #[.int .u16 (s.k : Int), .int .u32 (s.d : Int), .int .u8 (s.q.t : Int), .int .u32 (s.q.v : Int), .int .u64 (s.q.p : Int), .int .u32 (s.m : Int), .int .u32 (s.a : Int), .int .u32 (s.c : Int), .int .u64 (s.l : Int), .string (strOf s.n), .string (strOf s.u), .string (strOf s.g), .string (strOf s.x)]) (by kernel_rfl) (by kernel_rfl) (by kernel_rfl) rfl (fun _ _ _ h => h) (by rfl) ?_ hHeld ?_
  · intro o ho w hSw
    cases ho
    exact exec_load_row rfl rfl hSw.2 Tryd.underlying39 rfl Tryd.refStatSize13
  simp only [Act.put, List.setIfInBounds_toArray, List.set_cons_zero, List.set_cons_succ]
  refine wpAnyH_ready (rs := [1]) (by kernel_rfl) (by simp) ?_
  refine AllReadyH.cons rfl (fun K hK => ?_) AllReadyH.nil
  go_simp
  refine (CO.out s _).mono ?_
  rintro e w9 ⟨rfl, b1⟩
  have K9 := Lib.hid (KD.out.next b1)
  clear b1 KD
  try go_wp2_with fail
  refine hK.out _ _ ?_ (fun hHeld => ?_)
  · exact ⟨K9.out.p1, K9.out.p2⟩
  clear hK K
  refine takeH (i := 3) (d := 44) (v := ?_) (by kernel_rfl) (by kernel_rfl) (by kernel_rfl) rfl (fun _ _ _ h => h) (by rfl) ?_ hHeld ?_
  rotate_left
  · intro o ho w hSw
    cases ho
    go_simp
    try with_reducible rfl
  simp only [Act.put, List.setIfInBounds_toArray, List.set_cons_zero, List.set_cons_succ]
  refine takeH (i := 4) (d := 45) (v := ?_) (by kernel_rfl) (by kernel_rfl) (by kernel_rfl) rfl (fun _ _ _ h => h) (by rfl) ?_ hHeld ?_
  rotate_left
  · intro o ho w hSw
    cases ho
    go_simp
    try with_reducible rfl
  simp only [Act.put, List.setIfInBounds_toArray, List.set_cons_zero, List.set_cons_succ]
  refine takeH (i := 5) (d := 46) (v := ?_) (by kernel_rfl) (by kernel_rfl) (by kernel_rfl) rfl (fun _ _ _ h => h) (by rfl) ?_ hHeld ?_
  rotate_left
  · intro o ho w hSw
    cases ho
    go_simp
    try with_reducible rfl
  simp only [Act.put, List.setIfInBounds_toArray, List.set_cons_zero, List.set_cons_succ]
  refine takeH (i := 6) (d := 47) (v := ?_) (by kernel_rfl) (by kernel_rfl) (by kernel_rfl) rfl (fun _ _ _ h => h) (by rfl) ?_ hHeld ?_
  rotate_left
  · intro o ho w hSw
    cases ho
    go_simp
    try with_reducible rfl
  simp only [Act.put, List.setIfInBounds_toArray, List.set_cons_zero, List.set_cons_succ]
  refine takeH (i := 7) (d := 48) (v := ?_) (by kernel_rfl) (by kernel_rfl) (by kernel_rfl) rfl (fun _ _ _ h => h) (by rfl) ?_ hHeld ?_
  rotate_left
  · intro o ho w hSw
    cases ho
    go_simp
    try with_reducible rfl
  simp only [Act.put, List.setIfInBounds_toArray, List.set_cons_zero, List.set_cons_succ]
  refine takeH (i := 8) (d := 49) (v := ?_) (by kernel_rfl) (by kernel_rfl) (by kernel_rfl) rfl (fun _ _ _ h => h) (by rfl) ?_ hHeld ?_
  rotate_left
  · intro o ho w hSw
    cases ho
    go_simp
    try with_reducible rfl
  simp only [Act.put, List.setIfInBounds_toArray, List.set_cons_zero, List.set_cons_succ]
  refine takeH (i := 9) (d := 50) (v := ?_) (by kernel_rfl) (by kernel_rfl) (by kernel_rfl) rfl (fun _ _ _ h => h) (by rfl) ?_ hHeld ?_
  rotate_left
  · intro o ho w hSw
    cases ho
    go_simp
    try with_reducible rfl
  simp only [Act.put, List.setIfInBounds_toArray, List.set_cons_zero, List.set_cons_succ]
  refine takeH (i := 10) (d := 51) (v := ?_) (by kernel_rfl) (by kernel_rfl) (by kernel_rfl) rfl (fun _ _ _ h => h) (by rfl) ?_ hHeld ?_
  rotate_left
  · intro o ho w hSw
    cases ho
    go_simp
    try with_reducible rfl
  simp only [Act.put, List.setIfInBounds_toArray, List.set_cons_zero, List.set_cons_succ]
  refine takeH (i := 11) (d := 52) (v := ?_) (by kernel_rfl) (by kernel_rfl) (by kernel_rfl) rfl (fun _ _ _ h => h) (by rfl) ?_ hHeld ?_
  rotate_left
  · intro o ho w hSw
    cases ho
    go_simp
    try with_reducible rfl
  simp only [Act.put, List.setIfInBounds_toArray, List.set_cons_zero, List.set_cons_succ]
  refine takeH (i := 12) (d := 53) (v := ?_) (by kernel_rfl) (by kernel_rfl) (by kernel_rfl) rfl (fun _ _ _ h => h) (by rfl) ?_ hHeld ?_
  rotate_left
  · intro o ho w hSw
    cases ho
    go_simp
    try with_reducible rfl
  simp only [Act.put, List.setIfInBounds_toArray, List.set_cons_zero, List.set_cons_succ]
  refine takeH (i := 13) (d := 54) (v := ?_) (by kernel_rfl) (by kernel_rfl) (by kernel_rfl) rfl (fun _ _ _ h => h) (by rfl) ?_ hHeld ?_
  rotate_left
  · intro o ho w hSw
    cases ho
    go_simp
    try with_reducible rfl
  simp only [Act.put, List.setIfInBounds_toArray, List.set_cons_zero, List.set_cons_succ]
  refine takeH (i := 14) (d := 55) (v := ?_) (by kernel_rfl) (by kernel_rfl) (by kernel_rfl) rfl (fun _ _ _ h => h) (by rfl) ?_ hHeld ?_
  rotate_left
  · intro o ho w hSw
    cases ho
    go_simp
    try with_reducible rfl
  simp only [Act.put, List.setIfInBounds_toArray, List.set_cons_zero, List.set_cons_succ]
  refine takeH (i := 15) (d := 56) (v := ?_) (by kernel_rfl) (by kernel_rfl) (by kernel_rfl) rfl (fun _ _ _ h => h) (by rfl) ?_ hHeld ?_
  rotate_left
  · intro o ho w hSw
    cases ho
    go_simp
    try with_reducible rfl
  simp only [Act.put, List.setIfInBounds_toArray, List.set_cons_zero, List.set_cons_succ]
  refine takeH (i := 16) (d := 57) (v := ?_) (by kernel_rfl) (by kernel_rfl) (by kernel_rfl) rfl (fun _ _ _ h => h) (by rfl) ?_ hHeld ?_
  rotate_left
  · intro o ho w hSw
    cases ho
    go_simp
    try with_reducible rfl
  simp only [Act.put, List.setIfInBounds_toArray, List.set_cons_zero, List.set_cons_succ]
  refine takeH (i := 17) (d := 58) (v := ?_) (by kernel_rfl) (by kernel_rfl) (by kernel_rfl) rfl (fun _ _ _ h => h) (by rfl) ?_ hHeld ?_
  rotate_left
  · intro o ho w hSw
    cases ho
    go_simp
    try with_reducible rfl
  simp only [Act.put, List.setIfInBounds_toArray, List.set_cons_zero, List.set_cons_succ]
  refine takeH (i := 18) (d := 59) (v := ?_) (by kernel_rfl) (by kernel_rfl) (by kernel_rfl) rfl (fun _ _ _ h => h) (by rfl) ?_ hHeld ?_
  rotate_left
  · intro o ho w hSw
    cases ho
    go_simp
    try with_reducible rfl
  simp only [Act.put, List.setIfInBounds_toArray, List.set_cons_zero, List.set_cons_succ]
  refine takeH (i := 19) (d := 60) (v := ?_) (by kernel_rfl) (by kernel_rfl) (by kernel_rfl) rfl (fun _ _ _ h => h) (by rfl) ?_ hHeld ?_
  rotate_left
  · intro o ho w hSw
    cases ho
    go_simp
    try with_reducible rfl
  simp only [Act.put, List.setIfInBounds_toArray, List.set_cons_zero, List.set_cons_succ]
  refine takeH (i := 20) (d := 61) (v := ?_) (by kernel_rfl) (by kernel_rfl) (by kernel_rfl) rfl (fun _ _ _ h => h) (by rfl) ?_ hHeld ?_
  rotate_left
  · intro o ho w hSw
    cases ho
    go_simp
    try with_reducible rfl
  simp only [Act.put, List.setIfInBounds_toArray, List.set_cons_zero, List.set_cons_succ]
  refine takeH (i := 21) (d := 62) (v := ?_) (by kernel_rfl) (by kernel_rfl) (by kernel_rfl) rfl (fun _ _ _ h => h) (by rfl) ?_ hHeld ?_
  rotate_left
  · intro o ho w hSw
    cases ho
    go_simp
    try with_reducible rfl
  simp only [Act.put, List.setIfInBounds_toArray, List.set_cons_zero, List.set_cons_succ]
  refine takeH (i := 22) (d := 63) (v := ?_) (by kernel_rfl) (by kernel_rfl) (by kernel_rfl) rfl (fun _ _ _ h => h) (by rfl) ?_ hHeld ?_
  rotate_left
  · intro o ho w hSw
    cases ho
    go_simp
    try with_reducible rfl
  simp only [Act.put, List.setIfInBounds_toArray, List.set_cons_zero, List.set_cons_succ]
  refine takeH (i := 23) (d := 64) (v := ?_) (by kernel_rfl) (by kernel_rfl) (by kernel_rfl) rfl (fun _ _ _ h => h) (by rfl) ?_ hHeld ?_
  rotate_left
  · intro o ho w hSw
    cases ho
    go_simp
    try with_reducible rfl
  simp only [Act.put, List.setIfInBounds_toArray, List.set_cons_zero, List.set_cons_succ]
  refine takeH (i := 24) (d := 65) (v := ?_) (by kernel_rfl) (by kernel_rfl) (by kernel_rfl) rfl (fun _ _ _ h => h) (by rfl) ?_ hHeld ?_
  rotate_left
  · intro o ho w hSw
    cases ho
    go_simp
    try with_reducible rfl
  simp only [Act.put, List.setIfInBounds_toArray, List.set_cons_zero, List.set_cons_succ]
  refine takeH (i := 25) (d := 66) (v := ?_) (by kernel_rfl) (by kernel_rfl) (by kernel_rfl) rfl (fun _ _ _ h => h) (by rfl) ?_ hHeld ?_
  rotate_left
  · intro o ho w hSw
    cases ho
    go_simp
    try with_reducible rfl
  simp only [Act.put, List.setIfInBounds_toArray, List.set_cons_zero, List.set_cons_succ]
  refine wpAnyH_done (by kernel_rfl) ?_ _
  have I0 : Hid (KL w w9 L (.slice A9 L.length c9) (.slice A11 L.length c11)) := Lib.hid ⟨K9.out.low, K9.out.r1, K9.out.r2⟩
  clear K9 hsb1 hsb2
  go_wp2_with fail
  go_loopw [13] (fun i wr => ∃ j : Nat, j ≤ L.length ∧ i = .int .i64 j ∧ Hid (KL w wr L (.slice A9 L.length c9) (.slice A11 L.length c11))) (fun i _ => L.length - (intOf i).toNat)
  case atStart => exact ⟨0, Nat.zero_le _, rfl, I0⟩
  case round =>
    obtain ⟨i, hi, rfl, hrel⟩ := hrel
    clear I0
    by_cases hlt : i < L.length
    · obtain ⟨A9', c9', e9, h9⟩ := hrel.out.r1
      obtain ⟨A11', c11', e11, h11⟩ := hrel.out.r2
      obtain ⟨rfl, rfl⟩ : A9' = A9 ∧ c9' = c9 := by
        injection e9 with q1 q2 q3
        exact ⟨q1.symm, q3.symm⟩
      obtain ⟨rfl, rfl⟩ : A11' = A11 ∧ c11' = c11 := by
        injection e11 with q1 q2 q3
        exact ⟨q1.symm, q3.symm⟩
      obtain ⟨a9, rfl, g9⟩ := h9 (by omega)
      obtain ⟨a11, rfl, g11⟩ := h11 (by omega)
      have k9 := g9 i hlt
      have k11 := g11 i hlt
      obtain ⟨x, hx⟩ : ∃ x, x = L[i] := ⟨_, rfl⟩
      rw [← hx] at k9 k11
      have H9 : Hid (∀ (j : Nat) (u : Value), x.cells.toList[j]? = some u → wr.drew.cell? ((a9.add (i * 13)).add j) = some u) := Lib.hid k9
      have H11 : Hid (∀ (j : Nat) (u : Value), x.cells.toList[j]? = some u → wr.drew.cell? ((a11.add (i * 13)).add j) = some u) := Lib.hid k11
      have KR := Lib.hid hrel.out
      have i0 : (0 : Int) ≤ (i : Int) := by omega
      have i1 : (i : Int) < (L.length : Int) := by omega
      clear h9 h11 g9 g11 k9 k11 hx hrel
      go_upto_region 14 with fail
      refine wp_region_held_drew (S := fun w' => (∀ (j : Nat) (u : Value), x.cells.toList[j]? = some u → w'.cell? ((a9.add (i * 13)).add j) = some u) ∧ (∀ (j : Nat) (u : Value), x.cells.toList[j]? = some u → w'.cell? ((a11.add (i * 13)).add j) = some u)) (by kernel_rfl) ?_ (fun hHeld => ?_)
      · exact ⟨H9.out, H11.out⟩
      refine takeH (i := 0) (d := 73) (v := ?_) (by kernel_rfl) (by kernel_rfl) (by kernel_rfl) rfl (fun _ _ _ h => h) (by rfl) ?_ hHeld ?_
      rotate_left
      · intro o ho w hSw
        cases ho
        go_simp
        try with_reducible rfl
      simp only [Act.put, List.setIfInBounds_toArray, List.set_cons_zero, List.set_cons_succ]
      refine takeH (i := 1) (d := 74) (v := ?_) (by kernel_rfl) (by kernel_rfl) (by kernel_rfl) rfl (fun _ _ _ h => h) (by rfl) ?_ hHeld ?_
      rotate_left
      · intro o ho w hSw
        cases ho
        go_simp
        try with_reducible rfl
      simp only [Act.put, List.setIfInBounds_toArray, List.set_cons_zero, List.set_cons_succ]
      refine takeH (i := 2) (d := 75) (v := ?_) (by kernel_rfl) (by kernel_rfl) (by kernel_rfl) rfl (fun _ _ _ h => h) (by rfl) ?_ hHeld ?_
      rotate_left
      · intro o ho w hSw
        cases ho
        go_simp
        try with_reducible rfl
      simp only [Act.put, List.setIfInBounds_toArray, List.set_cons_zero, List.set_cons_succ]
      refine takeH (i := 3) (d := 76) (v := .agg #[.int .u16 (x.k : Int), .int .u32 (x.d : Int), .int .u8 (x.q.t : Int), .int .u32 (x.q.v : Int), .int .u64 (x.q.p : Int), .int .u32 (x.m : Int), .int .u32 (x.a : Int), .int .u32 (x.c : Int), .int .u64 (x.l : Int), .string (strOf x.n), .string (strOf x.u), .string (strOf x.g), .string (strOf x.x)]) (by kernel_rfl) (by kernel_rfl) (by kernel_rfl) rfl (fun _ _ _ h => h) (by rfl) ?_ hHeld ?_
      · intro o ho w hSw
        cases ho
        exact exec_load_at (cs := x.cells) rfl rfl hSw.1 Tryd.underlying28 rfl Tryd.statSize13
      simp only [Act.put, List.setIfInBounds_toArray, List.set_cons_zero, List.set_cons_succ]
      refine takeH (i := 5) (d := 78) (v := ?_) (by kernel_rfl) (by kernel_rfl) (by kernel_rfl) rfl (fun _ _ _ h => h) (by rfl) ?_ hHeld ?_
      rotate_left
      · intro o ho w hSw
        cases ho
        go_simp
        try with_reducible rfl
      simp only [Act.put, List.setIfInBounds_toArray, List.set_cons_zero, List.set_cons_succ]
      refine takeH (i := 6) (d := 79) (v := ?_) (by kernel_rfl) (by kernel_rfl) (by kernel_rfl) rfl (fun _ _ _ h => h) (by rfl) ?_ hHeld ?_
      rotate_left
      · intro o ho w hSw
        cases ho
        go_simp
        try with_reducible rfl
      simp only [Act.put, List.setIfInBounds_toArray, List.set_cons_zero, List.set_cons_succ]
      refine takeH (i := 7) (d := 80) (v := ?_) (by kernel_rfl) (by kernel_rfl) (by kernel_rfl) rfl (fun _ _ _ h => h) (by rfl) ?_ hHeld ?_
      rotate_left
      · intro o ho w hSw
        cases ho
        go_simp
        try with_reducible rfl
      simp only [Act.put, List.setIfInBounds_toArray, List.set_cons_zero, List.set_cons_succ]
      refine takeH (i := 8) (d := 81) (v := .agg #[.int .u16 (x.k : Int), .int .u32 (x.d : Int), .int .u8 (x.q.t : Int), .int .u32 (x.q.v : Int), .int .u64 (x.q.p : Int), .int .u32 (x.m : Int), .int .u32 (x.a : Int), .int .u32 (x.c : Int), .int .u64 (x.l : Int), .string (strOf x.n), .string (strOf x.u), .string (strOf x.g), .string (strOf x.x)]) (by kernel_rfl) (by kernel_rfl) (by kernel_rfl) rfl (fun _ _ _ h => h) (by rfl) ?_ hHeld ?_
      · intro o ho w hSw
        cases ho
        exact exec_load_at (cs := x.cells) rfl rfl hSw.2 Tryd.underlying39 rfl Tryd.refStatSize13
      simp only [Act.put, List.setIfInBounds_toArray, List.set_cons_zero, List.set_cons_succ]
      refine wpAnyH_ready (rs := [4]) (by kernel_rfl) (by simp) ?_
      refine AllReadyH.cons rfl (fun K hK => ?_) AllReadyH.nil
      go_simp
      refine (CO.out x _).mono ?_
      rintro e w12 ⟨rfl, b1⟩
      have K12 := Lib.hid (KR.out.drew.next b1)
      have h9 := Lib.hid (rows_keep b1 H9.out)
      have h11 := Lib.hid (rows_keep b1 H11.out)
      clear b1 KR H9 H11
      try go_wp2_with fail
      refine hK.out _ _ ?_ (fun hHeld => ?_)
      · exact ⟨h9.out, h11.out⟩
      clear hK K
      refine takeH (i := 9) (d := 82) (v := ?_) (by kernel_rfl) (by kernel_rfl) (by kernel_rfl) rfl (fun _ _ _ h => h) (by rfl) ?_ hHeld ?_
      rotate_left
      · intro o ho w hSw
        cases ho
        go_simp
        try with_reducible rfl
      simp only [Act.put, List.setIfInBounds_toArray, List.set_cons_zero, List.set_cons_succ]
      refine wpAnyH_done (by kernel_rfl) ?_ _
      go_wp2
      go_roundw
      case rel => exact ⟨i + 1, by omega, by go_num, K12⟩
      case measure => simp [intOf]; omega
    · have hi2 : i = L.length := by omega
      subst hi2
      have R := Lib.hid hrel.out.low
      clear hrel
      go_wp2
      go_ret
      exact ⟨rfl, R.out⟩
end Go.Proofs.YtbfigbbenaoaeaaDoor
