/-
  The second reading's In: a record of a message; the fields of a message taken one behind another.
-/
import Derived.Test.YtepiifbleoimkaaGreatDoorRefDecA
import Derived.Deep.Cut
namespace Go.Proofs.YtepiifbleoimkaaGreatDoor
open Go.RowKit
set_option maxRecDepth 100000

set_option maxHeartbeats 1000000 in
theorem rinstat_any (H g : Nat) (bs r : List UInt8) (er : Int) (w : World) (h : RV w H g bs r er) (hb : bs.length ≤ 100000) (hrl : r.length ≤ bs.length) :
    Calls Tryz.prog 45 #[.pointer (some ⟨g, 0, none⟩)] w (RTk w H g .stat bs r er) := by
  have hgl := h.lt
  have k0 : Only (fun _ => False) w (w.alloc (.cells S11.zero.cells 41)) := (Only.refl _ w).alloc _
  have r0 : Has (w.alloc (.cells S11.zero.cells 41)) w.heap.size 41 S11.zero.cells := Has.new _ _ _
  have c1 := rv_take H g 2 bs r er (w.alloc (.cells S11.zero.cells 41)) (h.only k0 (fun h => h) (fun _ _ h => h))
  have C1 : Hid (Calls Tryz.prog 18 #[.pointer (some ⟨g, 0, none⟩), .int .i64 2] (w.alloc (.cells S11.zero.cells 41)) (fun e w' => e = .returned (.int .u64 (takeSt 2 r er).1) ∧ RV w' H g bs (takeSt 2 r er).2.1 (takeSt 2 r er).2.2 ∧ Only (fun i => i = g) w w' ∧ Has w' w.heap.size 41 S11.zero.cells)) :=
    Lib.hid (c1.mono (by
      rintro e w' ⟨he, i1, f1⟩
      exact ⟨he, i1, (k0.mono (fun _ _ h => h.elim)).trans f1 (fun _ _ h => h), r0.only f1 (by omega)⟩))
  have hlt := takeSt_lt 2 r er
  have hln := takeSt_len 2 r er
  obtain ⟨st, hst⟩ : ∃ s, s = takeSt 2 r er := ⟨_, rfl⟩
  rw [show takeSt ((2 : Nat) : Int) r er = st from hst.symm] at hlt
  rw [← hst] at C1 hln
  obtain ⟨n, r1, e1⟩ := st
  simp only at C1 hlt hln
  have hwu : IntKind.i64.wrap (n : Int) = (n : Int) := IntWalk.i64_in _ (by omega)
  have hr1 := rawSt_len (n : Int) r1 e1
  have hr2 := rawSt_len2 (n : Int) r1 e1
  obtain ⟨sr, hsr⟩ : ∃ s, s = rawSt (n : Int) r1 e1 := ⟨_, rfl⟩
  rw [← hsr] at hr1 hr2
  obtain ⟨b, r2, e2⟩ := sr
  simp only at hr1 hr2
  have HP := Lib.hid (stat_pure r er n r1 e1 b r2 e2 hst.symm hsr.symm)
  have HSR := Lib.hid hsr.symm
  clear h k0 r0 c1 hst hsr
  unfold S11.zero S11.cells at C1
  go_enter Tryz.func45, Tryz.ntmps45
  go_wp2_with fail
  refine C1.out.mono ?_
  rintro e w1 ⟨rfl, i1, k1, q1⟩
  have C2 := Lib.hid (rv_raw H g (n : Int) bs r1 e1 w1 i1 (by omega))
  rw [HSR.out] at C2
  have K1 := Lib.hid k1
  have R1 : Hid (Has w1 w.heap.size 41 S11.zero.cells) := q1
  clear i1 k1 q1 C1 HSR
  go_wp2_with fail
  refine C2.out.mono ?_
  rintro e w2 ⟨u, rfl, ow, i2, k2⟩
  have K2 : Hid (Only (fun i => i = g) w w2) := K1.out.trans k2 (fun _ _ h => h)
  have R2 := Lib.hid (R1.out.only k2 (by omega))
  have I2 := Lib.hid i2
  have C4 := statof_any u b _ w2 (owns_SlIs ow) (by omega)
  obtain ⟨A, c, rfl, _⟩ := owns_slice ow
  unfold DecodeStep at C4
  have hy := @tkRec_yes b
  have hno := @tkRec_no b
  generalize decAns b = da at C4 hy hno
  obtain ⟨s, m, ec⟩ := da
  simp only at C4 hy hno
  unfold S11.val at C4
  have C4 := Lib.hid C4
  clear ow i2 k2 K1 R1 C2
  go_wp2_with fail
  refine C4.out.mono ?_
  rintro e w3 ⟨rfl, b3⟩
  have hs2 := K2.out.size
  have hs3 := b3.size
  have K3 : Hid (Only (fun i => i = g) w w3) := K2.out.trans (Only.of_below b3) (fun i hi h => by omega)
  have R3 := R2.out.only (Below.onlyNew b3) (fun h => h)
  have I3 := I2.out.only (Below.onlyNew b3) (fun h => h) (fun _ _ h => h)
  obtain ⟨W, hW⟩ : ∃ W, W = w3.alloc (.cells s.cells 41) := ⟨_, rfl⟩
  have hW3 : w.heap.size < w3.heap.size := R3.lt
  have R4 : Hid (Has W w.heap.size 41 S11.zero.cells) := by rw [hW]; exact R3.alloc _
  have I4 : Hid (RV W H g bs r2 e2) := by rw [hW]; exact I3.only ((Only.refl (fun _ => False) w3).alloc _) (fun h => h) (fun _ _ h => h)
  have K4 : Hid (Only (fun i => i = g) w W) := by rw [hW]; exact K3.out.alloc _
  have N4 : Hid (Has W w3.heap.size 41 s.cells) := by rw [hW]; exact Has.new _ _ _
  have HW := Lib.hid hW.symm
  unfold S11.cells at HW
  have c2 := I4.out.bad
  have f2 := I4.out.frozen
  clear C4 b3 K2 R2 I2 R3 I3 K3 hW
  unfold S11.cells
  go_upto_region 3 with fail
  refine (show Code.wp _ _ _ _ (w3.alloc (.cells #[.int .u16 (s.k : Int), .int .u32 (s.d : Int), .int .u8 (s.q.t : Int), .int .u32 (s.q.v : Int), .int .u64 (s.q.p : Int), .int .u32 (s.m : Int), .int .u32 (s.a : Int), .int .u32 (s.c : Int), .int .u64 (s.l : Int), .string (strOf s.n), .string (strOf s.u), .string (strOf s.g), .string (strOf s.x)] 41)) from ?_)
  rw [HW.out]
  clear HW
  by_cases h2 : e2 = 0
  · subst h2
    cases hr : tkRec b with
    | some x =>
      have hd := hy hr
      injection hd with hd1 hd2
      injection hd2 with hd2 hd3
      subst hd1 hd2 hd3
      have hyes := HP.out.1 s hr rfl
      have FIN : Hid (RTk w H g .stat bs r er (.returned s.val) (set13 W w.heap.size s)) := Lib.hid ⟨.stat s, _, r2, 0, rfl, rfl, rfl, I4.out.only ((Only.refl (fun i => i = w.heap.size) W).set13 (fun _ => rfl) s) (by omega) (fun i hi h => by omega), K4.out.set13 (fun h => absurd h (Nat.lt_irrefl _)) s, by omega, fun _ => hyes, fun h => absurd rfl h⟩
      clear hy hno HP hr hyes K4 I4
      obtain ⟨⟨x0, x1, x2, x3, x4⟩, ⟨x5, x6, x7, x8⟩, ⟨x9, x10, x11, x12⟩⟩ := N4.out.cells13
      obtain ⟨⟨z0, z1, z2, z3, z4⟩, ⟨z5, z6, z7, z8⟩, ⟨z9, z10, z11, z12⟩⟩ := R4.out.cells13
      obtain ⟨⟨y0, y1, y2, y3, y4⟩, ⟨y5, y6, y7, y8⟩, ⟨y9, y10, y11, y12⟩⟩ := R4.out.frozen13
      clear N4
      go_wp2_with fail
      refine bodyPost_ret (results_cell_row rfl _ _ w.heap.size 41 _ (0, 0) _ rfl (has_set13 R4.out s) Tryz.underlying41 rfl Tryz.refStatSize13) rfl ?_
      exact FIN.out
    | none =>
      have hq := hno hr
      have hnone := HP.out.2.1 hr
      obtain ⟨V, hV⟩ : ∃ V, V = W.setCell ⟨g, 2, none⟩ (.int .i64 2) := ⟨_, rfl⟩
      have kv : Only (fun i => i = g) W V := by rw [hV]; exact (Only.refl (fun i => i = g) W).setCell (p := ⟨g, 2, none⟩) (fun _ => rfl) _
      have I5 : Hid (RV V H g bs r2 2) := by rw [hV]; exact I4.out.setBad 2 (by decide)
      have R5 := Lib.hid (R4.out.only kv (by omega))
      have N5 := Lib.hid (N4.out.only kv (by omega))
      have K5 := Lib.hid (K4.out.trans kv (fun _ _ h => h))
      have HV := Lib.hid hV.symm
      clear R4 I4 K4 N4 hy hno HP hr kv hV
      have R4 := R5
      have I4 := I5
      have K4 := K5
      have N4 := N5
      have FIN : Hid (RTk w H g .stat bs r er (.returned s.val) (set13 V w.heap.size s)) := Lib.hid ⟨.stat s, _, r2, 2, rfl, rfl, rfl, I4.out.only ((Only.refl (fun i => i = w.heap.size) V).set13 (fun _ => rfl) s) (by omega) (fun i hi h => by omega), K4.out.set13 (fun h => absurd h (Nat.lt_irrefl _)) s, by omega, fun h => absurd h (by decide), fun _ => hnone⟩
      clear R5 I5 K5 N5 hnone I4 K4
      by_cases h0 : ec = 0
      · subst h0
        have hm : (m != (b.length : Int)) = true := by
          rcases hq with h | h
          · exact absurd rfl h
          · simpa using h
        clear hq
        go_upto_region 5 with fail
        refine (show Code.wp _ _ _ _ (W.setCell ⟨g, 2, none⟩ (.int .i64 2)) from ?_)
        rw [HV.out]
        clear HV
        obtain ⟨⟨x0, x1, x2, x3, x4⟩, ⟨x5, x6, x7, x8⟩, ⟨x9, x10, x11, x12⟩⟩ := N4.out.cells13
        obtain ⟨⟨z0, z1, z2, z3, z4⟩, ⟨z5, z6, z7, z8⟩, ⟨z9, z10, z11, z12⟩⟩ := R4.out.cells13
        obtain ⟨⟨y0, y1, y2, y3, y4⟩, ⟨y5, y6, y7, y8⟩, ⟨y9, y10, y11, y12⟩⟩ := R4.out.frozen13
        clear N4
        go_wp2_with fail
        refine bodyPost_ret (results_cell_row rfl _ _ w.heap.size 41 _ (0, 0) _ rfl (has_set13 R4.out s) Tryz.underlying41 rfl Tryz.refStatSize13) rfl ?_
        exact FIN.out
      · have hd : (ec != 0) = true := by simpa using h0
        clear hq h0
        go_upto_region 5 with fail
        refine (show Code.wp _ _ _ _ (W.setCell ⟨g, 2, none⟩ (.int .i64 2)) from ?_)
        rw [HV.out]
        clear HV
        obtain ⟨⟨x0, x1, x2, x3, x4⟩, ⟨x5, x6, x7, x8⟩, ⟨x9, x10, x11, x12⟩⟩ := N4.out.cells13
        obtain ⟨⟨z0, z1, z2, z3, z4⟩, ⟨z5, z6, z7, z8⟩, ⟨z9, z10, z11, z12⟩⟩ := R4.out.cells13
        obtain ⟨⟨y0, y1, y2, y3, y4⟩, ⟨y5, y6, y7, y8⟩, ⟨y9, y10, y11, y12⟩⟩ := R4.out.frozen13
        clear N4
        go_wp2_with fail
        refine bodyPost_ret (results_cell_row rfl _ _ w.heap.size 41 _ (0, 0) _ rfl (has_set13 R4.out s) Tryz.underlying41 rfl Tryz.refStatSize13) rfl ?_
        exact FIN.out
  · have hd : (e2 == 0) = false := by simpa using h2
    have hnone := HP.out.2.2 h2
    have FIN : Hid (RTk w H g .stat bs r er (.returned s.val) (set13 W w.heap.size s)) := Lib.hid ⟨.stat s, _, r2, e2, rfl, rfl, rfl, I4.out.only ((Only.refl (fun i => i = w.heap.size) W).set13 (fun _ => rfl) s) (by omega) (fun i hi h => by omega), K4.out.set13 (fun h => absurd h (Nat.lt_irrefl _)) s, by omega, fun h => absurd h h2, fun _ => hnone⟩
    clear hy hno HP hnone K4 I4 h2
    obtain ⟨⟨x0, x1, x2, x3, x4⟩, ⟨x5, x6, x7, x8⟩, ⟨x9, x10, x11, x12⟩⟩ := N4.out.cells13
    obtain ⟨⟨z0, z1, z2, z3, z4⟩, ⟨z5, z6, z7, z8⟩, ⟨z9, z10, z11, z12⟩⟩ := R4.out.cells13
    obtain ⟨⟨y0, y1, y2, y3, y4⟩, ⟨y5, y6, y7, y8⟩, ⟨y9, y10, y11, y12⟩⟩ := R4.out.frozen13
    clear N4
    go_wp2_with fail
    refine bodyPost_ret (results_cell_row rfl _ _ w.heap.size 41 _ (0, 0) _ rfl (has_set13 R4.out s) Tryz.underlying41 rfl Tryz.refStatSize13) rfl ?_
    exact FIN.out

/-- A message of the second reading that has but its Type and Tag. -/
def rzCells (t tag : Nat) : Array Value := #[.int .u8 (t : Int), .int .u16 (tag : Int), .int .u32 0, .string ⟨#[]⟩, .int .u32 0, .int .u32 0, .int .u32 0, .string ⟨#[]⟩, .string ⟨#[]⟩, .string ⟨#[]⟩, .int .u16 0, .slice none 0 0, .slice none 0 0, .int .u8 0, .int .u32 0, .int .u64 0, .int .u32 0, .int .u8 0, .int .u32 0, .string ⟨#[]⟩, .int .u64 0, .int .u32 0, .string ⟨#[]⟩, .int .u16 0, .int .u32 0, .int .u8 0, .int .u32 0, .int .u64 0, .int .u32 0, .int .u32 0, .int .u32 0, .int .u64 0, .string ⟨#[]⟩, .string ⟨#[]⟩, .string ⟨#[]⟩, .string ⟨#[]⟩]
theorem rz_at (w : World) (lo hi t tag : Nat) : RMgAt w lo hi (rzCells t tag) (zeroM t tag) := by
  have z := zero_at w lo hi t tag
  refine ⟨rfl, z.kind, fun p hp => ?_⟩
  have hl := z.lies p hp
  simp only [places, List.mem_cons, List.not_mem_nil, or_false] at hp
  rcases hp with rfl | rfl | rfl | rfl | rfl | rfl | rfl | rfl | rfl | rfl | rfl | rfl | rfl | rfl | rfl | rfl | rfl | rfl | rfl | rfl | rfl | rfl
  all_goals first | exact ⟨_, rfl, strs_nil _ _ _⟩ | exact ⟨_, rfl, qds_nil _ _ _⟩ | exact rfl | exact ⟨rfl, rfl, rfl⟩ | skip
  intro j hj
  match j, hj with
  | 0, _ => rfl
  | 1, _ => rfl
  | 2, _ => rfl
  | 3, _ => rfl
  | 4, _ => rfl
  | 5, _ => rfl
  | 6, _ => rfl
  | 7, _ => rfl
  | 8, _ => rfl
  | 9, _ => rfl
  | 10, _ => rfl
  | 11, _ => rfl
  | 12, _ => rfl
theorem RFAt.cells {w : World} {lo hi : Nat} {cs cs' : Array Value} {off : Nat} {f : F} (h : RFAt w lo hi cs off f) (hc : ∀ j, j < f.kind.size → cs'[off + j]? = cs[off + j]?) : RFAt w lo hi cs' off f := by
  cases f with
  | data b => exact (hc 0 (show 0 < 1 by decide)).trans h
  | num n x => exact FAt.cells (w := w) (lo := lo) (hi := hi) (f := .num n x) h hc
  | text l => exact FAt.cells (w := w) (lo := lo) (hi := hi) (f := .text l) h hc
  | texts L => exact FAt.cells (w := w) (lo := lo) (hi := hi) (f := .texts L) h hc
  | qid q => exact FAt.cells (w := w) (lo := lo) (hi := hi) (f := .qid q) h hc
  | qids Q => exact FAt.cells (w := w) (lo := lo) (hi := hi) (f := .qids Q) h hc
  | stat s => exact FAt.cells (w := w) (lo := lo) (hi := hi) (f := .stat s) h hc
theorem RMgAt.put {w w' : World} {lo hi hi' : Nat} {cs cs' : Array Value} {m : Nat → F} {p : K × Nat} {f : F} (h : RMgAt w lo hi cs m) (hp : p ∈ places) (hf : f.kind = p.1) (hh : hi ≤ hi') (hs : cs'.size = cs.size)
    (hk : ∀ q : Addr, lo ≤ q.block → q.block < hi → w'.cell? q = w.cell? q) (ha : RFAt w' lo hi' cs' p.2 f) (ho : ∀ i, i < p.2 ∨ p.2 + p.1.size ≤ i → cs'[i]? = cs[i]?) : RMgAt w' lo hi' cs' (upd m p.2 f) := by
  refine ⟨by rw [hs, h.size], fun q hq => ?_, fun q hq => ?_⟩
  · rcases places_apart p hp q hq with rfl | hd
    · rw [upd_same]
      exact hf
    · have := size_pos p.1
      have := size_pos q.1
      rw [upd_other _ _ (by omega)]
      exact h.kind q hq
  · rcases places_apart p hp q hq with rfl | hd
    · rw [upd_same]
      exact ha
    · have := size_pos p.1
      have := size_pos q.1
      rw [upd_other _ _ (by omega)]
      have hq1 := h.kind q hq
      exact (((h.lies q hq).keep hk).wide (Nat.le_refl _) hh).cells (fun j hj => ho _ (by rw [hq1] at hj; omega))
/-- So many fields are taken. -/
structure FC (W : World) (H g mb : Nat) (bs : List UInt8) (T : Option (List F × List UInt8)) (done : List F) (ks : List K) (r : List UInt8) (er : Int) (cs : Array Value) (m : Nat → F) (wr : World) : Prop where
  rv : RV wr H g bs r er
  row : Has wr mb 43 cs
  low : Only (fun i => i = g ∨ i = mb) W wr
  mg : RMgAt wr W.heap.size wr.heap.size cs m
  yes : er = 0 → T = preL done (tkL ks r)
  no : er ≠ 0 → T = none
  len : r.length ≤ bs.length
  ok : er = 0 → ∀ p ∈ places, (m p.2).Ok ∧ (m p.2).Few
  lt : g < mb ∧ mb < W.heap.size
theorem FC.step {W wr w1 w2 : World} {H g mb off : Nat} {bs r r' : List UInt8} {T : Option (List F × List UInt8)} {done : List F} {k : K} {ks : List K} {er er' : Int} {cs cs' : Array Value} {m : Nat → F} {f : F} (c : FC W H g mb bs T done (k :: ks) r er cs m wr)
    (hp : (k, off) ∈ places) (hkk : k.Ok) (hf : f.kind = k) (rv1 : RV w1 H g bs r' er') (k1 : Only (fun i => i = g) wr w1) (hl : r'.length ≤ r.length) (hy : er' = 0 → tkE k r er = some (f, r')) (hn : er' ≠ 0 → tkE k r er = none)
    (row2 : Has w2 mb 43 cs') (k2 : Only (fun i => i = mb) w1 w2) (hs : cs'.size = cs.size) (ha : RFAt w2 W.heap.size w2.heap.size cs' off f) (ho : ∀ i, i < off ∨ off + k.size ≤ i → cs'[i]? = cs[i]?) :
    FC W H g mb bs T (done ++ [f]) ks r' er' cs' (upd m off f) w2 := by
  have hHg := rv1.lt
  have hlt := c.lt
  have kk : Only (fun i => i = g ∨ i = mb) wr w2 := (k1.mono (fun _ _ h => .inl h)).trans k2 (fun _ _ h => .inr h)
  have hE : ∀ x, tkE k r er = some x → er = 0 ∧ tkF k r = some x := by
    intro x h
    unfold tkE at h
    split at h
    · rename_i h0
      exact ⟨h0, h⟩
    · cases h
  refine ⟨rv1.only k2 (by omega) (fun i hi h => by omega), row2, c.low.trans kk (fun _ _ h => h), c.mg.put hp hf kk.size hs (kk.keeps (Nat.le_refl _) (fun i hi _ h => by omega)) ha ho, fun h => ?_, fun h => ?_, by have := c.len; omega, fun h => ?_, hlt⟩
  · obtain ⟨h0, h1⟩ := hE _ (hy h)
    rw [c.yes h0]
    exact tkL_step h1
  · by_cases h0 : er = 0
    · rw [c.yes h0]
      refine tkL_stop ?_
      have := hn h
      rwa [tkE, if_pos h0] at this
    · exact c.no h0
  · obtain ⟨h0, h1⟩ := hE _ (hy h)
    obtain ⟨_, _, _, o1, o2⟩ := tkF_some hkk h1
    intro q hq
    by_cases he : q.2 = off
    · rw [he, upd_same]
      exact ⟨o1, o2⟩
    · rw [upd_other _ _ he]
      exact c.ok h0 q hq
/-- A field of one cell. -/
theorem FC.one {W wr w1 : World} {H g mb off : Nat} {bs r r' : List UInt8} {T : Option (List F × List UInt8)} {done : List F} {k : K} {ks : List K} {er er' : Int} {cs : Array Value} {m : Nat → F} {f : F} {v : Value} (c : FC W H g mb bs T done (k :: ks) r er cs m wr)
    (hp : (k, off) ∈ places) (hkk : k.Ok) (hk1 : k.size = 1) (hf : f.kind = k) (rv1 : RV w1 H g bs r' er') (k1 : Only (fun i => i = g) wr w1) (hl : r'.length ≤ r.length) (hy : er' = 0 → tkE k r er = some (f, r')) (hn : er' ≠ 0 → tkE k r er = none)
    (ha : ∀ (w2 : World) (cs' : Array Value), cs'[off]? = some v → RFAt w2 W.heap.size w2.heap.size cs' off f) :
    ((∃ y, w1.cell? ⟨mb, off, none⟩ = some y) ∧ w1.frozen? ⟨mb, off, none⟩ = false) ∧ FC W H g mb bs T (done ++ [f]) ks r' er' (cs.setIfInBounds off v) (upd m off f) (w1.setCell ⟨mb, off, none⟩ v) := by
  have hz := c.mg.size
  have hin := places_in _ hp
  simp only at hin
  have row1 := c.row.only k1 (by have := c.lt; omega)
  refine ⟨⟨⟨cs[off], (row1.cell off).trans (by simp [show off < cs.size by omega])⟩, row1.frozen off⟩, ?_⟩
  exact c.step hp hkk hf rv1 k1 hl hy hn (row1.set off v) ((Only.refl (fun i => i = mb) w1).setCell (p := ⟨mb, off, none⟩) (fun _ => rfl) v) (by simp) (ha _ _ (set_in (by omega) v)) (fun i hi => set_out (by omega) v)
def FNum (W : World) (H g mb off n : Nat) (kd : IntKind) (bs : List UInt8) (T : Option (List F × List UInt8)) (done : List F) (ks : List K) (cs : Array Value) (m : Nat → F) (e : Ending) (w1 : World) : Prop :=
  ∃ (x : Nat) (r' : List UInt8) (er' : Int), e = .returned (.int .u64 (x : Int)) ∧ x < 256 ^ n ∧ ((∃ y, w1.cell? ⟨mb, off, none⟩ = some y) ∧ w1.frozen? ⟨mb, off, none⟩ = false) ∧ FC W H g mb bs T (done ++ [.num n x]) ks r' er' (cs.setIfInBounds off (.int kd (x : Int))) (upd m off (.num n x)) (w1.setCell ⟨mb, off, none⟩ (.int kd (x : Int)))
theorem fc_num {W wr : World} {H g mb : Nat} {bs r : List UInt8} {T : Option (List F × List UInt8)} {done : List F} {ks : List K} {er : Int} {cs : Array Value} {m : Nat → F} (n off : Nat) (kd : IntKind) (hkd : ik n = kd) (hn : 1 ≤ n ∧ n ≤ 8) (c : FC W H g mb bs T done (.num n :: ks) r er cs m wr) (hp : (K.num n, off) ∈ places) :
    Calls Tryz.prog 18 #[.pointer (some ⟨g, 0, none⟩), .int .i64 (n : Int)] wr (FNum W H g mb off n kd bs T done ks cs m) := by
  refine (rv_take H g (n : Int) bs r er wr c.rv).mono ?_
  rintro e w1 ⟨he, rv1, k1⟩
  subst hkd
  have := c.one (v := .int (ik n) ((takeSt (n : Int) r er).1 : Int)) (f := .num n (takeSt (n : Int) r er).1) hp hn rfl rfl rv1 k1 (takeSt_len _ _ _) num_yes num_no (fun _ _ h => h)
  exact ⟨_, _, _, he, takeSt_lt n r er, this.1, this.2⟩
def FText (W : World) (H g mb off : Nat) (mk : List UInt8 → F) (bs : List UInt8) (T : Option (List F × List UInt8)) (done : List F) (ks : List K) (cs : Array Value) (m : Nat → F) (e : Ending) (w1 : World) : Prop :=
  ∃ (l r' : List UInt8) (er' : Int), e = .returned (.string (strOf l)) ∧ ((∃ y, w1.cell? ⟨mb, off, none⟩ = some y) ∧ w1.frozen? ⟨mb, off, none⟩ = false) ∧ FC W H g mb bs T (done ++ [mk l]) ks r' er' (cs.setIfInBounds off (.string (strOf l))) (upd m off (mk l)) (w1.setCell ⟨mb, off, none⟩ (.string (strOf l)))
theorem fc_text {W wr : World} {H g mb : Nat} {bs r : List UInt8} {T : Option (List F × List UInt8)} {done : List F} {ks : List K} {er : Int} {cs : Array Value} {m : Nat → F} (off : Nat) (c : FC W H g mb bs T done (.text :: ks) r er cs m wr) (hp : (K.text, off) ∈ places) (hb : bs.length ≤ 100000) :
    Calls Tryz.prog 41 #[.pointer (some ⟨g, 0, none⟩)] wr (FText W H g mb off F.text bs T done ks cs m) := by
  refine (rintext_any H g bs r er wr c.rv hb).mono ?_
  rintro e w1 ⟨f, v, r', er', he, hf, hv, rv1, k1, hl, hy, hn⟩
  obtain ⟨l, rfl⟩ := kind_text hf
  have hv : v = .string (strOf l) := hv
  subst hv
  have := c.one (v := .string (strOf l)) (f := .text l) hp trivial rfl rfl rv1 k1 hl hy hn (fun _ _ h => h)
  exact ⟨l, r', er', he, this.1, this.2⟩
theorem fc_data {W wr : World} {H g mb : Nat} {bs r : List UInt8} {T : Option (List F × List UInt8)} {done : List F} {ks : List K} {er : Int} {cs : Array Value} {m : Nat → F} (off : Nat) (c : FC W H g mb bs T done (.data :: ks) r er cs m wr) (hp : (K.data, off) ∈ places) (hb : bs.length ≤ 100000) :
    Calls Tryz.prog 44 #[.pointer (some ⟨g, 0, none⟩)] wr (FText W H g mb off F.data bs T done ks cs m) := by
  refine (rdata_any H g bs r er wr c.rv hb).mono ?_
  rintro e w1 ⟨f, v, r', er', he, hf, hv, rv1, k1, hl, hy, hn⟩
  obtain ⟨l, rfl⟩ := kind_data hf
  have hv : v = .string (strOf l) := hv
  subst hv
  have := c.one (v := .string (strOf l)) (f := .data l) hp trivial rfl rfl rv1 k1 hl hy hn (fun _ _ h => h)
  exact ⟨l, r', er', he, this.1, this.2⟩
def FQid (W : World) (H g mb off : Nat) (bs : List UInt8) (T : Option (List F × List UInt8)) (done : List F) (ks : List K) (cs : Array Value) (m : Nat → F) (e : Ending) (w1 : World) : Prop :=
  ∃ (q : Q3) (r' : List UInt8) (er' : Int), e = .returned (.agg #[.int .u8 (q.t : Int), .int .u32 (q.v : Int), .int .u64 (q.p : Int)]) ∧ Has w1 mb 43 cs ∧
    FC W H g mb bs T (done ++ [.qid q]) ks r' er' (((cs.setIfInBounds off (.int .u8 (q.t : Int))).setIfInBounds (off + 1) (.int .u32 (q.v : Int))).setIfInBounds (off + 2) (.int .u64 (q.p : Int))) (upd m off (.qid q)) (((w1.setCell ⟨mb, off, none⟩ (.int .u8 (q.t : Int))).setCell ⟨mb, off + 1, none⟩ (.int .u32 (q.v : Int))).setCell ⟨mb, off + 2, none⟩ (.int .u64 (q.p : Int)))
theorem fc_qid {W wr : World} {H g mb : Nat} {bs r : List UInt8} {T : Option (List F × List UInt8)} {done : List F} {ks : List K} {er : Int} {cs : Array Value} {m : Nat → F} (off : Nat) (c : FC W H g mb bs T done (.qid :: ks) r er cs m wr) (hp : (K.qid, off) ∈ places) :
    Calls Tryz.prog 42 #[.pointer (some ⟨g, 0, none⟩)] wr (FQid W H g mb off bs T done ks cs m) := by
  refine (rinqid_any H g bs r er wr c.rv).mono ?_
  rintro e w1 ⟨f, v, r', er', he, hf, hv, rv1, k1, hl, hy, hn⟩
  obtain ⟨q, rfl⟩ := kind_qid hf
  have hv : v = q.val := hv
  subst hv
  have hz := c.mg.size
  have hin := places_in _ hp
  simp only at hin
  have hin : off + 3 ≤ 36 := hin
  have row1 := c.row.only k1 (by have := c.lt; omega)
  obtain ⟨g1, g2, g3⟩ := qset_get (cs := cs) (off := off) (by omega) (.int .u8 (q.t : Int)) (.int .u32 (q.v : Int)) (.int .u64 (q.p : Int))
  have row2 := ((row1.set off (.int .u8 (q.t : Int))).set (off + 1) (.int .u32 (q.v : Int))).set (off + 2) (.int .u64 (q.p : Int))
  have k2 : Only (fun i => i = mb) w1 (((w1.setCell ⟨mb, off, none⟩ (.int .u8 (q.t : Int))).setCell ⟨mb, off + 1, none⟩ (.int .u32 (q.v : Int))).setCell ⟨mb, off + 2, none⟩ (.int .u64 (q.p : Int))) :=
    (((Only.refl (fun i => i = mb) w1).setCell (p := ⟨mb, off, none⟩) (fun _ => rfl) _).setCell (p := ⟨mb, off + 1, none⟩) (fun _ => rfl) _).setCell (p := ⟨mb, off + 2, none⟩) (fun _ => rfl) _
  refine ⟨q, r', er', he, row1, c.step hp trivial rfl rv1 k1 hl hy hn row2 k2 (by simp) ⟨g1, g2, g3⟩ (fun i hi => ?_)⟩
  have hi : i < off ∨ off + 3 ≤ i := hi
  rw [set_out (by omega), set_out (by omega), set_out (by omega)]
theorem has_set13r {w : World} {mb off : Nat} {t : TypeId} {cs : Array Value} (h : Has w mb t cs) (s : S11) : Has (set13o w mb off s) mb t (put13 cs off s) :=
  ((((((((((((h.set off _).set (off + 1) _).set (off + 2) _).set (off + 3) _).set (off + 4) _).set (off + 5) _).set (off + 6) _).set (off + 7) _).set (off + 8) _).set (off + 9) _).set (off + 10) _).set (off + 11) _).set (off + 12) _
def FStat (W : World) (H g mb off : Nat) (bs : List UInt8) (T : Option (List F × List UInt8)) (done : List F) (ks : List K) (cs : Array Value) (m : Nat → F) (e : Ending) (w1 : World) : Prop :=
  ∃ (s : S11) (r' : List UInt8) (er' : Int), e = .returned s.val ∧ Has w1 mb 43 cs ∧ FC W H g mb bs T (done ++ [.stat s]) ks r' er' (put13 cs off s) (upd m off (.stat s)) (set13o w1 mb off s)
theorem fc_stat {W wr : World} {H g mb : Nat} {bs r : List UInt8} {T : Option (List F × List UInt8)} {done : List F} {ks : List K} {er : Int} {cs : Array Value} {m : Nat → F} (off : Nat) (c : FC W H g mb bs T done (.stat :: ks) r er cs m wr) (hp : (K.stat, off) ∈ places) (hb : bs.length ≤ 100000) :
    Calls Tryz.prog 45 #[.pointer (some ⟨g, 0, none⟩)] wr (FStat W H g mb off bs T done ks cs m) := by
  refine (rinstat_any H g bs r er wr c.rv hb c.len).mono ?_
  rintro e w1 ⟨f, v, r', er', he, hf, hv, rv1, k1, hl, hy, hn⟩
  obtain ⟨s, rfl⟩ := kind_stat hf
  have hv : v = s.val := hv
  subst hv
  have hz := c.mg.size
  have hin := places_in _ hp
  have hin : off + 13 ≤ 36 := hin
  have row1 := c.row.only k1 (by have := c.lt; omega)
  exact ⟨s, r', er', he, row1, c.step hp trivial rfl rv1 k1 hl hy hn (has_set13r row1 s) ((Only.refl (fun i => i = mb) w1).set13o (fun _ => rfl) s) (put13_size _ _ _) (put13_in cs off s (by omega)) (put13_out cs off s)⟩
theorem FC.start {w W : World} {H g t tag : Nat} {bs r : List UInt8} {ks : List K} (h : RV w H g bs r 0) (hl : r.length ≤ bs.length) (ht : t < 256) (htag : tag < 65536) (k : Only (fun _ => False) w W) (row : Has W w.heap.size 43 (rzCells t tag)) :
    FC W H g w.heap.size bs (tkL ks r) [] ks r 0 (rzCells t tag) (zeroM t tag) W :=
  ⟨h.only k (fun h => h) (fun _ _ h => h), row, Only.refl _ _, rz_at _ _ _ _ _, fun _ => (by cases tkL ks r <;> rfl), fun h => absurd rfl h, hl, fun _ => zeroF_ok ht htag, h.lt.2, row.lt⟩
/-- What fill answers. -/
structure FillAns (w : World) (H g t tag : Nat) (bs : List UInt8) (T : Option (List F × List UInt8)) (cs : Array Value) (w' : World) : Prop where
  out : ∃ m r er, RV w' H g bs r er ∧ RMgAt w' w.heap.size w'.heap.size cs m ∧ m 0 = .num 1 t ∧ m 1 = .num 2 tag ∧ (er = 0 → T = some (fieldsOf m (named t), r) ∧ ∀ p ∈ places, (m p.2).Ok ∧ (m p.2).Few) ∧ (er ≠ 0 → T = none)
  low : Only (fun i => i = g) w w'
theorem FC.fin {w W wr : World} {H g t tag : Nat} {bs r : List UInt8} {T : Option (List F × List UInt8)} {done : List F} {er : Int} {cs : Array Value} {m : Nat → F} (c : FC W H g w.heap.size bs T done [] r er cs m wr) (k : Only (fun _ => False) w W) (r0 : Has W (w.heap.size + 1) 43 RZ)
    (hd : fieldsOf m (named t) = done) (h0 : m 0 = .num 1 t) (h1 : m 1 = .num 2 tag) :
    Has wr w.heap.size 43 cs ∧ cs.size = 36 ∧ cs.all (fun x => x.oneCell') = true ∧ Has wr (w.heap.size + 1) 43 RZ ∧ FillAns w H g t tag bs T cs (wr.setRow (w.heap.size + 1) cs) := by
  have hlt := c.lt
  have hHg := c.rv.lt
  have hr := r0.only c.low (by omega)
  have hz := r0.lt
  have ks : Only (fun i => i = w.heap.size + 1) wr (wr.setRow (w.heap.size + 1) cs) := (Only.refl (fun i => i = w.heap.size + 1) wr).setRow (fun _ => rfl) cs
  have kk : Only (fun i => i = g) w wr := (k.mono (fun _ _ h => h.elim)).trans c.low (fun i hi h => by omega)
  refine ⟨c.row, c.mg.size, c.mg.one, hr, ⟨m, r, er, c.rv.only ks (by omega) (fun i hi h => by omega), ((c.mg.keep (ks.keeps (Nat.le_refl _) (fun i hi _ h => by omega))).wide (by omega) ks.size), h0, h1, fun h => ⟨?_, c.ok h⟩, c.no⟩, kk.setRow (fun h => by omega) cs⟩
  rw [c.yes h, hd]
  simp [preL, tkL]
end Go.Proofs.YtepiifbleoimkaaGreatDoor
