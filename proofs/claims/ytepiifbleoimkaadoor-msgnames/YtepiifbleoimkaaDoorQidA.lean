/-
  Package qid: Put, Take, Type, Mode of whatever qid, whatever In: what each call answers and what it does to memory.
-/
import Derived.Test.YtepiifbleoimkaaDoorNumH
namespace Go.Proofs.YtepiifbleoimkaaDoor
open Go.RowKit
set_option maxRecDepth 100000

/-- A qid: its type, its version, its path. -/
structure Q3 where
  t : Nat
  v : Nat
  p : Nat
def Q3.val (q : Q3) : Value := .agg #[.int .u8 (q.t : Int), .int .u32 (q.v : Int), .int .u64 (q.p : Int)]
structure Q3.Ok (q : Q3) : Prop where
  t : q.t < 256
  v : q.v < 4294967296
  p : q.p < 18446744073709551616
def Q3.zero : Q3 := ⟨0, 0, 0⟩
/-- Its thirteen bytes. -/
def qidB (q : Q3) : List UInt8 := putB 1 q.t ++ (putB 4 q.v ++ putB 8 q.p)
theorem qidB_length (q : Q3) : (qidB q).length = 13 := by simp [qidB, putB_length]

theorem putI_of (n x : Nat) (h1 : 1 ≤ n) (h8 : n ≤ 8) : putI (n : Int) (x : Int) = putB n x := by rw [putI, if_pos (by omega)]; simp

/-- One adding behind another. -/
theorem outstep_join {w w1 : World} {B g : Nat} {v v1 : Value} {bs2 : List UInt8} (f1 : Only (Foot g v) w w1) (g1 : ∀ i, v1.ownBlock = some i → v.ownBlock = some i ∨ w.heap.size ≤ i)
    {e : Ending} {w2 : World} (h : OutStep w1 B g v1 bs2 e w2) : OutStep w B g v bs2 e w2 := by
  obtain ⟨v2, he, o2, f2, g2⟩ := h
  refine ⟨v2, he, o2, f1.trans f2 ?_, ?_⟩
  · intro i hi hf
    rcases hf with hf | hf
    · exact .inl hf
    · rcases g1 i hf with h | h
      · exact .inr h
      · omega
  · intro i hi
    have := f1.size
    rcases g2 i hi with h | h
    · exact g1 i h
    · exact .inr (by omega)

set_option maxHeartbeats 1000000 in
theorem qidput_any (B g : Nat) (v : Value) (bs : List UInt8) (q : Q3) (w : World) (h : OutAt w B g v bs) (hq : q.Ok) (hl : bs.length ≤ 140737488355000) :
    Calls Tryd.prog 45 #[.pointer (some ⟨g, 0, none⟩), q.val] w (OutStep w B g v (bs ++ qidB q)) := by
  obtain ⟨qt, qv, qp⟩ := q
  obtain ⟨h1, h2, h3⟩ := hq
  simp only at h1 h2 h3
  have hb : bs ++ qidB ⟨qt, qv, qp⟩ = bs ++ putI 1 (qt : Int) ++ putI 4 (qv : Int) ++ putI 8 (qp : Int) := by
    rw [show putI 1 (qt : Int) = putB 1 qt from putI_of 1 qt (by omega) (by omega), show putI 4 (qv : Int) = putB 4 qv from putI_of 4 qv (by omega) (by omega), show putI 8 (qp : Int) = putB 8 qp from putI_of 8 qp (by omega) (by omega)]
    simp [qidB]
  rw [hb]
  clear hb
  have hw1 : IntKind.u64.wrap (qt : Int) = (qt : Int) := IntWalk.u64_in _ (by omega)
  have hw2 : IntKind.u64.wrap (qv : Int) = (qv : Int) := IntWalk.u64_in _ (by omega)
  have l1 := putI_length 1 (qt : Int)
  have l2 := putI_length 4 (qv : Int)
  have hlt := h.has.lt
  have hft : ∀ i, Foot g v i → i < w.heap.size := fun i hi => (h.foot_lt hi).2
  have HB := Lib.hid (Has.new w 28 #[.int .u8 (qt : Int), .int .u32 (qv : Int), .int .u64 (qp : Int)])
  have f0 : Only (fun _ => False) w (w.alloc (.cells #[.int .u8 (qt : Int), .int .u32 (qv : Int), .int .u64 (qp : Int)] 28)) := (Only.refl _ w).alloc _
  have H0 := Lib.hid (h.only f0 (fun _ _ h => h))
  have F0 := Lib.hid (f0.mono (T := Foot g v) (fun _ _ h => h.elim))
  have HF := Lib.hid hft
  have c0 := HB.out.cell 0
  simp at c0
  unfold Q3.val
  clear h f0 hft
  go_enter Tryd.func45, Tryd.ntmps45
  go_wp2_with fail
  refine (put_any B g v bs 1 (qt : Int) _ H0.out (by omega) (by omega) (by omega)).mono ?_
  rintro e w1 ⟨v1, rfl, o1, f1, g1⟩
  have b1 := HB.out.only f1 (fun h => by have := HF.out _ h; omega)
  have c1 := b1.cell 1
  simp at c1
  have O1 := Lib.hid o1
  have B1 := Lib.hid b1
  have F1 := Lib.hid (F0.out.trans f1 (fun _ _ h => h))
  have G1 : Hid (∀ i, v1.ownBlock = some i → v.ownBlock = some i ∨ w.heap.size + 1 ≤ i) := fun i hi => by
    have := g1 i hi
    simpa using this
  clear b1 o1 f1 g1 c0 H0 F0 HB
  go_wp2_with fail
  refine (put_any B g v1 _ 4 (qv : Int) w1 O1.out (by omega) (by omega) (by rw [List.length_append]; omega)).mono ?_
  rintro e w2 ⟨v2, rfl, o2, f2, g2⟩
  have hbf : ¬ Foot g v1 w.heap.size := fun h => by
    rcases h with h | h
    · omega
    · rcases G1.out _ h with h | h
      · have := HF.out _ (.inr h); omega
      · omega
  have b2 := B1.out.only f2 hbf
  have c2 := b2.cell 2
  simp at c2
  have s1 := F1.out.size
  have S2 := Lib.hid (outstep_join F1.out (fun i hi => (G1.out i hi).imp id (fun h => by omega)) ⟨v2, rfl, o2, f2, g2⟩)
  have O2 := Lib.hid o2
  have F2 : Hid (Only (Foot g v) w w2) := by
    refine F1.out.trans f2 ?_
    intro i hi hf
    rcases hf with hf | hf
    · exact .inl hf
    · rcases G1.out i hf with h | h
      · exact .inr h
      · omega
  have G2 : Hid (∀ i, v2.ownBlock = some i → v.ownBlock = some i ∨ w.heap.size ≤ i) := fun i hi => by
    rcases g2 i hi with h | h
    · exact (G1.out i h).imp id (fun h => by omega)
    · exact .inr (by omega)
  clear b2 o2 f2 g2 c1 B1 F1 G1 O1 S2 hbf
  go_wp2_with fail
  refine (put_any B g v2 _ 8 (qp : Int) w2 O2.out (by omega) (by omega) (by rw [List.length_append, List.length_append]; omega)).mono ?_
  intro e w3 h3
  have R := Lib.hid (outstep_join F2.out G2.out h3)
  obtain ⟨v3, rfl, _⟩ := h3
  clear O2 F2 G2 HF c2
  go_wp2
  go_end0
  exact R.out

/-- What Take tells of a qid's bytes, and the In behind it. -/
def qTake (bs : List UInt8) (er : Int) : Q3 × List UInt8 × Int :=
  let a := takeSt 1 bs er
  let b := takeSt 4 a.2.1 a.2.2
  let c := takeSt 8 b.2.1 b.2.2
  (if c.2.2 = 0 then ⟨a.1, b.1, c.1⟩ else Q3.zero, c.2.1, c.2.2)

theorem takeSt_lt (n : Nat) (bs : List UInt8) (er : Int) : (takeSt (n : Int) bs er).1 < 256 ^ n := by
  have h0 : 0 < 256 ^ n := Nat.pow_pos (by omega)
  rw [takeSt]
  split
  · exact h0
  · split
    · exact h0
    · split
      · exact h0
      · have h1 := le_lt (bs.take n)
        rw [List.length_take, Nat.min_eq_left (by omega)] at h1
        simpa using h1

theorem qTake_item (q : Q3) (rest : List UInt8) (h : q.Ok) : qTake (qidB q ++ rest) 0 = (q, rest, 0) := by
  obtain ⟨t, v, p⟩ := q
  obtain ⟨h1, h2, h3⟩ := h
  simp only at h1 h2 h3
  have a := take_item 1 t (putB 4 v ++ putB 8 p ++ rest) (by omega) (by omega)
  have b := take_item 4 v (putB 8 p ++ rest) (by omega) (by omega)
  have c := take_item 8 p rest (by omega) (by omega)
  rw [Nat.mod_eq_of_lt (by simpa using h1)] at a
  rw [Nat.mod_eq_of_lt (by simpa using h2)] at b
  rw [Nat.mod_eq_of_lt (by simpa using h3)] at c
  simp only [List.append_assoc] at a b c
  simp only [qTake, qidB, List.append_assoc]
  rw [show takeSt 1 (putB 1 t ++ (putB 4 v ++ (putB 8 p ++ rest))) 0 = _ from a]
  simp only
  rw [show takeSt 4 (putB 4 v ++ (putB 8 p ++ rest)) 0 = _ from b]
  simp only
  rw [show takeSt 8 (putB 8 p ++ rest) 0 = _ from c]
  simp

theorem takeSt_err (n : Int) (bs : List UInt8) (er : Int) (h : er ≠ 0) : takeSt n bs er = (0, bs, er) := by rw [takeSt, if_pos h]
theorem takeSt_short (n : Int) (bs : List UInt8) (h1 : 1 ≤ n) (h8 : n ≤ 8) (h : (bs.length : Int) < n) : takeSt n bs 0 = (0, [], 4) := by
  rw [takeSt, if_neg (by simp), if_neg (by omega), if_pos h]
theorem takeSt_long (n : Int) (bs : List UInt8) (h1 : 1 ≤ n) (h8 : n ≤ 8) (h : n ≤ (bs.length : Int)) : takeSt n bs 0 = (le (bs.take n.toNat), bs.drop n.toNat, 0) := by
  rw [takeSt, if_neg (by simp), if_neg (by omega), if_neg (by omega)]

/-- Bytes that end within a qid: none of it. -/
theorem qTake_short (bs : List UInt8) (h : bs.length < 13) : (qTake bs 0).1 = Q3.zero ∧ (qTake bs 0).2.2 = 4 := by
  by_cases h1 : bs.length < 1
  · simp [qTake, takeSt_short 1 bs (by omega) (by omega) (by omega), takeSt_err]
  · by_cases h4 : bs.length < 5
    · have e1 := takeSt_long 1 bs (by omega) (by omega) (by omega)
      have e2 := takeSt_short 4 (bs.drop 1) (by omega) (by omega) (by rw [List.length_drop]; omega)
      have e3 := takeSt_err 8 [] 4 (by decide)
      have e0 : qTake bs 0 = (Q3.zero, [], 4) := by
        simp only [qTake, e1]
        rw [show List.drop (Int.toNat 1) bs = bs.drop 1 from rfl, e2]
        simp only
        rw [e3]
        simp
      rw [e0]
      exact ⟨rfl, rfl⟩
    · have e1 := takeSt_long 1 bs (by omega) (by omega) (by omega)
      have e2 := takeSt_long 4 (bs.drop 1) (by omega) (by omega) (by rw [List.length_drop]; omega)
      have e3 := takeSt_short 8 ((bs.drop 1).drop 4) (by omega) (by omega) (by rw [List.length_drop, List.length_drop]; omega)
      have e0 : qTake bs 0 = (Q3.zero, [], 4) := by
        simp only [qTake, e1]
        rw [show List.drop (Int.toNat 1) bs = bs.drop 1 from rfl, e2]
        simp only
        rw [show List.drop (Int.toNat 4) (bs.drop 1) = (bs.drop 1).drop 4 from rfl, e3]
        simp
      rw [e0]
      exact ⟨rfl, rfl⟩

/-- A variable of three cells, each written. -/
theorem has_set3 {w : World} {g : Nat} {t : TypeId} {x0 x1 x2 : Value} (h : Has w g t #[x0, x1, x2]) (y0 y1 y2 : Value) :
    Has (((w.setCell ⟨g, 0, none⟩ y0).setCell ⟨g, 1, none⟩ y1).setCell ⟨g, 2, none⟩ y2) g t #[y0, y1, y2] := ((h.set 0 y0).set 1 y1).set 2 y2
theorem Only.set3 {S : Nat → Prop} {a b : World} (h : Only S a b) {g : Nat} (hg : a.heap.size ≤ g) (y0 y1 y2 : Value) :
    Only S a (((b.setCell ⟨g, 0, none⟩ y0).setCell ⟨g, 1, none⟩ y1).setCell ⟨g, 2, none⟩ y2) :=
  ((h.setCell (p := ⟨g, 0, none⟩) (fun h => by simp at h; omega) y0).setCell (p := ⟨g, 1, none⟩) (fun h => by simp at h; omega) y1).setCell (p := ⟨g, 2, none⟩) (fun h => by simp at h; omega) y2
theorem Tryd.qidSize : (Tryd.prog.info? 28).map (·.size) = some 3 := by kernel_rfl

/-- What Take of a qid leaves. -/
def QTakeStep (w : World) (lo g : Nat) (st : Q3 × List UInt8 × Int) (e : Ending) (w' : World) : Prop :=
  e = .returned st.1.val ∧ InAt w' lo g st.2.1 st.2.2 ∧ Only (fun i => i = g) w w'

set_option maxHeartbeats 1000000 in
theorem qidtake_any (lo g : Nat) (bs : List UInt8) (er : Int) (w : World) (hI : InAt w lo g bs er) :
    Calls Tryd.prog 72 #[.pointer (some ⟨g, 0, none⟩)] w (QTakeStep w lo g (qTake bs er)) := by
  have hlt := hI.lt
  have z0 : Only (fun _ => False) w (w.alloc (.cells #[.int .u8 0, .int .u32 0, .int .u64 0] 28)) := (Only.refl _ w).alloc _
  have I0 := Lib.hid (hI.only z0 (fun _ _ _ h => h))
  have F0 := Lib.hid (z0.mono (T := fun i => i = g) (fun _ _ h => h.elim))
  have B0 := Lib.hid (Has.new w 28 #[.int .u8 0, .int .u32 0, .int .u64 0])
  obtain ⟨S, hS⟩ : ∃ S, S = qTake bs er := ⟨_, rfl⟩
  rw [← hS]
  simp only [qTake] at hS
  have t1 := takeSt_lt 1 bs er
  obtain ⟨a, ha⟩ : ∃ a, a = takeSt 1 bs er := ⟨_, rfl⟩
  rw [show takeSt ((1 : Nat) : Int) bs er = a from ha.symm] at t1
  rw [← ha] at hS
  have t2 := takeSt_lt 4 a.2.1 a.2.2
  obtain ⟨b, hb⟩ : ∃ b, b = takeSt 4 a.2.1 a.2.2 := ⟨_, rfl⟩
  rw [show takeSt ((4 : Nat) : Int) a.2.1 a.2.2 = b from hb.symm] at t2
  rw [← hb] at hS
  have t3 := takeSt_lt 8 b.2.1 b.2.2
  obtain ⟨c, hc⟩ : ∃ c, c = takeSt 8 b.2.1 b.2.2 := ⟨_, rfl⟩
  rw [show takeSt ((8 : Nat) : Int) b.2.1 b.2.2 = c from hc.symm] at t3
  rw [← hc] at hS
  obtain ⟨a1, a2, a3⟩ := a
  obtain ⟨b1, b2, b3⟩ := b
  obtain ⟨c1, c2, c3⟩ := c
  simp only at t1 t2 t3 hS hb hc
  have hw1 : IntKind.u8.wrap (a1 : Int) = (a1 : Int) := by rw [IntKind.wrap_u8']; omega
  have hw2 : IntKind.u32.wrap (b1 : Int) = (b1 : Int) := IntWalk.u32_in _ (by omega)
  have HA := Lib.hid ha
  have HB := Lib.hid hb
  have HC := Lib.hid hc
  have HS := Lib.hid hS
  clear hI z0 ha hb hc hS t1 t2
  go_enter Tryd.func72, Tryd.ntmps72
  go_wp2_with fail
  refine (take_any lo g 1 bs er _ I0.out).mono ?_
  rintro e w1 ⟨rfl, i1, f1⟩
  rw [← HA.out] at i1 ⊢
  have I1 := Lib.hid i1
  have F1 := Lib.hid (F0.out.trans f1 (fun _ _ h => h))
  have B1 := Lib.hid (B0.out.only f1 (by omega))
  clear i1 f1 I0 F0 B0
  go_wp2_with fail
  refine (take_any lo g 4 _ _ w1 I1.out).mono ?_
  rintro e w2 ⟨rfl, i2, f2⟩
  rw [← HB.out] at i2 ⊢
  have I2 := Lib.hid i2
  have F2 := Lib.hid (F1.out.trans f2 (fun _ _ h => h))
  have B2 := Lib.hid (B1.out.only f2 (by omega))
  clear i2 f2 I1 F1 B1
  go_wp2_with fail
  refine (take_any lo g 8 _ _ w2 I2.out).mono ?_
  rintro e w3 ⟨rfl, i3, f3⟩
  rw [← HC.out] at i3 ⊢
  have I3 := Lib.hid i3
  have F3 := Lib.hid (F2.out.trans f3 (fun _ _ h => h))
  have B3 := Lib.hid (B2.out.only f3 (by omega))
  clear i3 f3 I2 F2 B2
  obtain ⟨W, hW⟩ : ∃ W, W = w3.alloc (.cells #[.int .u8 (a1 : Int), .int .u32 (b1 : Int), .int .u64 (c1 : Int)] 28) := ⟨_, rfl⟩
  have hs3 := F3.out.size
  have I4 : Hid (InAt W lo g c2 c3) := by
    rw [hW]
    exact I3.out.only ((Only.refl (fun _ => False) w3).alloc _) (fun _ _ _ h => h)
  have F4 : Hid (Only (fun i => i = g) w W) := by
    rw [hW]
    exact F3.out.alloc _
  have b4 : Has W w.heap.size 28 #[.int .u8 0, .int .u32 0, .int .u64 0] := by
    rw [hW]
    exact B3.out.alloc _
  have n4 : Has W w3.heap.size 28 #[.int .u8 (a1 : Int), .int .u32 (b1 : Int), .int .u64 (c1 : Int)] := by
    rw [hW]
    exact Has.new _ _ _
  have HW := Lib.hid hW
  clear hW I3 F3 B3
  go_wp2_with fail
  rw [← HW.out]
  refine (err_any lo g _ _ W I4.out).mono ?_
  rintro e w' ⟨rfl, rfl⟩
  have x0 := b4.cell 0
  have x1 := b4.cell 1
  have x2 := b4.cell 2
  have y0 := b4.frozen 0
  have y1 := b4.frozen 1
  have y2 := b4.frozen 2
  have u0 := n4.cell 0
  have u1 := n4.cell 1
  have u2 := n4.cell 2
  simp at x0 x1 x2 u0 u1 u2
  have B4 := Lib.hid b4
  clear b4 n4 HW HA HB HC
  by_cases h : c3 = 0
  · subst h
    go_wp2_with fail
    refine bodyPost_ret (results_cell_row rfl _ _ w.heap.size 28 _ (0, 0) _ rfl (has_set3 B4.out _ _ _) Tryd.underlying28 rfl Tryd.qidSize) rfl ?_
    refine ⟨by rw [HS.out]; rfl, ?_, F4.out.set3 (Nat.le_refl _) _ _ _⟩
    rw [HS.out]
    have k : Only (fun i => i = w.heap.size) W (((W.setCell ⟨w.heap.size, 0, none⟩ (.int .u8 (a1 : Int))).setCell ⟨w.heap.size, 1, none⟩ (.int .u32 (b1 : Int))).setCell ⟨w.heap.size, 2, none⟩ (.int .u64 (c1 : Int))) :=
      (((Only.refl (fun i => i = w.heap.size) W).setCell (p := ⟨w.heap.size, 0, none⟩) (fun _ => rfl) _).setCell (p := ⟨w.heap.size, 1, none⟩) (fun _ => rfl) _).setCell (p := ⟨w.heap.size, 2, none⟩) (fun _ => rfl) _
    exact I4.out.only k (fun i _ hi h => by omega)
  · have hd : (c3 == 0) = false := by simpa using h
    go_wp2_with fail
    refine bodyPost_ret (results_cell_row rfl _ _ w.heap.size 28 _ (0, 0) _ rfl (has_set3 B4.out _ _ _) Tryd.underlying28 rfl Tryd.qidSize) rfl ?_
    refine ⟨by rw [HS.out, if_neg h]; rfl, ?_, F4.out.set3 (Nat.le_refl _) _ _ _⟩
    rw [HS.out]
    have k : Only (fun i => i = w.heap.size) W (((W.setCell ⟨w.heap.size, 0, none⟩ (.int .u8 0)).setCell ⟨w.heap.size, 1, none⟩ (.int .u32 0)).setCell ⟨w.heap.size, 2, none⟩ (.int .u64 0)) :=
      (((Only.refl (fun i => i = w.heap.size) W).setCell (p := ⟨w.heap.size, 0, none⟩) (fun _ => rfl) _).setCell (p := ⟨w.heap.size, 1, none⟩) (fun _ => rfl) _).setCell (p := ⟨w.heap.size, 2, none⟩) (fun _ => rfl) _
    exact I4.out.only k (fun i _ hi h => by omega)

/-- The kinds of a mode, and of a type. -/
def kindOf (m : Nat) : Nat := m / 16777216 % 256 &&& 224
def modeOf (t : Nat) : Nat := (t &&& 224) * 16777216
theorem kindOf_lt (m : Nat) : kindOf m < 256 := Nat.lt_of_le_of_lt Nat.and_le_right (by omega)
theorem modeOf_lt (t : Nat) : modeOf t < 4294967296 := by
  have : t &&& 224 ≤ 224 := Nat.and_le_right
  unfold modeOf
  omega
theorem modeOf_kindOf (m : Nat) (h : m < 4294967296) : modeOf (kindOf m) = m &&& 3758096384 := by
  have h1 : m / 16777216 % 256 = m >>> 24 := by
    rw [Nat.shiftRight_eq_div_pow]
    omega
  have h2 : kindOf m &&& 224 = m >>> 24 &&& 224 := by
    unfold kindOf
    rw [h1, Nat.and_assoc]
    rfl
  have h3 : modeOf (kindOf m) = (m >>> 24 &&& 224) <<< 24 := by
    unfold modeOf
    rw [h2, Nat.shiftLeft_eq]
  rw [h3, show (3758096384 : Nat) = 224 <<< 24 from rfl]
  apply Nat.eq_of_testBit_eq
  intro i
  simp only [Nat.testBit_shiftLeft, Nat.testBit_and, Nat.testBit_shiftRight]
  by_cases hi : 24 ≤ i
  · have : 24 + (i - 24) = i := by omega
    simp [hi, this]
  · simp [hi]

end Go.Proofs.YtepiifbleoimkaaDoor
