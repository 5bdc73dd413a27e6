/-
  Package stat: a record, its bytes; Size, and what Encode puts one behind the other.
  Package stat: Encode of whatever record.
  Package stat: Encode of whatever record: its bytes, or the error of its first text that may not be one.
  Package stat: one record taken from an In: what its bytes tell, or what is wrong with them.
  Package stat: takeText, record, take: what each does to an In, and what it answers or panics with.
  Package stat: take: the next record of an In.
  A region that draws its order, walked move by move under a held condition: an operation is taken first, its slot named. Nothing of the program is used here.
  Package stat: Decode of whatever bytes; Keep.
-/
import Derived.Test.YtepiifbleoimkaaGreatDoorPackNum
import Derived.Test.YtepiifbleoimkaaGreatDoorPackText
import Derived.Deep.RegionHeld3
import Derived.Deep.DrawnRows
namespace Go.Proofs.YtepiifbleoimkaaGreatDoor
open Go.RowKit
set_option maxRecDepth 100000

/-- A record: its kind, device, qid, mode, two times, length, and four texts. -/
structure S11 where
  k : Nat
  d : Nat
  q : Q3
  m : Nat
  a : Nat
  c : Nat
  l : Nat
  n : List UInt8
  u : List UInt8
  g : List UInt8
  x : List UInt8
def S11.cells (s : S11) : Array Value := #[.int .u16 (s.k : Int), .int .u32 (s.d : Int), .int .u8 (s.q.t : Int), .int .u32 (s.q.v : Int), .int .u64 (s.q.p : Int), .int .u32 (s.m : Int), .int .u32 (s.a : Int), .int .u32 (s.c : Int),
  .int .u64 (s.l : Int), .string (strOf s.n), .string (strOf s.u), .string (strOf s.g), .string (strOf s.x)]
def S11.val (s : S11) : Value := .agg s.cells
/-- Its numbers are in their ranges. -/
structure S11.Num (s : S11) : Prop where
  k : s.k < 65536
  d : s.d < 4294967296
  q : s.q.Ok
  m : s.m < 4294967296
  a : s.a < 4294967296
  c : s.c < 4294967296
  l : s.l < 18446744073709551616
/-- Its texts are not long. -/
structure S11.Few (s : S11) : Prop where
  n : s.n.length ≤ 1000
  u : s.u.length ≤ 1000
  g : s.g.length ≤ 1000
  x : s.x.length ≤ 1000
/-- The bytes of its numbers. -/
def numsB (s : S11) : List UInt8 := putB 2 s.k ++ (putB 4 s.d ++ (qidB s.q ++ (putB 4 s.m ++ (putB 4 s.a ++ (putB 4 s.c ++ putB 8 s.l)))))
theorem numsB_length (s : S11) : (numsB s).length = 39 := by simp [numsB, putB_length, qidB_length]
/-- Its texts; the error of the first that may not be one; their bytes. -/
def S11.texts (s : S11) : List (List UInt8) := [s.n, s.u, s.g, s.x]
def wrongL : List (List UInt8) → Int
  | [] => 0
  | l :: r => if wrongOf l = 0 then wrongL r else wrongOf l
def textsB (L : List (List UInt8)) : List UInt8 := L.flatMap textB
/-- How many bytes it has. -/
def S11.size (s : S11) : Nat := 49 + s.n.length + s.u.length + s.g.length + s.x.length
/-- What its count counts; all its bytes. -/
def statB (s : S11) : List UInt8 := numsB s ++ textsB s.texts
def recB (s : S11) : List UInt8 := putB 2 (s.size - 2) ++ statB s

theorem wrongL_append (L M : List (List UInt8)) (h : wrongL L = 0) : wrongL (L ++ M) = wrongL M := by
  induction L with
  | nil => rfl
  | cons l L ih =>
    rw [wrongL] at h
    rw [List.cons_append, wrongL]
    split at h
    · rename_i h0
      rw [if_pos h0, ih h]
    · exact absurd h (by assumption)
theorem textB_length {l : List UInt8} (h : wrongOf l = 0) : (textB l).length = 2 + l.length := by
  rw [textB, if_pos h, List.length_append, show putI 2 (l.length : Int) = putB 2 l.length from putI_of 2 _ (by omega) (by omega), putB_length]
theorem textB_le (l : List UInt8) : (textB l).length ≤ 72 := by
  by_cases h : wrongOf l = 0
  · have := wrongOf_short h
    rw [textB_length h]
    omega
  · rw [textB, if_neg h]
    simp
theorem textsB_le (L : List (List UInt8)) : (textsB L).length ≤ 72 * L.length := by
  induction L with
  | nil => simp [textsB]
  | cons l L ih =>
    have := textB_le l
    simp only [textsB, List.flatMap_cons, List.length_append, List.length_cons] at ih ⊢
    omega
theorem wrong4 {s : S11} (h : wrongL s.texts = 0) : wrongOf s.n = 0 ∧ wrongOf s.u = 0 ∧ wrongOf s.g = 0 ∧ wrongOf s.x = 0 := by
  simp only [S11.texts, wrongL] at h
  by_cases h1 : wrongOf s.n = 0
  · rw [if_pos h1] at h
    by_cases h2 : wrongOf s.u = 0
    · rw [if_pos h2] at h
      by_cases h3 : wrongOf s.g = 0
      · rw [if_pos h3] at h
        by_cases h4 : wrongOf s.x = 0
        · exact ⟨h1, h2, h3, h4⟩
        · rw [if_neg h4] at h
          exact absurd h h4
      · rw [if_neg h3] at h
        exact absurd h h3
    · rw [if_neg h2] at h
      exact absurd h h2
  · rw [if_neg h1] at h
    exact absurd h h1
theorem statB_length {s : S11} (h : wrongL s.texts = 0) : (statB s).length = s.size - 2 := by
  obtain ⟨h1, h2, h3, h4⟩ := wrong4 h
  simp only [statB, textsB, S11.texts, List.flatMap_cons, List.flatMap_nil, List.length_append, numsB_length, textB_length h1, textB_length h2, textB_length h3, textB_length h4, S11.size, List.length_nil]
  omega
theorem recB_length {s : S11} (h : wrongL s.texts = 0) : (recB s).length = s.size := by
  rw [recB, List.length_append, putB_length, statB_length h]
  unfold S11.size
  omega

/-- Along a row of addings from w0 on. -/
structure Chain (w0 : World) (B g : Nat) (v : Value) (bs : List UInt8) (w : World) (v1 : Value) : Prop where
  out : OutAt w B g v1 bs
  only : Only (Foot g v) w0 w
  own : ∀ i, v1.ownBlock = some i → v.ownBlock = some i ∨ w0.heap.size ≤ i
theorem Chain.start {w : World} {B g : Nat} {v : Value} {bs : List UInt8} (h : OutAt w B g v bs) : Chain w B g v bs w v := ⟨h, Only.refl _ _, fun _ h => .inl h⟩
theorem Chain.step {w0 w w1 : World} {B g : Nat} {v v1 : Value} {bs bs1 : List UInt8} {e : Ending} (c : Chain w0 B g v bs w v1) (h : OutStep w B g v1 bs1 e w1) :
    ∃ v2, e = .returned (.tuple #[]) ∧ Chain w0 B g v bs1 w1 v2 := by
  obtain ⟨v2, he, o, f, k⟩ := outstep_join c.only c.own h
  exact ⟨v2, he, o, f, k⟩
theorem Chain.quiet {w0 w w1 : World} {B g : Nat} {v v1 : Value} {bs : List UInt8} {S : Nat → Prop} (c : Chain w0 B g v bs w v1) (k : Only S w w1) (hn : ∀ i, i < w.heap.size → ¬ S i) : Chain w0 B g v bs w1 v1 :=
  ⟨c.out.only k (fun i hi => hn i (c.out.foot_lt hi).2), c.only.trans k (fun i hi h => absurd h (hn i (by have := c.only.size; omega))), c.own⟩
theorem Chain.fin {w w0 w1 : World} {B g : Nat} {v v1 : Value} {bs : List UInt8} (c : Chain w0 B g v bs w1 v1) (k : Only (fun _ => False) w w0) : OutStep w B g v bs (.returned (.tuple #[])) w1 :=
  ⟨v1, rfl, c.out, (k.mono (fun _ _ h => h.elim)).trans c.only (fun _ _ h => h), fun i hi => (c.own i hi).imp id (fun h => by have := k.size; omega)⟩

set_option maxHeartbeats 400000 in
theorem size_any (s : S11) (w : World) (h : s.Few) : Calls Tryz.prog 85 #[s.val] w fun e w' => e = .returned (.int .i64 (s.size : Int)) ∧ Below w.heap.size w w' := by
  obtain ⟨h1, h2, h3, h4⟩ := h
  have z1 : (strOf s.n).size = s.n.length := strOf_size _
  have z2 : (strOf s.u).size = s.u.length := strOf_size _
  have z3 : (strOf s.g).size = s.g.length := strOf_size _
  have z4 : (strOf s.x).size = s.x.length := strOf_size _
  have hN := Has.new w 32 s.cells
  have c9 := hN.cell 9
  have c10 := hN.cell 10
  have c11 := hN.cell 11
  have c12 := hN.cell 12
  simp only [S11.cells] at c9 c10 c11 c12
  simp at c9 c10 c11 c12
  have R := Lib.hid ((Below.refl w.heap.size w).alloc (Nat.le_refl _) (.cells s.cells 32))
  unfold S11.val
  unfold S11.cells at *
  clear hN
  go_enter Tryz.func85, Tryz.ntmps85
  go_wp2
  go_ret
  refine ⟨?_, R.out⟩
  unfold S11.size
  congr 2
end Go.Proofs.YtepiifbleoimkaaGreatDoor
namespace Go.Proofs.YtepiifbleoimkaaGreatDoor
open Go.RowKit
set_option maxRecDepth 100000

set_option maxHeartbeats 2000000 in
theorem putnumbers_any (B g : Nat) (v : Value) (bs : List UInt8) (s : S11) (w : World) (h : OutAt w B g v bs) (hs : s.Num) (hl : bs.length ≤ 100000) :
    Calls Tryz.prog 86 #[.pointer (some ⟨g, 0, none⟩), s.val] w (OutStep w B g v (bs ++ numsB s)) := by
  obtain ⟨h1, h2, h3, h4, h5, h6, h7⟩ := hs
  obtain ⟨w0, hw0⟩ : ∃ w0, w0 = w.alloc (.cells s.cells 32) := ⟨_, rfl⟩
  have hN : Has w0 w.heap.size 32 s.cells := by rw [hw0]; exact Has.new _ _ _
  have hk : Only (fun _ => False) w w0 := by rw [hw0]; exact (Only.refl _ w).alloc _
  have hf : ¬ Foot g v w.heap.size := fun hf => by have := (h.foot_lt hf).2; omega
  have C0 := Lib.hid (Chain.start (h.only hk (fun _ _ h => h)))
  have HN := Lib.hid (fun (w1 : World) (bs : List UInt8) (v1 : Value) (c : Chain w0 B g v bs w1 v1) => hN.only c.only hf)
  have HK := Lib.hid hk
  have e1 : putI 2 (s.k : Int) = putB 2 s.k := putI_of 2 _ (by omega) (by omega)
  have e2 : putI 4 (s.d : Int) = putB 4 s.d := putI_of 4 _ (by omega) (by omega)
  have e4 : putI 4 (s.m : Int) = putB 4 s.m := putI_of 4 _ (by omega) (by omega)
  have e5 : putI 4 (s.a : Int) = putB 4 s.a := putI_of 4 _ (by omega) (by omega)
  have e6 : putI 4 (s.c : Int) = putB 4 s.c := putI_of 4 _ (by omega) (by omega)
  have e7 : putI 8 (s.l : Int) = putB 8 s.l := putI_of 8 _ (by omega) (by omega)
  have E : Hid (bs ++ putI 2 (s.k : Int) ++ putI 4 (s.d : Int) ++ qidB s.q ++ putI 4 (s.m : Int) ++ putI 4 (s.a : Int) ++ putI 4 (s.c : Int) ++ putI 8 (s.l : Int) = bs ++ numsB s) := by
    refine Lib.hid ?_
    rw [e1, e2, e4, e5, e6, e7]
    simp only [numsB, List.append_assoc]
  have l1 := putI_length 2 (s.k : Int)
  have l2 := putI_length 4 (s.d : Int)
  have l3 := qidB_length s.q
  have l4 := putI_length 4 (s.m : Int)
  have l5 := putI_length 4 (s.a : Int)
  have l6 := putI_length 4 (s.c : Int)
  have x1 : IntKind.u64.wrap (s.k : Int) = (s.k : Int) := IntWalk.u64_in _ (by omega)
  have x2 : IntKind.u64.wrap (s.d : Int) = (s.d : Int) := IntWalk.u64_in _ (by omega)
  have x4 : IntKind.u64.wrap (s.m : Int) = (s.m : Int) := IntWalk.u64_in _ (by omega)
  have x5 : IntKind.u64.wrap (s.a : Int) = (s.a : Int) := IntWalk.u64_in _ (by omega)
  have x6 : IntKind.u64.wrap (s.c : Int) = (s.c : Int) := IntWalk.u64_in _ (by omega)
  have HQ := Lib.hid h3
  have c := (HN.out _ _ _ C0.out).cell 0
  simp only [S11.cells] at c
  simp at c
  clear hN hk h hf e1 e2 e4 e5 e6 e7 h3
  unfold S11.val
  rw [hw0] at c
  unfold S11.cells at hw0 c ⊢
  go_enter Tryz.func86, Tryz.ntmps86
  go_wp2_with fail
  rw [← hw0]
  clear hw0
  refine (put_any B g v bs 2 (s.k : Int) _ C0.out.out (by omega) (by omega) (by omega)).mono ?_
  intro e w1 st
  obtain ⟨v1, rfl, c1⟩ := C0.out.step st
  have C1 := Lib.hid c1
  clear c c1 st C0
  have c := (HN.out _ _ _ C1.out).cell 1
  simp only [S11.cells] at c
  simp at c
  go_wp2_with fail
  refine (put_any B g v1 _ 4 (s.d : Int) _ C1.out.out (by omega) (by omega) (by simp only [List.length_append]; omega)).mono ?_
  intro e w2 st
  obtain ⟨v2, rfl, c1⟩ := C1.out.step st
  have C2 := Lib.hid c1
  clear c c1 st C1
  have ca := (HN.out _ _ _ C2.out).cell 2
  have cb := (HN.out _ _ _ C2.out).cell 3
  have cc := (HN.out _ _ _ C2.out).cell 4
  simp only [S11.cells] at ca cb cc
  simp at ca cb cc
  have CQ : Hid (Calls Tryz.prog 53 #[.pointer (some ⟨g, 0, none⟩), .agg #[.int .u8 (s.q.t : Int), .int .u32 (s.q.v : Int), .int .u64 (s.q.p : Int)]] w2 (OutStep w2 B g v2 (bs ++ putI 2 (s.k : Int) ++ putI 4 (s.d : Int) ++ qidB s.q))) :=
    qidput_any B g v2 _ s.q w2 C2.out.out HQ.out (by simp only [List.length_append]; omega)
  go_wp2_with fail
  refine CQ.out.mono ?_
  intro e w3 st
  obtain ⟨v3, rfl, c1⟩ := C2.out.step st
  have C3 := Lib.hid c1
  clear ca cb cc c1 st C2 CQ
  have c := (HN.out _ _ _ C3.out).cell 5
  simp only [S11.cells] at c
  simp at c
  go_wp2_with fail
  refine (put_any B g v3 _ 4 (s.m : Int) _ C3.out.out (by omega) (by omega) (by simp only [List.length_append]; omega)).mono ?_
  intro e w4 st
  obtain ⟨v4, rfl, c1⟩ := C3.out.step st
  have C4 := Lib.hid c1
  clear c c1 st C3
  have c := (HN.out _ _ _ C4.out).cell 6
  simp only [S11.cells] at c
  simp at c
  go_wp2_with fail
  refine (put_any B g v4 _ 4 (s.a : Int) _ C4.out.out (by omega) (by omega) (by simp only [List.length_append]; omega)).mono ?_
  intro e w5 st
  obtain ⟨v5, rfl, c1⟩ := C4.out.step st
  have C5 := Lib.hid c1
  clear c c1 st C4
  have c := (HN.out _ _ _ C5.out).cell 7
  simp only [S11.cells] at c
  simp at c
  go_wp2_with fail
  refine (put_any B g v5 _ 4 (s.c : Int) _ C5.out.out (by omega) (by omega) (by simp only [List.length_append]; omega)).mono ?_
  intro e w6 st
  obtain ⟨v6, rfl, c1⟩ := C5.out.step st
  have C6 := Lib.hid c1
  clear c c1 st C5
  have c := (HN.out _ _ _ C6.out).cell 8
  simp only [S11.cells] at c
  simp at c
  go_wp2_with fail
  refine (put_any B g v6 _ 8 (s.l : Int) _ C6.out.out (by omega) (by omega) (by simp only [List.length_append]; omega)).mono ?_
  intro e w7 st
  obtain ⟨v7, rfl, c1⟩ := C6.out.step st
  rw [E.out] at c1
  have R := Lib.hid (c1.fin HK.out)
  clear c c1 st C6
  go_wp2
  go_end0
  exact R.out

/-- What the texts' adding leaves: all of them, or the error of the first that may not be one. -/
def TextsStep (w : World) (B g : Nat) (v : Value) (bs : List UInt8) (L : List (List UInt8)) (e : Ending) (w' : World) : Prop :=
  (wrongL L = 0 ∧ OutStep w B g v (bs ++ textsB L) e w') ∨ (wrongL L ≠ 0 ∧ e = .panicked [{ v := .iface 35 (.int .i64 (wrongL L)), recovered := false }] ∧ Only (Foot g v) w w')
def TextsInv (w0 : World) (B g : Nat) (v : Value) (bs : List UInt8) (L : List (List UInt8)) (j : Nat) (wr : World) : Prop :=
  wrongL (L.take j) = 0 ∧ ∃ v1, Chain w0 B g v (bs ++ textsB (L.take j)) wr v1
theorem textsB_succ (L : List (List UInt8)) (j : Nat) (h : j < L.length) : textsB (L.take (j + 1)) = textsB (L.take j) ++ textB L[j] := by
  unfold textsB
  rw [List.take_succ_eq_append_getElem h, List.flatMap_append]
  simp
theorem wrongL_succ (L : List (List UInt8)) (j : Nat) (h : j < L.length) (h0 : wrongL (L.take j) = 0) : wrongL (L.take (j + 1)) = wrongOf L[j] := by
  rw [List.take_succ_eq_append_getElem h, wrongL_append _ _ h0, wrongL, wrongL]
  split
  · rename_i h
    exact h.symm
  · rfl
theorem wrongL_stop (L : List (List UInt8)) (j : Nat) (h : j < L.length) (h0 : wrongL (L.take j) = 0) (h1 : wrongOf L[j] ≠ 0) : wrongL L = wrongOf L[j] := by
  conv => lhs; rw [← List.take_append_drop j L]
  rw [wrongL_append _ _ h0, List.drop_eq_getElem_cons h, wrongL, if_neg h1]

set_option maxHeartbeats 2000000 in
theorem puttexts_any (B g : Nat) (v : Value) (bs : List UInt8) (s : S11) (w : World) (h : OutAt w B g v bs) (hs : s.Few) (hl : bs.length ≤ 100000) (hT : Tabs w) (hB : 1 < B ∧ 2 < B) :
    Calls Tryz.prog 87 #[.pointer (some ⟨g, 0, none⟩), s.val] w (TextsStep w B g v bs s.texts) := by
  obtain ⟨w0, hw0⟩ : ∃ w0, w0 = (w.alloc (.cells s.cells 32)).alloc (.cells #[.string (strOf s.n), .string (strOf s.u), .string (strOf s.g), .string (strOf s.x)] 9) := ⟨_, rfl⟩
  have hN : Has (w.alloc (.cells s.cells 32)) w.heap.size 32 s.cells := Has.new _ _ _
  have hR : Has w0 (w.heap.size + 1) 9 #[.string (strOf s.n), .string (strOf s.u), .string (strOf s.g), .string (strOf s.x)] := by
    have := Has.new (w.alloc (.cells s.cells 32)) 9 #[.string (strOf s.n), .string (strOf s.u), .string (strOf s.g), .string (strOf s.x)]
    rw [hw0]
    simpa using this
  have hk : Only (fun _ => False) w w0 := by rw [hw0]; exact ((Only.refl _ w).alloc _).alloc _
  have hft : ∀ i, Foot g v i → B ≤ i ∧ i < w.heap.size := fun i hi => h.foot_lt hi
  have hf : ¬ Foot g v (w.heap.size + 1) := fun hf => by have := (hft _ hf).2; omega
  have C0 := Chain.start (h.only hk (fun _ _ h => h))
  have I0 : Hid (TextsInv w0 B g v bs s.texts 0 w0) := ⟨rfl, v, by simpa [textsB] using C0⟩
  have HR := Lib.hid (fun (w1 : World) (bs : List UInt8) (v1 : Value) (c : Chain w0 B g v bs w1 v1) => hR.only c.only hf)
  have HT := Lib.hid (fun (w1 : World) (bs : List UInt8) (v1 : Value) (c : Chain w0 B g v bs w1 v1) => (hT.only hk (fun h => h) (fun h => h)).only c.only (fun h => by have := (hft _ h).1; omega) (fun h => by have := (hft _ h).1; omega))
  have HK := Lib.hid hk
  have HL : Hid (∀ j (hj : j < 4), (s.texts[j]'hj).length ≤ 1000) := by
    obtain ⟨h1, h2, h3, h4⟩ := hs
    intro j hj
    match j, hj with
    | 0, _ => exact h1
    | 1, _ => exact h2
    | 2, _ => exact h3
    | 3, _ => exact h4
  have HC : Hid (∀ j (hj : j < 4), (#[Value.string (strOf s.n), .string (strOf s.u), .string (strOf s.g), .string (strOf s.x)] : Array Value)[j]? = some (.string (strOf (s.texts[j]'hj)))) := by
    intro j hj
    match j, hj with
    | 0, _ => rfl
    | 1, _ => rfl
    | 2, _ => rfl
    | 3, _ => rfl
  have c9 := hN.cell 9
  have c10 := hN.cell 10
  have c11 := hN.cell 11
  have c12 := hN.cell 12
  simp only [S11.cells] at c9 c10 c11 c12
  simp at c9 c10 c11 c12
  have hlen : s.texts.length = 4 := rfl
  obtain ⟨L, hLe⟩ : ∃ L, L = s.texts := ⟨_, rfl⟩
  unfold S11.val
  clear hN hk h hf hR hT hft C0 hs
  unfold S11.cells at *
  go_enter Tryz.func87, Tryz.ntmps87
  go_wp2_with fail
  rw [← hw0]
  clear hw0 c9 c10 c11 c12
  go_loopw [17] (fun i wr => ∃ j : Nat, j ≤ 4 ∧ i = .int .i64 j ∧ Hid (TextsInv w0 B g v bs s.texts j wr)) (fun i _ => 4 - (intOf i).toNat)
  case atStart => exact ⟨0, Nat.zero_le _, rfl, I0⟩
  case round =>
    obtain ⟨j, hj, rfl, hrel⟩ := hrel
    clear I0
    obtain ⟨h0, v1, hC⟩ := hrel.out
    by_cases hlt : j < 4
    · have hc : wr.cell? ⟨w.heap.size + 1, j, none⟩ = _ := ((HR.out _ _ _ hC).cell j).trans (HC.out j hlt)
      have i0 : (0 : Int) ≤ (j : Int) := by omega
      have i1 : (j : Int) < 4 := by omega
      have hle := textsB_le (s.texts.take j)
      rw [List.length_take] at hle
      have hlj := HL.out j hlt
      have C : Hid (Calls Tryz.prog 76 #[.pointer (some ⟨g, 0, none⟩), .string (strOf (s.texts[j]'hlt))] wr (TPut wr B g v1 (bs ++ textsB (s.texts.take j)) (s.texts[j]'hlt))) :=
        tput_any B g v1 _ _ wr hC.out (HT.out _ _ _ hC) (by omega) (by rw [List.length_append]; omega)
      have h2 := wrongL_succ s.texts j hlt h0
      have h3 := wrongL_stop s.texts j hlt h0
      have h4 := textsB_succ s.texts j hlt
      obtain ⟨t, ht⟩ : ∃ t, t = s.texts[j]'hlt := ⟨_, rfl⟩
      rw [← ht] at C hc h2 h3 h4
      have fin : Hid (∀ e w2, TPut wr B g v1 (bs ++ textsB (s.texts.take j)) t e w2 → e = .returned (.int .i64 (wrongOf t)) ∧ (wrongOf t = 0 → TextsInv w0 B g v bs s.texts (j + 1) w2) ∧ (wrongOf t ≠ 0 → Only (Foot g v) w w2)) := by
        rintro e w2 ⟨v2, he, o2, f2, g2⟩
        obtain ⟨v3, _, c3⟩ := hC.step ⟨v2, rfl, o2, f2, g2⟩
        refine ⟨he, fun hz => ⟨by rw [h2, hz], v3, ?_⟩, fun _ => ?_⟩
        · rw [h4, ← List.append_assoc]
          exact c3
        · exact (HK.out.mono (fun _ _ h => h.elim)).trans c3.only (fun _ _ h => h)
      have H3 := Lib.hid h3
      clear hC h0 hrel hle hlj h2 h3 h4 ht
      go_wp2_with fail
      refine C.out.mono ?_
      intro e w2 hst
      obtain ⟨rfl, hy, hn⟩ := fin.out e w2 hst
      clear hst fin C hc
      by_cases hz : wrongOf t = 0
      · have R := Lib.hid (hy hz)
        rw [hz]
        clear hy hn H3
        go_wp2_with fail
        refine (must_yes 0 w2).mono ?_
        rintro e w' ⟨rfl, rfl⟩
        go_wp2
        go_roundw
        case rel => exact ⟨j + 1, by omega, by go_num, R⟩
        case measure => simp [intOf]; omega
      · have R : Hid (TextsStep w B g v bs s.texts (.panicked [{ v := .iface 35 (.int .i64 (wrongOf t)), recovered := false }]) w2) := by
          have e1 := H3.out hz
          exact .inr ⟨by rw [e1]; exact hz, by rw [e1], hn hz⟩
        have hzb : (wrongOf t == 0) = false := by simpa using hz
        generalize wrongOf t = er at R hzb
        clear hy hn H3
        go_wp2_with fail
        refine (must_no er w2).mono ?_
        rintro e w' ⟨rfl, rfl⟩
        go_wp2
        exact ⟨rfl, R.out⟩
    · have hj4 : j = 4 := by omega
      subst hj4
      have R : Hid (TextsStep w B g v bs s.texts (.returned (.tuple #[])) wr) := .inl ⟨h0, hC.fin HK.out⟩
      clear hC h0 hrel
      go_wp2
      go_end0
      exact R.out
end Go.Proofs.YtepiifbleoimkaaGreatDoor
namespace Go.Proofs.YtepiifbleoimkaaGreatDoor
open Go.RowKit
set_option maxRecDepth 100000

theorem Tabs.lt {w : World} (h : Tabs w) : 1 < w.heap.size ∧ 2 < w.heap.size :=
  ⟨World.block_lt_of_cell? w _ (h.1 0 (by decide)), World.block_lt_of_cell? w _ (h.2 0 (by decide)).1⟩
/-- The cells of a record in memory. -/
theorem Has.cells13 {w : World} {b : Nat} {t : TypeId} {s : S11} (h : Has w b t s.cells) :
    (w.cell? ⟨b, 0, none⟩ = some (.int .u16 (s.k : Int)) ∧ w.cell? ⟨b, 1, none⟩ = some (.int .u32 (s.d : Int)) ∧ w.cell? ⟨b, 2, none⟩ = some (.int .u8 (s.q.t : Int)) ∧ w.cell? ⟨b, 3, none⟩ = some (.int .u32 (s.q.v : Int)) ∧ w.cell? ⟨b, 4, none⟩ = some (.int .u64 (s.q.p : Int))) ∧
    (w.cell? ⟨b, 5, none⟩ = some (.int .u32 (s.m : Int)) ∧ w.cell? ⟨b, 6, none⟩ = some (.int .u32 (s.a : Int)) ∧ w.cell? ⟨b, 7, none⟩ = some (.int .u32 (s.c : Int)) ∧ w.cell? ⟨b, 8, none⟩ = some (.int .u64 (s.l : Int))) ∧
    (w.cell? ⟨b, 9, none⟩ = some (.string (strOf s.n)) ∧ w.cell? ⟨b, 10, none⟩ = some (.string (strOf s.u)) ∧ w.cell? ⟨b, 11, none⟩ = some (.string (strOf s.g)) ∧ w.cell? ⟨b, 12, none⟩ = some (.string (strOf s.x))) :=
  ⟨⟨h.cell 0, h.cell 1, h.cell 2, h.cell 3, h.cell 4⟩, ⟨h.cell 5, h.cell 6, h.cell 7, h.cell 8⟩, ⟨h.cell 9, h.cell 10, h.cell 11, h.cell 12⟩⟩

def EncStep (w : World) (B g : Nat) (v : Value) (s : S11) (e : Ending) (w' : World) : Prop :=
  (wrongL s.texts = 0 ∧ OutStep w B g v (recB s) e w') ∨ (wrongL s.texts ≠ 0 ∧ e = .panicked [{ v := .iface 35 (.int .i64 (wrongL s.texts)), recovered := false }] ∧ Only (Foot g v) w w')

set_option maxHeartbeats 2000000 in
theorem encode1_any (B g sb : Nat) (v : Value) (s : S11) (w : World) (h : OutAt w B g v []) (hS : Has w sb 32 s.cells) (hsb : ¬ Foot g v sb) (hn : s.Num) (hs : s.Few) (hT : Tabs w) (hB : 1 < B ∧ 2 < B) :
    Calls Tryz.prog 84 #[.pointer (some ⟨g, 0, none⟩), .pointer (some ⟨sb, 0, none⟩)] w (EncStep w B g v s) := by
  obtain ⟨⟨d0, d1, d2, d3, d4⟩, ⟨d5, d6, d7, d8⟩, ⟨d9, d10, d11, d12⟩⟩ := hS.cells13
  have hft : ∀ i, Foot g v i → B ≤ i ∧ i < w.heap.size := fun i hi => h.foot_lt hi
  have hsl := hS.lt
  have C0 := size_any s w hs
  have X0 := Lib.hid (Chain.start h)
  have HS := Lib.hid (fun (w1 : World) (bs : List UInt8) (v1 : Value) (c : Chain w B g v bs w1 v1) => hS.only c.only hsb)
  have HT := Lib.hid (fun (w1 : World) (bs : List UInt8) (v1 : Value) (c : Chain w B g v bs w1 v1) => hT.only c.only (fun h => by have := (hft _ h).1; omega) (fun h => by have := (hft _ h).1; omega))
  obtain ⟨hs1, hs2, hs3, hs4⟩ := id hs
  have hz : 49 ≤ s.size ∧ s.size ≤ 5000 := by unfold S11.size; omega
  obtain ⟨hz1, hz2⟩ := hz
  have w1x : IntKind.u64.wrap ((s.size : Int) - 2) = (((s.size - 2 : Nat)) : Int) := by rw [IntWalk.u64_in _ (by omega)]; omega
  have HNm := Lib.hid hn
  have HF := Lib.hid hs
  have lN := numsB_length s
  have lp := putI_length 2 (((s.size - 2 : Nat)) : Int)
  have E : Hid ([] ++ putI 2 (((s.size - 2 : Nat)) : Int) ++ numsB s ++ textsB s.texts = recB s) := by
    refine Lib.hid ?_
    rw [show putI 2 (((s.size - 2 : Nat)) : Int) = putB 2 (s.size - 2) from putI_of 2 _ (by omega) (by omega)]
    simp [recB, statB]
  unfold S11.val S11.cells at C0
  have C0 := Lib.hid C0
  clear h hS hsb hn hs hT hft hs1 hs2 hs3 hs4
  go_enter Tryz.func84, Tryz.ntmps84
  go_wp2_with fail
  refine C0.out.mono ?_
  rintro e w1 ⟨rfl, b1⟩
  have X1 := Lib.hid (X0.out.quiet (Only.of_below b1) (fun i hi h => by omega))
  clear b1 C0 X0 d0 d1 d2 d3 d4 d5 d6 d7 d8 d9 d10 d11 d12
  go_wp2_with fail
  refine (put_any B g v [] 2 (((s.size - 2 : Nat)) : Int) w1 X1.out.out (by omega) (by omega) (by simp)).mono ?_
  intro e w2 st
  obtain ⟨v2, rfl, x2⟩ := X1.out.step st
  have X2 := Lib.hid x2
  obtain ⟨⟨d0, d1, d2, d3, d4⟩, ⟨d5, d6, d7, d8⟩, ⟨d9, d10, d11, d12⟩⟩ := (HS.out _ _ _ x2).cells13
  have C2 := putnumbers_any B g v2 _ s w2 x2.out HNm.out (by rw [List.length_append]; simp; omega)
  unfold S11.val S11.cells at C2
  have C2 := Lib.hid C2
  clear x2 st X1
  go_wp2_with fail
  refine C2.out.mono ?_
  intro e w3 st
  obtain ⟨v3, rfl, x3⟩ := X2.out.step st
  have X3 := Lib.hid x3
  clear d0 d1 d2 d3 d4 d5 d6 d7 d8 d9 d10 d11 d12 C2 X2
  obtain ⟨⟨d0, d1, d2, d3, d4⟩, ⟨d5, d6, d7, d8⟩, ⟨d9, d10, d11, d12⟩⟩ := (HS.out _ _ _ x3).cells13
  have C3 := puttexts_any B g v3 _ s w3 x3.out HF.out (by rw [List.length_append, List.length_append]; simp; omega) (HT.out _ _ _ x3) hB
  unfold S11.val S11.cells at C3
  have C3 := Lib.hid C3
  clear x3 st
  go_wp2_with fail
  refine C3.out.mono ?_
  intro e w4 st
  rcases st with ⟨h0, st⟩ | ⟨h0, rfl, st⟩
  · obtain ⟨v4, rfl, x4⟩ := X3.out.step st
    rw [E.out] at x4
    have R : Hid (EncStep w B g v s (.returned (.tuple #[])) w4) := .inl ⟨h0, x4.fin (Only.refl _ _)⟩
    clear d0 d1 d2 d3 d4 d5 d6 d7 d8 d9 d10 d11 d12 C3 X3 x4 st h0
    go_wp2
    go_end0
    exact R.out
  · have R : Hid (EncStep w B g v s (.panicked [{ v := .iface 35 (.int .i64 (wrongL s.texts)), recovered := false }]) w4) := by
      refine .inr ⟨h0, rfl, X3.out.only.trans st ?_⟩
      intro i hi hf
      rcases hf with hf | hf
      · exact .inl hf
      · rcases X3.out.own i hf with h | h
        · exact .inr h
        · omega
    clear d0 d1 d2 d3 d4 d5 d6 d7 d8 d9 d10 d11 d12 C3 X3 st h0
    go_wp2
    exact ⟨rfl, R.out⟩

theorem Tryz.enterEncode : ∀ args w, (callFunc 84 args).run Tryz.prog w = .ok (.enter 84 args) w := enters_of Tryz.func84 (by kernel_rfl) rfl

/-- What Encode answers. -/
def EncodeStep (w : World) (s : S11) (e : Ending) (w' : World) : Prop :=
  (wrongL s.texts = 0 ∧ ∃ v, e = .returned (.tuple #[v, .int .i64 0]) ∧ w'.ownsRow w.heap.size 5 1 v (recB s).length (b8s (recB s)) ∧ Below w.heap.size w w') ∨
  (wrongL s.texts ≠ 0 ∧ e = .returned (.tuple #[.slice none 0 0, .int .i64 (wrongL s.texts)]) ∧ Below w.heap.size w w')

set_option maxHeartbeats 2000000 in
theorem encode_any (s : S11) (w : World) (hn : s.Num) (hs : s.Few) (hT : Tabs w) : Calls Tryz.prog 78 #[s.val] w (EncodeStep w s) := by
  have hlt := hT.lt
  obtain ⟨W, hW⟩ : ∃ W, W = (w.alloc (.cells s.cells 32)).alloc (.cells #[.slice none 0 0] 71) := ⟨_, rfl⟩
  have k0 : Only (fun _ => False) w W := by rw [hW]; exact ((Only.refl _ w).alloc _).alloc _
  have kS : Has W w.heap.size 32 s.cells := by rw [hW]; exact (Has.new w _ _).alloc _
  have kO : OutAt W w.heap.size (w.heap.size + 1) (.slice none 0 0) [] := by
    rw [hW]
    refine ⟨?_, World.ownsRow_nil _ _ _ _, by omega⟩
    have := Has.new (w.alloc (.cells s.cells 32)) 71 #[.slice none 0 0]
    simpa using this
  have sW : W.heap.size = w.heap.size + 2 := by rw [hW]; simp
  have C1 := encode1_any w.heap.size (w.heap.size + 1) w.heap.size (.slice none 0 0) s (W.alloc errBox) (kO.only ((Only.refl (fun _ => False) W).alloc _) (fun _ _ h => h)) (kS.alloc _) (by
    intro h
    rcases h with h | h
    · omega
    · cases h) hn hs ((hT.only k0 (fun h => h) (fun h => h)).only ((Only.refl (fun _ => False) W).alloc _) (fun h => h) (fun h => h)) hlt
  have hnf : ¬ Foot (w.heap.size + 1) (.slice none 0 0) (w.heap.size + 2) := by
    intro h
    rcases h with h | h
    · omega
    · cases h
  have hlow : ∀ i, Foot (w.heap.size + 1) (.slice none 0 0) i → i = w.heap.size + 1 := by
    intro i h
    rcases h with h | h
    · exact h
    · cases h
  have hE : Has (W.alloc errBox) W.heap.size 35 #[.int .i64 0] := Has.new _ _ _
  have kW : Only (fun _ => False) w (W.alloc errBox) := k0.alloc _
  unfold S11.val
  by_cases hz : wrongL s.texts = 0
  · have C := Lib.hid (caught_ok 84 _ Tryz.enterEncode W (fun w' => ∃ v', OutAt w' w.heap.size (w.heap.size + 1) v' (recB s) ∧ Below w.heap.size w w') (C1.mono (by
      rintro e w' (⟨_, v', he, o, f, _⟩ | ⟨h, _⟩)
      · refine ⟨he, hE.only f (by rw [sW]; exact hnf), v', o, ?_⟩
        exact ((kW.mono (fun _ _ h => h.elim)).trans f (fun _ _ h => h)).below (Nat.le_refl _) (fun i hi h => by have := hlow i h; omega)
      · exact absurd hz h)))
    have hrl := recB_length hz
    have hz2 : s.size ≤ 5000 := by
      obtain ⟨hs1, hs2, hs3, hs4⟩ := hs
      unfold S11.size
      omega
    clear hnf hlow hE kW C1 kS kO sW hT k0 hn hs hlt
    unfold S11.cells at hW ⊢
    go_enter Tryz.func78, Tryz.ntmps78
    go_wp2_with fail
    rw [← hW]
    refine C.out.mono ?_
    rintro e w1 ⟨rfl, v1, o1, b1⟩
    have O1 := Lib.hid o1
    have B1 := Lib.hid b1
    clear o1 b1 C hW
    go_wp2_with fail
    refine (bytes_any _ _ _ _ w1 O1.out (by omega)).mono ?_
    rintro e w2 ⟨v2, rfl, a2, b2⟩
    have R : Hid (EncodeStep w s (.returned (.tuple #[v2, .int .i64 0])) w2) := .inl ⟨hz, v2, rfl, owns_base a2 B1.out.size, B1.out.trans (b2.mono B1.out.size)⟩
    clear a2 b2 O1 B1
    go_wp2
    go_ret2
    exact R.out
  · have C := Lib.hid (caught_panic 84 _ Tryz.enterEncode W (wrongL s.texts) (fun w' => Below w.heap.size w w') (C1.mono (by
      rintro e w' (⟨h, _⟩ | ⟨_, he, f⟩)
      · exact absurd h hz
      · refine ⟨he, hE.only f (by rw [sW]; exact hnf), ?_⟩
        exact ((kW.mono (fun _ _ h => h.elim)).trans f (fun _ _ h => h)).below (Nat.le_refl _) (fun i hi h => by have := hlow i h; omega))))
    have hzb : (wrongL s.texts != 0) = true := by simpa using hz
    have fin : Hid (∀ w', Below w.heap.size w w' → EncodeStep w s (.returned (.tuple #[.slice none 0 0, .int .i64 (wrongL s.texts)])) w') := fun w' b => .inr ⟨hz, rfl, b⟩
    clear hnf hlow hE kW C1 kS kO hT k0 hn hs hlt
    generalize wrongL s.texts = er at C fin hzb
    unfold S11.cells at hW ⊢
    go_enter Tryz.func78, Tryz.ntmps78
    go_wp2_with fail
    rw [← hW]
    refine C.out.mono ?_
    rintro e w1 ⟨rfl, w2, h2, b1, hw1⟩
    have R := Lib.hid (fin.out w1 (by rw [hw1]; exact b1.setCell (p := ⟨W.heap.size, 0, none⟩) (by simp; omega) (.int .i64 er)))
    clear b1 C hW fin h2 hw1 sW
    go_wp2
    go_ret2
    exact R.out
end Go.Proofs.YtepiifbleoimkaaGreatDoor
namespace Go.Proofs.YtepiifbleoimkaaGreatDoor
open Go.RowKit
set_option maxRecDepth 100000

/-- The numbers of a record's bytes, and the In behind them. -/
def numSt (bs : List UInt8) : S11 × List UInt8 × Int :=
  let k := takeSt 2 bs 0
  let d := takeSt 4 k.2.1 k.2.2
  let q := qTake d.2.1 d.2.2
  let m := takeSt 4 q.2.1 q.2.2
  let a := takeSt 4 m.2.1 m.2.2
  let c := takeSt 4 a.2.1 a.2.2
  let l := takeSt 8 c.2.1 c.2.2
  (⟨k.1, d.1, q.1, m.1, a.1, c.1, l.1, [], [], [], []⟩, l.2.1, l.2.2)
/-- The next text, and what is behind it. -/
def textSt (bs : List UInt8) (er : Int) : Option (List UInt8 × List UInt8) := if (tans bs er).2 = 0 then some ((tans bs er).1, (tst bs er).2.1) else none
/-- What a count counts, as a record. -/
def recOf (bs : List UInt8) : Option S11 :=
  (textSt (numSt bs).2.1 (numSt bs).2.2).bind fun n => (textSt n.2 0).bind fun u => (textSt u.2 0).bind fun g => (textSt g.2 0).bind fun x =>
    if x.2 = [] then some { (numSt bs).1 with n := n.1, u := u.1, g := g.1, x := x.1 } else none
/-- The first record of these bytes and what is behind it, or what is wrong. -/
def firstOf (bs : List UInt8) : Except Int (S11 × List UInt8) :=
  if (tst bs 0).2.2 ≠ 0 then .error 4 else match recOf (tst bs 0).1 with
    | none => .error 2
    | some s => .ok (s, (tst bs 0).2.1)
def S11.zero : S11 := ⟨0, 0, Q3.zero, 0, 0, 0, 0, [], [], [], []⟩

theorem tans_zero {bs : List UInt8} {er : Int} (h : (tans bs er).2 = 0) : (tst bs er).2.2 = 0 ∧ wrongOf (tans bs er).1 = 0 := by
  unfold tans at h ⊢
  by_cases h1 : (tst bs er).2.2 ≠ 0
  · rw [if_pos h1] at h
    exact absurd h h1
  · rw [if_neg h1] at h ⊢
    by_cases h2 : wrongOf (tst bs er).1 ≠ 0
    · rw [if_pos h2] at h
      exact absurd h h2
    · rw [if_neg h2]
      exact ⟨by omega, by simpa using h2⟩
theorem qTake_ok (bs : List UInt8) (er : Int) : (qTake bs er).1.Ok := by
  unfold qTake
  simp only
  split
  · exact ⟨takeSt_lt 1 _ _, takeSt_lt 4 _ _, takeSt_lt 8 _ _⟩
  · exact ⟨by decide, by decide, by decide⟩
theorem numSt_num (bs : List UInt8) : (numSt bs).1.Num :=
  ⟨takeSt_lt 2 _ _, takeSt_lt 4 _ _, qTake_ok _ _, takeSt_lt 4 _ _, takeSt_lt 4 _ _, takeSt_lt 4 _ _, takeSt_lt 8 _ _⟩
theorem textSt_some {bs : List UInt8} {er : Int} {t r : List UInt8} (h : textSt bs er = some (t, r)) : (tans bs er).2 = 0 ∧ t = (tans bs er).1 ∧ r = (tst bs er).2.1 ∧ wrongOf t = 0 := by
  unfold textSt at h
  split at h
  · rename_i h0
    injection h with h
    injection h with h1 h2
    exact ⟨h0, h1.symm, h2.symm, by rw [← h1]; exact (tans_zero h0).2⟩
  · cases h
theorem recOf_some {bs : List UInt8} {s : S11} (h : recOf bs = some s) : s.Num ∧ wrongL s.texts = 0 := by
  unfold recOf at h
  obtain ⟨⟨n, r1⟩, h1, h⟩ := Option.bind_eq_some_iff.1 h
  obtain ⟨⟨u, r2⟩, h2, h⟩ := Option.bind_eq_some_iff.1 h
  obtain ⟨⟨g, r3⟩, h3, h⟩ := Option.bind_eq_some_iff.1 h
  obtain ⟨⟨x, r4⟩, h4, h⟩ := Option.bind_eq_some_iff.1 h
  have w1 := (textSt_some h1).2.2.2
  have w2 := (textSt_some h2).2.2.2
  have w3 := (textSt_some h3).2.2.2
  have w4 := (textSt_some h4).2.2.2
  split at h
  · injection h with h
    rw [← h]
    have hn := numSt_num bs
    refine ⟨⟨hn.k, hn.d, hn.q, hn.m, hn.a, hn.c, hn.l⟩, ?_⟩
    simp only [S11.texts, wrongL]
    rw [if_pos w1, if_pos w2, if_pos w3, if_pos w4]
  · cases h
theorem few_of_wrong {s : S11} (h : wrongL s.texts = 0) : s.Few := by
  obtain ⟨h1, h2, h3, h4⟩ := wrong4 h
  have := wrongOf_short h1
  have := wrongOf_short h2
  have := wrongOf_short h3
  have := wrongOf_short h4
  exact ⟨by omega, by omega, by omega, by omega⟩

/-- There and back. -/
theorem textSt_item {l rest : List UInt8} (h : wrongOf l = 0) : textSt (textB l ++ rest) 0 = some (l, rest) := by
  have h64 := wrongOf_short h
  have hp : putI 2 (l.length : Int) = putB 2 l.length := putI_of 2 _ (by omega) (by omega)
  have hb : textB l ++ rest = putB 2 l.length ++ (l ++ rest) := by rw [textB, if_pos h, hp, List.append_assoc]
  have ht : takeSt 2 (putB 2 l.length ++ (l ++ rest)) 0 = (l.length, l ++ rest, 0) := by
    have := take_item 2 l.length (l ++ rest) (by omega) (by omega)
    rw [Nat.mod_eq_of_lt (by omega)] at this
    exact this
  have hr : tst (textB l ++ rest) 0 = (l, rest, 0) := by
    rw [hb, tst, ht]
    exact raw_item l rest
  unfold textSt tans
  rw [hr]
  simp [h]
theorem take_num (n x : Nat) (rest : List UInt8) (h1 : 1 ≤ n) (h8 : n ≤ 8) (hx : x < 256 ^ n) : takeSt (n : Int) (putB n x ++ rest) 0 = (x, rest, 0) := by
  rw [take_item n x rest h1 h8, Nat.mod_eq_of_lt hx]
theorem numSt_item {s : S11} (rest : List UInt8) (h : s.Num) : numSt (numsB s ++ rest) = ({ s with n := [], u := [], g := [], x := [] }, rest, 0) := by
  obtain ⟨h1, h2, h3, h4, h5, h6, h7⟩ := h
  have e1 := fun r => take_num 2 s.k r (by omega) (by omega) (by omega)
  have e2 := fun r => take_num 4 s.d r (by omega) (by omega) (by omega)
  have e4 := fun r => take_num 4 s.m r (by omega) (by omega) (by omega)
  have e5 := fun r => take_num 4 s.a r (by omega) (by omega) (by omega)
  have e6 := fun r => take_num 4 s.c r (by omega) (by omega) (by omega)
  have e7 := fun r => take_num 8 s.l r (by omega) (by omega) (by omega)
  have e3 := fun r => qTake_item s.q r h3
  simp only [Int.cast_ofNat_Int] at e1 e2 e4 e5 e6 e7
  unfold numSt numsB
  simp only [List.append_assoc, e1, e2, e3, e4, e5, e6, e7]
theorem recOf_item {s : S11} (h : s.Num) (h0 : wrongL s.texts = 0) : recOf (statB s) = some s := by
  obtain ⟨h1, h2, h3, h4⟩ := wrong4 h0
  unfold recOf statB
  rw [numSt_item _ h]
  simp only [textsB, S11.texts, List.flatMap_cons, List.flatMap_nil]
  rw [textSt_item h1]
  simp only [Option.bind_some]
  rw [textSt_item h2]
  simp only [Option.bind_some]
  rw [textSt_item h3]
  simp only [Option.bind_some]
  rw [textSt_item h4]
  simp
theorem firstOf_item {s : S11} (rest : List UInt8) (h : s.Num) (h0 : wrongL s.texts = 0) : firstOf (recB s ++ rest) = .ok (s, rest) := by
  have hl := statB_length h0
  have hs : s.size - 2 < 65536 := by
    obtain ⟨h1, h2, h3, h4⟩ := wrong4 h0
    have := wrongOf_short h1
    have := wrongOf_short h2
    have := wrongOf_short h3
    have := wrongOf_short h4
    unfold S11.size
    omega
  have ht := take_num 2 (s.size - 2) (statB s ++ rest) (by omega) (by omega) (by omega)
  simp only [Int.cast_ofNat_Int] at ht
  have hr : tst (recB s ++ rest) 0 = (statB s, rest, 0) := by
    unfold recB tst
    rw [List.append_assoc, ht, ← hl]
    exact raw_item (statB s) rest
  unfold firstOf
  rw [hr]
  simp [recOf_item h h0]
/-- Cut anywhere. -/
theorem firstOf_cut {s : S11} (n : Nat) (h0 : wrongL s.texts = 0) (hn : n < (recB s).length) : firstOf ((recB s).take n) = .error 4 := by
  have hl := statB_length h0
  have hrl := recB_length h0
  have hs : s.size - 2 < 65536 := by
    obtain ⟨h1, h2, h3, h4⟩ := wrong4 h0
    have := wrongOf_short h1
    have := wrongOf_short h2
    have := wrongOf_short h3
    have := wrongOf_short h4
    unfold S11.size
    omega
  have hr : (tst ((recB s).take n) 0).2.2 ≠ 0 := by
    by_cases h2 : n < 2
    · have e := takeSt_short 2 ((recB s).take n) (by omega) (by omega) (by rw [List.length_take]; omega)
      unfold tst
      rw [e]
      simp [rawSt]
    · have e : (recB s).take n = putB 2 (s.size - 2) ++ (statB s).take (n - 2) := by
        unfold recB
        rw [List.take_append, putB_length, List.take_of_length_le (by rw [putB_length]; omega)]
      have ht := take_num 2 (s.size - 2) ((statB s).take (n - 2)) (by omega) (by omega) (by omega)
      simp only [Int.cast_ofNat_Int] at ht
      unfold tst
      rw [e, ht]
      have : ((statB s).take (n - 2)).length < s.size - 2 := by rw [List.length_take]; omega
      unfold rawSt
      dsimp only
      rw [if_neg (by simp), if_neg (by omega), if_pos (by omega)]
      decide
  unfold firstOf
  rw [if_pos hr]
end Go.Proofs.YtepiifbleoimkaaGreatDoor
namespace Go.Proofs.YtepiifbleoimkaaGreatDoor
open Go.RowKit
set_option maxRecDepth 100000

/-- What a text's taking leaves: the text, or ErrForm. -/
def TTextStep (w : World) (lo g : Nat) (r : Option (List UInt8 × List UInt8)) (e : Ending) (w' : World) : Prop :=
  match r with
  | some (t, rest) => e = .returned (.string (strOf t)) ∧ InAt w' lo g rest 0 ∧ Only (fun i => i = g) w w'
  | none => e = .panicked [{ v := .iface 35 (.int .i64 2), recovered := false }] ∧ Only (fun i => i = g) w w'

set_option maxHeartbeats 1000000 in
theorem taketext_any (lo g : Nat) (bs : List UInt8) (er : Int) (w : World) (hI : InAt w lo g bs er) (hT : Tabs w) (h1 : ¬ 1 = g) (h2 : ¬ 2 = g) (hb : bs.length ≤ 140737488355328) :
    Calls Tryz.prog 99 #[.pointer (some ⟨g, 0, none⟩)] w (TTextStep w lo g (textSt bs er)) := by
  have C := Lib.hid (ttake_any lo g bs er w hI hT h1 h2 hb)
  have hz := @tans_zero bs er
  have hs : textSt bs er = if (tans bs er).2 = 0 then some ((tans bs er).1, (tst bs er).2.1) else none := rfl
  unfold TTake at C
  generalize tans bs er = A at C hz hs
  generalize tst bs er = B at C hz hs
  obtain ⟨t, x⟩ := A
  obtain ⟨b1, b2, b3⟩ := B
  simp only at C hz hs
  clear hI hT h1 h2 hb
  by_cases h0 : x = 0
  · subst h0
    have h3 := (hz rfl).1
    subst h3
    rw [if_pos rfl] at hs
    rw [hs]
    clear hz hs
    go_enter Tryz.func99, Tryz.ntmps99
    go_wp2_with fail
    refine C.out.mono ?_
    rintro e w1 ⟨rfl, i1, f1⟩
    have R : Hid (TTextStep w lo g (some (t, b2)) (.returned (.string (strOf t))) w1) := ⟨rfl, i1, f1⟩
    clear i1 f1 C
    go_wp2_with fail
    refine (must_yes 2 w1).mono ?_
    rintro e w' ⟨rfl, rfl⟩
    go_wp2
    go_ret
    exact R.out
  · rw [if_neg h0] at hs
    rw [hs]
    have hd : (x == 0) = false := by simpa using h0
    clear hz hs h0
    go_enter Tryz.func99, Tryz.ntmps99
    go_wp2_with fail
    refine C.out.mono ?_
    rintro e w1 ⟨rfl, i1, f1⟩
    have R : Hid (TTextStep w lo g none (.panicked [{ v := .iface 35 (.int .i64 2), recovered := false }]) w1) := ⟨rfl, f1⟩
    clear i1 f1 C
    go_wp2_with fail
    refine (must_no 2 w1).mono ?_
    rintro e w' ⟨rfl, rfl⟩
    go_wp2
    exact ⟨rfl, R.out⟩

theorem Tryz.statSize13 : (Tryz.prog.info? 32).map (·.size) = some 13 := by kernel_rfl
/-- A whole record stored. -/
def set13 (w : World) (b : Nat) (s : S11) : World :=
  ((((((((((((w.setCell ⟨b, 0, none⟩ (.int .u16 (s.k : Int))).setCell ⟨b, 1, none⟩ (.int .u32 (s.d : Int))).setCell ⟨b, 2, none⟩ (.int .u8 (s.q.t : Int))).setCell ⟨b, 3, none⟩ (.int .u32 (s.q.v : Int))).setCell ⟨b, 4, none⟩ (.int .u64 (s.q.p : Int))).setCell
    ⟨b, 5, none⟩ (.int .u32 (s.m : Int))).setCell ⟨b, 6, none⟩ (.int .u32 (s.a : Int))).setCell ⟨b, 7, none⟩ (.int .u32 (s.c : Int))).setCell ⟨b, 8, none⟩ (.int .u64 (s.l : Int))).setCell
    ⟨b, 9, none⟩ (.string (strOf s.n))).setCell ⟨b, 10, none⟩ (.string (strOf s.u))).setCell ⟨b, 11, none⟩ (.string (strOf s.g))).setCell ⟨b, 12, none⟩ (.string (strOf s.x))
theorem has_set13 {w : World} {b : Nat} {t : TypeId} {r : S11} (h : Has w b t r.cells) (s : S11) : Has (set13 w b s) b t s.cells := by
  have k1 := h.set 0 (.int .u16 (s.k : Int))
  have k2 := k1.set 1 (.int .u32 (s.d : Int))
  have k3 := k2.set 2 (.int .u8 (s.q.t : Int))
  have k4 := k3.set 3 (.int .u32 (s.q.v : Int))
  have k5 := k4.set 4 (.int .u64 (s.q.p : Int))
  have k6 := k5.set 5 (.int .u32 (s.m : Int))
  have k7 := k6.set 6 (.int .u32 (s.a : Int))
  have k8 := k7.set 7 (.int .u32 (s.c : Int))
  have k9 := k8.set 8 (.int .u64 (s.l : Int))
  have k10 := k9.set 9 (.string (strOf s.n))
  have k11 := k10.set 10 (.string (strOf s.u))
  have k12 := k11.set 11 (.string (strOf s.g))
  have k13 := k12.set 12 (.string (strOf s.x))
  simp only [S11.cells, List.setIfInBounds_toArray, List.set_cons_zero, List.set_cons_succ] at k13
  exact k13
theorem Only.set13 {S : Nat → Prop} {a w : World} (h : Only S a w) {b : Nat} (hb : b < a.heap.size → S b) (s : S11) : Only S a (set13 w b s) :=
  ((((((((((((h.setCell (p := ⟨b, 0, none⟩) hb _).setCell (p := ⟨b, 1, none⟩) hb _).setCell (p := ⟨b, 2, none⟩) hb _).setCell (p := ⟨b, 3, none⟩) hb _).setCell (p := ⟨b, 4, none⟩) hb _).setCell (p := ⟨b, 5, none⟩) hb _).setCell
    (p := ⟨b, 6, none⟩) hb _).setCell (p := ⟨b, 7, none⟩) hb _).setCell (p := ⟨b, 8, none⟩) hb _).setCell (p := ⟨b, 9, none⟩) hb _).setCell (p := ⟨b, 10, none⟩) hb _).setCell (p := ⟨b, 11, none⟩) hb _).setCell (p := ⟨b, 12, none⟩) hb _
/-- The cells of a record are no frozen ones. -/
theorem Has.frozen13 {w : World} {b : Nat} {t : TypeId} {cs : Array Value} (h : Has w b t cs) :
    (w.frozen? ⟨b, 0, none⟩ = false ∧ w.frozen? ⟨b, 1, none⟩ = false ∧ w.frozen? ⟨b, 2, none⟩ = false ∧ w.frozen? ⟨b, 3, none⟩ = false ∧ w.frozen? ⟨b, 4, none⟩ = false) ∧
    (w.frozen? ⟨b, 5, none⟩ = false ∧ w.frozen? ⟨b, 6, none⟩ = false ∧ w.frozen? ⟨b, 7, none⟩ = false ∧ w.frozen? ⟨b, 8, none⟩ = false) ∧
    (w.frozen? ⟨b, 9, none⟩ = false ∧ w.frozen? ⟨b, 10, none⟩ = false ∧ w.frozen? ⟨b, 11, none⟩ = false ∧ w.frozen? ⟨b, 12, none⟩ = false) :=
  ⟨⟨h.frozen 0, h.frozen 1, h.frozen 2, h.frozen 3, h.frozen 4⟩, ⟨h.frozen 5, h.frozen 6, h.frozen 7, h.frozen 8⟩, ⟨h.frozen 9, h.frozen 10, h.frozen 11, h.frozen 12⟩⟩

/-- What a record's reading leaves. -/
def RecStep (w : World) (r : Option S11) (e : Ending) (w' : World) : Prop :=
  match r with
  | some s => e = .returned s.val ∧ Below w.heap.size w w'
  | none => e = .panicked [{ v := .iface 35 (.int .i64 2), recovered := false }] ∧ Below w.heap.size w w'
/-- Between the takes of a record's reading. -/
structure Mid (w : World) (lo g : Nat) (bs : List UInt8) (er : Int) (w1 : World) : Prop where
  inn : InAt w1 lo g bs er
  low : Below w.heap.size w w1
  res : Has w1 w.heap.size 32 S11.zero.cells
theorem Mid.step {w w1 w2 : World} {lo g : Nat} {bs bs2 : List UInt8} {er er2 : Int} (m : Mid w lo g bs er w1) (hg : w.heap.size < g) (i : InAt w2 lo g bs2 er2) (f : Only (fun i => i = g) w1 w2) : Mid w lo g bs2 er2 w2 :=
  ⟨i, m.low.trans (f.below m.low.size (fun i hi h => by omega)), m.res.only f (by omega)⟩
theorem Mid.tabs {w w1 : World} {lo g : Nat} {bs : List UInt8} {er : Int} (m : Mid w lo g bs er w1) (hT : Tabs w) : Tabs w1 := hT.below m.low

theorem takeSt_len (n : Int) (bs : List UInt8) (er : Int) : (takeSt n bs er).2.1.length ≤ bs.length := by
  unfold takeSt
  repeat' split
  all_goals simp
theorem rawSt_len2 (n : Int) (bs : List UInt8) (er : Int) : (rawSt n bs er).2.1.length ≤ bs.length := by
  unfold rawSt
  repeat' split
  all_goals simp
theorem qTake_len (bs : List UInt8) (er : Int) : (qTake bs er).2.1.length ≤ bs.length := by
  unfold qTake
  simp only
  exact Nat.le_trans (takeSt_len _ _ _) (Nat.le_trans (takeSt_len _ _ _) (takeSt_len _ _ _))
theorem tst_len (bs : List UInt8) (er : Int) : (tst bs er).2.1.length ≤ bs.length := by
  unfold tst
  exact Nat.le_trans (rawSt_len2 _ _ _) (takeSt_len _ _ _)
theorem textSt_len {bs : List UInt8} {er : Int} {t r : List UInt8} (h : textSt bs er = some (t, r)) : r.length ≤ bs.length := by
  rw [(textSt_some h).2.2.1]
  exact tst_len _ _

set_option maxHeartbeats 1000000 in
theorem record_any (v : Value) (bs : List UInt8) (lo hi : Nat) (w : World) (hv : SlIs w lo hi v bs) (hhi : hi ≤ w.heap.size) (hl : bs.length ≤ 100000) (hT : Tabs w) :
    Calls Tryz.prog 95 #[v] w (RecStep w (recOf bs)) := by
  have tk := takeSt_lt 2 bs 0
  have nk := takeSt_len 2 bs 0
  obtain ⟨k, hk⟩ : ∃ k, k = takeSt 2 bs 0 := ⟨_, rfl⟩
  rw [show takeSt ((2 : Nat) : Int) bs 0 = k from hk.symm] at tk
  rw [← hk] at nk
  have td := takeSt_lt 4 k.2.1 k.2.2
  have nd := takeSt_len 4 k.2.1 k.2.2
  obtain ⟨d, hd⟩ : ∃ d, d = takeSt 4 k.2.1 k.2.2 := ⟨_, rfl⟩
  rw [show takeSt ((4 : Nat) : Int) k.2.1 k.2.2 = d from hd.symm] at td
  rw [← hd] at nd
  have tq := qTake_ok d.2.1 d.2.2
  have nq := qTake_len d.2.1 d.2.2
  obtain ⟨q, hq⟩ : ∃ q, q = qTake d.2.1 d.2.2 := ⟨_, rfl⟩
  rw [← hq] at tq nq
  have tm := takeSt_lt 4 q.2.1 q.2.2
  have nm := takeSt_len 4 q.2.1 q.2.2
  obtain ⟨m, hm⟩ : ∃ m, m = takeSt 4 q.2.1 q.2.2 := ⟨_, rfl⟩
  rw [show takeSt ((4 : Nat) : Int) q.2.1 q.2.2 = m from hm.symm] at tm
  rw [← hm] at nm
  have ta := takeSt_lt 4 m.2.1 m.2.2
  have na := takeSt_len 4 m.2.1 m.2.2
  obtain ⟨a, ha⟩ : ∃ a, a = takeSt 4 m.2.1 m.2.2 := ⟨_, rfl⟩
  rw [show takeSt ((4 : Nat) : Int) m.2.1 m.2.2 = a from ha.symm] at ta
  rw [← ha] at na
  have tc := takeSt_lt 4 a.2.1 a.2.2
  have nc := takeSt_len 4 a.2.1 a.2.2
  obtain ⟨c, hc⟩ : ∃ c, c = takeSt 4 a.2.1 a.2.2 := ⟨_, rfl⟩
  rw [show takeSt ((4 : Nat) : Int) a.2.1 a.2.2 = c from hc.symm] at tc
  rw [← hc] at nc
  have tl := takeSt_lt 8 c.2.1 c.2.2
  have nl := takeSt_len 8 c.2.1 c.2.2
  obtain ⟨l, hl⟩ : ∃ l, l = takeSt 8 c.2.1 c.2.2 := ⟨_, rfl⟩
  rw [show takeSt ((8 : Nat) : Int) c.2.1 c.2.2 = l from hl.symm] at tl
  rw [← hl] at nl
  have hr : recOf bs = (textSt l.2.1 l.2.2).bind fun n => (textSt n.2 0).bind fun u => (textSt u.2 0).bind fun g => (textSt g.2 0).bind fun x =>
      if x.2 = [] then some ⟨k.1, d.1, q.1, m.1, a.1, c.1, l.1, n.1, u.1, g.1, x.1⟩ else none := by
    rw [hl, hc, ha, hm, hq, hd, hk]
    rfl
  obtain ⟨k1, k2, k3⟩ := k
  obtain ⟨d1, d2, d3⟩ := d
  obtain ⟨q1, q2, q3⟩ := q
  obtain ⟨m1, m2, m3⟩ := m
  obtain ⟨a1, a2, a3⟩ := a
  obtain ⟨c1, c2, c3⟩ := c
  obtain ⟨l1, l2, l3⟩ := l
  simp only at hr tk nk hk td nd hd tq nq hq tm nm hm ta na ha tc nc hc tl nl hl
  have wk : IntKind.u16.wrap (k1 : Int) = (k1 : Int) := IntWalk.u16_in _ (by omega)
  have wd : IntKind.u32.wrap (d1 : Int) = (d1 : Int) := IntWalk.u32_in _ (by omega)
  have wm : IntKind.u32.wrap (m1 : Int) = (m1 : Int) := IntWalk.u32_in _ (by omega)
  have wa : IntKind.u32.wrap (a1 : Int) = (a1 : Int) := IntWalk.u32_in _ (by omega)
  have wc : IntKind.u32.wrap (c1 : Int) = (c1 : Int) := IntWalk.u32_in _ (by omega)
  have Hk := Lib.hid hk
  have Hd := Lib.hid hd
  have Hq := Lib.hid hq
  have Hm := Lib.hid hm
  have Ha := Lib.hid ha
  have Hc := Lib.hid hc
  have Hl := Lib.hid hl
  have HR := Lib.hid hr
  have hl2 : l2.length ≤ 100000 := by omega
  have z0 : Below w.heap.size w (w.alloc (.cells S11.zero.cells 32)) := (Below.refl _ w).alloc (Nat.le_refl _) _
  have r0 : Has (w.alloc (.cells S11.zero.cells 32)) w.heap.size 32 S11.zero.cells := Has.new _ _ _
  have C0 := Lib.hid (of_any v bs lo hi (w.alloc (.cells S11.zero.cells 32)) (hv.alloc hhi) (by simp; omega) (by omega))
  have HT := Lib.hid hT
  have hlt := hT.lt
  have fin0 : Hid (∀ g w1, InAt w1 (w.heap.size + 1) g bs 0 → Below (w.heap.size + 1) (w.alloc (.cells S11.zero.cells 32)) w1 → w.heap.size < g ∧ Mid w (w.heap.size + 1) g bs 0 w1) := by
    intro g w1 i1 b1
    exact ⟨by have := i1.lt; omega, i1, z0.trans (b1.mono (by omega)), r0.only (Only.of_below b1) (by omega)⟩
  clear z0 r0 hv hT hr hk nk hd nd hq nq hm nm ha na hc nc hl nl
  unfold S11.zero S11.cells at C0 fin0
  have C0 : Hid (Calls Tryz.prog 17 #[v] _ (fun e w1 => ∃ g, e = .returned (.pointer (some ⟨g, 0, none⟩)) ∧ w.heap.size < g ∧ Mid w (w.heap.size + 1) g bs 0 w1)) := Lib.hid (C0.out.mono (by
    rintro e w1 ⟨g, he, i1, b1⟩
    simp only [World.size_alloc] at i1 b1
    exact ⟨g, he, fin0.out g w1 i1 b1⟩))
  clear fin0
  go_enter Tryz.func95, Tryz.ntmps95
  go_wp2_with fail
  refine C0.out.mono ?_
  rintro e w1 ⟨g, rfl, hg, m1x⟩
  have M1 := Lib.hid m1x
  clear m1x C0
  go_wp2_with fail
  refine (take_any (w.heap.size + 1) g 2 bs 0 w1 M1.out.inn).mono ?_
  rintro e w2 ⟨rfl, i1, f1⟩
  rw [← Hk.out] at i1 ⊢
  have M2 := Lib.hid (M1.out.step hg i1 f1)
  clear i1 f1 M1
  go_wp2_with fail
  refine (take_any (w.heap.size + 1) g 4 k2 k3 w2 M2.out.inn).mono ?_
  rintro e w3 ⟨rfl, i1, f1⟩
  rw [← Hd.out] at i1 ⊢
  have M3 := Lib.hid (M2.out.step hg i1 f1)
  clear i1 f1 M2
  go_wp2_with fail
  refine (qidtake_any (w.heap.size + 1) g d2 d3 w3 M3.out.inn).mono ?_
  rintro e w4 ⟨rfl, i1, f1⟩
  rw [← Hq.out] at i1 ⊢
  unfold Q3.val
  have M4 := Lib.hid (M3.out.step hg i1 f1)
  clear i1 f1 M3
  go_wp2_with fail
  refine (take_any (w.heap.size + 1) g 4 q2 q3 w4 M4.out.inn).mono ?_
  rintro e w5 ⟨rfl, i1, f1⟩
  rw [← Hm.out] at i1 ⊢
  have M5 := Lib.hid (M4.out.step hg i1 f1)
  clear i1 f1 M4
  go_wp2_with fail
  refine (take_any (w.heap.size + 1) g 4 m2 m3 w5 M5.out.inn).mono ?_
  rintro e w6 ⟨rfl, i1, f1⟩
  rw [← Ha.out] at i1 ⊢
  have M6 := Lib.hid (M5.out.step hg i1 f1)
  clear i1 f1 M5
  go_wp2_with fail
  refine (take_any (w.heap.size + 1) g 4 a2 a3 w6 M6.out.inn).mono ?_
  rintro e w7 ⟨rfl, i1, f1⟩
  rw [← Hc.out] at i1 ⊢
  have M7 := Lib.hid (M6.out.step hg i1 f1)
  clear i1 f1 M6
  go_wp2_with fail
  refine (take_any (w.heap.size + 1) g 8 c2 c3 w7 M7.out.inn).mono ?_
  rintro e w8 ⟨rfl, i1, f1⟩
  rw [← Hl.out] at i1 ⊢
  have M8 := Lib.hid (M7.out.step hg i1 f1)
  clear i1 f1 M7
  clear Hk Hd Hq Hm Ha Hc Hl
  have CT := Lib.hid (taketext_any (w.heap.size + 1) g l2 l3 w8 M8.out.inn (M8.out.tabs HT.out) (by omega) (by omega) (by omega))
  cases hnt : textSt l2 l3 with
  | none =>
    rw [hnt] at CT
    have hR : recOf bs = none := by
      rw [HR.out, hnt]
      rfl
    rw [hR]
    go_wp2_with fail
    refine CT.out.mono ?_
    rintro e w9 ⟨rfl, f1⟩
    have R : Hid (RecStep w none (.panicked [{ v := .iface 35 (.int .i64 2), recovered := false }]) w9) := ⟨rfl, M8.out.low.trans (f1.below M8.out.low.size (fun i hi h => by omega))⟩
    clear CT HR M8 f1
    go_wp2
    exact ⟨rfl, R.out⟩
  | some p =>
  obtain ⟨nt, nr⟩ := p
  have hlnr := textSt_len hnt
  rw [hnt] at CT
  go_wp2_with fail
  refine CT.out.mono ?_
  rintro e w9 ⟨rfl, i1, f1⟩
  have M9 := Lib.hid (M8.out.step hg i1 f1)
  clear i1 f1 M8 CT
  have CT := Lib.hid (taketext_any (w.heap.size + 1) g nr 0 w9 M9.out.inn (M9.out.tabs HT.out) (by omega) (by omega) (by omega))
  cases hut : textSt nr 0 with
  | none =>
    rw [hut] at CT
    have hR : recOf bs = none := by
      rw [HR.out, hnt, Option.bind_some, hut]
      rfl
    rw [hR]
    go_wp2_with fail
    refine CT.out.mono ?_
    rintro e w10 ⟨rfl, f1⟩
    have R : Hid (RecStep w none (.panicked [{ v := .iface 35 (.int .i64 2), recovered := false }]) w10) := ⟨rfl, M9.out.low.trans (f1.below M9.out.low.size (fun i hi h => by omega))⟩
    clear CT HR M9 f1
    go_wp2
    exact ⟨rfl, R.out⟩
  | some p =>
  obtain ⟨ut, ur⟩ := p
  have hlur := textSt_len hut
  rw [hut] at CT
  go_wp2_with fail
  refine CT.out.mono ?_
  rintro e w10 ⟨rfl, i1, f1⟩
  have M10 := Lib.hid (M9.out.step hg i1 f1)
  clear i1 f1 M9 CT
  have CT := Lib.hid (taketext_any (w.heap.size + 1) g ur 0 w10 M10.out.inn (M10.out.tabs HT.out) (by omega) (by omega) (by omega))
  cases hgt : textSt ur 0 with
  | none =>
    rw [hgt] at CT
    have hR : recOf bs = none := by
      rw [HR.out, hnt, Option.bind_some, hut, Option.bind_some, hgt]
      rfl
    rw [hR]
    go_wp2_with fail
    refine CT.out.mono ?_
    rintro e w11 ⟨rfl, f1⟩
    have R : Hid (RecStep w none (.panicked [{ v := .iface 35 (.int .i64 2), recovered := false }]) w11) := ⟨rfl, M10.out.low.trans (f1.below M10.out.low.size (fun i hi h => by omega))⟩
    clear CT HR M10 f1
    go_wp2
    exact ⟨rfl, R.out⟩
  | some p =>
  obtain ⟨gt, gr⟩ := p
  have hlgr := textSt_len hgt
  rw [hgt] at CT
  go_wp2_with fail
  refine CT.out.mono ?_
  rintro e w11 ⟨rfl, i1, f1⟩
  have M11 := Lib.hid (M10.out.step hg i1 f1)
  clear i1 f1 M10 CT
  have CT := Lib.hid (taketext_any (w.heap.size + 1) g gr 0 w11 M11.out.inn (M11.out.tabs HT.out) (by omega) (by omega) (by omega))
  cases hxt : textSt gr 0 with
  | none =>
    rw [hxt] at CT
    have hR : recOf bs = none := by
      rw [HR.out, hnt, Option.bind_some, hut, Option.bind_some, hgt, Option.bind_some, hxt]
      rfl
    rw [hR]
    go_wp2_with fail
    refine CT.out.mono ?_
    rintro e w12 ⟨rfl, f1⟩
    have R : Hid (RecStep w none (.panicked [{ v := .iface 35 (.int .i64 2), recovered := false }]) w12) := ⟨rfl, M11.out.low.trans (f1.below M11.out.low.size (fun i hi h => by omega))⟩
    clear CT HR M11 f1
    go_wp2
    exact ⟨rfl, R.out⟩
  | some p =>
  obtain ⟨xt, xr⟩ := p
  have hlxr := textSt_len hxt
  rw [hxt] at CT
  go_wp2_with fail
  refine CT.out.mono ?_
  rintro e w12 ⟨rfl, i1, f1⟩
  have M12 := Lib.hid (M11.out.step hg i1 f1)
  clear i1 f1 M11 CT
  obtain ⟨S, hS⟩ : ∃ S : S11, S = ⟨k1, d1, q1, m1, a1, c1, l1, nt, ut, gt, xt⟩ := ⟨_, rfl⟩
  obtain ⟨W, hW⟩ : ∃ W, W = w12.alloc (.cells S.cells 32) := ⟨_, rfl⟩
  have hr2 : recOf bs = if xr = [] then some S else none := by
    rw [HR.out, hnt, Option.bind_some, hut, Option.bind_some, hgt, Option.bind_some, hxt, Option.bind_some, hS]
  have M13 : Hid (Mid w (w.heap.size + 1) g xr 0 W) := by
    rw [hW]
    exact ⟨M12.out.inn.only ((Only.refl (fun _ => False) w12).alloc _) (fun _ _ _ h => h), M12.out.low.alloc M12.out.low.size _, M12.out.res.alloc _⟩
  have N13 : Has W w12.heap.size 32 S.cells := by rw [hW]; exact Has.new _ _ _
  have e : w12.alloc (.cells S.cells 32) = W := hW.symm
  obtain ⟨⟨d0, d1', d2', d3', d4⟩, ⟨d5, d6, d7, d8⟩, ⟨d9, d10, d11, d12⟩⟩ := N13.cells13
  rw [hS] at e d0 d1' d2' d3' d4 d5 d6 d7 d8 d9 d10 d11 d12
  unfold S11.cells at e
  simp only at e d0 d1' d2' d3' d4 d5 d6 d7 d8 d9 d10 d11 d12
  have HR2 := Lib.hid hr2
  have E := Lib.hid e
  have hS := Lib.hid hS
  clear HR hnt hut hgt hxt M12 hW N13 e hr2
  go_wp2_with fail
  rw [E.out]
  clear E
  refine (left_any (w.heap.size + 1) g xr 0 W M13.out.inn).mono ?_
  rintro e w' ⟨rfl, rfl⟩
  by_cases hx : xr = []
  · subst hx
    obtain ⟨⟨x0, x1, x2, x3, x4⟩, ⟨x5, x6, x7, x8⟩, ⟨x9, x10, x11, x12⟩⟩ := M13.out.res.cells13
    obtain ⟨⟨y0, y1, y2, y3, y4⟩, ⟨y5, y6, y7, y8⟩, ⟨y9, y10, y11, y12⟩⟩ := M13.out.res.frozen13
    have HR3 : Hid (recOf bs = some S) := Lib.hid (by rw [HR2.out, if_pos rfl])
    clear HR2
    rw [List.length_nil]
    go_wp2_with fail
    refine (must_yes 2 W).mono ?_
    rintro e w' ⟨rfl, rfl⟩
    go_wp2_with fail
    refine bodyPost_ret (results_cell_row rfl _ _ w.heap.size 32 _ (0, 0) _ rfl (has_set13 M13.out.res ⟨k1, d1, q1, m1, a1, c1, l1, nt, ut, gt, xt⟩) Tryz.underlying32 rfl Tryz.statSize13) rfl ?_
    rw [HR3.out]
    refine ⟨by rw [hS.out]; rfl, ?_⟩
    exact M13.out.low.trans (((Only.refl (fun i => i = w.heap.size) W).set13 (fun _ => rfl) ⟨k1, d1, q1, m1, a1, c1, l1, nt, ut, gt, xt⟩).below M13.out.low.size (fun i hi h => by omega))
  · have hd : ((xr.length : Int) == 0) = false := by
      have : xr.length ≠ 0 := fun h => hx (List.eq_nil_of_length_eq_zero h)
      simpa using this
    have R : Hid (RecStep w (recOf bs) (.panicked [{ v := .iface 35 (.int .i64 2), recovered := false }]) W) := by
      rw [HR2.out, if_neg hx]
      exact ⟨rfl, M13.out.low⟩
    clear M13 HR2 d0 d1' d2' d3' d4 d5 d6 d7 d8 d9 d10 d11 d12
    go_wp2_with fail
    refine (must_no 2 W).mono ?_
    rintro e w' ⟨rfl, rfl⟩
    go_wp2
    exact ⟨rfl, R.out⟩
end Go.Proofs.YtepiifbleoimkaaGreatDoor
namespace Go.Proofs.YtepiifbleoimkaaGreatDoor
open Go.RowKit
set_option maxRecDepth 100000

/-- What the next record's taking leaves. -/
def TakeRec (w : World) (lo g : Nat) (r : Except Int (S11 × List UInt8)) (e : Ending) (w' : World) : Prop :=
  match r with
  | .ok (s, rest) => e = .returned s.val ∧ InAt w' lo g rest 0 ∧ Only (fun i => i = g) w w'
  | .error er => e = .panicked [{ v := .iface 35 (.int .i64 er), recovered := false }] ∧ Only (fun i => i = g) w w'

set_option maxHeartbeats 1000000 in
theorem stattake_any (lo g : Nat) (bs : List UInt8) (w : World) (hI : InAt w lo g bs 0) (hT : Tabs w) (hg : 1 < g ∧ 2 < g) (hb : bs.length ≤ 100000) :
    Calls Tryz.prog 90 #[.pointer (some ⟨g, 0, none⟩)] w (TakeRec w lo g (firstOf bs)) := by
  have hlt := takeSt2_lt bs 0
  have hl1 := rawSt_len ((takeSt 2 bs 0).1 : Int) (takeSt 2 bs 0).2.1 (takeSt 2 bs 0).2.2
  have hts : tst bs 0 = rawSt ((takeSt 2 bs 0).1 : Int) (takeSt 2 bs 0).2.1 (takeSt 2 bs 0).2.2 := rfl
  have hf : firstOf bs = if (tst bs 0).2.2 ≠ 0 then .error 4 else match recOf (tst bs 0).1 with
    | none => .error 2
    | some s => .ok (s, (tst bs 0).2.1) := rfl
  have hgl := hI.lt
  have k0 : Only (fun _ => False) w (w.alloc (.cells S11.zero.cells 32)) := (Only.refl _ w).alloc _
  have r0 : Has (w.alloc (.cells S11.zero.cells 32)) w.heap.size 32 S11.zero.cells := Has.new _ _ _
  have c1 := take_any lo g 2 bs 0 (w.alloc (.cells S11.zero.cells 32)) (hI.only k0 (fun _ _ _ h => h))
  have C1 : Hid (Calls Tryz.prog 36 #[.pointer (some ⟨g, 0, none⟩), .int .i64 2] (w.alloc (.cells S11.zero.cells 32)) (fun e w' => e = .returned (.int .u64 (takeSt 2 bs 0).1) ∧ InAt w' lo g (takeSt 2 bs 0).2.1 (takeSt 2 bs 0).2.2 ∧ Only (fun i => i = g) w w' ∧ Has w' w.heap.size 32 S11.zero.cells)) :=
    Lib.hid (c1.mono (by
      rintro e w' ⟨he, i1, f1⟩
      exact ⟨he, i1, (k0.mono (fun _ _ h => h.elim)).trans f1 (fun _ _ h => h), r0.only f1 (by omega)⟩))
  generalize takeSt 2 bs 0 = s1 at C1 hlt hl1 hts
  obtain ⟨n, bs1, er1⟩ := s1
  simp only at hlt hl1 hts C1
  rw [← hts] at hl1
  have hwu : IntKind.i64.wrap (n : Int) = (n : Int) := IntWalk.i64_in _ (by omega)
  have Hts := Lib.hid hts
  have HF := Lib.hid hf
  have HT := Lib.hid (fun w' (k : Only (fun i => i = g) w w') => hT.only k (by omega) (by omega))
  clear hI hT hts hf k0 r0 c1
  unfold S11.zero S11.cells at C1
  go_enter Tryz.func90, Tryz.ntmps90
  go_wp2_with fail
  refine C1.out.mono ?_
  rintro e w1 ⟨rfl, i1, k1, r1⟩
  have C2 := Lib.hid (raw_any lo g (n : Int) bs1 er1 w1 i1 (by omega))
  rw [← Hts.out] at C2
  have K1 := Lib.hid k1
  have R1 : Hid (Has w1 w.heap.size 32 S11.zero.cells) := r1
  clear i1 k1 r1 C1
  go_wp2_with fail
  refine C2.out.mono ?_
  rintro e w2 ⟨u, rfl, ow, i2, k2⟩
  have K2 : Hid (Only (fun i => i = g) w w2) := K1.out.trans k2 (fun _ _ h => h)
  have R2 := Lib.hid (R1.out.only k2 (by omega))
  have I2 := Lib.hid i2
  have C3 := Lib.hid (err_any lo g _ _ w2 i2)
  have C4 := Lib.hid (record_any u (tst bs 0).1 _ _ w2 (owns_SlIs ow) (Nat.le_refl _) (by omega) (HT.out _ K2.out))
  clear ow i2 k2 K1 R1 C2 HT Hts
  generalize tst bs 0 = st at C3 C4 I2 HF hl1
  obtain ⟨x, bs2, er2⟩ := st
  simp only at C3 C4 I2 HF hl1
  go_wp2_with fail
  refine C3.out.mono ?_
  rintro e w' ⟨rfl, rfl⟩
  clear C3
  by_cases he : er2 = 0
  · subst he
    go_wp2_with fail
    refine (must_yes 4 w2).mono ?_
    rintro e w' ⟨rfl, rfl⟩
    go_wp2_with fail
    refine C4.out.mono ?_
    intro e w3 hst
    cases hr : recOf x with
    | none =>
      rw [hr] at hst
      obtain ⟨rfl, b3⟩ := hst
      have R : Hid (TakeRec w lo g (firstOf bs) (.panicked [{ v := .iface 35 (.int .i64 2), recovered := false }]) w3) := by
        rw [HF.out, if_neg (by simp), hr]
        exact ⟨rfl, K2.out.trans (Only.of_below b3) (fun i hi h => by have := K2.out.size; omega)⟩
      clear C4 b3 hr HF K2 R2 I2
      go_wp2
      exact ⟨rfl, R.out⟩
    | some s =>
      rw [hr] at hst
      obtain ⟨rfl, b3⟩ := hst
      have K3 : Hid (Only (fun i => i = g) w w3) := K2.out.trans (Only.of_below b3) (fun i hi h => by have := K2.out.size; omega)
      have R3 := Lib.hid (R2.out.only (Only.of_below b3) (by have := R2.out.lt; omega))
      have I3 := Lib.hid (I2.out.only (Only.of_below b3) (fun i _ hi h => by have := I2.out.lt; omega))
      have HF3 : Hid (firstOf bs = .ok (s, bs2)) := Lib.hid (by rw [HF.out, if_neg (by simp), hr])
      obtain ⟨⟨x0, x1, x2, x3, x4⟩, ⟨x5, x6, x7, x8⟩, ⟨x9, x10, x11, x12⟩⟩ := R3.out.cells13
      obtain ⟨⟨y0, y1, y2, y3, y4⟩, ⟨y5, y6, y7, y8⟩, ⟨y9, y10, y11, y12⟩⟩ := R3.out.frozen13
      clear C4 b3 hr HF K2 R2 I2
      unfold S11.val S11.cells
      go_wp2_with fail
      refine bodyPost_ret (results_cell_row rfl _ _ w.heap.size 32 _ (0, 0) _ rfl (has_set13 R3.out s) Tryz.underlying32 rfl Tryz.statSize13) rfl ?_
      rw [HF3.out]
      refine ⟨rfl, ?_, K3.out.set13 (fun h => absurd h (Nat.lt_irrefl _)) s⟩
      exact I3.out.only ((Only.refl (fun i => i = w.heap.size) w3).set13 (fun _ => rfl) s) (fun i _ hi h => by omega)
  · have hd : (er2 == 0) = false := by simpa using he
    have R : Hid (TakeRec w lo g (firstOf bs) (.panicked [{ v := .iface 35 (.int .i64 4), recovered := false }]) w2) := by
      rw [HF.out, if_pos he]
      exact ⟨rfl, K2.out⟩
    clear C4 HF K2 R2 I2
    go_wp2_with fail
    refine (must_no 4 w2).mono ?_
    rintro e w' ⟨rfl, rfl⟩
    go_wp2
    exact ⟨rfl, R.out⟩

/-- What Decode's function leaves in its variables. -/
def Dec1Step (w : World) (lo g sb : Nat) (r : Except Int (S11 × List UInt8)) (e : Ending) (w' : World) : Prop :=
  match r with
  | .ok (s, rest) => e = .returned (.tuple #[]) ∧ Has w' sb 32 s.cells ∧ InAt w' lo g rest 0 ∧ Only (fun i => i = g ∨ i = sb) w w'
  | .error er => e = .panicked [{ v := .iface 35 (.int .i64 er), recovered := false }] ∧ Only (fun i => i = g ∨ i = sb) w w'

set_option maxHeartbeats 1000000 in
theorem decode1_any (lo g ib sb : Nat) (bs : List UInt8) (w : World) (hI : InAt w lo g bs 0) (hi : Has w ib 56 #[.pointer (some ⟨g, 0, none⟩)]) (hs : Has w sb 32 S11.zero.cells) (hsb : sb < lo) (hT : Tabs w) (hg : 1 < g ∧ 2 < g) (hb : bs.length ≤ 100000) :
    Calls Tryz.prog 89 #[.pointer (some ⟨ib, 0, none⟩), .pointer (some ⟨sb, 0, none⟩)] w (Dec1Step w lo g sb (firstOf bs)) := by
  have c0 := hi.cell 0
  simp at c0
  have hgl := hI.lt
  have C := Lib.hid (stattake_any lo g bs w hI hT hg hb)
  have HS := Lib.hid hs
  clear hI hi hs hT
  go_enter Tryz.func89, Tryz.ntmps89
  go_wp2_with fail
  refine C.out.mono ?_
  intro e w1 hst
  cases hr : firstOf bs with
  | error er =>
    rw [hr] at hst
    obtain ⟨rfl, k1⟩ := hst
    have R : Hid (Dec1Step w lo g sb (.error er) (.panicked [{ v := .iface 35 (.int .i64 er), recovered := false }]) w1) := ⟨rfl, k1.mono (fun _ _ h => .inl h)⟩
    clear C k1 hr HS
    go_wp2
    exact ⟨rfl, R.out⟩
  | ok p =>
    obtain ⟨s, rest⟩ := p
    rw [hr] at hst
    obtain ⟨rfl, i1, k1⟩ := hst
    have h1 := HS.out.only k1 (by omega)
    have R : Hid (Dec1Step w lo g sb (firstOf bs) (.returned (.tuple #[])) (set13 w1 sb s)) := by
      rw [hr]
      exact ⟨rfl, has_set13 h1 s, i1.only ((Only.refl (fun i => i = sb) w1).set13 (fun _ => rfl) s) (fun i hi _ h => by omega), (k1.mono (T := fun i => i = g ∨ i = sb) (fun _ _ h => .inl h)).set13 (fun _ => .inr rfl) s⟩
    obtain ⟨⟨x0, x1, x2, x3, x4⟩, ⟨x5, x6, x7, x8⟩, ⟨x9, x10, x11, x12⟩⟩ := h1.cells13
    obtain ⟨⟨y0, y1, y2, y3, y4⟩, ⟨y5, y6, y7, y8⟩, ⟨y9, y10, y11, y12⟩⟩ := h1.frozen13
    clear C i1 k1 h1 hr HS
    unfold set13 at R
    unfold S11.val S11.cells
    go_wp2
    go_end0
    exact R.out
end Go.Proofs.YtepiifbleoimkaaGreatDoor
namespace Go.Proofs.YtepiifbleoimkaaGreatDoor
open Go.RowKit

theorem takeH {P : Program} {ops : Array Oper} {Q : Exit → Act → World → Prop} {md : Region.Mode} {S : World → Prop} {i d : Nat} {v : Value} {fuel : Nat} {listed : Array Bool} {a : Act} {w : World}
    (hs : Region.noSelect ops = true) (hf : Region.free md ops listed i = true) (hr : (Region.ready md ops listed).contains i = true)
    (hd : ops[i]?.map (fun o => o.dst) = some (some d)) (hQ : ∀ c a w, Q (.panic c) (a.put (some d) v) w → Q (.panic c) a w)
    (hw : ops[i]?.map (fun o => Region.wanted o (yielded ops a.tmps)) = some true) (hy : ∀ o, ops[i]? = some o → ∀ w, S w → (execOp a.eval o).run P w = .ok (.value v) w) (hS : S w)
    (h : wpAnyH P md ops Q S fuel (listed.setIfInBounds i true) (a.put (some d) v) w) : wpAnyH P md ops Q S (fuel + 1) listed a w := by
  obtain ⟨o, ho, hod⟩ := Option.map_eq_some_iff.1 hd
  obtain ⟨o', ho', how⟩ := Option.map_eq_some_iff.1 hw
  rw [ho] at ho'
  injection ho' with ho'
  subst ho'
  exact wpAnyH_take ho hs hf hr (by rw [hod]; exact hQ) (Or.inl ⟨how, hy o ho⟩) hS (by rw [hod]; exact h)
/-- A whole struct loaded. -/
theorem exec_load_row {P : Program} {o : Oper} {a : Act} {w : World} {ty : TypeId} {x : Operand} {g : Nat} {t : TypeId} {cs : Array Value} {d : TypeDesc} (ho : o.op = .load ty x)
    (hx : a.eval x = .pointer (some ⟨g, 0, none⟩)) (hg : Has w g t cs) (hu : P.underlying ty = some d) (hd : (match d with | .struct _ | .array _ _ => true | _ => false) = true) (hi : (P.info? ty).map (·.size) = some cs.size) :
    (execOp a.eval o).run P w = .ok (.value (.agg cs)) w := by
  unfold execOp
  simp only [ho, hx, Instr.loadAt, Instr.sureAddr, Sem.run_bind, Sem.run_pure, Result.andThen_ok, run_loadVar_row w g t ty cs (0, 0) d hg hu hd hi]
/-- A whole row stored. -/
theorem Has.setRow {w : World} {g : Nat} {t : TypeId} {cs : Array Value} (h : Has w g t cs) (cs' : Array Value) : Has (w.setRow g cs') g t cs' := setRow_heap w g cs cs' t _ h
theorem Only.setRow {S : Nat → Prop} {a b : World} (h : Only S a b) {g : Nat} (hg : g < a.heap.size → S g) (cs : Array Value) : Only S a (b.setRow g cs) := by
  refine ⟨h.os, h.tape, h.output, by rw [setRow_size]; exact h.size, fun i hi hn => ?_⟩
  rw [← h.block i hi hn]
  have hne : g ≠ i := fun e => hn (e ▸ hg (e ▸ hi))
  simp [World.setRow, Array.getElem?_modify, hne]
end Go.Proofs.YtepiifbleoimkaaGreatDoor
namespace Go.Proofs.YtepiifbleoimkaaGreatDoor
open Go.RowKit
set_option maxRecDepth 100000

/-- A struct and two more results. -/
theorem results_cell_row2 {P : Program} {fn : Func} {p u1 u2 : Tmp} {ty : TypeId} (h : fn.results = #[.cell p ty, .tmp u1, .tmp u2]) (tmps : Array Value) (w : World) (g : Nat) (t : TypeId) (cs : Array Value) (fr : Nat × Nat) (d : TypeDesc)
    (hp : tmps.getD p undef = .pointer (some ⟨g, 0, none⟩)) (hg : w.heap[g]? = some (.cells cs t fr))
    (hu : P.underlying ty = some d) (hd : (match d with | .struct _ | .array _ _ => true | _ => false) = true) (hi : (P.info? ty).map (·.size) = some cs.size) :
    (results fn tmps).run P w = .ok (.tuple #[.agg cs, tmps.getD u1 undef, tmps.getD u2 undef]) w := by
  have hp' : tmps[p]?.getD undef = .pointer (some ⟨g, 0, none⟩) := by simpa using hp
  simp [results, h, hp', asAddr, run_loadVar_row w g t ty cs fr d hg hu hd hi, Result.andThen]

theorem Tryz.enterDecode : ∀ args w, (callFunc 89 args).run Tryz.prog w = .ok (.enter 89 args) w := enters_of Tryz.func89 (by kernel_rfl) rfl

theorem S11.one (s : S11) : s.cells.all (fun x => x.oneCell') = true := by simp [S11.cells, Value.oneCell']
/-- What Decode answers. -/
def decAns (bs : List UInt8) : S11 × Int × Int :=
  match firstOf bs with
  | .ok (s, rest) => (s, (bs.length : Int) - rest.length, 0)
  | .error er => (S11.zero, 0, er)
def DecodeStep (w : World) (bs : List UInt8) (e : Ending) (w' : World) : Prop :=
  e = .returned (.tuple #[(decAns bs).1.val, .int .i64 (decAns bs).2.1, .int .i64 (decAns bs).2.2]) ∧ Below w.heap.size w w'
theorem firstOf_len {bs : List UInt8} {s : S11} {rest : List UInt8} (h : firstOf bs = .ok (s, rest)) : rest.length ≤ bs.length ∧ recOf (tst bs 0).1 = some s ∧ (tst bs 0).2.2 = 0 ∧ rest = (tst bs 0).2.1 := by
  unfold firstOf at h
  split at h
  · cases h
  · rename_i h0
    split at h
    · cases h
    · rename_i s' hr
      injection h with h
      injection h with h1 h2
      exact ⟨by rw [← h2]; exact tst_len _ _, by rw [hr, h1], by simpa using h0, h2.symm⟩
theorem firstOf_err {bs : List UInt8} {er : Int} (h : firstOf bs = .error er) : er = 4 ∨ er = 2 := by
  unfold firstOf at h
  split at h
  · injection h with h
    exact .inl h.symm
  · split at h
    · injection h with h
      exact .inr h.symm
    · cases h

set_option maxHeartbeats 1000000 in
theorem decode_any (v : Value) (bs : List UInt8) (lo hi : Nat) (w : World) (hv : SlIs w lo hi v bs) (hhi : hi ≤ w.heap.size) (hl : bs.length ≤ 100000) (hT : Tabs w) :
    Calls Tryz.prog 81 #[v] w (DecodeStep w bs) := by
  have hlt := hT.lt
  obtain ⟨W, hW⟩ : ∃ W, W = (w.alloc (.cells S11.zero.cells 32)).alloc (.cells S11.zero.cells 32) := ⟨_, rfl⟩
  have k0 : Only (fun _ => False) w W := by rw [hW]; exact ((Only.refl _ w).alloc _).alloc _
  have ra : Has W w.heap.size 32 S11.zero.cells := by rw [hW]; exact (Has.new w _ _).alloc _
  have rb : Has W (w.heap.size + 1) 32 S11.zero.cells := by
    rw [hW]
    have := Has.new (w.alloc (.cells S11.zero.cells 32)) 32 S11.zero.cells
    simpa using this
  have sW : W.heap.size = w.heap.size + 2 := by rw [hW]; simp
  have c0 := of_any v bs lo hi W (hv.only k0 hhi (fun _ _ _ h => h)) (by omega) (by omega)
  have C0 : Hid (Calls Tryz.prog 17 #[v] W (fun e w1 => ∃ g, e = .returned (.pointer (some ⟨g, 0, none⟩)) ∧ w.heap.size + 2 ≤ g ∧ g < w1.heap.size ∧ InAt w1 (w.heap.size + 2) g bs 0 ∧ Below w.heap.size w w1 ∧ Has w1 w.heap.size 32 S11.zero.cells ∧ Has w1 (w.heap.size + 1) 32 S11.zero.cells ∧ Tabs w1)) :=
    Lib.hid (c0.mono (by
      rintro e w1 ⟨g, he, i1, b1⟩
      rw [sW] at i1 b1
      have := i1.lt
      exact ⟨g, he, by omega, by omega, i1, (k0.below (Nat.le_refl _) (fun _ _ h => h)).trans (b1.mono (by omega)), ra.only (Only.of_below b1) (by omega), rb.only (Only.of_below b1) (by omega), (hT.only k0 (fun h => h) (fun h => h)).only (Only.of_below b1) (by omega) (by omega)⟩))
  obtain ⟨A, c, rfl, _, _, _⟩ := hv
  clear k0 ra rb c0 hT hhi sW
  rw [hW] at C0
  clear hW
  unfold S11.zero S11.cells at C0
  go_enter Tryz.func81, Tryz.ntmps81
  go_wp2_with fail
  refine C0.out.mono ?_
  rintro e w1 ⟨g, rfl, hg, hg1, i1, b1, a1, z1, t1⟩
  obtain ⟨w2, hw2⟩ : ∃ w2, w2 = w1.alloc (.cells #[.pointer (some ⟨g, 0, none⟩)] 56) := ⟨_, rfl⟩
  have s1 := b1.size
  have p2 : Has w2 w1.heap.size 56 #[.pointer (some ⟨g, 0, none⟩)] := by rw [hw2]; exact Has.new _ _ _
  have i2 : InAt w2 (w.heap.size + 2) g bs 0 := by rw [hw2]; exact i1.only ((Only.refl (fun _ => False) w1).alloc _) (fun _ _ _ h => h)
  have b2 : Below w.heap.size w w2 := by rw [hw2]; exact b1.alloc s1 _
  have a2 : Has w2 w.heap.size 32 S11.zero.cells := by rw [hw2]; exact a1.alloc _
  have z2 : Has w2 (w.heap.size + 1) 32 S11.zero.cells := by rw [hw2]; exact z1.alloc _
  have t2 : Tabs w2 := by rw [hw2]; exact t1.only ((Only.refl (fun _ => False) w1).alloc _) (fun h => h) (fun h => h)
  have s2 : w2.heap.size = w1.heap.size + 1 := by rw [hw2]; simp
  have ke : Only (fun _ => False) w2 (w2.alloc errBox) := (Only.refl _ w2).alloc _
  have C1 := decode1_any (w.heap.size + 2) g w1.heap.size (w.heap.size + 1) bs (w2.alloc errBox) (i2.only ke (fun _ _ _ h => h)) (p2.alloc _) (z2.alloc _) (by omega) (t2.only ke (fun h => h) (fun h => h)) (by omega) hl
  have hE : Has (w2.alloc errBox) w2.heap.size 35 #[.int .i64 0] := Has.new _ _ _
  have hW2 := Lib.hid hw2.symm
  cases hr : firstOf bs with
  | error er =>
    rw [hr] at C1
    have her : er ≠ 0 := by rcases firstOf_err hr with h | h <;> omega
    have hd : (er != 0) = true := by simpa using her
    have C := Lib.hid (caught_panic 89 _ Tryz.enterDecode w2 er (fun w' => Below w.heap.size w w' ∧ Has w' w.heap.size 32 S11.zero.cells) (C1.mono (by
      rintro e w' ⟨he, k⟩
      have k2 : Only (fun i => i = g ∨ i = w.heap.size + 1) w2 w' := (ke.mono (fun _ _ h => h.elim)).trans k (fun _ _ h => h)
      exact ⟨he, hE.only k (by omega), b2.trans (k2.below b2.size (fun i hi h => by omega)), a2.only k2 (by omega)⟩)))
    have hA : Hid (decAns bs = (S11.zero, 0, er)) := Lib.hid (by unfold decAns; rw [hr])
    clear C1 hE ke t2 z2 a2 b2 i2 p2 t1 z1 a1 b1 i1 C0 hw2 hr her s1
    go_wp2_with fail
    rw [hW2.out]
    refine C.out.mono ?_
    rintro e w3 ⟨rfl, w4, h4, ⟨b4, a4⟩, hw3⟩
    have s4 := b4.size
    have b3 : Below w.heap.size w w3 := by rw [hw3]; exact b4.setCell (p := ⟨w2.heap.size, 0, none⟩) (by simp; omega) (.int .i64 er)
    have a3 : Has w3 w.heap.size 32 S11.zero.cells := by rw [hw3]; exact a4.far (by simp; omega) _
    obtain ⟨⟨x0, x1, x2, x3, x4⟩, ⟨x5, x6, x7, x8⟩, ⟨x9, x10, x11, x12⟩⟩ := a3.cells13
    obtain ⟨⟨y0, y1, y2, y3, y4⟩, ⟨y5, y6, y7, y8⟩, ⟨y9, y10, y11, y12⟩⟩ := a3.frozen13
    have A3 := Lib.hid a3
    have B3 := Lib.hid b3
    clear C hW2 hw3 h4 b4 a4 a3 b3 s2 s4
    go_wp2_with fail
    refine bodyPost_ret (results_cell_row2 rfl _ _ w.heap.size 32 _ (0, 0) _ rfl (has_set13 A3.out S11.zero) Tryz.underlying32 rfl Tryz.statSize13) rfl ?_
    unfold DecodeStep
    rw [hA.out]
    refine ⟨rfl, ?_⟩
    exact B3.out.trans (((Only.refl (fun i => i = w.heap.size) w3).set13 (fun _ => rfl) S11.zero).below B3.out.size (fun i hi h => by omega))
  | ok p =>
    obtain ⟨s, rest⟩ := p
    rw [hr] at C1
    have C := Lib.hid (caught_ok 89 _ Tryz.enterDecode w2 (fun w' => Below w.heap.size w w' ∧ Has w' w.heap.size 32 S11.zero.cells ∧ Has w' (w.heap.size + 1) 32 s.cells ∧ InAt w' (w.heap.size + 2) g rest 0 ∧ Has w' w1.heap.size 56 #[.pointer (some ⟨g, 0, none⟩)]) (C1.mono (by
      rintro e w' ⟨he, h1, h2, k⟩
      have k2 : Only (fun i => i = g ∨ i = w.heap.size + 1) w2 w' := (ke.mono (fun _ _ h => h.elim)).trans k (fun _ _ h => h)
      exact ⟨he, hE.only k (by omega), b2.trans (k2.below b2.size (fun i hi h => by omega)), a2.only k2 (by omega), h1, h2, p2.only k2 (by omega)⟩)))
    have hA : Hid (decAns bs = (s, (bs.length : Int) - rest.length, 0)) := Lib.hid (by unfold decAns; rw [hr])
    have hrl := (firstOf_len hr).1
    clear C1 hE ke t2 z2 a2 b2 i2 p2 t1 z1 a1 b1 i1 C0 hw2 hr s1 s2
    go_wp2_with fail
    rw [hW2.out]
    refine C.out.mono ?_
    rintro e w3 ⟨rfl, b3, a3, z3, i3, p3⟩
    clear C hW2
    go_wp2_with fail
    have d13 := p3.cell 0
    simp at d13
    have hwr : IntKind.i64.wrap ((bs.length : Int) - rest.length) = (bs.length : Int) - rest.length := IntWalk.i64_in _ (by omega)
    have hlt1 := p3.lt
    have A3 := Lib.hid a3
    have B3 := Lib.hid b3
    have CL := Lib.hid (fun n => left_any (w.heap.size + 2) g rest 0 (w3.drewN n) (i3.only ((Only.refl (fun _ => False) w3).drewN n) (fun _ _ _ h => h)))
    clear a3 b3 p3 i3
    refine wp_region_held_drew (S := fun w' => Has w' (w.heap.size + 1) 32 s.cells ∧ w'.cell? ⟨w1.heap.size, 0, none⟩ = some (.pointer (some ⟨g, 0, none⟩))) (by kernel_rfl) ?_ (fun hHeld => ?_)
    · exact ⟨z3, d13⟩
    refine takeH (i := 0) (d := 16) (v := s.val) (by kernel_rfl) (by kernel_rfl) (by kernel_rfl) rfl (fun _ _ _ h => h) (by rfl) ?_ hHeld ?_
    · intro o ho w hSw
      cases ho
      exact exec_load_row rfl rfl hSw.1 Tryz.underlying32 rfl Tryz.statSize13
    simp only [Act.put, List.setIfInBounds_toArray, List.set_cons_zero, List.set_cons_succ]
    refine takeH (i := 1) (d := 17) (v := ?_) (by kernel_rfl) (by kernel_rfl) (by kernel_rfl) rfl (fun _ _ _ h => h) (by rfl) ?_ hHeld ?_
    rotate_left
    · intro o ho w hSw
      cases ho
      go_simp
      try with_reducible rfl
    simp only [Act.put, List.setIfInBounds_toArray, List.set_cons_zero, List.set_cons_succ]
    refine takeH (i := 2) (d := 18) (v := ?_) (by kernel_rfl) (by kernel_rfl) (by kernel_rfl) rfl (fun _ _ _ h => h) (by rfl) ?_ hHeld ?_
    rotate_left
    · intro o ho w hSw
      cases ho
      go_simp
      try with_reducible rfl
    simp only [Act.put, List.setIfInBounds_toArray, List.set_cons_zero, List.set_cons_succ]
    refine takeH (i := 3) (d := 19) (v := ?_) (by kernel_rfl) (by kernel_rfl) (by kernel_rfl) rfl (fun _ _ _ h => h) (by rfl) ?_ hHeld ?_
    rotate_left
    · intro o ho w hSw
      cases ho
      go_simp
      try with_reducible rfl
    simp only [Act.put, List.setIfInBounds_toArray, List.set_cons_zero, List.set_cons_succ]
    refine wpAnyH_ready (rs := [4]) (by kernel_rfl) (by simp) ?_
    refine AllReadyH.cons rfl (fun K hK => ?_) AllReadyH.nil
    go_simp
    refine (CL.out 1).mono ?_
    rintro e w4 ⟨rfl, rfl⟩
    try go_wp2_with fail
    refine hK.out _ _ ?_ (fun hHeld => ?_)
    · exact ⟨z3, d13⟩
    clear hK K
    refine takeH (i := 5) (d := 21) (v := ?_) (by kernel_rfl) (by kernel_rfl) (by kernel_rfl) rfl (fun _ _ _ h => h) (by rfl) ?_ hHeld ?_
    rotate_left
    · intro o ho w hSw
      cases ho
      go_simp
      try with_reducible rfl
    simp only [Act.put, List.setIfInBounds_toArray, List.set_cons_zero, List.set_cons_succ]
    refine wpAnyH_ready (rs := [6]) (by kernel_rfl) (by simp) ?_
    refine AllReadyH.cons rfl (fun K hK => ?_) AllReadyH.nil
    rw [if_pos (by rfl)]
    refine wp_store_row 32 _ _ rfl w.heap.size s.cells rfl rfl 32 S11.zero.cells A3.out Tryz.statSize13 rfl s.one ?_
    refine hK.out _ _ ?_ (fun hHeld => ?_)
    · exact ⟨z3.only ((Only.refl (fun i => i = w.heap.size) w3).drew.setRow (fun _ => rfl) s.cells) (by omega), (((Only.refl (fun i => i = w.heap.size) w3).drew.setRow (fun _ => rfl) s.cells).cell (p := ⟨w1.heap.size, 0, none⟩) hlt1 (by simp; omega)).trans d13⟩
    clear hK K
    simp only [Act.put]
    refine takeH (i := 7) (d := 3) (v := ?_) (by kernel_rfl) (by kernel_rfl) (by kernel_rfl) rfl (fun _ _ _ h => h) (by rfl) ?_ hHeld ?_
    rotate_left
    · intro o ho w hSw
      cases ho
      go_simp
      try with_reducible rfl
    simp only [Act.put, List.setIfInBounds_toArray]
    refine takeH (i := 8) (d := 4) (v := ?_) (by kernel_rfl) (by kernel_rfl) (by kernel_rfl) rfl (fun _ _ _ h => h) (by rfl) ?_ hHeld ?_
    rotate_left
    · intro o ho w hSw
      cases ho
      go_simp
      try with_reducible rfl
    simp only [Act.put]
    refine wpAnyH_done (by kernel_rfl) ?_ _
    go_wp2_with fail
    refine bodyPost_ret (results_cell_row2 rfl _ _ w.heap.size 32 _ (0, 0) _ rfl (A3.out.drew.setRow s.cells) Tryz.underlying32 rfl Tryz.statSize13) rfl ?_
    unfold DecodeStep
    rw [hA.out]
    refine ⟨rfl, ?_⟩
    exact B3.out.trans (((Only.refl (fun i => i = w.heap.size) w3).drew.setRow (fun _ => rfl) s.cells).below B3.out.size (fun i hi h => by omega))
end Go.Proofs.YtepiifbleoimkaaGreatDoor
