/-
  Package stat: a record, its bytes; Size, and what Encode puts one behind the other.
-/
import Derived.Test.YtepiifbleoimkaaDoorQidA
import Derived.Test.YtepiifbleoimkaaDoorTextD
namespace Go.Proofs.YtepiifbleoimkaaDoor
open Go.RowKit
set_option maxRecDepth 100000

/-- A record: its kind, device, qid, mode, two times, length, and four texts. -/
structure S11 where
  k : Nat
  d : Nat
  q : Q3
  m : Nat
  a : Nat
  c : Nat
  l : Nat
  n : List UInt8
  u : List UInt8
  g : List UInt8
  x : List UInt8
def S11.cells (s : S11) : Array Value := #[.int .u16 (s.k : Int), .int .u32 (s.d : Int), .int .u8 (s.q.t : Int), .int .u32 (s.q.v : Int), .int .u64 (s.q.p : Int), .int .u32 (s.m : Int), .int .u32 (s.a : Int), .int .u32 (s.c : Int),
  .int .u64 (s.l : Int), .string (strOf s.n), .string (strOf s.u), .string (strOf s.g), .string (strOf s.x)]
def S11.val (s : S11) : Value := .agg s.cells
/-- Its numbers are in their ranges. -/
structure S11.Num (s : S11) : Prop where
  k : s.k < 65536
  d : s.d < 4294967296
  q : s.q.Ok
  m : s.m < 4294967296
  a : s.a < 4294967296
  c : s.c < 4294967296
  l : s.l < 18446744073709551616
/-- Its texts are not long. -/
structure S11.Few (s : S11) : Prop where
  n : s.n.length ≤ 1000
  u : s.u.length ≤ 1000
  g : s.g.length ≤ 1000
  x : s.x.length ≤ 1000
/-- The bytes of its numbers. -/
def numsB (s : S11) : List UInt8 := putB 2 s.k ++ (putB 4 s.d ++ (qidB s.q ++ (putB 4 s.m ++ (putB 4 s.a ++ (putB 4 s.c ++ putB 8 s.l)))))
theorem numsB_length (s : S11) : (numsB s).length = 39 := by simp [numsB, putB_length, qidB_length]
/-- Its texts; the error of the first that may not be one; their bytes. -/
def S11.texts (s : S11) : List (List UInt8) := [s.n, s.u, s.g, s.x]
def wrongL : List (List UInt8) → Int
  | [] => 0
  | l :: r => if wrongOf l = 0 then wrongL r else wrongOf l
def textsB (L : List (List UInt8)) : List UInt8 := L.flatMap textB
/-- How many bytes it has. -/
def S11.size (s : S11) : Nat := 49 + s.n.length + s.u.length + s.g.length + s.x.length
/-- What its count counts; all its bytes. -/
def statB (s : S11) : List UInt8 := numsB s ++ textsB s.texts
def recB (s : S11) : List UInt8 := putB 2 (s.size - 2) ++ statB s

theorem wrongL_append (L M : List (List UInt8)) (h : wrongL L = 0) : wrongL (L ++ M) = wrongL M := by
  induction L with
  | nil => rfl
  | cons l L ih =>
    rw [wrongL] at h
    rw [List.cons_append, wrongL]
    split at h
    · rename_i h0
      rw [if_pos h0, ih h]
    · exact absurd h (by assumption)
theorem textB_length {l : List UInt8} (h : wrongOf l = 0) : (textB l).length = 2 + l.length := by
  rw [textB, if_pos h, List.length_append, show putI 2 (l.length : Int) = putB 2 l.length from putI_of 2 _ (by omega) (by omega), putB_length]
theorem textB_le (l : List UInt8) : (textB l).length ≤ 72 := by
  by_cases h : wrongOf l = 0
  · have := wrongOf_short h
    rw [textB_length h]
    omega
  · rw [textB, if_neg h]
    simp
theorem textsB_le (L : List (List UInt8)) : (textsB L).length ≤ 72 * L.length := by
  induction L with
  | nil => simp [textsB]
  | cons l L ih =>
    have := textB_le l
    simp only [textsB, List.flatMap_cons, List.length_append, List.length_cons] at ih ⊢
    omega
theorem wrong4 {s : S11} (h : wrongL s.texts = 0) : wrongOf s.n = 0 ∧ wrongOf s.u = 0 ∧ wrongOf s.g = 0 ∧ wrongOf s.x = 0 := by
  simp only [S11.texts, wrongL] at h
  by_cases h1 : wrongOf s.n = 0
  · rw [if_pos h1] at h
    by_cases h2 : wrongOf s.u = 0
    · rw [if_pos h2] at h
      by_cases h3 : wrongOf s.g = 0
      · rw [if_pos h3] at h
        by_cases h4 : wrongOf s.x = 0
        · exact ⟨h1, h2, h3, h4⟩
        · rw [if_neg h4] at h
          exact absurd h h4
      · rw [if_neg h3] at h
        exact absurd h h3
    · rw [if_neg h2] at h
      exact absurd h h2
  · rw [if_neg h1] at h
    exact absurd h h1
theorem statB_length {s : S11} (h : wrongL s.texts = 0) : (statB s).length = s.size - 2 := by
  obtain ⟨h1, h2, h3, h4⟩ := wrong4 h
  simp only [statB, textsB, S11.texts, List.flatMap_cons, List.flatMap_nil, List.length_append, numsB_length, textB_length h1, textB_length h2, textB_length h3, textB_length h4, S11.size, List.length_nil]
  omega
theorem recB_length {s : S11} (h : wrongL s.texts = 0) : (recB s).length = s.size := by
  rw [recB, List.length_append, putB_length, statB_length h]
  unfold S11.size
  omega

/-- Along a row of addings from w0 on. -/
structure Chain (w0 : World) (B g : Nat) (v : Value) (bs : List UInt8) (w : World) (v1 : Value) : Prop where
  out : OutAt w B g v1 bs
  only : Only (Foot g v) w0 w
  own : ∀ i, v1.ownBlock = some i → v.ownBlock = some i ∨ w0.heap.size ≤ i
theorem Chain.start {w : World} {B g : Nat} {v : Value} {bs : List UInt8} (h : OutAt w B g v bs) : Chain w B g v bs w v := ⟨h, Only.refl _ _, fun _ h => .inl h⟩
theorem Chain.step {w0 w w1 : World} {B g : Nat} {v v1 : Value} {bs bs1 : List UInt8} {e : Ending} (c : Chain w0 B g v bs w v1) (h : OutStep w B g v1 bs1 e w1) :
    ∃ v2, e = .returned (.tuple #[]) ∧ Chain w0 B g v bs1 w1 v2 := by
  obtain ⟨v2, he, o, f, k⟩ := outstep_join c.only c.own h
  exact ⟨v2, he, o, f, k⟩
theorem Chain.quiet {w0 w w1 : World} {B g : Nat} {v v1 : Value} {bs : List UInt8} {S : Nat → Prop} (c : Chain w0 B g v bs w v1) (k : Only S w w1) (hn : ∀ i, i < w.heap.size → ¬ S i) : Chain w0 B g v bs w1 v1 :=
  ⟨c.out.only k (fun i hi => hn i (c.out.foot_lt hi).2), c.only.trans k (fun i hi h => absurd h (hn i (by have := c.only.size; omega))), c.own⟩
theorem Chain.fin {w w0 w1 : World} {B g : Nat} {v v1 : Value} {bs : List UInt8} (c : Chain w0 B g v bs w1 v1) (k : Only (fun _ => False) w w0) : OutStep w B g v bs (.returned (.tuple #[])) w1 :=
  ⟨v1, rfl, c.out, (k.mono (fun _ _ h => h.elim)).trans c.only (fun _ _ h => h), fun i hi => (c.own i hi).imp id (fun h => by have := k.size; omega)⟩

set_option maxHeartbeats 400000 in
theorem size_any (s : S11) (w : World) (h : s.Few) : Calls Tryd.prog 78 #[s.val] w fun e w' => e = .returned (.int .i64 (s.size : Int)) ∧ Below w.heap.size w w' := by
  obtain ⟨h1, h2, h3, h4⟩ := h
  have z1 : (strOf s.n).size = s.n.length := strOf_size _
  have z2 : (strOf s.u).size = s.u.length := strOf_size _
  have z3 : (strOf s.g).size = s.g.length := strOf_size _
  have z4 : (strOf s.x).size = s.x.length := strOf_size _
  have hN := Has.new w 31 s.cells
  have c9 := hN.cell 9
  have c10 := hN.cell 10
  have c11 := hN.cell 11
  have c12 := hN.cell 12
  simp only [S11.cells] at c9 c10 c11 c12
  simp at c9 c10 c11 c12
  have R := Lib.hid ((Below.refl w.heap.size w).alloc (Nat.le_refl _) (.cells s.cells 31))
  unfold S11.val
  unfold S11.cells at *
  clear hN
  go_enter Tryd.func78, Tryd.ntmps78
  go_wp2
  go_ret
  refine ⟨?_, R.out⟩
  unfold S11.size
  congr 2
end Go.Proofs.YtepiifbleoimkaaDoor
