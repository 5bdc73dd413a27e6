/-
  Layer 9's acts as they came in: rows of structs of two integers.
-/
import Derived.Test.YtaenobgpbphlfaaDoorRows
import Derived.Test.YtaenobgpbphlfaaDoorMem
import Derived.ProofKit
import Derived.OpenShut
import Derived.Deep.Slices
import Derived.Deep.Fields
import Derived.Deep.Grids
namespace Go.Proofs.YtaenobgpbphlfaaDoor
open Go.ChangeShapes Go.WideShapes Go.RowKit Go.Deep
set_option maxRecDepth 100000

/-- An act as the memory has it. -/
structure A9 where
  op : Int
  n : Int
structure ActAt9 (w : World) (p : Addr) (x : A9) : Prop where
  c0 : w.cell? p = some (.int .i64 x.op)
  c1 : w.cell? ⟨p.block, p.off + 1, none⟩ = some (.int .i64 x.n)
  hn : x.n ≤ 9223372036854775807
def ActsAt9 (w : World) (A : Option Addr) (xs : List A9) : Prop :=
  0 < xs.length → ∃ ad, A = some ad ∧ ad.block < w.heap.size ∧ ∀ j (hj : j < xs.length), ActAt9 w (ad.add (j * 2)) xs[j]

theorem Tryd.actOne9 : ∀ fs, Tryd.prog.underlying 30 = some (.struct fs) → oneCellFields Tryd.prog fs = true := by
  intro fs h
  rw [Tryd.underlying30] at h
  injection h with h
  injection h with h
  subst h
  kernel_rfl
theorem Tryd.actCells9 : Tryd.prog.cellsOf 30 = 2 := by kernel_rfl
theorem add_one9 (p : Addr) (n : Nat) (h : n ≠ 0) : p.add n = ⟨p.block, p.off + n, none⟩ := by simp [Addr.add, h]

section
variable {H : Type} {enc : TypeId × Value → H} {w : World} {base : Nat} {held : Bool}
theorem open_acts9 {fuel : Nat} {cs : List Value} {x : DataW H × List MemPlace} (h : DataW.trod enc Tryd.prog w base (fun _ => true) held fuel 22 cs = some x) :
    ∃ A c xs, cs = [.slice A (List.length (α := A9) xs) c] ∧ ActsAt9 w A xs := by
  rcases open_slice Tryd.underlying22 h with ⟨rfl, _⟩ | ⟨a, len, cap, m, n, D, Pl, rfl, _, hl, hm, hmm, _, hi⟩
  · exact ⟨none, 0, [], rfl, fun h => absurd h (by simp)⟩
  · have hlm : len ≤ m := by rw [hmm]; split <;> omega
    have hone : ∀ i, i < len → ∃ x : A9, ActAt9 w (a.add (i * 2)) x := by
      intro i hil
      obtain ⟨cs', hc, ht'⟩ := hi i (by omega)
      rw [Tryd.actCells9] at hc
      obtain ⟨ys, n', hn', hy, hlen, hyl, hf⟩ := DataW.trod_struct Tryd.underlying30 ht'
      obtain ⟨_, hcl, hat⟩ := World.cells?_some hc
      have ho := hone_of (Tryd.actOne9 _ Tryd.underlying30)
      match cs', hcl with
      | [x0, x1], _ =>
        have f0 := hf 0 _ rfl
        have f1 := hf 1 _ rfl
        rw [(ho 0 _ rfl).1, (ho 0 _ rfl).2] at f0
        rw [(ho 1 _ rfl).1, (ho 1 _ rfl).2] at f1
        have hy2 : ys.length = 2 := hyl
        rw [List.getElem?_eq_getElem (by omega)] at f0 f1
        obtain ⟨z0, e0, _⟩ := DataW.trod_int Tryd.underlying3 f0
        obtain ⟨z1, e1, _, hw1⟩ := DataW.trod_int Tryd.underlying3 f1
        simp at e0 e1
        subst e0 e1
        have hb1 := bounds_i64 hw1
        have a0 := hat 0 (by omega)
        have a1 := hat 1 (by omega)
        rw [add_one9 _ 1 (by omega)] at a1
        have ez : (a.add (i * 2)).add 0 = a.add (i * 2) := by simp [Addr.add]
        rw [ez] at a0
        exact ⟨⟨z0, z1⟩, a0, a1, by show z1 ≤ _; omega⟩
    haveI : Inhabited A9 := ⟨⟨0, 0⟩⟩
    obtain ⟨f, hf⟩ := choose_lt hone
    refine ⟨some a, cap, (List.range len).map f, by simp, fun hn => ⟨a, rfl, ?_, fun j hj => ?_⟩⟩
    · have h0 : 0 < len := by simpa using hn
      have := World.block_lt_of_cell? w _ (hf 0 h0).c0
      rw [addr_block] at this
      exact this
    · have hj' : j < len := by simpa using hj
      simpa using hf j hj'
theorem ActsAt9.at {w : World} {A : Option Addr} {xs : List A9} (h : ActsAt9 w A xs) {j : Nat} (hj : j < xs.length) : ∃ ad, A = some ad ∧ ad.block < w.heap.size ∧ ActAt9 w (ad.add (j * 2)) xs[j] := by
  obtain ⟨ad, e, hb, hall⟩ := h (by omega)
  exact ⟨ad, e, hb, hall j hj⟩
end
end Go.Proofs.YtaenobgpbphlfaaDoor
