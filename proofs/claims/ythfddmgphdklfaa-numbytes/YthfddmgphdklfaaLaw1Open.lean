/-
  Layer 1's items as they came in.
-/
import Derived.Test.YthfddmgphdklfaaLaw1Items
import Derived.Test.YthfddmgphdklfaaOpenArgs
namespace Go.Proofs.Ythfddmgphdklfaa
open Go.ChangeShapes Go.WideShapes Go.RowKit Go.Deep

theorem Try.itemOne : ∀ fs, Try.prog.underlying 30 = some (.struct fs) → oneCellFields Try.prog fs = true := by
  intro fs h
  rw [Try.underlying30] at h
  injection h with h
  injection h with h
  subst h
  kernel_rfl
theorem Try.itemCells : Try.prog.cellsOf 30 = 4 := by kernel_rfl
theorem Try.laidOut : laidOutB Try.prog = true := by kernel_rfl
theorem Try.u8Cells : Try.prog.cellsOf 5 = 1 := by kernel_rfl

section
variable {H : Type} {enc : TypeId × Value → H} {w : World} {base : Nat} {spare : Nat → Bool} {held : Bool}

theorem add_one (p : Addr) (n : Nat) (h : n ≠ 0) : p.add n = ⟨p.block, p.off + n, none⟩ := by simp [Addr.add, h]

theorem open_items {fuel : Nat} {cs : List Value} {x : DataW H × List MemPlace} (h : DataW.trod enc Try.prog w base spare held fuel 22 cs = some x) :
    ∃ A c xs, cs = [.slice A (List.length (α := It) xs) c] ∧ ItemsAt w w.heap.size A xs := by
  rcases open_slice Try.underlying22 h with ⟨rfl, _⟩ | ⟨a, len, cap, m, n, D, Pl, rfl, _, hl, hm, hmm, _, hi⟩
  · exact ⟨none, 0, [], rfl, fun h => absurd h (by simp)⟩
  · have hlm : len ≤ m := by rw [hmm]; split <;> omega
    have hone : ∀ i, i < len → ∃ x : It, ItemAt w w.heap.size (a.add (i * 4)) x := by
      intro i hil
      obtain ⟨cs', hc, ht'⟩ := hi i (by omega)
      rw [Try.itemCells] at hc
      obtain ⟨ys, n', hn', hy, hlen, hyl, hf⟩ := DataW.trod_struct Try.underlying30 ht'
      obtain ⟨_, hcl, hat⟩ := World.cells?_some hc
      have ho := hone_of (Try.itemOne _ Try.underlying30)
      match cs', hcl with
      | [x0, x1, x2, x3], _ =>
        have f0 := hf 0 _ rfl
        have f1 := hf 1 _ rfl
        have f2 := hf 2 _ rfl
        have f3 := hf 3 _ rfl
        rw [(ho 0 _ rfl).1, (ho 0 _ rfl).2] at f0
        rw [(ho 1 _ rfl).1, (ho 1 _ rfl).2] at f1
        rw [(ho 2 _ rfl).1, (ho 2 _ rfl).2] at f2
        rw [(ho 3 _ rfl).1, (ho 3 _ rfl).2] at f3
        have hy4 : ys.length = 4 := hyl
        rw [List.getElem?_eq_getElem (by omega)] at f0 f1 f2 f3
        obtain ⟨z0, e0, _⟩ := DataW.trod_bool Try.underlying4 f0
        obtain ⟨z1, e1, _⟩ := DataW.trod_int Try.underlying3 f1
        obtain ⟨z2, e2, _, hw2⟩ := DataW.trod_int Try.underlying28 f2
        obtain ⟨A3, c3, bs3, e3, l1, l2, hr⟩ := open_bytes Try.underlying25 Try.underlying5 Try.u8Cells f3
        simp at e0 e1 e2 e3
        subst e0 e1 e2 e3
        have hb2 := bounds_u64 hw2
        have a0 := hat 0 (by omega)
        have a1 := hat 1 (by omega)
        have a2 := hat 2 (by omega)
        have a3 := hat 3 (by omega)
        rw [add_one _ 1 (by omega)] at a1
        rw [add_one _ 2 (by omega)] at a2
        rw [add_one _ 3 (by omega)] at a3
        have ez : (a.add (i * 4)).add 0 = a.add (i * 4) := by simp [Addr.add]
        rw [ez] at a0
        exact ⟨⟨z0, z1, z2, A3, c3, bs3⟩, a0, a1, a2, a3, by show 0 ≤ z2; omega, by show z2 < _; omega, l1, l2, hr⟩
    haveI : Inhabited It := ⟨⟨false, 0, 0, none, 0, []⟩⟩
    obtain ⟨f, hf⟩ := choose_lt hone
    refine ⟨some a, cap, (List.range len).map f, by simp, fun hn => ⟨a, rfl, ?_, fun j hj => ?_⟩⟩
    · have h0 : 0 < len := by simpa using hn
      have := World.block_lt_of_cell? w _ (hf 0 h0).c0
      rw [addr_block] at this
      exact this
    · have hj' : j < len := by simpa using hj
      simpa using hf j hj'
end
end Go.Proofs.Ythfddmgphdklfaa
