/-
  Arguments opened: a list of 16-bit numbers, a list of lists of bytes, as they came in.
-/
import Derived.Test.YtfldgoggaadohaaOpenArgs
import Derived.Test.YtfldgoggaadohaaNumG
namespace Go.Proofs.Ytfldgoggaadohaa
open Go.ChangeShapes Go.WideShapes Go.RowKit Go.Deep
set_option maxRecDepth 100000

/-- 16-bit numbers at A, in blocks below hi. -/
def NsAt (w : World) (hi : Nat) (A : Option Addr) (zs : List Nat) : Prop :=
  0 < zs.length → ∃ a, A = some a ∧ a.block < hi ∧ ∀ j (h : j < zs.length), zs[j] < 65536 ∧ w.cell? (a.add j) = some (.int .u16 (zs[j] : Int))
/-- Lists of bytes at A, in blocks below hi. -/
def BsAt (w : World) (hi : Nat) (A : Option Addr) (xs : List (List UInt8)) : Prop :=
  0 < xs.length → ∃ a, A = some a ∧ a.block < hi ∧ ∀ j (h : j < xs.length), ∃ u, w.cell? (a.add j) = some u ∧ SlIs w 0 hi u xs[j]

section
variable {H : Type} {enc : TypeId × Value → H} {w : World} {base : Nat} {spare : Nat → Bool} {held : Bool}
theorem open_u16s {fuel : Nat} {cs : List Value} {x : DataW H × List MemPlace} {t e : TypeId} (ht : Try.prog.underlying t = some (.slice e)) (he : Try.prog.underlying e = some (.int .u16)) (hc : Try.prog.cellsOf e = 1)
    (h : DataW.trod enc Try.prog w base spare held fuel t cs = some x) : ∃ A c zs, cs = [.slice A (List.length (α := Nat) zs) c] ∧ NsAt w w.heap.size A zs := by
  rcases open_ints ht he hc h with ⟨rfl, _⟩ | ⟨a, len, cap, zs, rfl, _, hl, hm, hz, _, hcell, hwf⟩
  · exact ⟨none, 0, [], rfl, fun h => absurd h (by simp)⟩
  · have hlz : len ≤ zs.length := by rw [hz]; split <;> omega
    refine ⟨some a, cap, (zs.take len).map Int.toNat, by simp [Nat.min_eq_left hlz], fun hn => ?_⟩
    have h0 : 0 < len := by simp [Nat.min_eq_left hlz] at hn; exact hn
    have hb := World.block_lt_of_cell? w (a.add 0) (hcell 0 (by omega))
    rw [addr_block] at hb
    refine ⟨a, rfl, hb, fun j hj => ?_⟩
    have hj' : j < len := by simp [Nat.min_eq_left hlz] at hj; exact hj
    have hjz : j < zs.length := by omega
    have hw := bounds_u16 (hwf _ (List.getElem_mem hjz))
    have hc := hcell j (by omega)
    simp only [List.getD, List.getElem?_eq_getElem hjz, Option.getD_some] at hc
    simp only [List.getElem_map, List.getElem_take]
    refine ⟨by omega, ?_⟩
    rw [hc]
    congr 2
    omega
theorem open_bytess {fuel : Nat} {cs : List Value} {x : DataW H × List MemPlace} {t e b : TypeId} (ht : Try.prog.underlying t = some (.slice e)) (hc1 : Try.prog.cellsOf e = 1) (he : Try.prog.underlying e = some (.slice b)) (hb : Try.prog.underlying b = some (.int .u8)) (hc : Try.prog.cellsOf b = 1)
    (h : DataW.trod enc Try.prog w base spare held fuel t cs = some x) : ∃ A c xs, cs = [.slice A (List.length (α := List UInt8) xs) c] ∧ BsAt w w.heap.size A xs := by
  rcases open_slice ht h with ⟨rfl, _⟩ | ⟨a, len, cap, m, n, D, Pl, rfl, _, hl, hm, hmm, _, hi⟩
  · exact ⟨none, 0, [], rfl, fun h => absurd h (by simp)⟩
  · have hlm : len ≤ m := by rw [hmm]; split <;> omega
    have hone : ∀ i, i < len → ∃ y : List UInt8, ∃ u, w.cell? (a.add i) = some u ∧ SlIs w 0 w.heap.size u y := by
      intro i hil
      obtain ⟨cs', hcs, ht'⟩ := hi i (by omega)
      rw [hc1] at hcs
      obtain ⟨_, hcl, hat⟩ := World.cells?_some hcs
      match cs', hcl with
      | [u], _ =>
        obtain ⟨A', c', ys, e, q1, q2, q3⟩ := open_bytes he hb hc ht'
        injection e with e _
        have hu := hat 0 (by simp)
        rw [Nat.mul_one, addr_add, Nat.add_zero] at hu
        exact ⟨ys, u, hu, ⟨A', c', e, q1, q2, q3⟩⟩
    obtain ⟨f, hf⟩ := choose_lt hone
    refine ⟨some a, cap, (List.range len).map f, by simp, fun hn => ?_⟩
    simp only [List.length_map, List.length_range] at hn
    obtain ⟨u, hu, _⟩ := hf 0 hn
    have hbl := World.block_lt_of_cell? w (a.add 0) hu
    rw [addr_block] at hbl
    refine ⟨a, rfl, hbl, fun j hj => ?_⟩
    simp only [List.length_map, List.length_range] at hj
    simp only [List.getElem_map, List.getElem_range]
    exact hf j hj
end
end Go.Proofs.Ytfldgoggaadohaa
