/-
  Layer 7's acts as they came in: rows of structs with two lists within.
-/
import Derived.Test.YtddllgbficjaoaaOpenBools
namespace Go.Proofs.Ytddllgbficjaoaa
open Go.ChangeShapes Go.WideShapes Go.RowKit Go.Deep
set_option maxRecDepth 100000

/-- An act as the memory has it. -/
structure A7 where
  op : Int
  sector : Int
  n : Int
  A : Option Addr
  c : Nat
  b : List UInt8
  bad : Bool
  Ak : Option Addr
  ck : Nat
  keep : List Bool
structure ActAt (w : World) (p : Addr) (x : A7) : Prop where
  c0 : w.cell? p = some (.int .i64 x.op)
  c1 : w.cell? ⟨p.block, p.off + 1, none⟩ = some (.int .i64 x.sector)
  c2 : w.cell? ⟨p.block, p.off + 2, none⟩ = some (.int .i64 x.n)
  c3 : w.cell? ⟨p.block, p.off + 3, none⟩ = some (.slice x.A x.b.length x.c)
  c4 : w.cell? ⟨p.block, p.off + 4, none⟩ = some (.bool x.bad)
  c5 : w.cell? ⟨p.block, p.off + 5, none⟩ = some (.slice x.Ak x.keep.length x.ck)
  hn : x.n ≤ 9223372036854775807
  hb : SlIs w 0 w.heap.size (.slice x.A x.b.length x.c) x.b
  hk : RwIs w (fun i => i < w.heap.size) x.keep.length (.slice x.Ak x.keep.length x.ck) (bvs x.keep)
def ActsAt (w : World) (A : Option Addr) (xs : List A7) : Prop :=
  0 < xs.length → ∃ ad, A = some ad ∧ ad.block < w.heap.size ∧ ∀ j (hj : j < xs.length), ActAt w (ad.add (j * 6)) xs[j]

theorem Try.actOne : ∀ fs, Try.prog.underlying 36 = some (.struct fs) → oneCellFields Try.prog fs = true := by
  intro fs h
  rw [Try.underlying36] at h
  injection h with h
  injection h with h
  subst h
  kernel_rfl
theorem Try.actCells : Try.prog.cellsOf 36 = 6 := by kernel_rfl
theorem Try.u8Cells7 : Try.prog.cellsOf 5 = 1 := by kernel_rfl
theorem Try.boolCells7 : Try.prog.cellsOf 4 = 1 := by kernel_rfl
theorem add_one7 (p : Addr) (n : Nat) (h : n ≠ 0) : p.add n = ⟨p.block, p.off + n, none⟩ := by simp [Addr.add, h]

section
variable {H : Type} {enc : TypeId × Value → H} {w : World} {base : Nat} {held : Bool}
theorem open_acts {fuel : Nat} {cs : List Value} {x : DataW H × List MemPlace} (h : DataW.trod enc Try.prog w base (fun _ => true) held fuel 22 cs = some x) :
    ∃ A c xs, cs = [.slice A (List.length (α := A7) xs) c] ∧ ActsAt w A xs := by
  rcases open_slice Try.underlying22 h with ⟨rfl, _⟩ | ⟨a, len, cap, m, n, D, Pl, rfl, _, hl, hm, hmm, _, hi⟩
  · exact ⟨none, 0, [], rfl, fun h => absurd h (by simp)⟩
  · have hlm : len ≤ m := by rw [hmm]; split <;> omega
    have hone : ∀ i, i < len → ∃ x : A7, ActAt w (a.add (i * 6)) x := by
      intro i hil
      obtain ⟨cs', hc, ht'⟩ := hi i (by omega)
      rw [Try.actCells] at hc
      obtain ⟨ys, n', hn', hy, hlen, hyl, hf⟩ := DataW.trod_struct Try.underlying36 ht'
      obtain ⟨_, hcl, hat⟩ := World.cells?_some hc
      have ho := hone_of (Try.actOne _ Try.underlying36)
      match cs', hcl with
      | [x0, x1, x2, x3, x4, x5], _ =>
        have f0 := hf 0 _ rfl
        have f1 := hf 1 _ rfl
        have f2 := hf 2 _ rfl
        have f3 := hf 3 _ rfl
        have f4 := hf 4 _ rfl
        have f5 := hf 5 _ rfl
        rw [(ho 0 _ rfl).1, (ho 0 _ rfl).2] at f0
        rw [(ho 1 _ rfl).1, (ho 1 _ rfl).2] at f1
        rw [(ho 2 _ rfl).1, (ho 2 _ rfl).2] at f2
        rw [(ho 3 _ rfl).1, (ho 3 _ rfl).2] at f3
        rw [(ho 4 _ rfl).1, (ho 4 _ rfl).2] at f4
        rw [(ho 5 _ rfl).1, (ho 5 _ rfl).2] at f5
        have hy6 : ys.length = 6 := hyl
        rw [List.getElem?_eq_getElem (by omega)] at f0 f1 f2 f3 f4 f5
        obtain ⟨z0, e0, _⟩ := DataW.trod_int Try.underlying3 f0
        obtain ⟨z1, e1, _⟩ := DataW.trod_int Try.underlying3 f1
        obtain ⟨z2, e2, _, hw2⟩ := DataW.trod_int Try.underlying3 f2
        obtain ⟨A3, c3, bs3, e3, l1, l2, hr⟩ := open_bytes Try.underlying34 Try.underlying5 Try.u8Cells7 f3
        obtain ⟨z4, e4, _⟩ := DataW.trod_bool Try.underlying4 f4
        obtain ⟨A5, c5, ks5, e5, hk5⟩ := open_bools7 Try.underlying31 Try.underlying4 Try.boolCells7 f5
        simp at e0 e1 e2 e3 e4 e5
        subst e0 e1 e2 e3 e4 e5
        have hb2 := bounds_i64 hw2
        have a0 := hat 0 (by omega)
        have a1 := hat 1 (by omega)
        have a2 := hat 2 (by omega)
        have a3 := hat 3 (by omega)
        have a4 := hat 4 (by omega)
        have a5 := hat 5 (by omega)
        rw [add_one7 _ 1 (by omega)] at a1
        rw [add_one7 _ 2 (by omega)] at a2
        rw [add_one7 _ 3 (by omega)] at a3
        rw [add_one7 _ 4 (by omega)] at a4
        rw [add_one7 _ 5 (by omega)] at a5
        have ez : (a.add (i * 6)).add 0 = a.add (i * 6) := by simp [Addr.add]
        rw [ez] at a0
        exact ⟨⟨z0, z1, z2, A3, c3, bs3, z4, A5, c5, ks5⟩, a0, a1, a2, a3, a4, a5, by show z2 ≤ _; omega, ⟨A3, c3, rfl, l1, l2, hr⟩, hk5⟩
    haveI : Inhabited A7 := ⟨⟨0, 0, 0, none, 0, [], false, none, 0, []⟩⟩
    obtain ⟨f, hf⟩ := choose_lt hone
    refine ⟨some a, cap, (List.range len).map f, by simp, fun hn => ⟨a, rfl, ?_, fun j hj => ?_⟩⟩
    · have h0 : 0 < len := by simpa using hn
      have := World.block_lt_of_cell? w _ (hf 0 h0).c0
      rw [addr_block] at this
      exact this
    · have hj' : j < len := by simpa using hj
      simpa using hf j hj'
end
end Go.Proofs.Ytddllgbficjaoaa
