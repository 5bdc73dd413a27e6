/-
  Layer 8's acts as they came in: rows of structs with a list within.
-/
import Derived.Test.YtnhojcldeloigaaGreatOpenBools
namespace Go.Proofs.YtnhojcldeloigaaGreat
open Go.ChangeShapes Go.WideShapes Go.RowKit Go.Deep
set_option maxRecDepth 100000

/-- An act as the memory has it. -/
structure A8 where
  op : Int
  page : Int
  n : Int
  v : Nat
  Ak : Option Addr
  ck : Nat
  keep : List Bool
structure ActAt8 (w : World) (p : Addr) (x : A8) : Prop where
  c0 : w.cell? p = some (.int .i64 x.op)
  c1 : w.cell? ⟨p.block, p.off + 1, none⟩ = some (.int .i64 x.page)
  c2 : w.cell? ⟨p.block, p.off + 2, none⟩ = some (.int .i64 x.n)
  c3 : w.cell? ⟨p.block, p.off + 3, none⟩ = some (.int .u16 (x.v : Int))
  c4 : w.cell? ⟨p.block, p.off + 4, none⟩ = some (.slice x.Ak x.keep.length x.ck)
  hn : x.n ≤ 9223372036854775807
  hv : x.v < 65536
  hk : RwIs w (fun i => i < w.heap.size) x.keep.length (.slice x.Ak x.keep.length x.ck) (bvs x.keep)
def ActsAt8 (w : World) (A : Option Addr) (xs : List A8) : Prop :=
  0 < xs.length → ∃ ad, A = some ad ∧ ad.block < w.heap.size ∧ ∀ j (hj : j < xs.length), ActAt8 w (ad.add (j * 5)) xs[j]

theorem Tryz.actOne8 : ∀ fs, Tryz.prog.underlying 37 = some (.struct fs) → oneCellFields Tryz.prog fs = true := by
  intro fs h
  rw [Tryz.underlying37] at h
  injection h with h
  injection h with h
  subst h
  kernel_rfl
theorem Tryz.actCells8 : Tryz.prog.cellsOf 37 = 5 := by kernel_rfl
theorem Tryz.boolCells8 : Tryz.prog.cellsOf 4 = 1 := by kernel_rfl
theorem add_one8 (p : Addr) (n : Nat) (h : n ≠ 0) : p.add n = ⟨p.block, p.off + n, none⟩ := by simp [Addr.add, h]

section
variable {H : Type} {enc : TypeId × Value → H} {w : World} {base : Nat} {held : Bool}
theorem open_acts8 {fuel : Nat} {cs : List Value} {x : DataW H × List MemPlace} (h : DataW.trod enc Tryz.prog w base (fun _ => true) held fuel 22 cs = some x) :
    ∃ A c xs, cs = [.slice A (List.length (α := A8) xs) c] ∧ ActsAt8 w A xs := by
  rcases open_slice Tryz.underlying22 h with ⟨rfl, _⟩ | ⟨a, len, cap, m, n, D, Pl, rfl, _, hl, hm, hmm, _, hi⟩
  · exact ⟨none, 0, [], rfl, fun h => absurd h (by simp)⟩
  · have hlm : len ≤ m := by rw [hmm]; split <;> omega
    have hone : ∀ i, i < len → ∃ x : A8, ActAt8 w (a.add (i * 5)) x := by
      intro i hil
      obtain ⟨cs', hc, ht'⟩ := hi i (by omega)
      rw [Tryz.actCells8] at hc
      obtain ⟨ys, n', hn', hy, hlen, hyl, hf⟩ := DataW.trod_struct Tryz.underlying37 ht'
      obtain ⟨_, hcl, hat⟩ := World.cells?_some hc
      have ho := hone_of (Tryz.actOne8 _ Tryz.underlying37)
      match cs', hcl with
      | [x0, x1, x2, x3, x4], _ =>
        have f0 := hf 0 _ rfl
        have f1 := hf 1 _ rfl
        have f2 := hf 2 _ rfl
        have f3 := hf 3 _ rfl
        have f4 := hf 4 _ rfl
        rw [(ho 0 _ rfl).1, (ho 0 _ rfl).2] at f0
        rw [(ho 1 _ rfl).1, (ho 1 _ rfl).2] at f1
        rw [(ho 2 _ rfl).1, (ho 2 _ rfl).2] at f2
        rw [(ho 3 _ rfl).1, (ho 3 _ rfl).2] at f3
        rw [(ho 4 _ rfl).1, (ho 4 _ rfl).2] at f4
        have hy5 : ys.length = 5 := hyl
        rw [List.getElem?_eq_getElem (by omega)] at f0 f1 f2 f3 f4
        obtain ⟨z0, e0, _⟩ := DataW.trod_int Tryz.underlying3 f0
        obtain ⟨z1, e1, _⟩ := DataW.trod_int Tryz.underlying3 f1
        obtain ⟨z2, e2, _, hw2⟩ := DataW.trod_int Tryz.underlying3 f2
        obtain ⟨z3, e3, _, hw3⟩ := DataW.trod_int Tryz.underlying35 f3
        obtain ⟨A5, c5, ks5, e5, hk5⟩ := open_bools7 Tryz.underlying34 Tryz.underlying4 Tryz.boolCells8 f4
        simp at e0 e1 e2 e3 e5
        subst e0 e1 e2 e3 e5
        have hb2 := bounds_i64 hw2
        have a0 := hat 0 (by omega)
        have a1 := hat 1 (by omega)
        have a2 := hat 2 (by omega)
        have a3 := hat 3 (by omega)
        have a4 := hat 4 (by omega)
        rw [add_one8 _ 1 (by omega)] at a1
        rw [add_one8 _ 2 (by omega)] at a2
        rw [add_one8 _ 3 (by omega)] at a3
        rw [add_one8 _ 4 (by omega)] at a4
        have ez : (a.add (i * 5)).add 0 = a.add (i * 5) := by simp [Addr.add]
        rw [ez] at a0
        have hb3 := bounds_u16 hw3
        obtain ⟨v3, rfl⟩ : ∃ v3 : Nat, z3 = (v3 : Int) := ⟨z3.toNat, by omega⟩
        exact ⟨⟨z0, z1, z2, v3, A5, c5, ks5⟩, a0, a1, a2, a3, a4, by show z2 ≤ _; omega, by show v3 < _; omega, hk5⟩
    haveI : Inhabited A8 := ⟨⟨0, 0, 0, 0, none, 0, []⟩⟩
    obtain ⟨f, hf⟩ := choose_lt hone
    refine ⟨some a, cap, (List.range len).map f, by simp, fun hn => ⟨a, rfl, ?_, fun j hj => ?_⟩⟩
    · have h0 : 0 < len := by simpa using hn
      have := World.block_lt_of_cell? w _ (hf 0 h0).c0
      rw [addr_block] at this
      exact this
    · have hj' : j < len := by simpa using hj
      simpa using hf j hj'
end
end Go.Proofs.YtnhojcldeloigaaGreat
