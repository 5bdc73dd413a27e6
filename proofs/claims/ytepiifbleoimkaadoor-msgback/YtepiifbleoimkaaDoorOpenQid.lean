/-
  Qids as they came in: by value, and in a list.
-/
import Derived.Test.YtepiifbleoimkaaDoorPackNum
import Derived.Test.YtepiifbleoimkaaDoorOpenArgs
namespace Go.Proofs.YtepiifbleoimkaaDoor
open Go.ChangeShapes Go.WideShapes Go.RowKit Go.Deep
set_option maxRecDepth 100000

theorem Tryd.qidOne : ∀ fs, Tryd.prog.underlying 28 = some (.struct fs) → oneCellFields Tryd.prog fs = true := by
  intro fs h
  rw [Tryd.underlying28] at h
  injection h with h
  injection h with h
  subst h
  kernel_rfl
theorem Tryd.qidCells : Tryd.prog.cellsOf 28 = 3 := by kernel_rfl

section
variable {H : Type} {enc : TypeId × Value → H} {w : World} {base : Nat} {spare : Nat → Bool} {held : Bool}

theorem open_q3 {fuel : Nat} {x0 x1 x2 : Value} {x : DataW H × List MemPlace} (h : DataW.trod enc Tryd.prog w base spare held fuel 28 [x0, x1, x2] = some x) :
    ∃ q : Q3, q.Ok ∧ x0 = .int .u8 (q.t : Int) ∧ x1 = .int .u32 (q.v : Int) ∧ x2 = .int .u64 (q.p : Int) := by
  obtain ⟨ys, n', hn', hy, hlen, hyl, hf⟩ := DataW.trod_struct Tryd.underlying28 h
  have ho := hone_of (Tryd.qidOne _ Tryd.underlying28)
  have f0 := hf 0 _ rfl
  have f1 := hf 1 _ rfl
  have f2 := hf 2 _ rfl
  rw [(ho 0 _ rfl).1, (ho 0 _ rfl).2] at f0
  rw [(ho 1 _ rfl).1, (ho 1 _ rfl).2] at f1
  rw [(ho 2 _ rfl).1, (ho 2 _ rfl).2] at f2
  have hy3 : ys.length = 3 := hyl
  rw [List.getElem?_eq_getElem (by omega)] at f0 f1 f2
  obtain ⟨z0, e0, _, hw0⟩ := DataW.trod_int Tryd.underlying5 f0
  obtain ⟨z1, e1, _, hw1⟩ := DataW.trod_int Tryd.underlying23 f1
  obtain ⟨z2, e2, _, hw2⟩ := DataW.trod_int Tryd.underlying26 f2
  simp at e0 e1 e2
  subst e0 e1 e2
  have hb0 := bounds_u8 hw0
  have hb1 := bounds_u32 hw1
  have hb2 := bounds_u64 hw2
  refine ⟨⟨z0.toNat, z1.toNat, z2.toNat⟩, ⟨?_, ?_, ?_⟩, ?_, ?_, ?_⟩
  · show z0.toNat < _; omega
  · show z1.toNat < _; omega
  · show z2.toNat < _; omega
  · congr 1; show z0 = (z0.toNat : Int); omega
  · congr 1; show z1 = (z1.toNat : Int); omega
  · congr 1; show z2 = (z2.toNat : Int); omega

theorem open_qid {r : Reach} {b0 : Nat} {v : Value} {d : DataW H} {p : List MemPlace} (hv : Value.okWide Tryd.prog w r b0 28 v) (h : DataW.Trod enc Tryd.prog w base spare held 28 v d p) : ∃ q : Q3, q.Ok ∧ v = q.val := by
  obtain ⟨cs, rfl, hsz⟩ := okWide_struct Tryd.underlying28 hv
  obtain ⟨l⟩ := cs
  match l, hsz.trans Tryd.qidCells with
  | [c0, c1, c2], _ =>
    obtain ⟨fuel, hf⟩ := h
    obtain ⟨q, hq, rfl, rfl, rfl⟩ := open_q3 hf
    exact ⟨q, hq, rfl⟩

/-- Qids one behind the other, in blocks below hi. -/
def QidsAt (w : World) (hi : Nat) (A : Option Addr) (qs : List Q3) : Prop :=
  0 < qs.length → ∃ a, A = some a ∧ a.block < hi ∧ ∀ j (h : j < qs.length), qs[j].Ok ∧ w.cell? (a.add (j * 3)) = some (.int .u8 (qs[j].t : Int)) ∧
    w.cell? ⟨(a.add (j * 3)).block, (a.add (j * 3)).off + 1, none⟩ = some (.int .u32 (qs[j].v : Int)) ∧ w.cell? ⟨(a.add (j * 3)).block, (a.add (j * 3)).off + 2, none⟩ = some (.int .u64 (qs[j].p : Int))

theorem add_plus (p : Addr) (n : Nat) (h : n ≠ 0) : p.add n = ⟨p.block, p.off + n, none⟩ := by simp [Addr.add, h]

theorem open_qids {fuel : Nat} {cs : List Value} {x : DataW H × List MemPlace} (h : DataW.trod enc Tryd.prog w base spare held fuel 25 cs = some x) :
    ∃ A c qs, cs = [.slice A (List.length (α := Q3) qs) c] ∧ QidsAt w w.heap.size A qs := by
  rcases open_slice Tryd.underlying25 h with ⟨rfl, _⟩ | ⟨a, len, cap, m, n, D, Pl, rfl, _, hl, hm, hmm, _, hi⟩
  · exact ⟨none, 0, [], rfl, fun h => absurd h (by simp)⟩
  · have hlm : len ≤ m := by rw [hmm]; split <;> omega
    have hone : ∀ i, i < len → ∃ q : Q3, q.Ok ∧ w.cell? (a.add (i * 3)) = some (.int .u8 (q.t : Int)) ∧
        w.cell? ⟨(a.add (i * 3)).block, (a.add (i * 3)).off + 1, none⟩ = some (.int .u32 (q.v : Int)) ∧ w.cell? ⟨(a.add (i * 3)).block, (a.add (i * 3)).off + 2, none⟩ = some (.int .u64 (q.p : Int)) := by
      intro i hil
      obtain ⟨cs', hc, ht'⟩ := hi i (by omega)
      rw [Tryd.qidCells] at hc
      obtain ⟨_, hcl, hat⟩ := World.cells?_some hc
      match cs', hcl with
      | [x0, x1, x2], _ =>
        obtain ⟨q, hq, rfl, rfl, rfl⟩ := open_q3 ht'
        have a0 := hat 0 (by omega)
        have a1 := hat 1 (by omega)
        have a2 := hat 2 (by omega)
        rw [add_plus _ 1 (by omega)] at a1
        rw [add_plus _ 2 (by omega)] at a2
        have ez : (a.add (i * 3)).add 0 = a.add (i * 3) := by simp [Addr.add]
        rw [ez] at a0
        exact ⟨q, hq, a0, a1, a2⟩
    haveI : Inhabited Q3 := ⟨Q3.zero⟩
    obtain ⟨f, hf⟩ := choose_lt hone
    refine ⟨some a, cap, (List.range len).map f, by simp, fun hn => ⟨a, rfl, ?_, fun j hj => ?_⟩⟩
    · have h0 : 0 < len := by simpa using hn
      have := World.block_lt_of_cell? w _ (hf 0 h0).2.1
      rw [addr_block] at this
      exact this
    · have hj' : j < len := by simpa using hj
      simpa using hf j hj'
end
end Go.Proofs.YtepiifbleoimkaaDoor
