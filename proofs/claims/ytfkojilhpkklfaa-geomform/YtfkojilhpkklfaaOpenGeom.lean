/-
  A geometry that came in by value.
-/
import Derived.Test.YtfkojilhpkklfaaGeomA
import Derived.Test.YtfkojilhpkklfaaOpenArgs
namespace Go.Proofs.Ytfkojilhpkklfaa
open Go.ChangeShapes Go.WideShapes Go.RowKit Go.Deep
set_option maxRecDepth 100000

theorem Try.geomOne : ∀ fs, Try.prog.underlying 23 = some (.struct fs) → oneCellFields Try.prog fs = true := by
  intro fs h
  rw [Try.underlying23] at h
  injection h with h
  injection h with h
  subst h
  kernel_rfl
theorem Try.geomCells : Try.prog.cellsOf 23 = 3 := by kernel_rfl

section
variable {H : Type} {enc : TypeId × Value → H} {w : World} {base : Nat} {spare : Nat → Bool} {held : Bool}

theorem open_g3 {fuel : Nat} {x0 x1 x2 : Value} {x : DataW H × List MemPlace} (h : DataW.trod enc Try.prog w base spare held fuel 23 [x0, x1, x2] = some x) :
    ∃ g : G3, x0 = .int .i64 g.b ∧ x1 = .int .i64 g.n ∧ x2 = .int .i64 g.i := by
  obtain ⟨ys, n', hn', hy, hlen, hyl, hf⟩ := DataW.trod_struct Try.underlying23 h
  have ho := hone_of (Try.geomOne _ Try.underlying23)
  have f0 := hf 0 _ rfl
  have f1 := hf 1 _ rfl
  have f2 := hf 2 _ rfl
  rw [(ho 0 _ rfl).1, (ho 0 _ rfl).2] at f0
  rw [(ho 1 _ rfl).1, (ho 1 _ rfl).2] at f1
  rw [(ho 2 _ rfl).1, (ho 2 _ rfl).2] at f2
  have hy3 : ys.length = 3 := hyl
  rw [List.getElem?_eq_getElem (by omega)] at f0 f1 f2
  obtain ⟨z0, e0, _, _⟩ := DataW.trod_int Try.underlying3 f0
  obtain ⟨z1, e1, _, _⟩ := DataW.trod_int Try.underlying3 f1
  obtain ⟨z2, e2, _, _⟩ := DataW.trod_int Try.underlying3 f2
  simp at e0 e1 e2
  subst e0 e1 e2
  exact ⟨⟨z0, z1, z2⟩, rfl, rfl, rfl⟩

theorem open_geom {r : Reach} {b0 : Nat} {v : Value} {d : DataW H} {p : List MemPlace} (hv : Value.okWide Try.prog w r b0 23 v) (h : DataW.Trod enc Try.prog w base spare held 23 v d p) : ∃ g : G3, v = g.val := by
  obtain ⟨cs, rfl, hsz⟩ := okWide_struct Try.underlying23 hv
  obtain ⟨l⟩ := cs
  match l, hsz.trans Try.geomCells with
  | [c0, c1, c2], _ =>
    obtain ⟨fuel, hf⟩ := h
    obtain ⟨g, rfl, rfl, rfl⟩ := open_g3 hf
    exact ⟨g, rfl⟩
end
end Go.Proofs.Ytfkojilhpkklfaa
