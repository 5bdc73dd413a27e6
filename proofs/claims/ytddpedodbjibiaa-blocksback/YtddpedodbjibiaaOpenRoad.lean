/-
  A road that came in by value.
-/
import Derived.Test.YtddpedodbjibiaaBlkA
import Derived.Test.YtddpedodbjibiaaOpenArgs
namespace Go.Proofs.Ytddpedodbjibiaa
open Go.ChangeShapes Go.WideShapes Go.RowKit Go.Deep
set_option maxRecDepth 100000

theorem Try.roadOne : ∀ fs, Try.prog.underlying 25 = some (.struct fs) → oneCellFields Try.prog fs = true := by
  intro fs h
  rw [Try.underlying25] at h
  injection h with h
  injection h with h
  subst h
  kernel_rfl
theorem Try.roadCells : Try.prog.cellsOf 25 = 4 := by kernel_rfl

section
variable {H : Type} {enc : TypeId × Value → H} {w : World} {base : Nat} {spare : Nat → Bool} {held : Bool}

theorem open_r4 {fuel : Nat} {x0 x1 x2 x3 : Value} {x : DataW H × List MemPlace} (h : DataW.trod enc Try.prog w base spare held fuel 25 [x0, x1, x2, x3] = some x) :
    ∃ g : R4, x0 = .int .i64 g.k ∧ x1 = .int .i64 g.a ∧ x2 = .int .i64 g.b ∧ x3 = .int .i64 g.t := by
  obtain ⟨ys, n', hn', hy, hlen, hyl, hf⟩ := DataW.trod_struct Try.underlying25 h
  have ho := hone_of (Try.roadOne _ Try.underlying25)
  have f0 := hf 0 _ rfl
  have f1 := hf 1 _ rfl
  have f2 := hf 2 _ rfl
  have f3 := hf 3 _ rfl
  rw [(ho 0 _ rfl).1, (ho 0 _ rfl).2] at f0
  rw [(ho 1 _ rfl).1, (ho 1 _ rfl).2] at f1
  rw [(ho 2 _ rfl).1, (ho 2 _ rfl).2] at f2
  rw [(ho 3 _ rfl).1, (ho 3 _ rfl).2] at f3
  have hy4 : ys.length = 4 := hyl
  rw [List.getElem?_eq_getElem (by omega)] at f0 f1 f2 f3
  obtain ⟨z0, e0, _, _⟩ := DataW.trod_int Try.underlying3 f0
  obtain ⟨z1, e1, _, _⟩ := DataW.trod_int Try.underlying3 f1
  obtain ⟨z2, e2, _, _⟩ := DataW.trod_int Try.underlying3 f2
  obtain ⟨z3, e3, _, _⟩ := DataW.trod_int Try.underlying3 f3
  simp at e0 e1 e2 e3
  subst e0 e1 e2 e3
  exact ⟨⟨z0, z1, z2, z3⟩, rfl, rfl, rfl, rfl⟩

theorem open_road {r : Reach} {b0 : Nat} {v : Value} {d : DataW H} {p : List MemPlace} (hv : Value.okWide Try.prog w r b0 25 v) (h : DataW.Trod enc Try.prog w base spare held 25 v d p) : ∃ g : R4, v = g.val := by
  obtain ⟨cs, rfl, hsz⟩ := okWide_struct Try.underlying25 hv
  obtain ⟨l⟩ := cs
  match l, hsz.trans Try.roadCells with
  | [c0, c1, c2, c3], _ =>
    obtain ⟨fuel, hf⟩ := h
    obtain ⟨g, rfl, rfl, rfl, rfl⟩ := open_r4 hf
    exact ⟨g, rfl⟩
end
end Go.Proofs.Ytddpedodbjibiaa
