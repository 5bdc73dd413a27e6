/-
  An inode that came in by value.
-/
import Derived.Test.YtjlipfddbpgglaaInoA
import Derived.Test.YtjlipfddbpgglaaOpenArgs
namespace Go.Proofs.Ytjlipfddbpgglaa
open Go.ChangeShapes Go.WideShapes Go.RowKit Go.Deep
set_option maxRecDepth 100000

theorem Try.inoCells : Try.prog.cellsOf 26 = 14 := by kernel_rfl
section
variable {H : Type} {enc : TypeId × Value → H} {w : World} {base : Nat} {spare : Nat → Bool} {held : Bool}

/-- Eight numbers in an array. -/
theorem open_arr8 {fuel : Nat} {x0 x1 x2 x3 x4 x5 x6 x7 : Value} {x : DataW H × List MemPlace} (h : DataW.trod enc Try.prog w base spare held fuel 24 [x0, x1, x2, x3, x4, x5, x6, x7] = some x) :
    ∃ d0 d1 d2 d3 d4 d5 d6 d7 : Nat, (d0 < 4294967296 ∧ d1 < 4294967296 ∧ d2 < 4294967296 ∧ d3 < 4294967296 ∧ d4 < 4294967296 ∧ d5 < 4294967296 ∧ d6 < 4294967296 ∧ d7 < 4294967296) ∧
      x0 = .int .u32 (d0 : Int) ∧ x1 = .int .u32 (d1 : Int) ∧ x2 = .int .u32 (d2 : Int) ∧ x3 = .int .u32 (d3 : Int) ∧ x4 = .int .u32 (d4 : Int) ∧ x5 = .int .u32 (d5 : Int) ∧ x6 = .int .u32 (d6 : Int) ∧ x7 = .int .u32 (d7 : Int) := by
  obtain ⟨ys, n', hn', hy, hlen, hyl, hf⟩ := DataW.trod_array Try.underlying24 h
  have eU32 : Try.prog.cellsOf 22 = 1 := by kernel_rfl
  have f0 := hf 0 (by decide)
  rw [eU32, List.getElem?_eq_getElem (by omega)] at f0
  obtain ⟨z0, e0, _, w0⟩ := DataW.trod_int Try.underlying22 (cs := [x0]) f0
  injection e0 with e0 _
  subst e0
  have b0 := bounds_u32 w0
  have f1 := hf 1 (by decide)
  rw [eU32, List.getElem?_eq_getElem (by omega)] at f1
  obtain ⟨z1, e1, _, w1⟩ := DataW.trod_int Try.underlying22 (cs := [x1]) f1
  injection e1 with e1 _
  subst e1
  have b1 := bounds_u32 w1
  have f2 := hf 2 (by decide)
  rw [eU32, List.getElem?_eq_getElem (by omega)] at f2
  obtain ⟨z2, e2, _, w2⟩ := DataW.trod_int Try.underlying22 (cs := [x2]) f2
  injection e2 with e2 _
  subst e2
  have b2 := bounds_u32 w2
  have f3 := hf 3 (by decide)
  rw [eU32, List.getElem?_eq_getElem (by omega)] at f3
  obtain ⟨z3, e3, _, w3⟩ := DataW.trod_int Try.underlying22 (cs := [x3]) f3
  injection e3 with e3 _
  subst e3
  have b3 := bounds_u32 w3
  have f4 := hf 4 (by decide)
  rw [eU32, List.getElem?_eq_getElem (by omega)] at f4
  obtain ⟨z4, e4, _, w4⟩ := DataW.trod_int Try.underlying22 (cs := [x4]) f4
  injection e4 with e4 _
  subst e4
  have b4 := bounds_u32 w4
  have f5 := hf 5 (by decide)
  rw [eU32, List.getElem?_eq_getElem (by omega)] at f5
  obtain ⟨z5, e5, _, w5⟩ := DataW.trod_int Try.underlying22 (cs := [x5]) f5
  injection e5 with e5 _
  subst e5
  have b5 := bounds_u32 w5
  have f6 := hf 6 (by decide)
  rw [eU32, List.getElem?_eq_getElem (by omega)] at f6
  obtain ⟨z6, e6, _, w6⟩ := DataW.trod_int Try.underlying22 (cs := [x6]) f6
  injection e6 with e6 _
  subst e6
  have b6 := bounds_u32 w6
  have f7 := hf 7 (by decide)
  rw [eU32, List.getElem?_eq_getElem (by omega)] at f7
  obtain ⟨z7, e7, _, w7⟩ := DataW.trod_int Try.underlying22 (cs := [x7]) f7
  injection e7 with e7 _
  subst e7
  have b7 := bounds_u32 w7
  refine ⟨z0.toNat, z1.toNat, z2.toNat, z3.toNat, z4.toNat, z5.toNat, z6.toNat, z7.toNat, ⟨by omega, by omega, by omega, by omega, by omega, by omega, by omega, by omega⟩, ?_, ?_, ?_, ?_, ?_, ?_, ?_, ?_⟩
  all_goals
    congr 1
    omega

theorem open_i14 {fuel : Nat} {c0 c1 c2 c3 c4 c5 c6 c7 c8 c9 c10 c11 c12 c13 : Value} {x : DataW H × List MemPlace} (h : DataW.trod enc Try.prog w base spare held fuel 26 [c0, c1, c2, c3, c4, c5, c6, c7, c8, c9, c10, c11, c12, c13] = some x) :
    ∃ i : I14, i.Num ∧ Value.agg #[c0, c1, c2, c3, c4, c5, c6, c7, c8, c9, c10, c11, c12, c13] = i.val := by
  obtain ⟨ys, n', hn', hy, hlen, hyl, hf⟩ := DataW.trod_struct Try.underlying26 h
  have hy7 : ys.length = 7 := hyl
  have eU16 : Try.prog.cellsOf 23 = 1 := by kernel_rfl
  have eU32 : Try.prog.cellsOf 22 = 1 := by kernel_rfl
  have eA : Try.prog.cellsOf 24 = 8 := by kernel_rfl
  have f0 : DataW.trod enc Try.prog w base spare held n' 22 ((List.drop 0 [c0, c1, c2, c3, c4, c5, c6, c7, c8, c9, c10, c11, c12, c13]).take (Try.prog.cellsOf 22)) = ys[0]? := hf 0 _ rfl
  rw [eU32, List.getElem?_eq_getElem (by omega)] at f0
  have f1 : DataW.trod enc Try.prog w base spare held n' 22 ((List.drop 1 [c0, c1, c2, c3, c4, c5, c6, c7, c8, c9, c10, c11, c12, c13]).take (Try.prog.cellsOf 22)) = ys[1]? := hf 1 _ rfl
  rw [eU32, List.getElem?_eq_getElem (by omega)] at f1
  have f2 : DataW.trod enc Try.prog w base spare held n' 22 ((List.drop 2 [c0, c1, c2, c3, c4, c5, c6, c7, c8, c9, c10, c11, c12, c13]).take (Try.prog.cellsOf 22)) = ys[2]? := hf 2 _ rfl
  rw [eU32, List.getElem?_eq_getElem (by omega)] at f2
  have f3 : DataW.trod enc Try.prog w base spare held n' 23 ((List.drop 3 [c0, c1, c2, c3, c4, c5, c6, c7, c8, c9, c10, c11, c12, c13]).take (Try.prog.cellsOf 23)) = ys[3]? := hf 3 _ rfl
  rw [eU16, List.getElem?_eq_getElem (by omega)] at f3
  have f4 : DataW.trod enc Try.prog w base spare held n' 24 ((List.drop 4 [c0, c1, c2, c3, c4, c5, c6, c7, c8, c9, c10, c11, c12, c13]).take (Try.prog.cellsOf 24)) = ys[4]? := hf 4 _ rfl
  rw [eA, List.getElem?_eq_getElem (by omega)] at f4
  have f5 : DataW.trod enc Try.prog w base spare held n' 22 ((List.drop 12 [c0, c1, c2, c3, c4, c5, c6, c7, c8, c9, c10, c11, c12, c13]).take (Try.prog.cellsOf 22)) = ys[5]? := hf 5 _ rfl
  rw [eU32, List.getElem?_eq_getElem (by omega)] at f5
  have f6 : DataW.trod enc Try.prog w base spare held n' 22 ((List.drop 13 [c0, c1, c2, c3, c4, c5, c6, c7, c8, c9, c10, c11, c12, c13]).take (Try.prog.cellsOf 22)) = ys[6]? := hf 6 _ rfl
  rw [eU32, List.getElem?_eq_getElem (by omega)] at f6
  obtain ⟨z0, e0, _, w0⟩ := DataW.trod_int Try.underlying22 (cs := [c0]) f0
  injection e0 with e0 _
  subst e0
  have b0 := bounds_u32 w0
  obtain ⟨z1, e1, _, w1⟩ := DataW.trod_int Try.underlying22 (cs := [c1]) f1
  injection e1 with e1 _
  subst e1
  have b1 := bounds_u32 w1
  obtain ⟨z2, e2, _, w2⟩ := DataW.trod_int Try.underlying22 (cs := [c2]) f2
  injection e2 with e2 _
  subst e2
  have b2 := bounds_u32 w2
  obtain ⟨z3, e3, _, w3⟩ := DataW.trod_int Try.underlying23 (cs := [c3]) f3
  injection e3 with e3 _
  subst e3
  have b3 := bounds_u16 w3
  obtain ⟨z5, e5, _, w5⟩ := DataW.trod_int Try.underlying22 (cs := [c12]) f5
  injection e5 with e5 _
  subst e5
  have b5 := bounds_u32 w5
  obtain ⟨z6, e6, _, w6⟩ := DataW.trod_int Try.underlying22 (cs := [c13]) f6
  injection e6 with e6 _
  subst e6
  have b6 := bounds_u32 w6
  obtain ⟨d0, d1, d2, d3, d4, d5, d6, d7, ⟨g0, g1, g2, g3, g4, g5, g6, g7⟩, rfl, rfl, rfl, rfl, rfl, rfl, rfl, rfl⟩ := open_arr8 (x0 := c4) (x1 := c5) (x2 := c6) (x3 := c7) (x4 := c8) (x5 := c9) (x6 := c10) (x7 := c11) f4
  refine ⟨⟨z0.toNat, z1.toNat, z2.toNat, z3.toNat, d0, d1, d2, d3, d4, d5, d6, d7, z5.toNat, z6.toNat⟩, ⟨?_, ?_, ?_, ?_, g0, g1, g2, g3, g4, g5, g6, g7, ?_, ?_⟩, ?_⟩
  · show z0.toNat < _; omega
  · show z1.toNat < _; omega
  · show z2.toNat < _; omega
  · show z3.toNat < _; omega
  · show z5.toNat < _; omega
  · show z6.toNat < _; omega
  · unfold I14.val I14.cells
    simp only
    rw [show ((z0.toNat : Nat) : Int) = z0 by omega, show ((z1.toNat : Nat) : Int) = z1 by omega, show ((z2.toNat : Nat) : Int) = z2 by omega, show ((z3.toNat : Nat) : Int) = z3 by omega, show ((z5.toNat : Nat) : Int) = z5 by omega, show ((z6.toNat : Nat) : Int) = z6 by omega]

theorem open_inode {r : Reach} {b0 : Nat} {v : Value} {d : DataW H} {p : List MemPlace} (hv : Value.okWide Try.prog w r b0 26 v) (h : DataW.Trod enc Try.prog w base spare held 26 v d p) : ∃ i : I14, i.Num ∧ v = i.val := by
  obtain ⟨cs, rfl, hsz⟩ := okWide_struct Try.underlying26 hv
  obtain ⟨l⟩ := cs
  match l, hsz.trans Try.inoCells with
  | [c0, c1, c2, c3, c4, c5, c6, c7, c8, c9, c10, c11, c12, c13], _ =>
    obtain ⟨fuel, hf⟩ := h
    obtain ⟨i, hi, e⟩ := open_i14 hf
    exact ⟨i, hi, e⟩
end
end Go.Proofs.Ytjlipfddbpgglaa
