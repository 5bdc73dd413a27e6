/-
  Records as they came in, by value.
-/
import Derived.Test.YtepiifbleoimkaaDoorPackStat
import Derived.Test.YtepiifbleoimkaaDoorOpenQid
namespace Go.Proofs.YtepiifbleoimkaaDoor
open Go.ChangeShapes Go.WideShapes Go.RowKit Go.Deep
set_option maxRecDepth 100000

theorem Tryd.statCells : Tryd.prog.cellsOf 31 = 13 := by kernel_rfl
theorem strOf_back (s : ByteArray) : strOf s.data.toList = s := ByteArray.ext (by simp [strOf])

section
variable {H : Type} {enc : TypeId × Value → H} {w : World} {base : Nat} {spare : Nat → Bool} {held : Bool}

set_option maxHeartbeats 1000000 in
theorem open_s11 {fuel : Nat} {c0 c1 c2 c3 c4 c5 c6 c7 c8 c9 c10 c11 c12 : Value} {x : DataW H × List MemPlace} (h : DataW.trod enc Tryd.prog w base spare held fuel 31 [c0, c1, c2, c3, c4, c5, c6, c7, c8, c9, c10, c11, c12] = some x) :
    ∃ s : S11, s.Num ∧ Value.agg #[c0, c1, c2, c3, c4, c5, c6, c7, c8, c9, c10, c11, c12] = s.val := by
  obtain ⟨ys, n', hn', hy, hlen, hyl, hf⟩ := DataW.trod_struct Tryd.underlying31 h
  have hy11 : ys.length = 11 := hyl
  have eU16 : Tryd.prog.cellsOf 22 = 1 := by kernel_rfl
  have eU32 : Tryd.prog.cellsOf 23 = 1 := by kernel_rfl
  have eU64 : Tryd.prog.cellsOf 26 = 1 := by kernel_rfl
  have eS : Tryd.prog.cellsOf 9 = 1 := by kernel_rfl
  have eQ := Tryd.qidCells
  have f0 : DataW.trod enc Tryd.prog w base spare held n' 22 ((List.drop 0 [c0, c1, c2, c3, c4, c5, c6, c7, c8, c9, c10, c11, c12]).take (Tryd.prog.cellsOf 22)) = ys[0]? := hf 0 _ rfl
  rw [eU16, List.getElem?_eq_getElem (by omega)] at f0
  have f1 : DataW.trod enc Tryd.prog w base spare held n' 23 ((List.drop 1 [c0, c1, c2, c3, c4, c5, c6, c7, c8, c9, c10, c11, c12]).take (Tryd.prog.cellsOf 23)) = ys[1]? := hf 1 _ rfl
  rw [eU32, List.getElem?_eq_getElem (by omega)] at f1
  have f2 : DataW.trod enc Tryd.prog w base spare held n' 28 ((List.drop 2 [c0, c1, c2, c3, c4, c5, c6, c7, c8, c9, c10, c11, c12]).take (Tryd.prog.cellsOf 28)) = ys[2]? := hf 2 _ rfl
  rw [eQ, List.getElem?_eq_getElem (by omega)] at f2
  have f3 : DataW.trod enc Tryd.prog w base spare held n' 23 ((List.drop 5 [c0, c1, c2, c3, c4, c5, c6, c7, c8, c9, c10, c11, c12]).take (Tryd.prog.cellsOf 23)) = ys[3]? := hf 3 _ rfl
  rw [eU32, List.getElem?_eq_getElem (by omega)] at f3
  have f4 : DataW.trod enc Tryd.prog w base spare held n' 23 ((List.drop 6 [c0, c1, c2, c3, c4, c5, c6, c7, c8, c9, c10, c11, c12]).take (Tryd.prog.cellsOf 23)) = ys[4]? := hf 4 _ rfl
  rw [eU32, List.getElem?_eq_getElem (by omega)] at f4
  have f5 : DataW.trod enc Tryd.prog w base spare held n' 23 ((List.drop 7 [c0, c1, c2, c3, c4, c5, c6, c7, c8, c9, c10, c11, c12]).take (Tryd.prog.cellsOf 23)) = ys[5]? := hf 5 _ rfl
  rw [eU32, List.getElem?_eq_getElem (by omega)] at f5
  have f6 : DataW.trod enc Tryd.prog w base spare held n' 26 ((List.drop 8 [c0, c1, c2, c3, c4, c5, c6, c7, c8, c9, c10, c11, c12]).take (Tryd.prog.cellsOf 26)) = ys[6]? := hf 6 _ rfl
  rw [eU64, List.getElem?_eq_getElem (by omega)] at f6
  have f7 : DataW.trod enc Tryd.prog w base spare held n' 9 ((List.drop 9 [c0, c1, c2, c3, c4, c5, c6, c7, c8, c9, c10, c11, c12]).take (Tryd.prog.cellsOf 9)) = ys[7]? := hf 7 _ rfl
  rw [eS, List.getElem?_eq_getElem (by omega)] at f7
  have f8 : DataW.trod enc Tryd.prog w base spare held n' 9 ((List.drop 10 [c0, c1, c2, c3, c4, c5, c6, c7, c8, c9, c10, c11, c12]).take (Tryd.prog.cellsOf 9)) = ys[8]? := hf 8 _ rfl
  rw [eS, List.getElem?_eq_getElem (by omega)] at f8
  have f9 : DataW.trod enc Tryd.prog w base spare held n' 9 ((List.drop 11 [c0, c1, c2, c3, c4, c5, c6, c7, c8, c9, c10, c11, c12]).take (Tryd.prog.cellsOf 9)) = ys[9]? := hf 9 _ rfl
  rw [eS, List.getElem?_eq_getElem (by omega)] at f9
  have f10 : DataW.trod enc Tryd.prog w base spare held n' 9 ((List.drop 12 [c0, c1, c2, c3, c4, c5, c6, c7, c8, c9, c10, c11, c12]).take (Tryd.prog.cellsOf 9)) = ys[10]? := hf 10 _ rfl
  rw [eS, List.getElem?_eq_getElem (by omega)] at f10
  obtain ⟨z0, e0', _, hw0⟩ := DataW.trod_int Tryd.underlying22 (cs := [c0]) f0
  injection e0' with e0' _
  subst e0'
  have b0 := bounds_u16 hw0
  obtain ⟨z1, e1', _, hw1⟩ := DataW.trod_int Tryd.underlying23 (cs := [c1]) f1
  injection e1' with e1' _
  subst e1'
  have b1 := bounds_u32 hw1
  obtain ⟨q, hq, e2, e3, e4⟩ := open_q3 (x0 := c2) (x1 := c3) (x2 := c4) f2
  subst e2 e3 e4
  obtain ⟨z3, e3', _, hw3⟩ := DataW.trod_int Tryd.underlying23 (cs := [c5]) f3
  injection e3' with e3' _
  subst e3'
  have b3 := bounds_u32 hw3
  obtain ⟨z4, e4', _, hw4⟩ := DataW.trod_int Tryd.underlying23 (cs := [c6]) f4
  injection e4' with e4' _
  subst e4'
  have b4 := bounds_u32 hw4
  obtain ⟨z5, e5', _, hw5⟩ := DataW.trod_int Tryd.underlying23 (cs := [c7]) f5
  injection e5' with e5' _
  subst e5'
  have b5 := bounds_u32 hw5
  obtain ⟨z6, e6', _, hw6⟩ := DataW.trod_int Tryd.underlying26 (cs := [c8]) f6
  injection e6' with e6' _
  subst e6'
  have b6 := bounds_u64 hw6
  obtain ⟨z7, e7', _⟩ := DataW.trod_string Tryd.underlying9 (cs := [c9]) f7
  injection e7' with e7' _
  subst e7'
  obtain ⟨z8, e8', _⟩ := DataW.trod_string Tryd.underlying9 (cs := [c10]) f8
  injection e8' with e8' _
  subst e8'
  obtain ⟨z9, e9', _⟩ := DataW.trod_string Tryd.underlying9 (cs := [c11]) f9
  injection e9' with e9' _
  subst e9'
  obtain ⟨z10, e10', _⟩ := DataW.trod_string Tryd.underlying9 (cs := [c12]) f10
  injection e10' with e10' _
  subst e10'
  refine ⟨⟨z0.toNat, z1.toNat, q, z3.toNat, z4.toNat, z5.toNat, z6.toNat, z7.data.toList, z8.data.toList, z9.data.toList, z10.data.toList⟩, ⟨?_, ?_, hq, ?_, ?_, ?_, ?_⟩, ?_⟩
  · show z0.toNat < _; omega
  · show z1.toNat < _; omega
  · show z3.toNat < _; omega
  · show z4.toNat < _; omega
  · show z5.toNat < _; omega
  · show z6.toNat < _; omega
  · unfold S11.val S11.cells
    simp only [strOf_back]
    rw [show ((z0.toNat : Nat) : Int) = z0 by omega]
    rw [show ((z1.toNat : Nat) : Int) = z1 by omega]
    rw [show ((z3.toNat : Nat) : Int) = z3 by omega]
    rw [show ((z4.toNat : Nat) : Int) = z4 by omega]
    rw [show ((z5.toNat : Nat) : Int) = z5 by omega]
    rw [show ((z6.toNat : Nat) : Int) = z6 by omega]

theorem open_stat {r : Reach} {b0 : Nat} {v : Value} {d : DataW H} {p : List MemPlace} (hv : Value.okWide Tryd.prog w r b0 31 v) (h : DataW.Trod enc Tryd.prog w base spare held 31 v d p) : ∃ s : S11, s.Num ∧ v = s.val := by
  obtain ⟨cs, rfl, hsz⟩ := okWide_struct Tryd.underlying31 hv
  obtain ⟨l⟩ := cs
  match l, hsz.trans Tryd.statCells with
  | [c0, c1, c2, c3, c4, c5, c6, c7, c8, c9, c10, c11, c12], _ =>
    obtain ⟨fuel, hf⟩ := h
    obtain ⟨s, hs, e⟩ := open_s11 hf
    exact ⟨s, hs, e⟩
end
end Go.Proofs.YtepiifbleoimkaaDoor
