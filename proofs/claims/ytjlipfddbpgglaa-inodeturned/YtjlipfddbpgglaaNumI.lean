/-
  Package num: adding behind adding; what is taken, whichever way it ends; a variable of three cells.
-/
import Derived.Test.YtjlipfddbpgglaaNumH
namespace Go.Proofs.Ytjlipfddbpgglaa
open Go.RowKit
set_option maxRecDepth 100000

theorem putI_of (n x : Nat) (h1 : 1 ≤ n) (h8 : n ≤ 8) : putI (n : Int) (x : Int) = putB n x := by rw [putI, if_pos (by omega)]; simp
/-- One adding behind another. -/
theorem outstep_join {w w1 : World} {B g : Nat} {v v1 : Value} {bs2 : List UInt8} (f1 : Only (Foot g v) w w1) (g1 : ∀ i, v1.ownBlock = some i → v.ownBlock = some i ∨ w.heap.size ≤ i)
    {e : Ending} {w2 : World} (h : OutStep w1 B g v1 bs2 e w2) : OutStep w B g v bs2 e w2 := by
  obtain ⟨v2, he, o2, f2, g2⟩ := h
  refine ⟨v2, he, o2, f1.trans f2 ?_, ?_⟩
  · intro i hi hf
    rcases hf with hf | hf
    · exact .inl hf
    · rcases g1 i hf with h | h
      · exact .inr h
      · omega
  · intro i hi
    have := f1.size
    rcases g2 i hi with h | h
    · exact g1 i h
    · exact .inr (by omega)
theorem takeSt_lt (n : Nat) (bs : List UInt8) (er : Int) : (takeSt (n : Int) bs er).1 < 256 ^ n := by
  have h0 : 0 < 256 ^ n := Nat.pow_pos (by omega)
  rw [takeSt]
  split
  · exact h0
  · split
    · exact h0
    · split
      · exact h0
      · have h1 := le_lt (bs.take n)
        rw [List.length_take, Nat.min_eq_left (by omega)] at h1
        simpa using h1
theorem takeSt_err (n : Int) (bs : List UInt8) (er : Int) (h : er ≠ 0) : takeSt n bs er = (0, bs, er) := by rw [takeSt, if_pos h]
theorem takeSt_short (n : Int) (bs : List UInt8) (h1 : 1 ≤ n) (h8 : n ≤ 8) (h : (bs.length : Int) < n) : takeSt n bs 0 = (0, [], 4) := by
  rw [takeSt, if_neg (by simp), if_neg (by omega), if_pos h]
theorem takeSt_long (n : Int) (bs : List UInt8) (h1 : 1 ≤ n) (h8 : n ≤ 8) (h : n ≤ (bs.length : Int)) : takeSt n bs 0 = (le (bs.take n.toNat), bs.drop n.toNat, 0) := by
  rw [takeSt, if_neg (by simp), if_neg (by omega), if_neg (by omega)]
/-- A variable of three cells, each written. -/
theorem has_set3 {w : World} {g : Nat} {t : TypeId} {x0 x1 x2 : Value} (h : Has w g t #[x0, x1, x2]) (y0 y1 y2 : Value) :
    Has (((w.setCell ⟨g, 0, none⟩ y0).setCell ⟨g, 1, none⟩ y1).setCell ⟨g, 2, none⟩ y2) g t #[y0, y1, y2] := ((h.set 0 y0).set 1 y1).set 2 y2
theorem Only.set3 {S : Nat → Prop} {a b : World} (h : Only S a b) {g : Nat} (hg : a.heap.size ≤ g) (y0 y1 y2 : Value) :
    Only S a (((b.setCell ⟨g, 0, none⟩ y0).setCell ⟨g, 1, none⟩ y1).setCell ⟨g, 2, none⟩ y2) :=
  ((h.setCell (p := ⟨g, 0, none⟩) (fun h => by simp at h; omega) y0).setCell (p := ⟨g, 1, none⟩) (fun h => by simp at h; omega) y1).setCell (p := ⟨g, 2, none⟩) (fun h => by simp at h; omega) y2
/-- A struct and one more result. -/
theorem results_cell_row1 {P : Program} {fn : Func} {p u1 : Tmp} {ty : TypeId} (h : fn.results = #[.cell p ty, .tmp u1]) (tmps : Array Value) (w : World) (g : Nat) (t : TypeId) (cs : Array Value) (fr : Nat × Nat) (d : TypeDesc)
    (hp : tmps.getD p undef = .pointer (some ⟨g, 0, none⟩)) (hg : w.heap[g]? = some (.cells cs t fr))
    (hu : P.underlying ty = some d) (hd : (match d with | .struct _ | .array _ _ => true | _ => false) = true) (hi : (P.info? ty).map (·.size) = some cs.size) :
    (results fn tmps).run P w = .ok (.tuple #[.agg cs, tmps.getD u1 undef]) w := by
  have hp' : tmps[p]?.getD undef = .pointer (some ⟨g, 0, none⟩) := by simpa using hp
  simp [results, h, hp', asAddr, run_loadVar_row w g t ty cs fr d hg hu hd hi, Result.andThen]
end Go.Proofs.Ytjlipfddbpgglaa
