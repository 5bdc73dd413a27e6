/-
  Arguments opened: a list of Booleans as it came in.
-/
import Derived.Test.YtnhojcldeloigaaGreatOpenArgs
import Derived.Test.YtnhojcldeloigaaGreatDiskA
import Derived.Deep.Grids
namespace Go.Proofs.YtnhojcldeloigaaGreat
open Go.ChangeShapes Go.WideShapes Go.RowKit Go.Deep
set_option maxRecDepth 100000

section
variable {H : Type} {enc : TypeId × Value → H} {w : World} {base : Nat} {held : Bool}
theorem open_bools7 {fuel : Nat} {cs : List Value} {x : DataW H × List MemPlace} {t e : TypeId} (ht : Tryz.prog.underlying t = some (.slice e)) (he : Tryz.prog.underlying e = some .bool) (hc : Tryz.prog.cellsOf e = 1)
    (h : DataW.trod enc Tryz.prog w base (fun _ => true) held fuel t cs = some x) : ∃ A c bs, cs = [.slice A (List.length (α := Bool) bs) c] ∧ RwIs w (fun i => i < w.heap.size) bs.length (.slice A bs.length c) (bvs bs) := by
  rcases open_bools ht he hc h with ⟨rfl, _⟩ | ⟨a, len, cap, B, rfl, _, hl, hm, _, hcell⟩
  · exact ⟨none, 0, [], rfl, RwIs.nil _ _⟩
  · refine ⟨some a, cap, (List.range len).map B, by simp, ⟨some a, cap, rfl, fun hn => ?_⟩⟩
    have h0 : 0 < len := by simpa [bvs] using hn
    have hb := World.block_lt_of_cell? w (a.add 0) (hcell 0 (by omega))
    rw [addr_block] at hb
    refine ⟨a, rfl, hb, hb, fun j u hu => ?_⟩
    have hj : j < len := by
      have := (List.getElem?_eq_some_iff.1 hu).1
      simpa [bvs] using this
    rw [hcell j (by omega), ← hu]
    simp [bvs, hj]
end
end Go.Proofs.YtnhojcldeloigaaGreat
