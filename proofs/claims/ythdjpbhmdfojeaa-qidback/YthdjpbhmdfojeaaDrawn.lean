/-
  A region that draws its order, walked move by move under a held condition: an operation is taken first, its slot named. Nothing of the program is used here.
-/
import Derived.Test.YthdjpbhmdfojeaaMem
import Derived.Deep.RegionHeld3
import Derived.Deep.DrawnRows
namespace Go.Proofs.Ythdjpbhmdfojeaa
open Go.RowKit

theorem takeH {P : Program} {ops : Array Oper} {Q : Exit → Act → World → Prop} {md : Region.Mode} {S : World → Prop} {i d : Nat} {v : Value} {fuel : Nat} {listed : Array Bool} {a : Act} {w : World}
    (hs : Region.noSelect ops = true) (hf : Region.free md ops listed i = true) (hr : (Region.ready md ops listed).contains i = true)
    (hd : ops[i]?.map (fun o => o.dst) = some (some d)) (hQ : ∀ c a w, Q (.panic c) (a.put (some d) v) w → Q (.panic c) a w)
    (hw : ops[i]?.map (fun o => Region.wanted o (yielded ops a.tmps)) = some true) (hy : ∀ o, ops[i]? = some o → ∀ w, S w → (execOp a.eval o).run P w = .ok (.value v) w) (hS : S w)
    (h : wpAnyH P md ops Q S fuel (listed.setIfInBounds i true) (a.put (some d) v) w) : wpAnyH P md ops Q S (fuel + 1) listed a w := by
  obtain ⟨o, ho, hod⟩ := Option.map_eq_some_iff.1 hd
  obtain ⟨o', ho', how⟩ := Option.map_eq_some_iff.1 hw
  rw [ho] at ho'
  injection ho' with ho'
  subst ho'
  exact wpAnyH_take ho hs hf hr (by rw [hod]; exact hQ) (Or.inl ⟨how, hy o ho⟩) hS (by rw [hod]; exact h)
end Go.Proofs.Ythdjpbhmdfojeaa
