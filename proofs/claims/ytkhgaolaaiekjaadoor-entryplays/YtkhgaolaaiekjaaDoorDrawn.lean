/-
  A region that draws its order, walked move by move under a held condition: an operation is taken first, its slot named. Nothing of the program is used here.
-/
import Derived.Test.YtkhgaolaaiekjaaDoorMem
import Derived.Deep.RegionHeld3
import Derived.Deep.DrawnRows
namespace Go.Proofs.YtkhgaolaaiekjaaDoor
open Go.RowKit

theorem takeH {P : Program} {ops : Array Oper} {Q : Exit → Act → World → Prop} {md : Region.Mode} {S : World → Prop} {i d : Nat} {v : Value} {fuel : Nat} {listed : Array Bool} {a : Act} {w : World}
    (hs : Region.noSelect ops = true) (hf : Region.free md ops listed i = true) (hr : (Region.ready md ops listed).contains i = true)
    (hd : ops[i]?.map (fun o => o.dst) = some (some d)) (hQ : ∀ c a w, Q (.panic c) (a.put (some d) v) w → Q (.panic c) a w)
    (hw : ops[i]?.map (fun o => Region.wanted o (yielded ops a.tmps)) = some true) (hy : ∀ o, ops[i]? = some o → ∀ w, S w → (execOp a.eval o).run P w = .ok (.value v) w) (hS : S w)
    (h : wpAnyH P md ops Q S fuel (listed.setIfInBounds i true) (a.put (some d) v) w) : wpAnyH P md ops Q S (fuel + 1) listed a w := by
  obtain ⟨o, ho, hod⟩ := Option.map_eq_some_iff.1 hd
  obtain ⟨o', ho', how⟩ := Option.map_eq_some_iff.1 hw
  rw [ho] at ho'
  injection ho' with ho'
  subst ho'
  exact wpAnyH_take ho hs hf hr (by rw [hod]; exact hQ) (Or.inl ⟨how, hy o ho⟩) hS (by rw [hod]; exact h)
theorem skipH {P : Program} {ops : Array Oper} {Q : Exit → Act → World → Prop} {md : Region.Mode} {S : World → Prop} {i d : Nat} {fuel : Nat} {listed : Array Bool} {a : Act} {w : World}
    (hs : Region.noSelect ops = true) (hf : Region.free md ops listed i = true) (hr : (Region.ready md ops listed).contains i = true)
    (hd : ops[i]?.map (fun o => o.dst) = some (some d)) (hQ : ∀ c a w, Q (.panic c) (a.put (some d) undef) w → Q (.panic c) a w)
    (hw : ops[i]?.map (fun o => Region.wanted o (yielded ops a.tmps)) = some false) (hS : S w)
    (h : wpAnyH P md ops Q S fuel (listed.setIfInBounds i true) (a.put (some d) undef) w) : wpAnyH P md ops Q S (fuel + 1) listed a w := by
  obtain ⟨o, ho, hod⟩ := Option.map_eq_some_iff.1 hd
  obtain ⟨o', ho', how⟩ := Option.map_eq_some_iff.1 hw
  rw [ho] at ho'
  injection ho' with ho'
  subst ho'
  exact wpAnyH_take ho hs hf hr (by rw [hod]; exact hQ) (Or.inr ⟨how, rfl⟩) hS (by rw [hod]; exact h)
/-- A whole struct loaded. -/
theorem exec_load_row {P : Program} {o : Oper} {a : Act} {w : World} {ty : TypeId} {x : Operand} {g : Nat} {t : TypeId} {cs : Array Value} {d : TypeDesc} (ho : o.op = .load ty x)
    (hx : a.eval x = .pointer (some ⟨g, 0, none⟩)) (hg : Has w g t cs) (hu : P.underlying ty = some d) (hd : (match d with | .struct _ | .array _ _ => true | _ => false) = true) (hi : (P.info? ty).map (·.size) = some cs.size) :
    (execOp a.eval o).run P w = .ok (.value (.agg cs)) w := by
  unfold execOp
  simp only [ho, hx, Instr.loadAt, Instr.sureAddr, Sem.run_bind, Sem.run_pure, Result.andThen_ok, run_loadVar_row w g t ty cs (0, 0) d hg hu hd hi]
/-- A whole row stored. -/
theorem Has.setRow {w : World} {g : Nat} {t : TypeId} {cs : Array Value} (h : Has w g t cs) (cs' : Array Value) : Has (w.setRow g cs') g t cs' := setRow_heap w g cs cs' t _ h
theorem Only.setRow {S : Nat → Prop} {a b : World} (h : Only S a b) {g : Nat} (hg : g < a.heap.size → S g) (cs : Array Value) : Only S a (b.setRow g cs) := by
  refine ⟨h.os, h.tape, h.output, by rw [setRow_size]; exact h.size, fun i hi hn => ?_⟩
  rw [← h.block i hi hn]
  have hne : g ≠ i := fun e => hn (e ▸ hg (e ▸ hi))
  simp [World.setRow, Array.getElem?_modify, hne]
end Go.Proofs.YtkhgaolaaiekjaaDoor
