/-
  Entries appended to a row of one's own, at a step of a region that draws its order.
-/
import Derived.Test.YtkhgaolaaiekjaaDoorPackEntB
namespace Go.Proofs.YtkhgaolaaiekjaaDoor
open Go.RowKit Go.Lib
set_option maxRecDepth 100000

theorem Tryd.infoEntW : (Tryd.prog.info? 38).map (fun i => (i.zero, i.size, i.bytes)) = some (some (.agg #[.string ⟨#[]⟩, .int .u32 0]), 2, 24) := by kernel_rfl
/-- Of a world no more than this is kept. -/
theorem forget (K : Act → World → Prop) (a : Act) (w : World) (S : World → Prop) (h : S w) (hK : ∀ Z, S Z → K a Z) : K a w := hK w h
theorem step_append_ents {ops : Array Oper} {o : Oper} {a : Act} {w w0 : World} {K : Act → World → Prop} {Q : Exit → Act → World → Prop} {F : Prop} (hgd : o.guard = none) (s x : Operand)
    (ho : o.op = .call { callee := .builtin .append, args := #[s, x], argTypes := #[22, 22] }) {E : Nat → Prop} (v xv : Value) (l1 l2 l3 : List En) (h3 : l3 = l1 ++ l2) (hs : a.eval s = v) (hxv : a.eval x = xv)
    (hown : w.ownsRow w0.heap.size 38 2 v l1.length (enC l1)) (hx : EsIs w E xv l2) (hk : Still w0 w) (hl : l1.length + l2.length ≤ 1000)
    (h : ∀ A n c w', Hid (n = l3.length) → w'.ownsRow w0.heap.size 38 2 (.slice A n c) l3.length (enC l3) → Still w0 w' → Only (fun i => v.ownBlock = some i) w w' → K (a.put o.dst (.slice A n c)) w') :
    if Region.wanted o (yielded ops a.tmps) = true then Oper.wp Tryd.prog o a w K Q else F := by
  obtain ⟨j0, hj0, hy0, hy1, hy2⟩ := info_parts Tryd.infoEntW
  subst h3
  refine step_append_rows w hgd s x _ ho w0.heap.size 38 j0 _ 2 24 Tryd.underlying22 hj0 hy0 hy1 hy2 rfl (by omega) v l1.length (enC l1) hs hown E l2.length xv (enC l2) hxv hx.1 (enC_length l2) (enC_one l2) (by simp only [maxLen]; omega) (by omega) hk.size ?_
  intro v' w' o' g _
  rw [← enC_append, ← List.length_append] at o'
  obtain ⟨A, c, e⟩ := (EsIs.of_own o').form
  subst e
  exact h A _ c w' (Lib.hid rfl) o' (Still.of_below (hk.below.grown g hk.size (fun i hi => (hown.lt i hi).1))) ((Only.of_grown g).mono (fun _ _ e => e.symm))
end Go.Proofs.YtkhgaolaaiekjaaDoor
