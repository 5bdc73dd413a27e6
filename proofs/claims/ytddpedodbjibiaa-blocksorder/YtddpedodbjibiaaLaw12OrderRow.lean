/-
  Proved: BlocksOrder answers true for every two places and every block (P1201: two places of one block have one road but for the byte; of different blocks, different ones); it leaves all that was there as it was. No condition.
-/
import Derived.Test.YtddpedodbjibiaaLaw12Order
import Derived.ProofKit
import Derived.OpenShut
namespace Go.Proofs.Ytddpedodbjibiaa
open Go.ChangeShapes Go.WideShapes Go.ChangeAt Go.RowKit
set_option maxRecDepth 100000

theorem border12_lifted_laid : laidOutB Try.prog = true := by kernel_rfl
theorem border12_lifted_own : ownKnob Try.prog.godebug = none := by kernel_rfl

theorem border12_lifted (os : Os) (started : os.Started) (H : Type) (enc : TypeId × Value → H) :
    ReturnsInHanded {} Try.checked os 6 .any (Rows.blocksOrderSpec.pre6 enc Try.prog Try.f6 Rows.blocksOrderRow.domain false) (Rows.blocksOrderSpec.post enc Try.prog Try.f6 false true false false) := by
  refine returnsInHanded_of_change (C := Try.checked) border12_lifted_own started (by kernel_rfl) Try.func6
    (ChangeSpec.witness6 (enc := enc) (C := Try.checked) false ⟨#[], #[.int .u32 0, .int .u32 0, .int .i64 0], []⟩ 8 (by kernel_rfl) (by kernel_rfl) (by kernel_rfl) (by kernel_rfl)) ?_
  intro W base args ds gs before hval0 hW hcnd _
  have hval : ∀ (j : Nat) t v, Try.f6.params[j]? = some t → args[j]? = some v → Value.okWide Try.prog W .any base t v := hval0
  have hW' := hW
  obtain ⟨p, q, hA0, hV, rfl, hfz, hnd⟩ := hW
  have hA : DataW.TrodAll enc Try.prog W 0 (fun _ => true) true Try.f6.params.toList args.toList ds p := hA0
  rw [Try.params6] at hA hval
  obtain ⟨v0, v1, v2, d0, d1, d2, p0, p1, p2, rfl, rfl, rfl, h0, h1, h2⟩ := trodAll_three hA
  obtain ⟨rfl, rfl⟩ := trodVars_none hV
  obtain ⟨a0, rfl, rfl, rfl, w0⟩ := open_int Try.underlying37 (hval 0 37 v0 rfl rfl) h0
  obtain ⟨a1, rfl, rfl, rfl, w1⟩ := open_int Try.underlying37 (hval 1 37 v1 rfl rfl) h1
  obtain ⟨a2, rfl, rfl, rfl, w2⟩ := open_int Try.underlying3 (hval 2 3 v2 rfl rfl) h2
  have b0 := bounds_u32 w0
  have b1 := bounds_u32 w1
  clear hA0 hval0
  simp only [List.append_nil] at hW'
  have fin : ∀ (e : Ending) W', (e = .returned (.bool true) ∧ Below W.heap.size W W') → ∃ v, e = .returned v ∧ Rows.blocksOrderSpec.post enc Try.prog Try.f6 false true false false W #[.int .u32 a0, .int .u32 a1, .int .i64 a2] v W' := by
    rintro e W' ⟨rfl, hb⟩
    exact ⟨_, rfl, _, _, _, [], _, [], hW', trodAll_mk1 (shut_bool Try.underlying4 _),
      trodAll_mk3 (shut_int Try.underlying37 w0) (shut_int Try.underlying37 w1) (shut_int Try.underlying3 w2), rfl, hb.frame _, (fun h => by cases h)⟩
  exact (order12_any a0 a1 a2 b0.1 (by omega) b1.1 (by omega) W).mono (fun e W' hh => fin e W' ⟨hh.1, hh.2.below⟩)

theorem blocksOrder_holds : Rows.BlocksOrderSaid :=
  OpenClaim.holds_of_wide 6 Try.f6 rfl rfl rfl rfl rfl rfl rfl ⟨rfl, rfl, rfl, rfl, rfl⟩ rfl rfl rfl rfl rfl (by kernel_rfl) Try.func6 (by kernel_rfl)
    (of_decide_eq_true (by kernel_rfl)) (by unfold Func.isWrapper; first | (rw [if_pos (by decide +kernel)]; kernel_rfl) | (rw [if_neg (by decide +kernel)]; exact ⟨rfl, rfl⟩))
    (fun os started H enc _ => border12_lifted os started H enc)

#print axioms blocksOrder_holds
end Go.Proofs.Ytddpedodbjibiaa
