/-
  Proved: BlocksFind answers true for every place and every block (P1201: any place in a file, by which tables its block is found, and back; or that it is too far); it leaves all that was there as it was. No condition.
-/
import Derived.Test.YtddpedodbjibiaaLaw12Find
import Derived.ProofKit
import Derived.OpenShut
namespace Go.Proofs.Ytddpedodbjibiaa
open Go.ChangeShapes Go.WideShapes Go.ChangeAt Go.RowKit
set_option maxRecDepth 100000

theorem bfind12_lifted_laid : laidOutB Try.prog = true := by kernel_rfl
theorem bfind12_lifted_own : ownKnob Try.prog.godebug = none := by kernel_rfl

theorem bfind12_lifted (os : Os) (started : os.Started) (H : Type) (enc : TypeId × Value → H) :
    ReturnsInHanded {} Try.checked os 3 .any (Rows.blocksFindSpec.pre6 enc Try.prog Try.f3 Rows.blocksFindRow.domain false) (Rows.blocksFindSpec.post enc Try.prog Try.f3 false true false false) := by
  refine returnsInHanded_of_change (C := Try.checked) bfind12_lifted_own started (by kernel_rfl) Try.func3
    (ChangeSpec.witness6 (enc := enc) (C := Try.checked) false ⟨#[], #[.int .u64 0, .int .i64 0], []⟩ 8 (by kernel_rfl) (by kernel_rfl) (by kernel_rfl) (by kernel_rfl)) ?_
  intro W base args ds gs before hval0 hW hcnd _
  have hval : ∀ (j : Nat) t v, Try.f3.params[j]? = some t → args[j]? = some v → Value.okWide Try.prog W .any base t v := hval0
  have hW' := hW
  obtain ⟨p, q, hA0, hV, rfl, hfz, hnd⟩ := hW
  have hA : DataW.TrodAll enc Try.prog W 0 (fun _ => true) true Try.f3.params.toList args.toList ds p := hA0
  rw [Try.params3] at hA hval
  obtain ⟨v0, v1, d0, d1, p0, p1, rfl, rfl, rfl, h0, h1⟩ := trodAll_two hA
  obtain ⟨rfl, rfl⟩ := trodVars_none hV
  obtain ⟨a0, rfl, rfl, rfl, w0⟩ := open_int Try.underlying22 (hval 0 22 v0 rfl rfl) h0
  obtain ⟨a1, rfl, rfl, rfl, w1⟩ := open_int Try.underlying3 (hval 1 3 v1 rfl rfl) h1
  have b0 := bounds_u64 w0
  clear hA0 hval0
  simp only [List.append_nil] at hW'
  have fin : ∀ (e : Ending) W', (e = .returned (.bool true) ∧ Below W.heap.size W W') → ∃ v, e = .returned v ∧ Rows.blocksFindSpec.post enc Try.prog Try.f3 false true false false W #[.int .u64 a0, .int .i64 a1] v W' := by
    rintro e W' ⟨rfl, hb⟩
    exact ⟨_, rfl, _, _, _, [], _, [], hW', trodAll_mk1 (shut_bool Try.underlying4 _),
      trodAll_mk2 (shut_int Try.underlying22 w0) (shut_int Try.underlying3 w1), rfl, hb.frame _, (fun h => by cases h)⟩
  exact (find12_any a0 a1 b0.1 W).mono (fun e W' hh => fin e W' ⟨hh.1, hh.2.below⟩)

theorem blocksFind_holds : Rows.BlocksFindSaid :=
  OpenClaim.holds_of_wide 3 Try.f3 rfl rfl rfl rfl rfl rfl rfl ⟨rfl, rfl, rfl, rfl, rfl⟩ rfl rfl rfl rfl rfl (by kernel_rfl) Try.func3 (by kernel_rfl)
    (of_decide_eq_true (by kernel_rfl)) (by unfold Func.isWrapper; first | (rw [if_pos (by decide +kernel)]; kernel_rfl) | (rw [if_neg (by decide +kernel)]; exact ⟨rfl, rfl⟩))
    (fun os started H enc _ => bfind12_lifted os started H enc)

#print axioms blocksFind_holds
end Go.Proofs.Ytddpedodbjibiaa
