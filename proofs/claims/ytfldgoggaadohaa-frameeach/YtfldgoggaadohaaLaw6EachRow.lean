/-
  Proved: FrameEach answers true for every list of bytes (P601: bytes that come one by one make the same bodies as all at once); it leaves all that was there as it was. No condition.
-/
import Derived.Test.YtfldgoggaadohaaLaw6Each
import Derived.Test.YtfldgoggaadohaaOpenArgs
import Derived.ProofKit
import Derived.OpenShut
namespace Go.Proofs.Ytfldgoggaadohaa
open Go.ChangeShapes Go.WideShapes Go.ChangeAt Go.RowKit
set_option maxRecDepth 100000

theorem each6_lifted_laid : laidOutB Try.prog = true := by kernel_rfl
theorem each6_lifted_own : ownKnob Try.prog.godebug = none := by kernel_rfl

theorem each6_lifted (os : Os) (started : os.Started) (H : Type) (enc : TypeId × Value → H) :
    ReturnsInHanded {} Try.checked os 6 .any (Rows.frameEachSpec.pre6 enc Try.prog Try.f6 Rows.frameEachRow.domain false) (Rows.frameEachSpec.post enc Try.prog Try.f6 false true false false) := by
  refine returnsInHanded_of_change (C := Try.checked) each6_lifted_own started (by kernel_rfl) Try.func6
    (ChangeSpec.witness6 (enc := enc) (C := Try.checked) false ⟨#[], #[.slice none 0 0], []⟩ 8 (by kernel_rfl) (by kernel_rfl) (by kernel_rfl) (by kernel_rfl)) ?_
  intro W base args ds gs before hval0 hW hcnd _
  have hval : ∀ (j : Nat) t v, Try.f6.params[j]? = some t → args[j]? = some v → Value.okWide Try.prog W .any base t v := hval0
  have hW' := hW
  obtain ⟨p, q, hA0, hV, rfl, hfz, hnd⟩ := hW
  have hA : DataW.TrodAll enc Try.prog W 0 (fun _ => true) true Try.f6.params.toList args.toList ds p := hA0
  rw [Try.params6] at hA hval
  obtain ⟨v0, d0, rfl, rfl, h0⟩ := trodAll_one hA
  obtain ⟨rfl, rfl⟩ := trodVars_none hV
  have hlt0 : ∀ x ∈ p, x.block < W.heap.size := fun x hx => hW'.lt x (by simp [hx])
  clear hA0 hval0
  simp only [List.append_nil] at hW'
  have fin : ∀ (e : Ending) W', (e = .returned (.bool true) ∧ Below W.heap.size W W') → ∃ v, e = .returned v ∧ Rows.frameEachSpec.post enc Try.prog Try.f6 false true false false W #[v0] v W' := by
    rintro e W' ⟨rfl, hb⟩
    exact ⟨_, rfl, _, _, _, [], _, [], hW', trodAll_mk1 (shut_bool Try.underlying4 _),
      trodAll_mk1 (Below.trod each6_lifted_laid (by kernel_rfl) (of_decide_eq_true (by kernel_rfl)) h0 hb hlt0), rfl, hb.frame _, (fun h => by cases h)⟩
  obtain ⟨a0, n0, c0, rfl⟩ := okWide_slice Try.underlying22 (hval 0 22 v0 rfl rfl)
  obtain ⟨fu0, hf0⟩ := h0
  obtain ⟨A, c, bs, e, e1, e2, e3⟩ := open_bytes Try.underlying22 Try.underlying5 (by kernel_rfl) hf0
  obtain ⟨rfl, rfl, rfl⟩ : a0 = A ∧ n0 = bs.length ∧ c0 = c := by
    simp only [Value.cells] at e
    injection e with e _
    injection e with e1 e2 e3
    exact ⟨e1, e2, e3⟩
  by_cases hb : bs.length ≤ 300
  · exact (each_walk a0 c0 bs W ⟨a0, c0, rfl, e1, e2, e3⟩ hb).mono fin
  · exact (each_big a0 bs.length c0 W (by omega)).mono fin

theorem frameEach_holds : Rows.FrameEachSaid :=
  OpenClaim.holds_of_wide 6 Try.f6 rfl rfl rfl rfl rfl rfl rfl ⟨rfl, rfl, rfl, rfl, rfl⟩ rfl rfl rfl rfl rfl (by kernel_rfl) Try.func6 (by kernel_rfl)
    (of_decide_eq_true (by kernel_rfl)) (by unfold Func.isWrapper; first | (rw [if_pos (by decide +kernel)]; kernel_rfl) | (rw [if_neg (by decide +kernel)]; exact ⟨rfl, rfl⟩))
    (fun os started H enc _ => each6_lifted os started H enc)

#print axioms frameEach_holds
end Go.Proofs.Ytfldgoggaadohaa
