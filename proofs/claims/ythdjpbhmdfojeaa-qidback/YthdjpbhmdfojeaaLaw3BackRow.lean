/-
  Proved: QidBack answers true for every qid and every mode (P301: a qid's bytes are its type, its version, its path, and taken back they are the qid; Type and Mode move the three kinds and leave the other bits out); it leaves all that was there as it was. No condition.
-/
import Derived.Test.YthdjpbhmdfojeaaLaw3Back
import Derived.Test.YthdjpbhmdfojeaaOpenQid
namespace Go.Proofs.Ythdjpbhmdfojeaa
open Go.ChangeShapes Go.WideShapes Go.ChangeAt Go.RowKit

theorem back3_own : ownKnob Try.prog.godebug = none := by kernel_rfl
theorem Try.laidOutB3 : laidOutB Try.prog = true := by kernel_rfl

set_option maxRecDepth 100000 in
theorem back3_lifted (os : Os) (started : os.Started) (H : Type) (enc : TypeId × Value → H) :
    ReturnsInHanded {} Try.checked os 3 .any (Rows.qidBackSpec.pre6 enc Try.prog Try.f3 Rows.qidBackRow.domain false) (Rows.qidBackSpec.post enc Try.prog Try.f3 false true false false) := by
  refine returnsInHanded_of_change (C := Try.checked) back3_own started (by kernel_rfl) Try.func3
    (ChangeSpec.witness6 (enc := enc) (C := Try.checked) false ⟨#[], #[.agg #[.int .u8 0, .int .u32 0, .int .u64 0], .int .u32 0], []⟩ 8 (by kernel_rfl) (by kernel_rfl) (by kernel_rfl) (by kernel_rfl)) ?_
  intro W base args ds gs before hval0 hW hcnd _
  have hval : ∀ (j : Nat) t v, Try.f3.params[j]? = some t → args[j]? = some v → Value.okWide Try.prog W .any base t v := hval0
  have hW' := hW
  obtain ⟨p, q, hA0, hV, rfl, hfz, hnd⟩ := hW
  have hA : DataW.TrodAll enc Try.prog W 0 (fun _ => true) true Try.f3.params.toList args.toList ds p := hA0
  rw [Try.params3] at hA hval
  obtain ⟨v0, v1, d0, d1, p0, p1, rfl, rfl, rfl, h0, h1⟩ := trodAll_two hA
  obtain ⟨rfl, rfl⟩ := trodVars_none hV
  obtain ⟨qq, hq, rfl⟩ := open_qid (hval 0 25 v0 rfl rfl) h0
  obtain ⟨a1, rfl, rfl, rfl, w1⟩ := open_int Try.underlying22 (hval 1 22 v1 rfl rfl) h1
  clear hA0 hval0
  simp only [List.append_nil] at hW'
  have hlt0 : ∀ x ∈ p0, x.block < W.heap.size := fun x hx => hW'.lt x hx
  have fin : ∀ (e : Ending) W', (e = .returned (.bool true) ∧ Below W.heap.size W W') → ∃ v, e = .returned v ∧ Rows.qidBackSpec.post enc Try.prog Try.f3 false true false false W #[qq.val, .int .u32 a1] v W' := by
    rintro e W' ⟨rfl, hb⟩
    exact ⟨_, rfl, _, _, _, [], _, [], hW', trodAll_mk1 (shut_bool Try.underlying4 _),
      trodAll_mk2 (Below.trod Try.laidOutB3 (by kernel_rfl) (of_decide_eq_true (by kernel_rfl)) h0 hb hlt0) (shut_int Try.underlying22 w1), rfl, hb.frame _, (fun h => by cases h)⟩
  have hb := bounds_u32 w1
  obtain ⟨n, rfl⟩ : ∃ n : Nat, a1 = (n : Int) := ⟨a1.toNat, by omega⟩
  exact (back3_walk qq n W hq (by omega)).mono fin

theorem qidBack_holds : Rows.QidBackSaid :=
  OpenClaim.holds_of_wide 3 Try.f3 rfl rfl rfl rfl rfl rfl rfl ⟨rfl, rfl, rfl, rfl, rfl⟩ rfl rfl rfl rfl rfl (by kernel_rfl) Try.func3 (by kernel_rfl)
    (of_decide_eq_true (by kernel_rfl)) (by unfold Func.isWrapper; first | (rw [if_pos (by decide +kernel)]; kernel_rfl) | (rw [if_neg (by decide +kernel)]; exact ⟨rfl, rfl⟩))
    (fun os started H enc _ => back3_lifted os started H enc)

#print axioms qidBack_holds
end Go.Proofs.Ythdjpbhmdfojeaa
