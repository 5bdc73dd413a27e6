/-
  Proved: DiskSyncs answers true for every two lists of bytes and every list of Booleans (P701: what was synced outlasts any cut; of what came behind just the writes that are kept); it leaves all that was there as it was. No condition.
-/
import Derived.Test.YtddllgbficjaoaaLaw7Syncs
import Derived.Test.YtddllgbficjaoaaLaw7SyncsBig
import Derived.Test.YtddllgbficjaoaaOpenBools
import Derived.ProofKit
import Derived.OpenShut
namespace Go.Proofs.Ytddllgbficjaoaa
open Go.ChangeShapes Go.WideShapes Go.ChangeAt Go.RowKit
set_option maxRecDepth 100000

theorem syncs7_lifted_laid : laidOutB Try.prog = true := by kernel_rfl
theorem syncs7_lifted_own : ownKnob Try.prog.godebug = none := by kernel_rfl

theorem syncs7_lifted (os : Os) (started : os.Started) (H : Type) (enc : TypeId × Value → H) :
    ReturnsInHanded {} Try.checked os 5 .any (Rows.diskSyncsSpec.pre6 enc Try.prog Try.f5 Rows.diskSyncsRow.domain false) (Rows.diskSyncsSpec.post enc Try.prog Try.f5 false true false false) := by
  refine returnsInHanded_of_change (C := Try.checked) syncs7_lifted_own started (by kernel_rfl) Try.func5
    (ChangeSpec.witness6 (enc := enc) (C := Try.checked) false ⟨#[], #[.slice none 0 0, .slice none 0 0, .slice none 0 0], []⟩ 8 (by kernel_rfl) (by kernel_rfl) (by kernel_rfl) (by kernel_rfl)) ?_
  intro W base args ds gs before hval0 hW hcnd _
  have hval : ∀ (j : Nat) t v, Try.f5.params[j]? = some t → args[j]? = some v → Value.okWide Try.prog W .any base t v := hval0
  have hW' := hW
  obtain ⟨p, q, hA0, hV, rfl, hfz, hnd⟩ := hW
  have hA : DataW.TrodAll enc Try.prog W 0 (fun _ => true) true Try.f5.params.toList args.toList ds p := hA0
  rw [Try.params5] at hA hval
  obtain ⟨v0, v1, v2, d0, d1, d2, p0, p1, p2, rfl, rfl, rfl, h0, h1, h2⟩ := trodAll_three hA
  obtain ⟨rfl, rfl⟩ := trodVars_none hV
  have hlt0 : ∀ x ∈ p0, x.block < W.heap.size := fun x hx => hW'.lt x (by simp [hx])
  have hlt1 : ∀ x ∈ p1, x.block < W.heap.size := fun x hx => hW'.lt x (by simp [hx])
  have hlt2 : ∀ x ∈ p2, x.block < W.heap.size := fun x hx => hW'.lt x (by simp [hx])
  clear hA0 hval0
  simp only [List.append_nil] at hW'
  have fin : ∀ (e : Ending) W', (e = .returned (.bool true) ∧ Below W.heap.size W W') → ∃ v, e = .returned v ∧ Rows.diskSyncsSpec.post enc Try.prog Try.f5 false true false false W #[v0, v1, v2] v W' := by
    rintro e W' ⟨rfl, hb⟩
    exact ⟨_, rfl, _, _, _, [], _, [], hW', trodAll_mk1 (shut_bool Try.underlying4 _),
      trodAll_mk3 (Below.trod syncs7_lifted_laid (by kernel_rfl) (of_decide_eq_true (by kernel_rfl)) h0 hb hlt0) (Below.trod syncs7_lifted_laid (by kernel_rfl) (of_decide_eq_true (by kernel_rfl)) h1 hb hlt1) (Below.trod syncs7_lifted_laid (by kernel_rfl) (of_decide_eq_true (by kernel_rfl)) h2 hb hlt2), rfl, hb.frame _, (fun h => by cases h)⟩
  obtain ⟨a0, n0, c0, rfl⟩ := okWide_slice Try.underlying34 (hval 0 34 v0 rfl rfl)
  obtain ⟨a1, n1, c1, rfl⟩ := okWide_slice Try.underlying34 (hval 1 34 v1 rfl rfl)
  obtain ⟨a2, n2, c2, rfl⟩ := okWide_slice Try.underlying31 (hval 2 31 v2 rfl rfl)
  obtain ⟨fu0, hf0⟩ := h0
  obtain ⟨fu1, hf1⟩ := h1
  obtain ⟨fu2, hf2⟩ := h2
  obtain ⟨A, c, bs, e0, q1, q2, q3⟩ := open_bytes Try.underlying34 Try.underlying5 (by kernel_rfl) hf0
  obtain ⟨B, d, cs, e1, r1, r2, r3⟩ := open_bytes Try.underlying34 Try.underlying5 (by kernel_rfl) hf1
  obtain ⟨C, f, ks, e2, s1⟩ := open_bools7 Try.underlying31 Try.underlying4 (by kernel_rfl) hf2
  obtain ⟨rfl, rfl, rfl⟩ : a0 = A ∧ n0 = bs.length ∧ c0 = c := by
    simp only [Value.cells] at e0
    injection e0 with e _
    injection e with e1 e2 e3
    exact ⟨e1, e2, e3⟩
  obtain ⟨rfl, rfl, rfl⟩ : a1 = B ∧ n1 = cs.length ∧ c1 = d := by
    simp only [Value.cells] at e1
    injection e1 with e _
    injection e with e1 e2 e3
    exact ⟨e1, e2, e3⟩
  obtain ⟨rfl, rfl, rfl⟩ : a2 = C ∧ n2 = ks.length ∧ c2 = f := by
    simp only [Value.cells] at e2
    injection e2 with e _
    injection e with e1 e2 e3
    exact ⟨e1, e2, e3⟩
  by_cases hb : 40 < bs.length ∨ 40 < cs.length ∨ 60 < ks.length
  · exact (syncs_big a0 bs.length c0 a1 cs.length c1 a2 ks.length c2 W hb).mono fin
  · exact (syncs_walk a0 c0 bs a1 c1 cs _ ks W ⟨a0, c0, rfl, q1, q2, q3⟩ ⟨a1, c1, rfl, r1, r2, r3⟩ s1 (by omega) (by omega) (by omega)).mono fin

theorem diskSyncs_holds : Rows.DiskSyncsSaid :=
  OpenClaim.holds_of_wide 5 Try.f5 rfl rfl rfl rfl rfl rfl rfl ⟨rfl, rfl, rfl, rfl, rfl⟩ rfl rfl rfl rfl rfl (by kernel_rfl) Try.func5 (by kernel_rfl)
    (of_decide_eq_true (by kernel_rfl)) (by unfold Func.isWrapper; first | (rw [if_pos (by decide +kernel)]; kernel_rfl) | (rw [if_neg (by decide +kernel)]; exact ⟨rfl, rfl⟩))
    (fun os started H enc _ => syncs7_lifted os started H enc)

#print axioms diskSyncs_holds
end Go.Proofs.Ytddllgbficjaoaa
