/-
  Proved: PagesBytes answers true for every list of bytes and every two integers (P802: whatever bytes a disk has, opening a book on it ends); it leaves all that was there as it was. No condition.
-/
import Derived.Test.YtnhojcldeloigaaGreatLaw8Bytes
import Derived.Test.YtnhojcldeloigaaGreatOpenArgs
import Derived.ProofKit
import Derived.OpenShut
namespace Go.Proofs.YtnhojcldeloigaaGreat
open Go.ChangeShapes Go.WideShapes Go.ChangeAt Go.RowKit
set_option maxRecDepth 100000

theorem bytes8_lifted_laid : laidOutB Tryz.prog = true := by kernel_rfl
theorem bytes8_lifted_own : ownKnob Tryz.prog.godebug = none := by kernel_rfl

theorem bytes8_lifted (os : Os) (started : os.Started) (H : Type) (enc : TypeId × Value → H) :
    ReturnsInHanded {} Tryz.checked os 5 .any (Rows.pagesBytesSpec.pre6 enc Tryz.prog Tryz.f5 Rows.pagesBytesRow.domain false) (Rows.pagesBytesSpec.post enc Tryz.prog Tryz.f5 false true false false) := by
  refine returnsInHanded_of_change (C := Tryz.checked) bytes8_lifted_own started (by kernel_rfl) Tryz.func5
    (ChangeSpec.witness6 (enc := enc) (C := Tryz.checked) false ⟨#[], #[.slice none 0 0, .int .i64 0, .int .i64 0], []⟩ 8 (by kernel_rfl) (by kernel_rfl) (by kernel_rfl) (by kernel_rfl)) ?_
  intro W base args ds gs before hval0 hW hcnd _
  have hval : ∀ (j : Nat) t v, Tryz.f5.params[j]? = some t → args[j]? = some v → Value.okWide Tryz.prog W .any base t v := hval0
  have hW' := hW
  obtain ⟨p, q, hA0, hV, rfl, hfz, hnd⟩ := hW
  have hA : DataW.TrodAll enc Tryz.prog W 0 (fun _ => true) true Tryz.f5.params.toList args.toList ds p := hA0
  rw [Tryz.params5] at hA hval
  obtain ⟨v0, v1, v2, d0, d1, d2, p0, p1, p2, rfl, rfl, rfl, h0, h1, h2⟩ := trodAll_three hA
  obtain ⟨rfl, rfl⟩ := trodVars_none hV
  have hlt0 : ∀ x ∈ p0, x.block < W.heap.size := fun x hx => hW'.lt x (by simp [hx])
  obtain ⟨a1, rfl, rfl, rfl, w1⟩ := open_int Tryz.underlying3 (hval 1 3 v1 rfl rfl) h1
  obtain ⟨a2, rfl, rfl, rfl, w2⟩ := open_int Tryz.underlying3 (hval 2 3 v2 rfl rfl) h2
  clear hA0 hval0
  simp only [List.append_nil] at hW'
  have fin : ∀ (e : Ending) W', (e = .returned (.bool true) ∧ Below W.heap.size W W') → ∃ v, e = .returned v ∧ Rows.pagesBytesSpec.post enc Tryz.prog Tryz.f5 false true false false W #[v0, .int .i64 a1, .int .i64 a2] v W' := by
    rintro e W' ⟨rfl, hb⟩
    exact ⟨_, rfl, _, _, _, [], _, [], hW', trodAll_mk1 (shut_bool Tryz.underlying4 _),
      trodAll_mk3 (Below.trod bytes8_lifted_laid (by kernel_rfl) (of_decide_eq_true (by kernel_rfl)) h0 hb hlt0) (shut_int Tryz.underlying3 w1) (shut_int Tryz.underlying3 w2), rfl, hb.frame _, (fun h => by cases h)⟩
  obtain ⟨a0, n0, c0, rfl⟩ := okWide_slice Tryz.underlying33 (hval 0 33 v0 rfl rfl)
  obtain ⟨fu0, hf0⟩ := h0
  obtain ⟨A, c, bs, e0, q1, q2, q3⟩ := open_bytes Tryz.underlying33 Tryz.underlying5 (by kernel_rfl) hf0
  obtain ⟨rfl, rfl, rfl⟩ : a0 = A ∧ n0 = bs.length ∧ c0 = c := by
    simp only [Value.cells] at e0
    injection e0 with e _
    injection e with e1 e2 e3
    exact ⟨e1, e2, e3⟩
  by_cases hb : 4096 < bs.length
  · exact (bytes8_big a0 bs.length c0 a1 a2 W hb).mono fin
  · exact (bytes8_walk a0 c0 bs a1 a2 W ⟨a0, c0, rfl, q1, q2, q3⟩ (by omega)).mono fin

theorem pagesBytes_holds : Rows.PagesBytesSaid :=
  OpenClaim.holds_of_wide 5 Tryz.f5 rfl rfl rfl rfl rfl rfl rfl ⟨rfl, rfl, rfl, rfl, rfl⟩ rfl rfl rfl rfl rfl (by kernel_rfl) Tryz.func5 (by kernel_rfl)
    (of_decide_eq_true (by kernel_rfl)) (by unfold Func.isWrapper; first | (rw [if_pos (by decide +kernel)]; kernel_rfl) | (rw [if_neg (by decide +kernel)]; exact ⟨rfl, rfl⟩))
    (fun os started H enc _ => bytes8_lifted os started H enc)

#print axioms pagesBytes_holds
end Go.Proofs.YtnhojcldeloigaaGreat
