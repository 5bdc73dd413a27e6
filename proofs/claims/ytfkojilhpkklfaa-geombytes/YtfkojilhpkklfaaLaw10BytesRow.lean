/-
  Proved: GeomBytes answers true for every geometry and every list of bytes (P1001: any geometry as a block of bytes, and back; any bytes as one, or that they are none); it leaves all that was there as it was. No condition.
-/
import Derived.Test.YtfkojilhpkklfaaLaw10Bytes
import Derived.Test.YtfkojilhpkklfaaOpenGeom
import Derived.ProofKit
import Derived.OpenShut
namespace Go.Proofs.Ytfkojilhpkklfaa
open Go.ChangeShapes Go.WideShapes Go.ChangeAt Go.RowKit
set_option maxRecDepth 100000

theorem gbytes10_lifted_laid : laidOutB Try.prog = true := by kernel_rfl
theorem gbytes10_lifted_own : ownKnob Try.prog.godebug = none := by kernel_rfl

theorem gbytes10_lifted (os : Os) (started : os.Started) (H : Type) (enc : TypeId × Value → H) :
    ReturnsInHanded {} Try.checked os 3 .any (Rows.geomBytesSpec.pre6 enc Try.prog Try.f3 Rows.geomBytesRow.domain false) (Rows.geomBytesSpec.post enc Try.prog Try.f3 false true false false) := by
  refine returnsInHanded_of_change (C := Try.checked) gbytes10_lifted_own started (by kernel_rfl) Try.func3
    (ChangeSpec.witness6 (enc := enc) (C := Try.checked) false ⟨#[], #[.agg #[.int .i64 0, .int .i64 0, .int .i64 0], .slice none 0 0], []⟩ 8 (by kernel_rfl) (by kernel_rfl) (by kernel_rfl) (by kernel_rfl)) ?_
  intro W base args ds gs before hval0 hW hcnd _
  have hval : ∀ (j : Nat) t v, Try.f3.params[j]? = some t → args[j]? = some v → Value.okWide Try.prog W .any base t v := hval0
  have hW' := hW
  obtain ⟨p, q, hA0, hV, rfl, hfz, hnd⟩ := hW
  have hA : DataW.TrodAll enc Try.prog W 0 (fun _ => true) true Try.f3.params.toList args.toList ds p := hA0
  rw [Try.params3] at hA hval
  obtain ⟨v0, v1, d0, d1, p0, p1, rfl, rfl, rfl, h0, h1⟩ := trodAll_two hA
  obtain ⟨rfl, rfl⟩ := trodVars_none hV
  have hlt0 : ∀ x ∈ p0, x.block < W.heap.size := fun x hx => hW'.lt x (by simp [hx])
  obtain ⟨g, rfl⟩ := open_geom (hval 0 23 v0 rfl rfl) h0
  have hlt1 : ∀ x ∈ p1, x.block < W.heap.size := fun x hx => hW'.lt x (by simp [hx])
  clear hA0 hval0
  simp only [List.append_nil] at hW'
  have fin : ∀ (e : Ending) W', (e = .returned (.bool true) ∧ Below W.heap.size W W') → ∃ v, e = .returned v ∧ Rows.geomBytesSpec.post enc Try.prog Try.f3 false true false false W #[g.val, v1] v W' := by
    rintro e W' ⟨rfl, hb⟩
    exact ⟨_, rfl, _, _, _, [], _, [], hW', trodAll_mk1 (shut_bool Try.underlying4 _),
      trodAll_mk2 (Below.trod gbytes10_lifted_laid (by kernel_rfl) (of_decide_eq_true (by kernel_rfl)) h0 hb hlt0) (Below.trod gbytes10_lifted_laid (by kernel_rfl) (of_decide_eq_true (by kernel_rfl)) h1 hb hlt1), rfl, hb.frame _, (fun h => by cases h)⟩
  obtain ⟨a1, n1, c1, rfl⟩ := okWide_slice Try.underlying24 (hval 1 24 v1 rfl rfl)
  obtain ⟨fu1, hf1⟩ := h1
  obtain ⟨A, c, bs, e1, q1, q2, q3⟩ := open_bytes Try.underlying24 Try.underlying5 (by kernel_rfl) hf1
  obtain ⟨rfl, rfl, rfl⟩ : a1 = A ∧ n1 = bs.length ∧ c1 = c := by
    simp only [Value.cells] at e1
    injection e1 with e _
    injection e with e1 e2 e3
    exact ⟨e1, e2, e3⟩
  by_cases hb : 1100 < bs.length
  · exact (gbytes_big g a1 bs.length c1 W hb).mono (fun e W' hh => fin e W' ⟨hh.1, hh.2.below⟩)
  · exact (gbytes_walk g a1 c1 bs W ⟨a1, c1, rfl, q1, q2, q3⟩ (by omega)).mono (fun e W' hh => fin e W' ⟨hh.1, hh.2.below⟩)

theorem geomBytes_holds : Rows.GeomBytesSaid :=
  OpenClaim.holds_of_wide 3 Try.f3 rfl rfl rfl rfl rfl rfl rfl ⟨rfl, rfl, rfl, rfl, rfl⟩ rfl rfl rfl rfl rfl (by kernel_rfl) Try.func3 (by kernel_rfl)
    (of_decide_eq_true (by kernel_rfl)) (by unfold Func.isWrapper; first | (rw [if_pos (by decide +kernel)]; kernel_rfl) | (rw [if_neg (by decide +kernel)]; exact ⟨rfl, rfl⟩))
    (fun os started H enc _ => gbytes10_lifted os started H enc)

#print axioms geomBytes_holds
end Go.Proofs.Ytfkojilhpkklfaa
