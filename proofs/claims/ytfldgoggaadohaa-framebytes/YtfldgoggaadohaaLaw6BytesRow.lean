/-
  Proved: FrameBytes answers true for every list of bytes, every list of cuts and every list of sizes (P601: any bytes, in any pieces, whatever size is agreed: each body as soon as it is whole, what is held, when the stream dies, and nothing behind it; a twin goes its own way); it leaves all that was there as it was. No condition.
-/
import Derived.Test.YtfldgoggaadohaaLaw6Bytes
import Derived.Test.YtfldgoggaadohaaOpenFrame
import Derived.ProofKit
import Derived.OpenShut
namespace Go.Proofs.Ytfldgoggaadohaa
open Go.ChangeShapes Go.WideShapes Go.ChangeAt Go.RowKit
set_option maxRecDepth 100000

theorem bytes6_lifted_laid : laidOutB Try.prog = true := by kernel_rfl
theorem bytes6_lifted_own : ownKnob Try.prog.godebug = none := by kernel_rfl

theorem bytes6_lifted (os : Os) (started : os.Started) (H : Type) (enc : TypeId × Value → H) :
    ReturnsInHanded {} Try.checked os 3 .any (Rows.frameBytesSpec.pre6 enc Try.prog Try.f3 Rows.frameBytesRow.domain false) (Rows.frameBytesSpec.post enc Try.prog Try.f3 false true false false) := by
  refine returnsInHanded_of_change (C := Try.checked) bytes6_lifted_own started (by kernel_rfl) Try.func3
    (ChangeSpec.witness6 (enc := enc) (C := Try.checked) false ⟨#[], #[.slice none 0 0, .slice none 0 0, .slice none 0 0], []⟩ 8 (by kernel_rfl) (by kernel_rfl) (by kernel_rfl) (by kernel_rfl)) ?_
  intro W base args ds gs before hval0 hW hcnd _
  have hval : ∀ (j : Nat) t v, Try.f3.params[j]? = some t → args[j]? = some v → Value.okWide Try.prog W .any base t v := hval0
  have hW' := hW
  obtain ⟨p, q, hA0, hV, rfl, hfz, hnd⟩ := hW
  have hA : DataW.TrodAll enc Try.prog W 0 (fun _ => true) true Try.f3.params.toList args.toList ds p := hA0
  rw [Try.params3] at hA hval
  obtain ⟨v0, v1, v2, d0, d1, d2, p0, p1, p2, rfl, rfl, rfl, h0, h1, h2⟩ := trodAll_three hA
  obtain ⟨rfl, rfl⟩ := trodVars_none hV
  have hlt0 : ∀ x ∈ p0, x.block < W.heap.size := fun x hx => hW'.lt x (by simp [hx])
  have hlt1 : ∀ x ∈ p1, x.block < W.heap.size := fun x hx => hW'.lt x (by simp [hx])
  have hlt2 : ∀ x ∈ p2, x.block < W.heap.size := fun x hx => hW'.lt x (by simp [hx])
  clear hA0 hval0
  simp only [List.append_nil] at hW'
  have fin : ∀ (e : Ending) W', (e = .returned (.bool true) ∧ Below W.heap.size W W') → ∃ v, e = .returned v ∧ Rows.frameBytesSpec.post enc Try.prog Try.f3 false true false false W #[v0, v1, v2] v W' := by
    rintro e W' ⟨rfl, hb⟩
    exact ⟨_, rfl, _, _, _, [], _, [], hW', trodAll_mk1 (shut_bool Try.underlying4 _),
      trodAll_mk3 (Below.trod bytes6_lifted_laid (by kernel_rfl) (of_decide_eq_true (by kernel_rfl)) h0 hb hlt0) (Below.trod bytes6_lifted_laid (by kernel_rfl) (of_decide_eq_true (by kernel_rfl)) h1 hb hlt1) (Below.trod bytes6_lifted_laid (by kernel_rfl) (of_decide_eq_true (by kernel_rfl)) h2 hb hlt2), rfl, hb.frame _, (fun h => by cases h)⟩
  obtain ⟨a0, n0, c0, rfl⟩ := okWide_slice Try.underlying22 (hval 0 22 v0 rfl rfl)
  obtain ⟨a1, n1, c1, rfl⟩ := okWide_slice Try.underlying22 (hval 1 22 v1 rfl rfl)
  obtain ⟨a2, n2, c2, rfl⟩ := okWide_slice Try.underlying23 (hval 2 23 v2 rfl rfl)
  obtain ⟨fu0, hf0⟩ := h0
  obtain ⟨fu1, hf1⟩ := h1
  obtain ⟨fu2, hf2⟩ := h2
  obtain ⟨A, c, bs, e0, q1, q2, q3⟩ := open_bytes Try.underlying22 Try.underlying5 (by kernel_rfl) hf0
  obtain ⟨B, d, cs, e1, r1, r2, r3⟩ := open_bytes Try.underlying22 Try.underlying5 (by kernel_rfl) hf1
  obtain ⟨C, f, ms, e2, s1⟩ := open_u16s Try.underlying23 Try.underlying30 (by kernel_rfl) hf2
  obtain ⟨rfl, rfl, rfl⟩ : a0 = A ∧ n0 = bs.length ∧ c0 = c := by
    simp only [Value.cells] at e0
    injection e0 with e _
    injection e with e1 e2 e3
    exact ⟨e1, e2, e3⟩
  obtain ⟨rfl, rfl, rfl⟩ : a1 = B ∧ n1 = cs.length ∧ c1 = d := by
    simp only [Value.cells] at e1
    injection e1 with e _
    injection e with e1 e2 e3
    exact ⟨e1, e2, e3⟩
  obtain ⟨rfl, rfl, rfl⟩ : a2 = C ∧ n2 = ms.length ∧ c2 = f := by
    simp only [Value.cells] at e2
    injection e2 with e _
    injection e with e1 e2 e3
    exact ⟨e1, e2, e3⟩
  by_cases hb : 2000 < bs.length ∨ 40 < cs.length
  · exact (bytes6_big a0 bs.length c0 a1 cs.length c1 _ W hb).mono fin
  · exact (bytes6_walk a0 c0 bs a1 c1 cs a2 c2 ms W ⟨a0, c0, rfl, q1, q2, q3⟩ ⟨a1, c1, rfl, r1, r2, r3⟩ s1 (by omega) (by omega)).mono fin

theorem frameBytes_holds : Rows.FrameBytesSaid :=
  OpenClaim.holds_of_wide 3 Try.f3 rfl rfl rfl rfl rfl rfl rfl ⟨rfl, rfl, rfl, rfl, rfl⟩ rfl rfl rfl rfl rfl (by kernel_rfl) Try.func3 (by kernel_rfl)
    (of_decide_eq_true (by kernel_rfl)) (by unfold Func.isWrapper; first | (rw [if_pos (by decide +kernel)]; kernel_rfl) | (rw [if_neg (by decide +kernel)]; exact ⟨rfl, rfl⟩))
    (fun os started H enc _ => bytes6_lifted os started H enc)

#print axioms frameBytes_holds
end Go.Proofs.Ytfldgoggaadohaa
