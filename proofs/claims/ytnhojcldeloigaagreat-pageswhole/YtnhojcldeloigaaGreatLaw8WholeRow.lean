/-
  Proved: PagesWhole answers true for every uint8, every list of bytes and every list of Booleans (P802: pages written with one number in each commit are never told apart, wherever the power goes, again and again); it leaves all that was there as it was. No condition.
-/
import Derived.Test.YtnhojcldeloigaaGreatLaw8WholeW
import Derived.Test.YtnhojcldeloigaaGreatLaw8WholeB
import Derived.Test.YtnhojcldeloigaaGreatOpenBools
import Derived.ProofKit
import Derived.OpenShut
namespace Go.Proofs.YtnhojcldeloigaaGreat
open Go.ChangeShapes Go.WideShapes Go.ChangeAt Go.RowKit
set_option maxRecDepth 100000

theorem whole8_lifted_laid : laidOutB Tryz.prog = true := by kernel_rfl
theorem whole8_lifted_own : ownKnob Tryz.prog.godebug = none := by kernel_rfl

theorem whole8_lifted (os : Os) (started : os.Started) (H : Type) (enc : TypeId × Value → H) :
    ReturnsInHanded {} Tryz.checked os 6 .any (Rows.pagesWholeSpec.pre6 enc Tryz.prog Tryz.f6 Rows.pagesWholeRow.domain false) (Rows.pagesWholeSpec.post enc Tryz.prog Tryz.f6 false true false false) := by
  refine returnsInHanded_of_change (C := Tryz.checked) whole8_lifted_own started (by kernel_rfl) Tryz.func6
    (ChangeSpec.witness6 (enc := enc) (C := Tryz.checked) false ⟨#[], #[.int .u8 0, .slice none 0 0, .slice none 0 0], []⟩ 8 (by kernel_rfl) (by kernel_rfl) (by kernel_rfl) (by kernel_rfl)) ?_
  intro W base args ds gs before hval0 hW hcnd _
  have hval : ∀ (j : Nat) t v, Tryz.f6.params[j]? = some t → args[j]? = some v → Value.okWide Tryz.prog W .any base t v := hval0
  have hW' := hW
  obtain ⟨p, q, hA0, hV, rfl, hfz, hnd⟩ := hW
  have hA : DataW.TrodAll enc Tryz.prog W 0 (fun _ => true) true Tryz.f6.params.toList args.toList ds p := hA0
  rw [Tryz.params6] at hA hval
  obtain ⟨v0, v1, v2, d0, d1, d2, p0, p1, p2, rfl, rfl, rfl, h0, h1, h2⟩ := trodAll_three hA
  obtain ⟨rfl, rfl⟩ := trodVars_none hV
  obtain ⟨a0, rfl, rfl, rfl, w0⟩ := open_int Tryz.underlying5 (hval 0 5 v0 rfl rfl) h0
  have hlt1 : ∀ x ∈ p1, x.block < W.heap.size := fun x hx => hW'.lt x (by simp [hx])
  have hlt2 : ∀ x ∈ p2, x.block < W.heap.size := fun x hx => hW'.lt x (by simp [hx])
  clear hA0 hval0
  simp only [List.append_nil] at hW'
  have fin : ∀ (e : Ending) W', (e = .returned (.bool true) ∧ Below W.heap.size W W') → ∃ v, e = .returned v ∧ Rows.pagesWholeSpec.post enc Tryz.prog Tryz.f6 false true false false W #[.int .u8 a0, v1, v2] v W' := by
    rintro e W' ⟨rfl, hb⟩
    exact ⟨_, rfl, _, _, _, [], _, [], hW', trodAll_mk1 (shut_bool Tryz.underlying4 _),
      trodAll_mk3 (shut_int Tryz.underlying5 w0) (Below.trod whole8_lifted_laid (by kernel_rfl) (of_decide_eq_true (by kernel_rfl)) h1 hb hlt1) (Below.trod whole8_lifted_laid (by kernel_rfl) (of_decide_eq_true (by kernel_rfl)) h2 hb hlt2), rfl, hb.frame _, (fun h => by cases h)⟩
  obtain ⟨a1, n1, c1, rfl⟩ := okWide_slice Tryz.underlying33 (hval 1 33 v1 rfl rfl)
  obtain ⟨a2, n2, c2, rfl⟩ := okWide_slice Tryz.underlying34 (hval 2 34 v2 rfl rfl)
  obtain ⟨fu1, hf1⟩ := h1
  obtain ⟨fu2, hf2⟩ := h2
  obtain ⟨B, d, cs, e1, r1, r2, r3⟩ := open_bytes Tryz.underlying33 Tryz.underlying5 (by kernel_rfl) hf1
  obtain ⟨C, f, ks, e2, s1⟩ := open_bools7 Tryz.underlying34 Tryz.underlying4 (by kernel_rfl) hf2
  obtain ⟨rfl, rfl, rfl⟩ : a1 = B ∧ n1 = cs.length ∧ c1 = d := by
    simp only [Value.cells] at e1
    injection e1 with e _
    injection e with e1 e2 e3
    exact ⟨e1, e2, e3⟩
  obtain ⟨rfl, rfl, rfl⟩ : a2 = C ∧ n2 = ks.length ∧ c2 = f := by
    simp only [Value.cells] at e2
    injection e2 with e _
    injection e with e1 e2 e3
    exact ⟨e1, e2, e3⟩
  have b0 := bounds_u8 w0
  obtain ⟨n, rfl⟩ : ∃ n : Nat, a0 = (n : Int) := ⟨a0.toNat, by omega⟩
  by_cases hb : 20 < cs.length ∨ 60 < ks.length
  · exact (whole_big n a1 a2 cs.length c1 ks.length c2 W hb).mono fin
  · exact (whole_walk n (by omega) a1 a2 c1 c2 cs ks W ⟨a1, c1, rfl, r1, r2, r3⟩ s1 (by omega) (by omega)).mono fin

theorem pagesWhole_holds : Rows.PagesWholeSaid :=
  OpenClaim.holds_of_wide 6 Tryz.f6 rfl rfl rfl rfl rfl rfl rfl ⟨rfl, rfl, rfl, rfl, rfl⟩ rfl rfl rfl rfl rfl (by kernel_rfl) Tryz.func6 (by kernel_rfl)
    (of_decide_eq_true (by kernel_rfl)) (by unfold Func.isWrapper; first | (rw [if_pos (by decide +kernel)]; kernel_rfl) | (rw [if_neg (by decide +kernel)]; exact ⟨rfl, rfl⟩))
    (fun os started H enc _ => whole8_lifted os started H enc)

#print axioms pagesWhole_holds
end Go.Proofs.YtnhojcldeloigaaGreat
