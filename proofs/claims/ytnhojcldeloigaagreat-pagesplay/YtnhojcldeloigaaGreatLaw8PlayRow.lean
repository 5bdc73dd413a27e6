/-
  Proved: PagesPlay answers true for every uint8 and every list of acts (P801, P802: any pages written, committed, given up, the power cut at any write of a sector, any number of times: what is read is what was written; behind a cut it is what was committed, all at once; no other sector is touched); it leaves all that was there as it was. No condition.
-/
import Derived.Test.YtnhojcldeloigaaGreatLaw8PlayD
import Derived.Test.YtnhojcldeloigaaGreatLaw8PlayBig
import Derived.ProofKit
import Derived.OpenShut
namespace Go.Proofs.YtnhojcldeloigaaGreat
open Go.ChangeShapes Go.WideShapes Go.ChangeAt Go.RowKit
set_option maxRecDepth 100000

theorem play8_lifted_laid : laidOutB Tryz.prog = true := by kernel_rfl
theorem play8_lifted_own : ownKnob Tryz.prog.godebug = none := by kernel_rfl

theorem play8_lifted (os : Os) (started : os.Started) (H : Type) (enc : TypeId × Value → H) :
    ReturnsInHanded {} Tryz.checked os 3 .any (Rows.pagesPlaySpec.pre6 enc Tryz.prog Tryz.f3 Rows.pagesPlayRow.domain false) (Rows.pagesPlaySpec.post enc Tryz.prog Tryz.f3 false true false false) := by
  refine returnsInHanded_of_change (C := Tryz.checked) play8_lifted_own started (by kernel_rfl) Tryz.func3
    (ChangeSpec.witness6 (enc := enc) (C := Tryz.checked) false ⟨#[], #[.int .u8 0, .slice none 0 0], []⟩ 8 (by kernel_rfl) (by kernel_rfl) (by kernel_rfl) (by kernel_rfl)) ?_
  intro W base args ds gs before hval0 hW hcnd _
  have hval : ∀ (j : Nat) t v, Tryz.f3.params[j]? = some t → args[j]? = some v → Value.okWide Tryz.prog W .any base t v := hval0
  have hW' := hW
  obtain ⟨p, q, hA0, hV, rfl, hfz, hnd⟩ := hW
  have hA : DataW.TrodAll enc Tryz.prog W 0 (fun _ => true) true Tryz.f3.params.toList args.toList ds p := hA0
  rw [Tryz.params3] at hA hval
  obtain ⟨v0, v1, d0, d1, p0, p1, rfl, rfl, rfl, h0, h1⟩ := trodAll_two hA
  obtain ⟨rfl, rfl⟩ := trodVars_none hV
  obtain ⟨a0, rfl, rfl, rfl, w0⟩ := open_int Tryz.underlying5 (hval 0 5 v0 rfl rfl) h0
  have hlt1 : ∀ x ∈ p1, x.block < W.heap.size := fun x hx => hW'.lt x (by simp [hx])
  clear hA0 hval0
  simp only [List.append_nil] at hW'
  have fin : ∀ (e : Ending) W', (e = .returned (.bool true) ∧ Below W.heap.size W W') → ∃ v, e = .returned v ∧ Rows.pagesPlaySpec.post enc Tryz.prog Tryz.f3 false true false false W #[.int .u8 a0, v1] v W' := by
    rintro e W' ⟨rfl, hb⟩
    exact ⟨_, rfl, _, _, _, [], _, [], hW', trodAll_mk1 (shut_bool Tryz.underlying4 _),
      trodAll_mk2 (shut_int Tryz.underlying5 w0) (Below.trod play8_lifted_laid (by kernel_rfl) (of_decide_eq_true (by kernel_rfl)) h1 hb hlt1), rfl, hb.frame _, (fun h => by cases h)⟩
  obtain ⟨a1, n1, c1, rfl⟩ := okWide_slice Tryz.underlying22 (hval 1 22 v1 rfl rfl)
  obtain ⟨fu1, hf1⟩ := h1
  obtain ⟨B, d, xs, e1, hx⟩ := open_acts8 hf1
  obtain ⟨rfl, rfl, rfl⟩ : a1 = B ∧ n1 = xs.length ∧ c1 = d := by
    simp only [Value.cells] at e1
    injection e1 with e _
    injection e with e1 e2 e3
    exact ⟨e1, e2, e3⟩
  have b0 := bounds_u8 w0
  obtain ⟨n, rfl⟩ : ∃ n : Nat, a0 = (n : Int) := ⟨a0.toNat, by omega⟩
  by_cases hb : fewOk xs
  · exact (play_first n (by omega) a1 c1 xs W hx hb).mono fin
  · exact (play_big n a1 c1 xs W hx hb).mono fin

theorem pagesPlay_holds : Rows.PagesPlaySaid :=
  OpenClaim.holds_of_wide 3 Tryz.f3 rfl rfl rfl rfl rfl rfl rfl ⟨rfl, rfl, rfl, rfl, rfl⟩ rfl rfl rfl rfl rfl (by kernel_rfl) Tryz.func3 (by kernel_rfl)
    (of_decide_eq_true (by kernel_rfl)) (by unfold Func.isWrapper; first | (rw [if_pos (by decide +kernel)]; kernel_rfl) | (rw [if_neg (by decide +kernel)]; exact ⟨rfl, rfl⟩))
    (fun os started H enc _ => play8_lifted os started H enc)

#print axioms pagesPlay_holds
end Go.Proofs.YtnhojcldeloigaaGreat
