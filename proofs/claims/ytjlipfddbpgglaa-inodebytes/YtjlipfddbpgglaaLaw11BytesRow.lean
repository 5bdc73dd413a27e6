/-
  Proved: InodeBytes answers true for every list of bytes (P1101: any bytes as an inode, or that they are none; one that is has just those bytes); it leaves all that was there as it was. No condition.
-/
import Derived.Test.YtjlipfddbpgglaaLaw11Bytes
import Derived.Test.YtjlipfddbpgglaaOpenSized
import Derived.ProofKit
import Derived.OpenShut
namespace Go.Proofs.Ytjlipfddbpgglaa
open Go.ChangeShapes Go.WideShapes Go.ChangeAt Go.RowKit
set_option maxRecDepth 100000

theorem ibytes11_lifted_laid : laidOutB Try.prog = true := by kernel_rfl
theorem ibytes11_lifted_own : ownKnob Try.prog.godebug = none := by kernel_rfl

theorem ibytes11_lifted (os : Os) (started : os.Started) (H : Type) (enc : TypeId × Value → H) :
    ReturnsInHanded {} Try.checked os 4 .any (Rows.inodeBytesSpec.pre6 enc Try.prog Try.f4 Rows.inodeBytesRow.domain false) (Rows.inodeBytesSpec.post enc Try.prog Try.f4 false true false false) := by
  refine returnsInHanded_of_change_sized (C := Try.checked) ibytes11_lifted_own started (by kernel_rfl) Try.func4
    (ChangeSpec.witness6 (enc := enc) (C := Try.checked) false ⟨#[], #[.slice none 0 0], []⟩ 8 (by kernel_rfl) (by kernel_rfl) (by kernel_rfl) (by kernel_rfl)) ?_
  intro W base args ds gs before hval0 hW hcnd hsz0 _
  have hval : ∀ (j : Nat) t v, Try.f4.params[j]? = some t → args[j]? = some v → Value.okWide Try.prog W .any base t v := hval0
  have hsz : (DataW.weightsEach Try.prog (Try.f4.params.toList ++ Rows.inodeBytesSpec.plain.varTypes Try.prog) (ds ++ gs)).all (· ≤ reachBytes) = true := hsz0
  have hW' := hW
  obtain ⟨p, q, hA0, hV, rfl, hfz, hnd⟩ := hW
  have hA : DataW.TrodAll enc Try.prog W 0 (fun _ => true) true Try.f4.params.toList args.toList ds p := hA0
  rw [Try.params4] at hA hval hsz
  obtain ⟨v0, d0, rfl, rfl, h0⟩ := trodAll_one hA
  obtain ⟨rfl, rfl⟩ := trodVars_none hV
  have hlt0 : ∀ x ∈ p, x.block < W.heap.size := fun x hx => hW'.lt x (by simp [hx])
  clear hA0 hval0
  simp only [List.append_nil] at hW'
  have fin : ∀ (e : Ending) W', (e = .returned (.bool true) ∧ Below W.heap.size W W') → ∃ v, e = .returned v ∧ Rows.inodeBytesSpec.post enc Try.prog Try.f4 false true false false W #[v0] v W' := by
    rintro e W' ⟨rfl, hb⟩
    exact ⟨_, rfl, _, _, _, [], _, [], hW', trodAll_mk1 (shut_bool Try.underlying4 _),
      trodAll_mk1 (Below.trod ibytes11_lifted_laid (by kernel_rfl) (of_decide_eq_true (by kernel_rfl)) h0 hb hlt0), rfl, hb.frame _, (fun h => by cases h)⟩
  obtain ⟨a1, n1, c1, rfl⟩ := okWide_slice Try.underlying28 (hval 0 28 v0 rfl rfl)
  obtain ⟨fu1, hf1⟩ := h0
  have hr := bytes_reach Try.underlying28 Try.underlying5 (by kernel_rfl) (by kernel_rfl) hf1 hsz (j := 0) rfl rfl
  obtain ⟨A, c, bs, e1, q1, q2, q3⟩ := open_bytes Try.underlying28 Try.underlying5 (by kernel_rfl) hf1
  obtain ⟨rfl, rfl, rfl⟩ : a1 = A ∧ n1 = bs.length ∧ c1 = c := by
    simp only [Value.cells] at e1
    injection e1 with e _
    injection e with e1 e2 e3
    exact ⟨e1, e2, e3⟩
  exact (ibytes_any a1 c1 bs W ⟨a1, c1, rfl, q1, q2, q3⟩ (by omega)).mono (fun e W' hh => fin e W' ⟨hh.1, hh.2.below⟩)

theorem inodeBytes_holds : Rows.InodeBytesSaid :=
  OpenClaim.holds_of_wide 4 Try.f4 rfl rfl rfl rfl rfl rfl rfl ⟨rfl, rfl, rfl, rfl, rfl⟩ rfl rfl rfl rfl rfl (by kernel_rfl) Try.func4 (by kernel_rfl)
    (of_decide_eq_true (by kernel_rfl)) (by unfold Func.isWrapper; first | (rw [if_pos (by decide +kernel)]; kernel_rfl) | (rw [if_neg (by decide +kernel)]; exact ⟨rfl, rfl⟩))
    (fun os started H enc _ => ibytes11_lifted os started H enc)

#print axioms inodeBytes_holds
end Go.Proofs.Ytjlipfddbpgglaa
