/-
  Proved: DiskOf answers true for every list of bytes and every size (P701: any bytes as a disk, if they are whole sectors; read again they are those bytes); it leaves all that was there as it was. No condition.
-/
import Derived.Test.YtddllgbficjaoaaLaw7Of
import Derived.Test.YtddllgbficjaoaaOpenArgs
import Derived.ProofKit
import Derived.OpenShut
namespace Go.Proofs.Ytddllgbficjaoaa
open Go.ChangeShapes Go.WideShapes Go.ChangeAt Go.RowKit
set_option maxRecDepth 100000

theorem of7_lifted_laid : laidOutB Try.prog = true := by kernel_rfl
theorem of7_lifted_own : ownKnob Try.prog.godebug = none := by kernel_rfl

theorem of7_lifted (os : Os) (started : os.Started) (H : Type) (enc : TypeId × Value → H) :
    ReturnsInHanded {} Try.checked os 4 .any (Rows.diskOfSpec.pre6 enc Try.prog Try.f4 Rows.diskOfRow.domain false) (Rows.diskOfSpec.post enc Try.prog Try.f4 false true false false) := by
  refine returnsInHanded_of_change (C := Try.checked) of7_lifted_own started (by kernel_rfl) Try.func4
    (ChangeSpec.witness6 (enc := enc) (C := Try.checked) false ⟨#[], #[.slice none 0 0, .int .i64 0], []⟩ 8 (by kernel_rfl) (by kernel_rfl) (by kernel_rfl) (by kernel_rfl)) ?_
  intro W base args ds gs before hval0 hW hcnd _
  have hval : ∀ (j : Nat) t v, Try.f4.params[j]? = some t → args[j]? = some v → Value.okWide Try.prog W .any base t v := hval0
  have hW' := hW
  obtain ⟨p, q, hA0, hV, rfl, hfz, hnd⟩ := hW
  have hA : DataW.TrodAll enc Try.prog W 0 (fun _ => true) true Try.f4.params.toList args.toList ds p := hA0
  rw [Try.params4] at hA hval
  obtain ⟨v0, v1, d0, d1, p0, p1, rfl, rfl, rfl, h0, h1⟩ := trodAll_two hA
  obtain ⟨rfl, rfl⟩ := trodVars_none hV
  obtain ⟨z, rfl, rfl, rfl, w1⟩ := open_int Try.underlying3 (hval 1 3 v1 rfl rfl) h1
  have hlt0 : ∀ x ∈ p0, x.block < W.heap.size := fun x hx => hW'.lt x (by simp [hx])
  clear hA0 hval0
  simp only [List.append_nil] at hW'
  have fin : ∀ (e : Ending) W', (e = .returned (.bool true) ∧ Below W.heap.size W W') → ∃ v, e = .returned v ∧ Rows.diskOfSpec.post enc Try.prog Try.f4 false true false false W #[v0, .int .i64 z] v W' := by
    rintro e W' ⟨rfl, hb⟩
    exact ⟨_, rfl, _, _, _, [], _, [], hW', trodAll_mk1 (shut_bool Try.underlying4 _),
      trodAll_mk2 (Below.trod of7_lifted_laid (by kernel_rfl) (of_decide_eq_true (by kernel_rfl)) h0 hb hlt0) (shut_int Try.underlying3 w1), rfl, hb.frame _, (fun h => by cases h)⟩
  obtain ⟨a0, n0, c0, rfl⟩ := okWide_slice Try.underlying34 (hval 0 34 v0 rfl rfl)
  obtain ⟨fu0, hf0⟩ := h0
  obtain ⟨A, c, bs, e0, q1, q2, q3⟩ := open_bytes Try.underlying34 Try.underlying5 (by kernel_rfl) hf0
  obtain ⟨rfl, rfl, rfl⟩ : a0 = A ∧ n0 = bs.length ∧ c0 = c := by
    simp only [Value.cells] at e0
    injection e0 with e _
    injection e with e1 e2 e3
    exact ⟨e1, e2, e3⟩
  by_cases hb : 3000 < bs.length
  · exact (of_big a0 bs.length c0 z W hb).mono fin
  · by_cases hno : 64 ≤ z ∧ z ≤ 1024 ∧ 0 < bs.length ∧ (bs.length : Int) % z = 0
    · obtain ⟨m1, m2, m3, m4⟩ := hno
      obtain ⟨z, rfl⟩ : ∃ k : Nat, z = (k : Int) := ⟨z.toNat, by omega⟩
      obtain ⟨ad, rfl, _⟩ := q3 m3
      have hmd : bs.length % z = 0 := by omega
      have hl : bs.length = bs.length / z * z := by
        have := Nat.div_add_mod bs.length z
        rw [hmd, Nat.add_zero, Nat.mul_comm] at this
        exact this.symm
      exact (of_walk ad (bs.length / z) z c0 bs W ⟨_, c0, rfl, q1, q2, q3⟩ hl (by
        rcases Nat.eq_zero_or_pos (bs.length / z) with h | h
        · rw [h] at hl
          omega
        · exact h) (by omega) (by omega) (by omega)).mono fin
    · exact (of_not a0 bs.length c0 z W (by omega) hno).mono fin

theorem diskOf_holds : Rows.DiskOfSaid :=
  OpenClaim.holds_of_wide 4 Try.f4 rfl rfl rfl rfl rfl rfl rfl ⟨rfl, rfl, rfl, rfl, rfl⟩ rfl rfl rfl rfl rfl (by kernel_rfl) Try.func4 (by kernel_rfl)
    (of_decide_eq_true (by kernel_rfl)) (by unfold Func.isWrapper; first | (rw [if_pos (by decide +kernel)]; kernel_rfl) | (rw [if_neg (by decide +kernel)]; exact ⟨rfl, rfl⟩))
    (fun os started H enc _ => of7_lifted os started H enc)

#print axioms diskOf_holds
end Go.Proofs.Ytddllgbficjaoaa
