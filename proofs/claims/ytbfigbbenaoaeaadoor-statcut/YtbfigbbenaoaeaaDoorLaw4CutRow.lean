/-
  Proved: StatCut answers true for every record, every cut, every bytes (P401: a record that is cut anywhere is too short; with more behind it, it is the same one); it leaves all that was there as it was. Condition, tied to the program's text: the two tables of unicode/utf8 hold what they are laid with. The card's tie speaks of the pruned copy of the project that this seat loads.
-/
import Derived.Test.YtbfigbbenaoaeaaDoorLaw4Tabs
import Derived.Test.YtbfigbbenaoaeaaDoorOpenStat
import Derived.Test.YtbfigbbenaoaeaaDoorLaw4Cut
namespace Go.Proofs.YtbfigbbenaoaeaaDoor
open Go.ChangeShapes Go.WideShapes Go.ChangeAt Go.RowKit Go.Lib Go.ChangeMaps
set_option maxRecDepth 100000

theorem cut4_lifted (os : Os) (started : os.Started) (H : Type) (enc : TypeId × Value → H) :
    ReturnsInHanded {} Tryd.checked os 5 .any (fun w args => (Rows.statCutSpec.pre enc Tryd.prog Tryd.f5 [] false w args ∧ laidMetH Tryd.prog laid2 w) ∧ sizedMet enc Tryd.prog Tryd.f5 (OpenSpec.ofChange Rows.statCutSpec) false w args)
      (Rows.statCutSpec.post enc Tryd.prog Tryd.f5 false true false false) := by
  refine returnsInHanded_of_change_and (C := Tryd.checked) (X := fun w _ => laidMetH Tryd.prog laid2 w) (fun _ _ _ hh h => h.of_heap hh) own2 started (by kernel_rfl) Tryd.func5
    (ChangeSpec.witness_shaped (enc := enc) (C := Tryd.checked) (os := os) (X := fun w _ => laidMetH Tryd.prog laid2 w) false (World.laidAll Tryd.prog os laid2)
      #[.agg #[.int .u16 0, .int .u32 0, .int .u8 0, .int .u32 0, .int .u64 0, .int .u32 0, .int .u32 0, .int .u32 0, .int .u64 0, .string ⟨#[]⟩, .string ⟨#[]⟩, .string ⟨#[]⟩, .string ⟨#[]⟩], .int .i64 0, .slice none 0 0] 8 (World.laidAll_os _ _ _)
      (World.shaped_of_ZipB (by kernel_rfl) (by kernel_rfl)) (by kernel_rfl) (by kernel_rfl) (by kernel_rfl) (laid_world os _)) ?_
  intro W base args ds gs before hval0 hW _ _ hL _
  have hval : ∀ (j : Nat) t v, Tryd.f5.params[j]? = some t → args[j]? = some v → Value.okWide Tryd.prog W .any base t v := hval0
  have hW' := hW
  obtain ⟨p, q, hA0, hV, rfl, _, _⟩ := hW
  have hA : DataW.TrodAll enc Tryd.prog W 0 (fun _ => true) true Tryd.f5.params.toList args.toList ds p := hA0
  rw [Tryd.params5] at hA hval
  obtain ⟨v0, v1, v2, d0, d1, d2, p0, p1, p2, rfl, rfl, rfl, h0, h1, h2⟩ := trodAll_three hA
  obtain ⟨rfl, rfl⟩ := trodVars_none hV
  obtain ⟨s, hs, rfl⟩ := open_stat (hval 0 28 v0 rfl rfl) h0
  obtain ⟨a1, rfl, rfl, rfl, w1⟩ := open_int Tryd.underlying3 (hval 1 3 v1 rfl rfl) h1
  clear hA0 hval0 hA
  simp only [List.append_nil] at hW'
  rw [laid_plain] at hL
  have hT := tabs_of_laid hL
  have hlt0 : ∀ x ∈ p0, x.block < W.heap.size := fun x hx => hW'.lt x (by simp [hx])
  have hlt2 : ∀ x ∈ p2, x.block < W.heap.size := fun x hx => hW'.lt x (by simp [hx])
  have fin : ∀ (e : Ending) W', (e = .returned (.bool true) ∧ Below W.heap.size W W') → ∃ v, e = .returned v ∧ Rows.statCutSpec.post enc Tryd.prog Tryd.f5 false true false false W #[s.val, .int .i64 a1, v2] v W' := by
    rintro e W' ⟨rfl, hb⟩
    exact ⟨_, rfl, _, _, _, [], _, [], hW', trodAll_mk1 (shut_bool Tryd.underlying4 _),
      trodAll_mk3 (Below.trod Tryd.laidOut (by kernel_rfl) (of_decide_eq_true (by kernel_rfl)) h0 hb hlt0) (shut_int Tryd.underlying3 w1) (Below.trod Tryd.laidOut (by kernel_rfl) (of_decide_eq_true (by kernel_rfl)) h2 hb hlt2), rfl, hb.frame _, (fun h => by cases h)⟩
  obtain ⟨a0, n0, c0, rfl⟩ := okWide_slice Tryd.underlying31 (hval 2 31 v2 rfl rfl)
  obtain ⟨fu0, hf0⟩ := h2
  obtain ⟨A, c, bs, e, e1, e2, e3⟩ := open_bytes Tryd.underlying31 Tryd.underlying5 (by kernel_rfl) hf0
  obtain ⟨rfl, rfl, rfl⟩ : a0 = A ∧ n0 = bs.length ∧ c0 = c := by
    simp only [Value.cells] at e
    injection e with e _
    injection e with e1 e2 e3
    exact ⟨e1, e2, e3⟩
  by_cases hb : ¬ s.isFew ∨ a1 < 0 ∨ 300 < bs.length
  · exact (cut4_early s a1 a0 bs.length c0 W hT hb).mono fin
  · have hf : s.isFew := Classical.byContradiction fun h => hb (.inl h)
    have hn : ¬ a1 < 0 := fun h => hb (.inr (.inl h))
    have hm : ¬ 300 < bs.length := fun h => hb (.inr (.inr h))
    obtain ⟨n, rfl⟩ : ∃ n : Nat, a1 = (n : Int) := ⟨a1.toNat, by omega⟩
    exact (cut4_walk s n a0 c0 bs W hT hs hf (by omega) ⟨a0, c0, rfl, e1, e2, e3⟩).mono fin

theorem statCut_row : Rows.StatCutSaid :=
  OpenClaim.holds_of_wide 5 Tryd.f5 rfl rfl rfl rfl rfl rfl rfl ⟨rfl, rfl, rfl, rfl, rfl⟩ rfl rfl rfl rfl rfl (by kernel_rfl) Tryd.func5 (by kernel_rfl)
    (of_decide_eq_true (by kernel_rfl)) (by unfold Func.isWrapper; first | (rw [if_pos (by decide +kernel)]; kernel_rfl) | (rw [if_neg (by decide +kernel)]; exact ⟨rfl, rfl⟩))
    (fun os started H enc _ => cut4_lifted os started H enc)

theorem statCut_holds : Rows.StatCutCardSaid :=
  Claim7.holds_tied_plain_at .later [] [.data, .pinned] true Rows.statCutCard.stood.harness true statCut_row (fun _ h => by cases h) (by kernel_rfl) (fun _ h => by cases h) statCut_row_tie rfl ⟨rfl, rfl⟩ (by kernel_rfl) (by kernel_rfl)
    (fun f fn hf hfn => by
      obtain rfl : f = 5 := Option.some.inj ((show Tryd.prog.funcNamed Rows.statCutRow.func = some 5 by kernel_rfl).symm.trans hf) |>.symm
      obtain rfl : fn = Tryd.f5 := (Option.some.inj (Tryd.func5.symm.trans hfn)).symm
      exact ⟨by kernel_rfl, fun j t ht => by
        rw [Tryd.params5] at ht
        have hm : t ∈ [28, 3, 31] := by simpa using Array.mem_of_getElem? ht
        have hall : ([28, 3, 31].all fun u => !Tryd.prog.wantsStandIn u) = true := by kernel_rfl
        exact (show Tryd.prog.wantsStandIn t = false by simpa using List.all_eq_true.1 hall t hm)⟩)
    (by kernel_rfl)

#print axioms statCut_holds
end Go.Proofs.YtbfigbbenaoaeaaDoor
