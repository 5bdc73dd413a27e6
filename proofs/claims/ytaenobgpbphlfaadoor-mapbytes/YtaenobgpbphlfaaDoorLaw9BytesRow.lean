/-
  Proved: MapBytes answers true for every list of bytes and every integer (P901: any bytes as a map, or that they are none; its bytes are those); it leaves all that was there as it was. Condition, tied to the program's text: the table math/bits.deBruijn64tab holds what it is laid with. The card's tie speaks of the pruned copy of the project that this seat loads.
-/
import Derived.Test.YtaenobgpbphlfaaDoorLaw9Tabs
import Derived.Test.YtaenobgpbphlfaaDoorLaw9BytesY
import Derived.Test.YtaenobgpbphlfaaDoorOpenArgs
import Derived.OpenShut
namespace Go.Proofs.YtaenobgpbphlfaaDoor
open Go.ChangeShapes Go.WideShapes Go.ChangeAt Go.RowKit Go.Lib Go.ChangeMaps
set_option maxRecDepth 100000

theorem mbytes9_lifted (os : Os) (started : os.Started) (H : Type) (enc : TypeId × Value → H) :
    ReturnsInHanded {} Tryd.checked os 4 .any (fun w args => (Rows.mapBytesSpec.pre enc Tryd.prog Tryd.f4 [] false w args ∧ laidMetH Tryd.prog laid9 w) ∧ sizedMet enc Tryd.prog Tryd.f4 (OpenSpec.ofChange Rows.mapBytesSpec) false w args)
      (Rows.mapBytesSpec.post enc Tryd.prog Tryd.f4 false true false false) := by
  refine returnsInHanded_of_change_and (C := Tryd.checked) (X := fun w _ => laidMetH Tryd.prog laid9 w) (fun _ _ _ hh h => h.of_heap hh) own9 started (by kernel_rfl) Tryd.func4
    (ChangeSpec.witness_shaped (enc := enc) (C := Tryd.checked) (os := os) (X := fun w _ => laidMetH Tryd.prog laid9 w) false (World.laidAll Tryd.prog os laid9)
      #[.slice none 0 0, .int .i64 0] 8 (World.laidAll_os _ _ _)
      (World.shaped_of_ZipB (by kernel_rfl) (by kernel_rfl)) (by kernel_rfl) (by kernel_rfl) (by kernel_rfl) (laid9_world os _)) ?_
  intro W base args ds gs before hval0 hW _ _ hL _
  have hval : ∀ (j : Nat) t v, Tryd.f4.params[j]? = some t → args[j]? = some v → Value.okWide Tryd.prog W .any base t v := hval0
  have hW' := hW
  obtain ⟨p, q, hA0, hV, rfl, _, _⟩ := hW
  have hA : DataW.TrodAll enc Tryd.prog W 0 (fun _ => true) true Tryd.f4.params.toList args.toList ds p := hA0
  rw [Tryd.params4] at hA hval
  obtain ⟨v0, v1, d0, d1, p0, p1, rfl, rfl, rfl, h0, h1⟩ := trodAll_two hA
  obtain ⟨rfl, rfl⟩ := trodVars_none hV
  obtain ⟨z, rfl, rfl, rfl, w1⟩ := open_int Tryd.underlying3 (hval 1 3 v1 rfl rfl) h1
  clear hA0 hval0 hA
  simp only [List.append_nil] at hW'
  rw [laid9_plain] at hL
  have hT := tz_of_laid hL
  have hlt0 : ∀ x ∈ p0, x.block < W.heap.size := fun x hx => hW'.lt x (by simp [hx])
  have fin : ∀ (e : Ending) W', (e = .returned (.bool true) ∧ Below W.heap.size W W') → ∃ v, e = .returned v ∧ Rows.mapBytesSpec.post enc Tryd.prog Tryd.f4 false true false false W #[v0, .int .i64 z] v W' := by
    rintro e W' ⟨rfl, hb⟩
    exact ⟨_, rfl, _, _, _, [], _, [], hW', trodAll_mk1 (shut_bool Tryd.underlying4 _),
      trodAll_mk2 (Below.trod Tryd.laidOut9 (by kernel_rfl) (of_decide_eq_true (by kernel_rfl)) h0 hb hlt0) (shut_int Tryd.underlying3 w1), rfl, hb.frame _, (fun h => by cases h)⟩
  obtain ⟨a0, n0, c0, rfl⟩ := okWide_slice Tryd.underlying39 (hval 0 39 v0 rfl rfl)
  obtain ⟨fu0, hf0⟩ := h0
  obtain ⟨A, c, bs, e0, q1, q2, q3⟩ := open_bytes Tryd.underlying39 Tryd.underlying5 (by kernel_rfl) hf0
  obtain ⟨rfl, rfl, rfl⟩ : a0 = A ∧ n0 = bs.length ∧ c0 = c := by
    simp only [Value.cells] at e0
    injection e0 with e _
    injection e with e1 e2 e3
    exact ⟨e1, e2, e3⟩
  have hs : SlIs W 0 W.heap.size (.slice a0 bs.length c0) bs := ⟨_, _, rfl, q1, q2, q3⟩
  by_cases hb : 1000 < bs.length
  · exact (mbytes_big W hT a0 bs.length c0 z hb).mono fin
  · by_cases hz : z < 1 ∨ 65536 < z
    · exact (mbytes_arg W hT a0 bs c0 hs (by omega) z hz).mono fin
    · obtain ⟨n, rfl⟩ : ∃ k : Nat, z = (k : Int) := ⟨z.toNat, by omega⟩
      by_cases hl : bs.length = (n + 7) / 8
      · by_cases hd : (bs.getD ((n + 7) / 8 - 1) 0).toNat / 2 ^ (n - ((n + 7) / 8 - 1) * 8) = 0
        · obtain ⟨ad, rfl, _⟩ := q3 (by omega)
          exact (mbytes_yes W hT ad bs c0 hs (by omega) n (by omega) (by omega) ⟨hl, hd⟩).mono fin
        · exact (mbytes_last W hT a0 bs c0 hs (by omega) n (by omega) (by omega) hl hd).mono fin
      · exact (mbytes_len W hT a0 bs c0 hs (by omega) n (by omega) (by omega) hl).mono fin

theorem mapBytes_row : Rows.MapBytesSaid :=
  OpenClaim.holds_of_wide 4 Tryd.f4 rfl rfl rfl rfl rfl rfl rfl ⟨rfl, rfl, rfl, rfl, rfl⟩ rfl rfl rfl rfl rfl (by kernel_rfl) Tryd.func4 (by kernel_rfl)
    (of_decide_eq_true (by kernel_rfl)) (by unfold Func.isWrapper; first | (rw [if_pos (by decide +kernel)]; kernel_rfl) | (rw [if_neg (by decide +kernel)]; exact ⟨rfl, rfl⟩))
    (fun os started H enc _ => mbytes9_lifted os started H enc)

theorem mapBytes_holds : Rows.MapBytesCardSaid :=
  Claim7.holds_tied_plain_at .later [] [.data] true Rows.mapBytesCard.stood.harness false mapBytes_row (fun _ h => by cases h) (by kernel_rfl) (fun _ h => by cases h) mapBytes_row_tie rfl ⟨rfl, rfl⟩ (by kernel_rfl) (by kernel_rfl)
    (fun f fn hf hfn => by
      obtain rfl : f = 4 := Option.some.inj ((show Tryd.prog.funcNamed Rows.mapBytesRow.func = some 4 by kernel_rfl).symm.trans hf) |>.symm
      obtain rfl : fn = Tryd.f4 := (Option.some.inj (Tryd.func4.symm.trans hfn)).symm
      exact ⟨by kernel_rfl, fun j t ht => by
        rw [Tryd.params4] at ht
        have hm : t ∈ [39, 3] := by simpa using Array.mem_of_getElem? ht
        have hall : ([39, 3].all fun u => !Tryd.prog.wantsStandIn u) = true := by kernel_rfl
        exact (show Tryd.prog.wantsStandIn t = false by simpa using List.all_eq_true.1 hall t hm)⟩)
    (by kernel_rfl)

#print axioms mapBytes_holds
end Go.Proofs.YtaenobgpbphlfaaDoor
