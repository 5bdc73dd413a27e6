/-
  Package msg: the taking of records and lists.
-/
import Derived.Test.YtepiifbleoimkaaDoorMsgF
namespace Go.Proofs.YtepiifbleoimkaaDoor
open Go.RowKit
set_option maxRecDepth 100000

theorem tkRec_yes {b : List UInt8} {s : S11} (h : tkRec b = some s) : decAns b = (s, (b.length : Int), 0) := by
  unfold tkRec at h
  split at h
  · rename_i s' hf
    injection h with h
    subst h
    unfold decAns
    rw [hf]
    simp
  · cases h
theorem tkRec_no {b : List UInt8} (h : tkRec b = none) : (decAns b).2.2 ≠ 0 ∨ (decAns b).2.1 ≠ (b.length : Int) := by
  unfold tkRec at h
  unfold decAns
  cases hf : firstOf b with
  | error er =>
    left
    simp only
    rcases firstOf_err hf with h | h <;> omega
  | ok p =>
    obtain ⟨s, rest⟩ := p
    rw [hf] at h
    cases rest with
    | nil => cases h
    | cons c r =>
      right
      simp only [List.length_cons]
      omega
theorem firstOf_nil : firstOf [] = .error 4 := rfl
theorem tkRec_nil : tkRec [] = none := rfl

set_option maxHeartbeats 1000000 in
theorem tkrecord_any (lo g : Nat) (bs : List UInt8) (er : Int) (w : World) (hI : InAt w lo g bs er) (hT : Tabs w) (hg : 1 < g ∧ 2 < g) (hb : bs.length ≤ 100000) :
    Calls Tryd.prog 75 #[.pointer (some ⟨g, 0, none⟩)] w (TkStep w lo g .stat bs er) := by
  have hgl := hI.lt
  have k0 : Only (fun _ => False) w (w.alloc (.cells S11.zero.cells 31)) := (Only.refl _ w).alloc _
  have r0 : Has (w.alloc (.cells S11.zero.cells 31)) w.heap.size 31 S11.zero.cells := Has.new _ _ _
  have c1 := take_any lo g 2 bs er (w.alloc (.cells S11.zero.cells 31)) (hI.only k0 (fun _ _ _ h => h))
  have C1 : Hid (Calls Tryd.prog 54 #[.pointer (some ⟨g, 0, none⟩), .int .i64 2] (w.alloc (.cells S11.zero.cells 31)) (fun e w' => e = .returned (.int .u64 (takeSt 2 bs er).1) ∧ InAt w' lo g (takeSt 2 bs er).2.1 (takeSt 2 bs er).2.2 ∧ Only (fun i => i = g) w w' ∧ Has w' w.heap.size 31 S11.zero.cells)) :=
    Lib.hid (c1.mono (by
      rintro e w' ⟨he, i1, f1⟩
      exact ⟨he, i1, (k0.mono (fun _ _ h => h.elim)).trans f1 (fun _ _ h => h), r0.only f1 (by omega)⟩))
  have hlt := takeSt_lt 2 bs er
  have hln := takeSt_len 2 bs er
  have hz := @tkN_of 2 bs er
  have hno := @tkN_none 2 bs
  have hE : tkE .stat bs er = if er = 0 then ((tkN 2 bs).bind fun n => (tkRaw n.1 n.2).bind fun x => (tkRec x.1).map fun s => (.stat s, x.2)) else none := rfl
  have h00 : er = 0 → takeSt ((2 : Nat) : Int) bs 0 = takeSt ((2 : Nat) : Int) bs er := fun h => by rw [h]
  have HT := Lib.hid (fun w' (k : Only (fun i => i = g) w w') => hT.only k (by omega) (by omega))
  obtain ⟨st, hst⟩ : ∃ s, s = takeSt 2 bs er := ⟨_, rfl⟩
  rw [show takeSt ((2 : Nat) : Int) bs er = st from hst.symm] at hlt hz h00
  rw [← hst] at C1 hln
  obtain ⟨n, r, e1⟩ := st
  simp only at C1 hlt hz hln
  have hwu : IntKind.i64.wrap (n : Int) = (n : Int) := IntWalk.i64_in _ (by omega)
  have hr1 := rawSt_len (n : Int) r e1
  have hr2 := rawSt_len2 (n : Int) r e1
  -- what the record's bytes make of it
  have hY : ∀ s, tkRec (rawSt (n : Int) r e1).1 = some s → (rawSt (n : Int) r e1).2.2 = 0 ∧ tkE .stat bs er = some (.stat s, (rawSt (n : Int) r e1).2.1) := by
    intro s hs
    by_cases h2 : (rawSt (n : Int) r e1).2.2 = 0
    · refine ⟨h2, ?_⟩
      have h1 : e1 = 0 := Decidable.byContradiction fun hn => by
        rw [rawSt, if_pos hn] at h2
        exact hn h2
      obtain ⟨a, b⟩ := hz h1
      rw [h1] at h2 hs ⊢
      rw [hE, if_pos a, b, Option.bind_some, tkRaw, if_pos h2, Option.bind_some, hs]
      rfl
    · have : (rawSt (n : Int) r e1).1 = [] := by
        unfold rawSt at h2 ⊢
        split
        · rfl
        · split
          · rfl
          · split
            · rfl
            · rename_i a b c
              rw [if_neg a, if_neg b, if_neg c] at h2
              exact absurd rfl h2
      rw [this, tkRec_nil] at hs
      cases hs
  have hX : tkRec (rawSt (n : Int) r e1).1 = none → tkE .stat bs er = none := by
    intro hs
    rw [hE]
    split
    · rename_i h0
      by_cases h1 : e1 = 0
      · obtain ⟨a, b⟩ := hz h1
        rw [b, Option.bind_some]
        rw [h1] at hs
        unfold tkRaw
        split
        · rw [Option.bind_some, hs]
          rfl
        · rfl
      · rw [hno (by rw [h00 h0]; exact h1)]
        rfl
    · rfl
  have HY := Lib.hid hY
  have HX := Lib.hid hX
  clear hI hT k0 r0 c1 hst hz hno hE h00 hY hX
  unfold S11.zero S11.cells at C1
  go_enter Tryd.func75, Tryd.ntmps75
  go_wp2_with fail
  refine C1.out.mono ?_
  rintro e w1 ⟨rfl, i1, k1, r1⟩
  have C2 := Lib.hid (raw_any lo g (n : Int) r e1 w1 i1 (by omega))
  have K1 := Lib.hid k1
  have R1 : Hid (Has w1 w.heap.size 31 S11.zero.cells) := r1
  clear i1 k1 r1 C1
  go_wp2_with fail
  refine C2.out.mono ?_
  rintro e w2 ⟨u, rfl, ow, i2, k2⟩
  have K2 : Hid (Only (fun i => i = g) w w2) := K1.out.trans k2 (fun _ _ h => h)
  have R2 := Lib.hid (R1.out.only k2 (by omega))
  have I2 := Lib.hid i2
  generalize rawSt (n : Int) r e1 = sr at I2 ow HY HX hr1 hr2
  obtain ⟨b, r2, e2⟩ := sr
  simp only at I2 ow HY HX hr1 hr2
  have C4 := decode_any u b _ _ w2 (owns_SlIs ow) (Nat.le_refl _) (by omega) (HT.out _ K2.out)
  obtain ⟨A, c, rfl, _⟩ := owns_slice ow
  unfold DecodeStep at C4
  have hy := @tkRec_yes b
  have hno := @tkRec_no b
  generalize decAns b = da at C4 hy hno
  obtain ⟨s, m, ec⟩ := da
  simp only at C4 hy hno
  unfold S11.val at C4
  have C4 := Lib.hid C4
  clear ow i2 k2 K1 R1 C2 HT
  go_wp2_with fail
  refine C4.out.mono ?_
  rintro e w3 ⟨rfl, b3⟩
  have hs2 := K2.out.size
  have K3 : Hid (Only (fun i => i = g) w w3) := K2.out.trans (Only.of_below b3) (fun i hi h => by omega)
  have R3 := R2.out.only (Only.of_below b3) (by have := R2.out.lt; omega)
  have I3 := I2.out.only (Only.of_below b3) (fun i _ hi h => by have := I2.out.lt; omega)
  obtain ⟨W, hW⟩ : ∃ W, W = w3.alloc (.cells s.cells 31) := ⟨_, rfl⟩
  have R4 : Hid (Has W w.heap.size 31 S11.zero.cells) := by rw [hW]; exact R3.alloc _
  have I4 : Hid (InAt W lo g r2 e2) := by rw [hW]; exact I3.only ((Only.refl (fun _ => False) w3).alloc _) (fun _ _ _ h => h)
  have K4 : Hid (Only (fun i => i = g) w W) := by rw [hW]; exact K3.out.alloc _
  have N4 : Hid (Has W w3.heap.size 31 s.cells) := by rw [hW]; exact Has.new _ _ _
  have hW3 : w.heap.size < w3.heap.size := R3.lt
  clear C4 b3 K2 R2 I2 R3 I3 K3
  cases hr : tkRec b with
  | some x =>
    have hd := hy hr
    injection hd with hd1 hd2
    injection hd2 with hd2 hd3
    subst hd1 hd2 hd3
    obtain ⟨h0, ht⟩ := HY.out _ hr
    subst h0
    have Ht := Lib.hid ht
    clear hy hno HY HX hr ht
    unfold S11.cells at hW
    unfold S11.cells
    go_wp2_with fail
    rw [← hW]
    refine (must_yes 2 W).mono ?_
    rintro e w' ⟨rfl, rfl⟩
    have a1 := N4.out.cells13
    obtain ⟨⟨x0, x1, x2, x3, x4⟩, ⟨x5, x6, x7, x8⟩, ⟨x9, x10, x11, x12⟩⟩ := a1
    obtain ⟨⟨z0, z1, z2, z3, z4⟩, ⟨z5, z6, z7, z8⟩, ⟨z9, z10, z11, z12⟩⟩ := R4.out.cells13
    obtain ⟨⟨y0, y1, y2, y3, y4⟩, ⟨y5, y6, y7, y8⟩, ⟨y9, y10, y11, y12⟩⟩ := R4.out.frozen13
    clear hW N4
    go_wp2_with fail
    refine bodyPost_ret (results_cell_row rfl _ _ w.heap.size 31 _ (0, 0) _ rfl (has_set13 R4.out s) Tryd.underlying31 rfl Tryd.statSize13) rfl ?_
    refine .inr ⟨.stat s, _, r2, 0, rfl, rfl, rfl, ?_, K4.out.set13 (fun h => absurd h (Nat.lt_irrefl _)) s, by omega, fun _ => Ht.out, fun h => absurd rfl h⟩
    exact I4.out.only ((Only.refl (fun i => i = w.heap.size) W).set13 (fun _ => rfl) s) (fun i _ hi h => by omega)
  | none =>
    have R : Hid (TkStep w lo g .stat bs er (.panicked [{ v := .iface 36 (.int .i64 2), recovered := false }]) W) := .inl ⟨rfl, K4.out, HX.out hr⟩
    have hq := hno hr
    clear hy hno HY HX hr K4 I4 R4 N4
    by_cases h0 : ec = 0
    · subst h0
      have hm : (m == (b.length : Int)) = false := by
        rcases hq with h | h
        · exact absurd rfl h
        · simpa using h
      clear hq
      unfold S11.cells at hW
      unfold S11.cells
      go_wp2_with fail
      rw [← hW]
      refine (must_no 2 W).mono ?_
      rintro e w' ⟨rfl, rfl⟩
      clear hW
      go_wp2
      exact ⟨rfl, R.out⟩
    · have hd : (ec == 0) = false := by simpa using h0
      clear hq h0
      unfold S11.cells at hW
      unfold S11.cells
      go_wp2_with fail
      rw [← hW]
      refine (must_no 2 W).mono ?_
      rintro e w' ⟨rfl, rfl⟩
      clear hW
      go_wp2
      exact ⟨rfl, R.out⟩
end Go.Proofs.YtepiifbleoimkaaDoor
