/-
  The second reading's body: the lists.
-/
import Derived.Test.YtepiifbleoimkaaGreatDoorRefMsgD
namespace Go.Proofs.YtepiifbleoimkaaGreatDoor
open Go.RowKit
set_option maxRecDepth 100000

theorem nextBad_join (b e e' : Int) : nextBad (nextBad b e) e' = nextBad b (if e = 0 then e' else e) := by
  unfold nextBad
  by_cases hb : b = 0
  · subst hb
    simp
  · simp [hb]
theorem wrongL_snoc (L : List (List UInt8)) (l : List UInt8) : wrongL (L ++ [l]) = if wrongL L = 0 then wrongOf l else wrongL L := by
  induction L with
  | nil =>
    show (if wrongOf l = 0 then 0 else wrongOf l) = if (0 : Int) = 0 then wrongOf l else 0
    rw [if_pos rfl]
    split
    · rename_i h
      exact h.symm
    · rfl
  | cons a r ih =>
    show (if wrongOf a = 0 then wrongL (r ++ [l]) else wrongOf a) = if (if wrongOf a = 0 then wrongL r else wrongOf a) = 0 then wrongOf l else (if wrongOf a = 0 then wrongL r else wrongOf a)
    by_cases ha : wrongOf a = 0
    · rw [if_pos ha, if_pos ha]
      exact ih
    · rw [if_neg ha, if_neg ha, if_neg ha]
theorem nextBad_texts (b : Int) (L : List (List UInt8)) (j : Nat) (h : j < L.length) : nextBad (nextBad b (wrongL (L.take j))) (wrongOf L[j]) = nextBad b (wrongL (L.take (j + 1))) := by
  rw [nextBad_join, List.take_succ_eq_append_getElem h, wrongL_snoc]
/-- Behind so many of a list. -/
def stT (st : List UInt8 × Int) (L : List (List UInt8)) (j : Nat) : List UInt8 × Int := (st.1 ++ putB 2 L.length ++ textsB (L.take j), nextBad st.2 (wrongL (L.take j)))
def stQ (st : List UInt8 × Int) (L : List Q3) (j : Nat) : List UInt8 × Int := (st.1 ++ putB 2 L.length ++ qidsB (L.take j), st.2)
theorem rc_textj {w0 w : World} {B g : Nat} {v v1 : Value} {st : List UInt8 × Int} {n : Nat} (L : List (List UInt8)) (j : Nat) (hj : j < L.length) (c : RC w0 B g v (stT st L j) (n + 72 * j) w v1) (hn : n + 72 * j ≤ 800000) (hl : (L[j]'hj).length ≤ 1000) :
    Calls Tryz.prog 47 #[.pointer (some ⟨g, 0, none⟩), .string (strOf (L[j]'hj))] w (RCStep w0 B g v (stT st L (j + 1)) (n + 72 * (j + 1))) := by
  have := c.len
  refine (rtext_any B g v1 _ (L[j]'hj) _ w c.out hl (by omega)).mono ?_
  intro e w1 h
  have e1 : (stT st L j).1 ++ textB (L[j]'hj) = (stT st L (j + 1)).1 := by
    show (st.1 ++ putB 2 L.length ++ textsB (L.take j)) ++ textB (L[j]'hj) = st.1 ++ putB 2 L.length ++ textsB (L.take (j + 1))
    rw [textsB_succ L j hj, List.append_assoc, List.append_assoc]
  have e2 : nextBad (stT st L j).2 (wrongOf (L[j]'hj)) = (stT st L (j + 1)).2 := nextBad_texts st.2 L j hj
  rw [e1, e2] at h
  obtain ⟨v2, he, o, k, q⟩ := ROutStep.next c.only c.own h
  refine ⟨v2, he, o, k, q, ?_⟩
  have := textB_le (L[j]'hj)
  rw [← e1, List.length_append]
  omega
theorem rc_qidj {w0 w : World} {B g : Nat} {v v1 : Value} {st : List UInt8 × Int} {n : Nat} (L : List Q3) (j : Nat) (hj : j < L.length) (c : RC w0 B g v (stQ st L j) (n + 72 * j) w v1) (hn : n + 72 * j ≤ 800000) (hq : (L[j]'hj).Ok) :
    Calls Tryz.prog 48 #[.pointer (some ⟨g, 0, none⟩), (L[j]'hj).val] w (RCStep w0 B g v (stQ st L (j + 1)) (n + 72 * (j + 1))) := by
  have := c.len
  refine (rqid_any B g v1 _ _ (L[j]'hj) w c.out hq (by omega)).mono ?_
  intro e w1 h
  have e1 : (stQ st L j).1 ++ qidB (L[j]'hj) = (stQ st L (j + 1)).1 := by
    show (st.1 ++ putB 2 L.length ++ qidsB (L.take j)) ++ qidB (L[j]'hj) = st.1 ++ putB 2 L.length ++ qidsB (L.take (j + 1))
    rw [qidsB_succ L j hj, List.append_assoc, List.append_assoc]
  rw [e1] at h
  obtain ⟨v2, he, o, k, q⟩ := ROutStep.next c.only c.own h
  refine ⟨v2, he, o, k, q, ?_⟩
  have := qidB_length (L[j]'hj)
  rw [← e1, List.length_append]
  omega

set_option maxHeartbeats 2000000 in
theorem rbody_110 (B g lo hi : Nat) (v : Value) (st : List UInt8 × Int) (cs : Array Value) (w : World) (ho : ROutAt w B g v st.1 st.2) (hl : st.1.length ≤ 300000) (hhi : hi ≤ w.heap.size) (hsep : ∀ i, lo ≤ i → i < hi → ¬ Foot g v i) (c0 : cs[0]? = some (.int .u8 110)) (x4 : Nat) (c4 : cs[4]? = some (.int .u32 (x4 : Int))) (h4 : x4 < 256 ^ 4) (x6 : Nat) (c6 : cs[6]? = some (.int .u32 (x6 : Int))) (h6 : x6 < 256 ^ 4) (x : Value) (L : List (List UInt8)) (c11 : cs[11]? = some x) (hx : StrsAt w lo hi x L) (hL : ∀ l ∈ L, l.length ≤ 1000) (hLl : L.length ≤ 1000) :
    Calls Tryz.prog 22 #[.pointer (some ⟨g, 0, none⟩), .agg cs] w (ROutStep w B g v (rAll st [.num 4 x4, .num 4 x6, .texts L]).1 (rAll st [.num 4 x4, .num 4 x6, .texts L]).2) := by
  obtain ⟨W, hW⟩ : ∃ W, W = w.alloc (.cells cs 43) := ⟨_, rfl⟩
  have k0 : Only (fun _ => False) w W := by rw [hW]; exact (Only.refl _ w).alloc _
  have n0 : Has W w.heap.size 43 cs := by rw [hW]; exact Has.new _ _ _
  have X0 := Lib.hid (RC.start (ho.only k0 (fun _ _ h => h)) hl)
  have hft : ∀ i, Foot g v i → B ≤ i ∧ i < w.heap.size := fun i hi => ho.foot_lt hi
  have hBw : B ≤ w.heap.size := ho.sizeW
  have hnf : ¬ Foot g v w.heap.size := fun h => by have := (hft _ h).2; omega
  have HM := Lib.hid (fun (w1 : World) (v1 : Value) (st1 : List UInt8 × Int) (n : Nat) (c : RC W B g v st1 n w1 v1) => n0.only c.only hnf)
  have hxW := hx.keep (k0.keeps (by omega) (fun _ _ _ h => h))
  have hWs := k0.size
  have HX := Lib.hid (fun (w1 : World) (v1 : Value) (st1 : List UInt8 × Int) (n : Nat) (c : RC W B g v st1 n w1 v1) => hxW.keep (c.only.keeps (by omega) hsep))
  have HL := Lib.hid hL
  obtain ⟨A, c, hxe, _⟩ := id hx
  subst hxe
  have uL : IntKind.u64.wrap (L.length : Int) = (L.length : Int) := IntWalk.u64_in _ (by omega)
  have u4 : IntKind.u64.wrap (x4 : Int) = (x4 : Int) := IntWalk.u64_in _ (by omega)
  have u6 : IntKind.u64.wrap (x6 : Int) = (x6 : Int) := IntWalk.u64_in _ (by omega)
  have d0 := (n0.cell 0).trans c0
  have d4 := (n0.cell 4).trans c4
  rw [hW] at d0 d4
  clear n0 ho hx hxW hft hnf hsep hL
  have HW := Lib.hid hW.symm
  clear hW
  go_enter Tryz.func22, Tryz.ntmps22
  go_wp2_with fail
  rw [HW.out]
  clear HW d0 d4
  refine (rc_num X0.out (by omega) 4 x4 (by omega) (by omega)).mono ?_
  rintro e w1 ⟨v1, rfl, y1⟩
  have d6 := ((HM.out _ _ _ _ y1).cell 6).trans c6
  have X1 := Lib.hid y1
  clear y1 X0
  go_wp2_with fail
  refine (rc_num X1.out (by omega) 4 x6 (by omega) (by omega)).mono ?_
  rintro e w2 ⟨v2, rfl, y2⟩
  have d11 := ((HM.out _ _ _ _ y2).cell 11).trans c11
  have X2 := Lib.hid y2
  clear y2 X1
  go_wp2_with fail
  refine (rc_num X2.out (by omega) 2 L.length (by omega) (by omega)).mono ?_
  rintro e w3 ⟨v3, rfl, y3⟩
  have I0 : Hid (∃ v1, RC W B g v (stT (rAdd (rAdd st (.num 4 x4)) (.num 4 x6)) L 0) (660000 + 72 * 0) w3 v1) := Lib.hid ⟨v3, by
    have e1 : stT (rAdd (rAdd st (.num 4 x4)) (.num 4 x6)) L 0 = rAdd (rAdd (rAdd st (.num 4 x4)) (.num 4 x6)) (.num 2 L.length) := by simp [stT, rAdd, rB, rE, fB, textsB, wrongL]
    rw [e1]
    exact y3⟩
  clear y3 X2
  go_wp2_with fail
  go_loopw [4] (fun i wr => ∃ j : Nat, j ≤ L.length ∧ i = .int .i64 j ∧ Hid (∃ v1, RC W B g v (stT (rAdd (rAdd st (.num 4 x4)) (.num 4 x6)) L j) (660000 + 72 * j) wr v1)) (fun i _ => L.length - (intOf i).toNat)
  case atStart => exact ⟨0, Nat.zero_le _, rfl, I0⟩
  case round =>
    obtain ⟨j, hj, rfl, hrel⟩ := hrel
    clear I0
    obtain ⟨v2, hC⟩ := hrel.out
    have dX := ((HM.out _ _ _ _ hC).cell 11).trans c11
    by_cases hlt : j < L.length
    · obtain ⟨A', c', hAe, _, _, hcs⟩ := HX.out _ _ _ _ hC
      injection hAe with hA hn hc
      subst hA hc
      obtain ⟨ad, rfl, hb1, hb2, hcl⟩ := hcs (by omega)
      have hcell := hcl j hlt
      have i0 : (0 : Int) ≤ (j : Int) := by omega
      have i1 : (j : Int) < (L.length : Int) := by omega
      have C := Lib.hid (rc_textj L j hlt hC (by omega) (HL.out (L[j]'hlt) (List.getElem_mem hlt)))
      obtain ⟨t, ht⟩ : ∃ t, t = L[j]'hlt := ⟨_, rfl⟩
      rw [← ht] at C hcell
      clear hC hrel ht hcs hcl hb1 hb2
      go_wp2_with fail
      refine C.out.mono ?_
      rintro e w9 ⟨v9, rfl, y9⟩
      have R : Hid (∃ v1, RC W B g v (stT (rAdd (rAdd st (.num 4 x4)) (.num 4 x6)) L (j + 1)) (660000 + 72 * (j + 1)) w9 v1) := Lib.hid ⟨v9, y9⟩
      clear y9 C hcell dX
      go_wp2
      go_roundw
      case rel => exact ⟨j + 1, by omega, by go_num, R⟩
      case measure => simp [intOf]; omega
    · have hj4 : j = L.length := by omega
      subst hj4
      have R : Hid (ROutStep w B g v (rAll st [.num 4 x4, .num 4 x6, .texts L]).1 (rAll st [.num 4 x4, .num 4 x6, .texts L]).2 (.returned (.tuple #[])) wr) := Lib.hid (by
        have e1 : stT (rAdd (rAdd st (.num 4 x4)) (.num 4 x6)) L L.length = rAll st [.num 4 x4, .num 4 x6, .texts L] := by simp [stT, rAll, rAdd, rB, rE, fB, List.append_assoc]
        rw [← e1]
        exact hC.fin k0)
      clear hC hrel
      go_wp2
      go_end0
      exact R.out
set_option maxHeartbeats 2000000 in
theorem rbody_111 (B g lo hi : Nat) (v : Value) (st : List UInt8 × Int) (cs : Array Value) (w : World) (ho : ROutAt w B g v st.1 st.2) (hl : st.1.length ≤ 300000) (hhi : hi ≤ w.heap.size) (hsep : ∀ i, lo ≤ i → i < hi → ¬ Foot g v i) (c0 : cs[0]? = some (.int .u8 111)) (x : Value) (L : List Q3) (c12 : cs[12]? = some x) (hx : QdsAt w lo hi x L) (hL : ∀ q ∈ L, q.Ok) (hLl : L.length ≤ 1000) :
    Calls Tryz.prog 22 #[.pointer (some ⟨g, 0, none⟩), .agg cs] w (ROutStep w B g v (rAll st [.qids L]).1 (rAll st [.qids L]).2) := by
  obtain ⟨W, hW⟩ : ∃ W, W = w.alloc (.cells cs 43) := ⟨_, rfl⟩
  have k0 : Only (fun _ => False) w W := by rw [hW]; exact (Only.refl _ w).alloc _
  have n0 : Has W w.heap.size 43 cs := by rw [hW]; exact Has.new _ _ _
  have X0 := Lib.hid (RC.start (ho.only k0 (fun _ _ h => h)) hl)
  have hft : ∀ i, Foot g v i → B ≤ i ∧ i < w.heap.size := fun i hi => ho.foot_lt hi
  have hBw : B ≤ w.heap.size := ho.sizeW
  have hnf : ¬ Foot g v w.heap.size := fun h => by have := (hft _ h).2; omega
  have HM := Lib.hid (fun (w1 : World) (v1 : Value) (st1 : List UInt8 × Int) (n : Nat) (c : RC W B g v st1 n w1 v1) => n0.only c.only hnf)
  have hxW := hx.keep (k0.keeps (by omega) (fun _ _ _ h => h))
  have hWs := k0.size
  have HX := Lib.hid (fun (w1 : World) (v1 : Value) (st1 : List UInt8 × Int) (n : Nat) (c : RC W B g v st1 n w1 v1) => hxW.keep (c.only.keeps (by omega) hsep))
  have HL := Lib.hid hL
  obtain ⟨A, c, hxe, _⟩ := id hx
  subst hxe
  have uL : IntKind.u64.wrap (L.length : Int) = (L.length : Int) := IntWalk.u64_in _ (by omega)
  have d0 := (n0.cell 0).trans c0
  have d12 := (n0.cell 12).trans c12
  rw [hW] at d0 d12
  clear n0 ho hx hxW hft hnf hsep hL
  have HW := Lib.hid hW.symm
  clear hW
  go_enter Tryz.func22, Tryz.ntmps22
  go_wp2_with fail
  rw [HW.out]
  clear HW d0 d12
  refine (rc_num X0.out (by omega) 2 L.length (by omega) (by omega)).mono ?_
  rintro e w1 ⟨v1, rfl, y1⟩
  have I0 : Hid (∃ v1, RC W B g v (stQ st L 0) (420000 + 72 * 0) w1 v1) := Lib.hid ⟨v1, by
    have e1 : stQ st L 0 = rAdd st (.num 2 L.length) := by simp [stQ, rAdd, rB, rE, fB, qidsB, nextBad_zero]
    rw [e1]
    exact y1⟩
  clear y1 X0
  go_wp2_with fail
  go_loopw [5] (fun i wr => ∃ j : Nat, j ≤ L.length ∧ i = .int .i64 j ∧ Hid (∃ v1, RC W B g v (stQ st L j) (420000 + 72 * j) wr v1)) (fun i _ => L.length - (intOf i).toNat)
  case atStart => exact ⟨0, Nat.zero_le _, rfl, I0⟩
  case round =>
    obtain ⟨j, hj, rfl, hrel⟩ := hrel
    clear I0
    obtain ⟨v2, hC⟩ := hrel.out
    have dX := ((HM.out _ _ _ _ hC).cell 12).trans c12
    by_cases hlt : j < L.length
    · obtain ⟨A', c', hAe, _, _, hcs⟩ := HX.out _ _ _ _ hC
      injection hAe with hA hn hc
      subst hA hc
      obtain ⟨ad, rfl, hb1, hb2, hcl⟩ := hcs (by omega)
      obtain ⟨hcell, hcell1, hcell2⟩ := hcl j hlt
      have i0 : (0 : Int) ≤ (j : Int) := by omega
      have i1 : (j : Int) < (L.length : Int) := by omega
      have C := Lib.hid (rc_qidj L j hlt hC (by omega) (HL.out (L[j]'hlt) (List.getElem_mem hlt)))
      obtain ⟨t, ht⟩ : ∃ t, t = L[j]'hlt := ⟨_, rfl⟩
      rw [← ht] at C hcell hcell1 hcell2
      unfold Q3.val at C
      clear hC hrel ht hcs hcl hb1 hb2
      go_wp2_with fail
      refine C.out.mono ?_
      rintro e w9 ⟨v9, rfl, y9⟩
      have R : Hid (∃ v1, RC W B g v (stQ st L (j + 1)) (420000 + 72 * (j + 1)) w9 v1) := Lib.hid ⟨v9, y9⟩
      clear y9 C hcell hcell1 hcell2 dX
      go_wp2
      go_roundw
      case rel => exact ⟨j + 1, by omega, by go_num, R⟩
      case measure => simp [intOf]; omega
    · have hj4 : j = L.length := by omega
      subst hj4
      have R : Hid (ROutStep w B g v (rAll st [.qids L]).1 (rAll st [.qids L]).2 (.returned (.tuple #[])) wr) := Lib.hid (by
        have e1 : stQ st L L.length = rAll st [.qids L] := by simp [stQ, rAll, rAdd, rB, rE, fB, nextBad_zero, List.append_assoc]
        rw [← e1]
        exact hC.fin k0)
      clear hC hrel
      go_wp2
      go_end0
      exact R.out
end Go.Proofs.YtepiifbleoimkaaGreatDoor
