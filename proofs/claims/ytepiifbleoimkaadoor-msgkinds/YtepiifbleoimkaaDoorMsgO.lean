/-
  Two slices compared: of texts, of qids, of bytes.
-/
import Derived.Test.YtepiifbleoimkaaDoorMsgN
namespace Go.Proofs.YtepiifbleoimkaaDoor
open Go.RowKit
set_option maxRecDepth 100000

theorem take_all {α : Type} {L M : List α} {j : Nat} (h : L.take j = M.take j) (hl : L.length = M.length) (hj : j = L.length) : L = M := by
  rw [hj, List.take_length] at h
  rw [h, hl, List.take_length]
theorem take_next {α : Type} {L M : List α} {j : Nat} (h : L.take j = M.take j) (h1 : j < L.length) (h2 : j < M.length) (he : L[j] = M[j]) : L.take (j + 1) = M.take (j + 1) := by
  rw [List.take_succ_eq_append_getElem h1, List.take_succ_eq_append_getElem h2, h, he]

set_option maxHeartbeats 1000000 in
theorem equals_any (lo hi lo' hi' : Nat) (v v' : Value) (L M : List (List UInt8)) (w : World) (h1 : StrsAt w lo hi v L) (h2 : StrsAt w lo' hi' v' M) (hh : hi ≤ w.heap.size) (hh' : hi' ≤ w.heap.size) (hL : L.length ≤ 1000) :
    Calls Tryd.prog 58 #[v, v'] w (Tells w (L = M)) := by
  obtain ⟨A, c, rfl, _, _, hA⟩ := h1
  obtain ⟨A', c', rfl, _, _, hA'⟩ := h2
  by_cases hl : L.length = M.length
  · have hlb : ((L.length : Int) != (M.length : Int)) = false := by simp [hl]
    have HA := Lib.hid hA
    have HA' := Lib.hid hA'
    have I0 : Hid (L.take 0 = M.take 0 ∧ Below w.heap.size w w) := ⟨by simp, Below.refl _ _⟩
    clear hA hA'
    go_enter Tryd.func58, Tryd.ntmps58
    go_wp2
    go_loopw [13] (fun i wr => ∃ j : Nat, j ≤ L.length ∧ i = .int .i64 j ∧ Hid (L.take j = M.take j ∧ Below w.heap.size w wr)) (fun i _ => L.length - (intOf i).toNat)
    case atStart => exact ⟨0, Nat.zero_le _, rfl, I0⟩
    case round =>
      obtain ⟨j, hj, rfl, hrel⟩ := hrel
      clear I0
      by_cases hlt : j < L.length
      · have hlt2 : j < M.length := by omega
        obtain ⟨ad, rfl, b1, b2, hc⟩ := HA.out (by omega)
        obtain ⟨ad', rfl, b1', b2', hc'⟩ := HA'.out (by omega)
        have hB := hrel.out.2
        have c0 := (hB.cell (p := ad.add j) (by rw [addr_block]; omega)).trans (hc j hlt)
        have c1 := (hB.cell (p := ad'.add j) (by rw [addr_block]; omega)).trans (hc' j hlt2)
        have i0 : (0 : Int) ≤ (j : Int) := by omega
        have i1 : (j : Int) < (L.length : Int) := by omega
        have i2 : (j : Int) < (M.length : Int) := by omega
        have R1 : Hid (L[j] = M[j] → ∀ w', Below w.heap.size w w' → L.take (j + 1) = M.take (j + 1) ∧ Below w.heap.size w w') := fun he w' k => ⟨take_next hrel.out.1 hlt hlt2 he, k⟩
        have R2 : Hid (L[j] ≠ M[j] → L ≠ M) := fun he h => he (by subst h; rfl)
        have HB := Lib.hid hB
        generalize L[j] = x at c0 R1 R2
        generalize M[j] = y at c1 R1 R2
        clear hrel hc hc' b1 b1' b2 b2' hB
        by_cases hxy : x = y
        · subst hxy
          have R3 := Lib.hid (R1.out rfl)
          clear R1 R2
          go_wp2_with fail
          go_quiet (fail)
          go_wp2
          go_roundw
          case rel => exact ⟨j + 1, by omega, by go_num, R3.out _ (HB.out.trans ((below_drewN _ _).mono HB.out.size))⟩
          case measure => simp [intOf]; omega
        · have d2 : ((strOf x).toList == (strOf y).toList) = false := by rw [strOf_list, strOf_list]; simpa using hxy
          have d4 : ((strOf x).toList != (strOf y).toList) = true := by rw [strOf_list, strOf_list]; simpa using hxy
          have R3 := Lib.hid (R2.out hxy)
          clear hxy R1 R2
          go_wp2_with fail
          go_quiet (fail)
          go_wp2
          all_goals first | (go_ret; exact ⟨⟨_, rfl, by simpa using R3.out⟩, HB.out.trans ((below_drewN _ _).mono HB.out.size)⟩) | skip
      · have hj4 : j = L.length := by omega
        have R : Hid (Tells w (L = M) (.returned (.bool true)) wr) := ⟨⟨true, rfl, by simpa using take_all hrel.out.1 hl hj4⟩, hrel.out.2⟩
        have i1 : ¬ (j : Int) < (L.length : Int) := by omega
        clear hrel hj4
        go_wp2
        go_ret
        exact R.out
  · have hlb : ((L.length : Int) != (M.length : Int)) = true := by simp; omega
    have hne : ¬ L = M := fun h => hl (by rw [h])
    have HN := Lib.hid hne
    clear hA hA' hl hne
    go_enter Tryd.func58, Tryd.ntmps58
    go_wp2
    go_ret
    exact ⟨⟨_, rfl, by simpa using HN.out⟩, Below.refl _ _⟩
set_option maxHeartbeats 1000000 in
theorem equalq_any (lo hi lo' hi' : Nat) (v v' : Value) (L M : List Q3) (w : World) (h1 : QdsAt w lo hi v L) (h2 : QdsAt w lo' hi' v' M) (hh : hi ≤ w.heap.size) (hh' : hi' ≤ w.heap.size) (hL : L.length ≤ 1000) :
    Calls Tryd.prog 59 #[v, v'] w (Tells w (L = M)) := by
  obtain ⟨A, c, rfl, _, _, hA⟩ := h1
  obtain ⟨A', c', rfl, _, _, hA'⟩ := h2
  by_cases hl : L.length = M.length
  · have hlb : ((L.length : Int) != (M.length : Int)) = false := by simp [hl]
    have HA := Lib.hid hA
    have HA' := Lib.hid hA'
    have I0 : Hid (L.take 0 = M.take 0 ∧ Below w.heap.size w w) := ⟨by simp, Below.refl _ _⟩
    clear hA hA'
    go_enter Tryd.func59, Tryd.ntmps59
    go_wp2
    go_loopw [13] (fun i wr => ∃ j : Nat, j ≤ L.length ∧ i = .int .i64 j ∧ Hid (L.take j = M.take j ∧ Below w.heap.size w wr)) (fun i _ => L.length - (intOf i).toNat)
    case atStart => exact ⟨0, Nat.zero_le _, rfl, I0⟩
    case round =>
      obtain ⟨j, hj, rfl, hrel⟩ := hrel
      clear I0
      by_cases hlt : j < L.length
      · have hlt2 : j < M.length := by omega
        obtain ⟨ad, rfl, b1, b2, hc⟩ := HA.out (by omega)
        obtain ⟨ad', rfl, b1', b2', hc'⟩ := HA'.out (by omega)
        have hB := hrel.out.2
        obtain ⟨x0, x1, x2⟩ := hc j hlt
        obtain ⟨y0, y1, y2⟩ := hc' j hlt2
        have hb3 : (ad.add (j * 3)).block < w.heap.size := by rw [addr_block]; omega
        have hb3' : (ad'.add (j * 3)).block < w.heap.size := by rw [addr_block]; omega
        replace x0 := (hB.cell hb3).trans x0
        replace x1 := (hB.cell (p := ⟨(ad.add (j * 3)).block, (ad.add (j * 3)).off + 1, none⟩) hb3).trans x1
        replace x2 := (hB.cell (p := ⟨(ad.add (j * 3)).block, (ad.add (j * 3)).off + 2, none⟩) hb3).trans x2
        replace y0 := (hB.cell hb3').trans y0
        replace y1 := (hB.cell (p := ⟨(ad'.add (j * 3)).block, (ad'.add (j * 3)).off + 1, none⟩) hb3').trans y1
        replace y2 := (hB.cell (p := ⟨(ad'.add (j * 3)).block, (ad'.add (j * 3)).off + 2, none⟩) hb3').trans y2
        have i0 : (0 : Int) ≤ (j : Int) := by omega
        have i1 : (j : Int) < (L.length : Int) := by omega
        have i2 : (j : Int) < (M.length : Int) := by omega
        have R1 : Hid (L[j] = M[j] → ∀ w', Below w.heap.size w w' → L.take (j + 1) = M.take (j + 1) ∧ Below w.heap.size w w') := fun he w' k => ⟨take_next hrel.out.1 hlt hlt2 he, k⟩
        have R2 : Hid (L[j] ≠ M[j] → L ≠ M) := fun he h => he (by subst h; rfl)
        have HB := Lib.hid hB
        generalize L[j] = x at x0 x1 x2 R1 R2
        generalize M[j] = y at y0 y1 y2 R1 R2
        clear hrel hc hc' b1 b1' b2 b2' hB hb3 hb3'
        by_cases hxy : x = y
        · subst hxy
          have R3 := Lib.hid (R1.out rfl)
          clear R1 R2
          go_wp2_with fail
          go_quiet (fail)
          go_wp2
          go_roundw
          case rel => exact ⟨j + 1, by omega, by go_num, R3.out _ (HB.out.trans ((below_drewN _ _).mono HB.out.size))⟩
          case measure => simp [intOf]; omega
        · have d2 := Tryd.neQid x y hxy
          have R3 := Lib.hid (R2.out hxy)
          clear hxy R1 R2
          go_wp2_with fail
          go_quiet (fail)
          go_wp2
          all_goals first | (go_ret; exact ⟨⟨_, rfl, by simpa using R3.out⟩, HB.out.trans ((below_drewN _ _).mono HB.out.size)⟩) | skip
      · have hj4 : j = L.length := by omega
        have R : Hid (Tells w (L = M) (.returned (.bool true)) wr) := ⟨⟨true, rfl, by simpa using take_all hrel.out.1 hl hj4⟩, hrel.out.2⟩
        have i1 : ¬ (j : Int) < (L.length : Int) := by omega
        clear hrel hj4
        go_wp2
        go_ret
        exact R.out
  · have hlb : ((L.length : Int) != (M.length : Int)) = true := by simp; omega
    have hne : ¬ L = M := fun h => hl (by rw [h])
    have HN := Lib.hid hne
    clear hA hA' hl hne
    go_enter Tryd.func59, Tryd.ntmps59
    go_wp2
    go_ret
    exact ⟨⟨_, rfl, by simpa using HN.out⟩, Below.refl _ _⟩

set_option maxHeartbeats 400000 in
theorem equalb_any (lo hi lo' hi' : Nat) (v v' : Value) (b d : List UInt8) (w : World) (h1 : SlIs w lo hi v b) (h2 : SlIs w lo' hi' v' d) : Calls Tryd.prog 60 #[v, v'] w (Tells w (b = d)) := by
  have r1 := run_str v b lo hi w h1
  have r2 := run_str v' d lo' hi' w h2
  clear h1 h2
  go_enter Tryd.func60, Tryd.ntmps60
  go_wp2
  go_ret
  exact ⟨⟨_, rfl, by simp [strOf_list]⟩, Below.refl _ _⟩
end Go.Proofs.YtepiifbleoimkaaDoor
