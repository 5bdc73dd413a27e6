/-
  Package bitmap: Set, Clear.
-/
import Derived.Test.YtaenobgpbphlfaaDoorMapC
namespace Go.Proofs.YtaenobgpbphlfaaDoor
open Go.RowKit Go.Lib
set_option maxRecDepth 100000

/-- A mark set, if there is such a place. -/
def markL (L : List Bool) (i : Int) (v : Bool) : List Bool := if thereB L i then L.set i.toNat v else L
theorem markL_length (L : List Bool) (i : Int) (v : Bool) : (markL L i v).length = L.length := by
  unfold markL
  split <;> simp
theorem set_same9 {L : List Bool} {i : Nat} (hi : L.getD i false = false) : L.set i false = L := by
  apply List.ext_getElem?
  intro j
  by_cases e : i = j
  · subst e
    by_cases hl : i < L.length
    · rw [getD_in _ _ _ hl] at hi
      simp [hl, hi]
    · simp [hl]
  · rw [List.getElem?_set_ne e]
/-- What a call leaves of a map that it may write. -/
def MpStep (w : World) (g gw cw : Nat) (L : List Bool) (w' : World) : Prop := Mp w' g gw cw L ∧ Only (fun j => j = gw) w w'
theorem MpStep.same {w : World} {g gw cw : Nat} {L : List Bool} (h : Mp w g gw cw L) : MpStep w g gw cw L w := ⟨h, Only.refl _ _⟩
theorem MapAt.stored {w : World} {g gw cw : Nat} {L L' : List Bool} {ws : List Nat} (h : MapAt w g gw cw L ws) (k x : Nat) (hl : L'.length = L.length) (hb : Bm L' (ws.set k x)) : MpStep w g gw cw L' (w.setCell ⟨gw, k, none⟩ (.int .u64 (x : Int))) := by
  have hs : Only (fun j => j = gw) w (w.setCell ⟨gw, k, none⟩ (.int .u64 (x : Int))) := (Only.refl (fun j => j = gw) w).setCell (p := ⟨gw, k, none⟩) (fun _ => rfl) _
  refine ⟨⟨ws.set k x, ?_, h.row.set k x, hb, by rw [hl]; exact h.pos, by rw [hl]; exact h.most⟩, hs⟩
  rw [hl, List.length_set]
  exact h.has.only hs (fun e => h.ne e)
theorem MpStep.drew {w w' : World} {g gw cw : Nat} {L : List Bool} (h : MpStep w g gw cw L w') : MpStep w g gw cw L w'.drew := by
  obtain ⟨⟨ws, h⟩, k⟩ := h
  exact ⟨⟨ws, h.has, h.row, h.bm, h.pos, h.most⟩, k.drew⟩
theorem pow_wrap (c : Nat) (hc : c < 64) : 2 ^ c < 18446744073709551616 := Nat.pow_lt_pow_of_lt (by decide) hc
theorem wrap_pow (c : Nat) (hc : c < 64) : IntKind.u64.wrap (2 ^ c) = ((2 ^ c : Nat) : Int) := by
  have := wrap_in (2 ^ c) (pow_wrap c hc)
  rw [← this]
  simp
theorem or_bit (x c : Nat) (hx : x < 18446744073709551616) (hc : c < 64) : bits .or .u64 (x : Int) (IntKind.u64.wrap (2 ^ c)) = ((x ||| 2 ^ c : Nat) : Int) := by
  have := u64_or_nat x (2 ^ c) hx (pow_wrap c hc)
  rw [← this, wrap_pow c hc]
theorem andnot_bit (x c : Nat) (hx : x < 18446744073709551616) (hc : c < 64) : bits .andNot .u64 (x : Int) (IntKind.u64.wrap (2 ^ c)) = ((x &&& (18446744073709551615 - 2 ^ c) : Nat) : Int) := by
  have := u64_andNot_nat x (2 ^ c) hx (pow_wrap c hc)
  rw [← this, wrap_pow c hc]
section
variable (g gw cw : Nat) (L : List Bool) (w : World) (h : Mp w g gw cw L)
include h
set_option maxHeartbeats 1000000 in
theorem set_any (i : Int) : Calls Tryd.prog 12 #[.pointer (some ⟨g, 0, none⟩), .int .i64 i] w fun e w' => e = .returned (.bool (thereB L i && !hasB L i)) ∧ MpStep w g gw cw (markL L i true) w' := by
  have CT := Lib.hid (there_any g gw cw L i w h)
  have CH := Lib.hid (has_any g gw cw L i w h)
  cases ht : thereB L i with
  | false =>
    have R : Hid (MpStep w g gw cw (markL L i true) w) := Lib.hid (by unfold markL; rw [ht]; exact MpStep.same h)
    rw [ht] at CT
    clear ht h CH
    go_enter Tryd.func12, Tryd.ntmps12
    go_wp2_with fail
    refine CT.out.mono ?_
    rintro e w' ⟨rfl, rfl⟩
    go_wp2
    go_ret
    exact ⟨rfl, R.out⟩
  | true =>
    obtain ⟨k, rfl, hk⟩ := thereB_yes ht
    have em : markL L (k : Int) true = L.set k true := by unfold markL; rw [ht]; rfl
    have eh : hasB L (k : Int) = L.getD k false := by unfold hasB; rw [ht]; rfl
    rw [em, eh]
    rw [ht] at CT
    rw [eh] at CH
    cases hb : L.getD k false with
    | true =>
      have R : Hid (MpStep w g gw cw (L.set k true) w) := Lib.hid (by rw [set_same hb]; exact MpStep.same h)
      rw [hb] at CH
      clear ht h em eh hb
      go_enter Tryd.func12, Tryd.ntmps12
      go_wp2_with fail
      refine CT.out.mono ?_
      rintro e w' ⟨rfl, rfl⟩
      go_wp2_with fail
      refine CH.out.mono ?_
      rintro e w' ⟨rfl, rfl⟩
      go_wp2
      go_ret
      exact ⟨rfl, R.out⟩
    | false =>
      rw [hb] at CH
      obtain ⟨ws, h⟩ := h
      have c1 := h.c1
      have c2 := h.word hk
      have hl := h.bm.len1 hk
      have hx := h.bm.lt (k / 64)
      have fz := h.row.frozen (k / 64)
      have B := Lib.hid (or_bit (ws.getD (k / 64) 0) (k % 64) hx (Nat.mod_lt _ (by decide)))
      have R := Lib.hid (h.stored (k / 64) (ws.getD (k / 64) 0 ||| 2 ^ (k % 64)) (by simp) (h.bm.take hk)).drew
      have hm := h.most
      generalize ws.getD (k / 64) 0 = x at *
      clear ht h em eh hb
      go_enter Tryd.func12, Tryd.ntmps12
      go_wp2_with fail
      refine CT.out.mono ?_
      rintro e w' ⟨rfl, rfl⟩
      go_wp2_with fail
      refine CH.out.mono ?_
      rintro e w' ⟨rfl, rfl⟩
      go_wp2
      go_region
      all_goals
        go_wp2
        go_ret
        refine ⟨rfl, ?_⟩
        rw [B.out]
        exact R.out

set_option maxHeartbeats 1000000 in
theorem clear_any (i : Int) : Calls Tryd.prog 13 #[.pointer (some ⟨g, 0, none⟩), .int .i64 i] w fun e w' => e = .returned (.bool (hasB L i)) ∧ MpStep w g gw cw (markL L i false) w' := by
  have CH := Lib.hid (has_any g gw cw L i w h)
  cases hb : hasB L i with
  | false =>
    have R : Hid (MpStep w g gw cw (markL L i false) w) := Lib.hid (by
      have : markL L i false = L := by
        unfold markL
        cases ht : thereB L i with
        | false => rfl
        | true =>
          have hb' : L.getD i.toNat false = false := by
            unfold hasB at hb
            rw [ht] at hb
            simpa using hb
          exact set_same9 hb'
      rw [this]
      exact MpStep.same h)
    rw [hb] at CH
    clear hb h
    go_enter Tryd.func13, Tryd.ntmps13
    go_wp2_with fail
    refine CH.out.mono ?_
    rintro e w' ⟨rfl, rfl⟩
    go_wp2
    go_ret
    exact ⟨rfl, R.out⟩
  | true =>
    have ht : thereB L i = true := by
      unfold hasB at hb
      cases ht : thereB L i with
      | false => rw [ht] at hb; cases hb
      | true => rfl
    obtain ⟨k, rfl, hk⟩ := thereB_yes ht
    have em : markL L (k : Int) false = L.set k false := by unfold markL; rw [ht]; rfl
    rw [em]
    rw [hb] at CH
    obtain ⟨ws, h⟩ := h
    have c1 := h.c1
    have c2 := h.word hk
    have hl := h.bm.len1 hk
    have hx := h.bm.lt (k / 64)
    have fz := h.row.frozen (k / 64)
    have B := Lib.hid (andnot_bit (ws.getD (k / 64) 0) (k % 64) hx (Nat.mod_lt _ (by decide)))
    have R := Lib.hid (h.stored (k / 64) (ws.getD (k / 64) 0 &&& (18446744073709551615 - 2 ^ (k % 64))) (by simp) (h.bm.drop hk)).drew
    have hm := h.most
    generalize ws.getD (k / 64) 0 = x at *
    clear ht h em hb
    go_enter Tryd.func13, Tryd.ntmps13
    go_wp2_with fail
    refine CH.out.mono ?_
    rintro e w' ⟨rfl, rfl⟩
    go_wp2
    go_region
    all_goals
      go_wp2
      go_ret
      refine ⟨rfl, ?_⟩
      rw [B.out]
      exact R.out
end
end Go.Proofs.YtaenobgpbphlfaaDoor
