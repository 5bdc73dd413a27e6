/-
  The second reading's rune1: the width of the first code point of whatever text.
-/
import Derived.Test.YtkhgaolaaiekjaaDoorTextB
import Derived.Laws.BitsAllLaws
namespace Go.Proofs.YtkhgaolaaiekjaaDoor
open Go.RowKit Go.Lib
set_option maxRecDepth 100000

/-- A text's bytes, as the walk reads them. -/
theorem strOf_at (l : List UInt8) : ∀ (n : Nat) (h : n < (strOf l).size), ((((strOf l)[n]'h).toNat : Nat) : Int) = (byteAt l n : Int) := by
  intro n h
  have h' : n < l.length := by rwa [strOf_size] at h
  rw [byteAt_get h']
  rfl
theorem and192 (x : Nat) (h : x < 256) : bits .and .u8 (x : Int) 192 = ((x / 64 * 64 : Nat) : Int) := by
  have e : ∀ y, y < 256 → y &&& 192 = y / 64 * 64 := by decide
  have := u8_and_nat x 192 h (by omega)
  rw [e x h] at this
  exact this
theorem and63 (x : Nat) (h : x < 256) : bits .and .u8 (x : Int) 63 = ((x % 64 : Nat) : Int) := by
  have := u8_and_nat x 63 h (by omega)
  rw [show (63 : Nat) = 2 ^ 6 - 1 from rfl, Nat.and_two_pow_sub_one_eq_mod] at this
  exact this
theorem or64 (v y : Nat) (hv : v < 1099511627776) : bits .or .i64 (wrap64 ((v : Int) * 64)) ((y : Int) % 64) = ((v * 64 + y % 64 : Nat) : Int) := by
  obtain ⟨x, hx⟩ : ∃ x, x = y % 64 := ⟨_, rfl⟩
  have e1 : wrap64 ((v : Int) * 64) = ((v * 64 : Nat) : Int) := by unfold wrap64; omega
  have e2 : (y : Int) % 64 = (x : Int) := by omega
  have hj : v * 64 ||| x = v * 64 + x := nat_join 6 _ _ (by omega) (by omega)
  rw [e1, e2, ← hx]
  show IntKind.i64.wrap ((BitVec.ofInt 64 ((v * 64 : Nat) : Int) ||| BitVec.ofInt 64 (x : Int)).toNat : Int) = _
  rw [BitVec.toNat_or, BitVec.ofInt_natCast, BitVec.ofInt_natCast, BitVec.toNat_ofNat, BitVec.toNat_ofNat, Nat.mod_eq_of_lt (by omega), Nat.mod_eq_of_lt (by omega), hj]
  exact IntWalk.i64_in _ (by omega)
/-- The bits of a code point, from its lead byte's on. -/
def accV (v0 : Nat) (l : List UInt8) : Nat → Nat
  | 0 => v0
  | k + 1 => accV v0 l k * 64 + byteAt l (k + 1) % 64
theorem accV_lt (v0 : Nat) (l : List UInt8) (k : Nat) (h : v0 < 32) (hk : k < 4) : accV v0 l k < 1099511627776 := by
  have : ∀ j, accV v0 l j < 32 * 64 ^ j := by
    intro j
    induction j with
    | zero => simp [accV]; omega
    | succ j ih => simp only [accV, Nat.pow_succ]; omega
  have h1 := this k
  have h2 : 64 ^ k ≤ 64 ^ 3 := Nat.pow_le_pow_right (by omega) (by omega)
  omega

theorem wid_end2 (l : List UInt8) (c b1 : Nat) (hc : byteAt l 0 = c) (e1 : byteAt l 1 = b1) (h1 : 192 ≤ c) (h2 : c < 224) (hl : 2 ≤ l.length) (k1 : b1 / 64 = 2) :
    wid l = if c % 32 * 64 + b1 % 64 < 128 then 0 else 2 := by
  unfold wid
  rw [hc, e1]
  by_cases h : c < 194
  · rw [widN0 (by omega), if_pos (by omega)]
  · rw [widN2 (by omega), if_pos (by omega), if_neg (by omega)]
theorem wid_end3 (l : List UInt8) (c b1 b2 : Nat) (hc : byteAt l 0 = c) (e1 : byteAt l 1 = b1) (e2 : byteAt l 2 = b2) (h1 : 224 ≤ c) (h2 : c < 240) (hl : 3 ≤ l.length) (k1 : b1 / 64 = 2) (k2 : b2 / 64 = 2) :
    wid l = if (c % 16 * 64 + b1 % 64) * 64 + b2 % 64 < 2048 ∨ (55296 ≤ (c % 16 * 64 + b1 % 64) * 64 + b2 % 64 ∧ (c % 16 * 64 + b1 % 64) * 64 + b2 % 64 ≤ 57343) then 0 else 3 := by
  unfold wid
  rw [hc, e1, e2, widN3 (by omega)]
  split <;> split <;> omega
theorem wid_end4 (l : List UInt8) (c b1 b2 b3 : Nat) (hc : byteAt l 0 = c) (e1 : byteAt l 1 = b1) (e2 : byteAt l 2 = b2) (e3 : byteAt l 3 = b3) (h1 : 240 ≤ c) (h2 : c < 248) (hl : 4 ≤ l.length) (k1 : b1 / 64 = 2) (k2 : b2 / 64 = 2) (k3 : b3 / 64 = 2) :
    wid l = if ((c % 8 * 64 + b1 % 64) * 64 + b2 % 64) * 64 + b3 % 64 < 65536 ∨ 1114111 < ((c % 8 * 64 + b1 % 64) * 64 + b2 % 64) * 64 + b3 % 64 then 0 else 4 := by
  unfold wid
  rw [hc, e1, e2, e3]
  by_cases h : c < 245
  · rw [widN4 (by omega)]
    split <;> split <;> omega
  · rw [widN0 (by omega), if_pos (by omega)]
theorem wid_class (l : List UInt8) (n c : Nat) (hc : byteAt l 0 = c) (hn : (n = 2 ∧ 192 ≤ c ∧ c < 224) ∨ (n = 3 ∧ 224 ≤ c ∧ c < 240) ∨ (n = 4 ∧ 240 ≤ c ∧ c < 248)) (h0 : ¬ wid l = 0) : n = wid l := by
  have h4 := wid_le4 l
  have hw : wid l = 1 ∨ wid l = 2 ∨ wid l = 3 ∨ wid l = 4 := by omega
  rcases hw with e | e | e | e
  · have k := widN_is1.1 (show widN _ _ _ _ _ = 1 from e)
    omega
  · have k := widN_is2.1 (show widN _ _ _ _ _ = 2 from e)
    omega
  · have k := widN_is3.1 (show widN _ _ _ _ _ = 3 from e)
    omega
  · have k := widN_is4.1 (show widN _ _ _ _ _ = 4 from e)
    omega
/-- A lead byte of n bytes with too few behind it, or with one that goes on nothing. -/
theorem wid_bad (l : List UInt8) (n c : Nat) (hc : byteAt l 0 = c) (hn : (n = 2 ∧ 192 ≤ c ∧ c < 224) ∨ (n = 3 ∧ 224 ≤ c ∧ c < 240) ∨ (n = 4 ∧ 240 ≤ c ∧ c < 248))
    (h : l.length < n ∨ ∃ j, 1 ≤ j ∧ j < n ∧ byteAt l j / 64 ≠ 2) : wid l = 0 := by
  refine Decidable.byContradiction fun h0 => ?_
  have hl := wid_le l
  have hk := wid_class l n c hc hn h0
  rcases h with h | ⟨j, j1, j2, j3⟩
  · omega
  · have := wid_tail (l := l) (c := j) (by omega) (by omega)
    omega

set_option maxHeartbeats 1000000 in
theorem rune1_2 (l : List UInt8) (w : World) (c : Nat) (hc : byteAt l 0 = c) (h0 : 0 < l.length) (h1 : 192 ≤ c) (h2 : c < 224) :
    Calls Tryd.prog 63 #[.string (strOf l)] w fun e w' => e = .returned (.int .i64 (wid l : Nat)) ∧ w = w' := by
  have hz : (strOf l).size = l.length := strOf_size l
  have i0 : (0 : Int) < (l.length : Int) := by omega
  have hb := strOf_at l
  have d1 : decide ((c : Int) < 128) = false := decide_eq_false (by omega)
  have d2 : decide ((192 : Int) ≤ c) = true := decide_eq_true (by omega)
  have d3 : decide ((c : Int) < 224) = true := decide_eq_true (by omega)
  have hbad := wid_bad l 2 c hc (by omega)
  by_cases hl : l.length < 2
  · have hl' : (l.length : Int) < 2 := by omega
    have hw := hbad (.inl hl)
    rw [hw]
    clear hbad
    go_enter Tryd.func63, Tryd.ntmps63
    go_wp2
    go_ret
    exact ⟨rfl, rfl⟩
  · have hl' : (2 : Int) ≤ (l.length : Int) := by omega
    have HB : Hid (∀ j, 1 ≤ j → j < 2 → byteAt l j / 64 ≠ 2 → wid l = 0) := fun j h1 h2 h3 => hbad (.inr ⟨j, h1, h2, h3⟩)
    have HE : Hid ((∀ j, 1 ≤ j → j < 2 → byteAt l j / 64 = 2) → ∀ V, accV (c % 32) l (2 - 1) = V → wid l = if V < 128 ∨ 1114111 < V ∨ (55296 ≤ V ∧ V ≤ 57343) then 0 else 2) := by
      rintro hj V rfl
      rw [wid_end2 l c _ hc rfl h1 h2 (by omega) (hj 1 (by omega) (by omega))]
      simp only [accV, Nat.reduceAdd]
      split <;> split <;> omega
    have hm : wrap64 ((c : Int) % 32) = (c : Int) % 32 := by unfold wrap64; omega
    obtain ⟨r, hr⟩ : ∃ r, wid l = r := ⟨_, rfl⟩
    rw [hr] at HB HE ⊢
    clear hbad hl hr
    go_enter Tryd.func63, Tryd.ntmps63
    go_wp2
    go_loopw [5, 7] (fun v i wr => ∃ k : Nat, k < 2 ∧ v = .int .i64 (accV (c % 32) l k) ∧ i = .int .i64 ((k : Int) + 1) ∧ Hid (w = wr ∧ ∀ j, 1 ≤ j → j ≤ k → byteAt l j / 64 = 2)) (fun _ i _ => 2 - (intOf i).toNat)
    case atStart => exact ⟨0, by omega, by simp [accV], by simp, ⟨rfl, fun j h1 h2 => by omega⟩⟩
    case round =>
      obtain ⟨k, hk, rfl, rfl, hrel⟩ := hrel
      obtain ⟨rfl, hj⟩ := hrel.out
      have HJ := Lib.hid hj
      have hV := accV_lt (c % 32) l k (by omega) (by omega)
      by_cases hk1 : k + 1 < 2
      · have hs : accV (c % 32) l (k + 1) = accV (c % 32) l k * 64 + byteAt l (k + 1) % 64 := rfl
        obtain ⟨X, hX⟩ : ∃ X, byteAt l (k + 1) = X := ⟨_, rfl⟩
        have hX1 : X < 256 := by rw [← hX]; exact byteAt_lt _ _
        rw [hX] at hs
        have i1 : (k : Int) + 1 < (l.length : Int) := by omega
        have i2 : (0 : Int) ≤ (k : Int) + 1 := by omega
        have i3 : (k : Int) + 1 < 2 := by omega
        have tn : ((k : Int) + 1).toNat = k + 1 := by omega
        obtain ⟨V, hVe⟩ : ∃ V, accV (c % 32) l k = V := ⟨_, rfl⟩
        rw [hVe] at hV hs ⊢
        have a1 := and63 X hX1
        have a2 := or64 V X hV
        have a3 := and192 X hX1
        by_cases hq : X / 64 = 2
        · rw [hq] at a3
          have HF : Hid (∀ j, 1 ≤ j → j ≤ k + 1 → byteAt l j / 64 = 2) := fun j j1 j2 => by
            by_cases h : j ≤ k
            · exact HJ.out j j1 h
            · rw [show j = k + 1 by omega, hX]; exact hq
          obtain ⟨V', hV'⟩ : ∃ V', V' = V * 64 + X % 64 := ⟨_, rfl⟩
          rw [← hV'] at a2 hs
          clear hV' hrel hj HJ HB HE hVe hV hq
          go_wp2
          go_roundw
          case rel => exact ⟨k + 1, hk1, by rw [hs], by go_num, ⟨by first | rfl | trivial, HF.out⟩⟩
          case measure => simp [intOf]; omega
        · have hne : (((X / 64 * 64 : Nat) : Int) == 128) = false := by simp; omega
          have hr0 := HB.out (k + 1) (by omega) hk1 (by rw [hX]; exact hq)
          subst hr0
          obtain ⟨Y, hY⟩ : ∃ Y : Int, ((X / 64 * 64 : Nat) : Int) = Y := ⟨_, rfl⟩
          rw [hY] at a3 hne
          clear hrel hj HJ HB HE hVe hV hq hY hs a1 a2
          go_wp2
          go_ret
          exact ⟨rfl, rfl⟩
      · have hke : k + 1 = 2 := by omega
        obtain ⟨V, hVe⟩ : ∃ V, accV (c % 32) l k = V := ⟨_, rfl⟩
        have he := HE.out (fun j j1 j2 => HJ.out j j1 (by omega)) V (by rw [← hVe]; congr 1; omega)
        rw [hVe]
        have i3 : (k : Int) + 1 = 2 := by omega
        obtain ⟨I, hI⟩ : ∃ I : Int, I = (k : Int) + 1 := ⟨_, rfl⟩
        rw [← hI] at i3 ⊢
        subst i3
        have H := Lib.hid he
        clear hrel hj HJ HB HE hVe hV he hI hk hke hk1
        go_wp2
        all_goals
          go_ret
          refine ⟨?_, rfl⟩
          rw [H.out]
          first
          | (rw [if_pos (by omega)]; rfl)
          | (rw [if_neg (by omega)]; rfl)

set_option maxHeartbeats 1000000 in
theorem rune1_3 (l : List UInt8) (w : World) (c : Nat) (hc : byteAt l 0 = c) (h0 : 0 < l.length) (h1 : 224 ≤ c) (h2 : c < 240) :
    Calls Tryd.prog 63 #[.string (strOf l)] w fun e w' => e = .returned (.int .i64 (wid l : Nat)) ∧ w = w' := by
  have hz : (strOf l).size = l.length := strOf_size l
  have i0 : (0 : Int) < (l.length : Int) := by omega
  have hb := strOf_at l
  have d1 : decide ((c : Int) < 128) = false := decide_eq_false (by omega)
  have d2 : decide ((192 : Int) ≤ c) = true := decide_eq_true (by omega)
  have d3 : decide ((c : Int) < 224) = false := decide_eq_false (by omega)
  have d4 : decide ((224 : Int) ≤ c) = true := decide_eq_true (by omega)
  have d5 : decide ((c : Int) < 240) = true := decide_eq_true (by omega)
  have hbad := wid_bad l 3 c hc (by omega)
  by_cases hl : l.length < 3
  · have hl' : (l.length : Int) < 3 := by omega
    have hw := hbad (.inl hl)
    rw [hw]
    clear hbad
    go_enter Tryd.func63, Tryd.ntmps63
    go_wp2
    go_ret
    exact ⟨rfl, rfl⟩
  · have hl' : (3 : Int) ≤ (l.length : Int) := by omega
    have HB : Hid (∀ j, 1 ≤ j → j < 3 → byteAt l j / 64 ≠ 2 → wid l = 0) := fun j h1 h2 h3 => hbad (.inr ⟨j, h1, h2, h3⟩)
    have HE : Hid ((∀ j, 1 ≤ j → j < 3 → byteAt l j / 64 = 2) → ∀ V, accV (c % 16) l (3 - 1) = V → wid l = if V < 2048 ∨ 1114111 < V ∨ (55296 ≤ V ∧ V ≤ 57343) then 0 else 3) := by
      rintro hj V rfl
      rw [wid_end3 l c _ _ hc rfl rfl h1 h2 (by omega) (hj 1 (by omega) (by omega)) (hj 2 (by omega) (by omega))]
      simp only [accV, Nat.reduceAdd]
      split <;> split <;> omega
    have hm : wrap64 ((c : Int) % 16) = (c : Int) % 16 := by unfold wrap64; omega
    obtain ⟨r, hr⟩ : ∃ r, wid l = r := ⟨_, rfl⟩
    rw [hr] at HB HE ⊢
    clear hbad hl hr
    go_enter Tryd.func63, Tryd.ntmps63
    go_wp2
    go_loopw [5, 7] (fun v i wr => ∃ k : Nat, k < 3 ∧ v = .int .i64 (accV (c % 16) l k) ∧ i = .int .i64 ((k : Int) + 1) ∧ Hid (w = wr ∧ ∀ j, 1 ≤ j → j ≤ k → byteAt l j / 64 = 2)) (fun _ i _ => 3 - (intOf i).toNat)
    case atStart => exact ⟨0, by omega, by simp [accV], by simp, ⟨rfl, fun j h1 h2 => by omega⟩⟩
    case round =>
      obtain ⟨k, hk, rfl, rfl, hrel⟩ := hrel
      obtain ⟨rfl, hj⟩ := hrel.out
      have HJ := Lib.hid hj
      have hV := accV_lt (c % 16) l k (by omega) (by omega)
      by_cases hk1 : k + 1 < 3
      · have hs : accV (c % 16) l (k + 1) = accV (c % 16) l k * 64 + byteAt l (k + 1) % 64 := rfl
        obtain ⟨X, hX⟩ : ∃ X, byteAt l (k + 1) = X := ⟨_, rfl⟩
        have hX1 : X < 256 := by rw [← hX]; exact byteAt_lt _ _
        rw [hX] at hs
        have i1 : (k : Int) + 1 < (l.length : Int) := by omega
        have i2 : (0 : Int) ≤ (k : Int) + 1 := by omega
        have i3 : (k : Int) + 1 < 3 := by omega
        have tn : ((k : Int) + 1).toNat = k + 1 := by omega
        obtain ⟨V, hVe⟩ : ∃ V, accV (c % 16) l k = V := ⟨_, rfl⟩
        rw [hVe] at hV hs ⊢
        have a1 := and63 X hX1
        have a2 := or64 V X hV
        have a3 := and192 X hX1
        by_cases hq : X / 64 = 2
        · rw [hq] at a3
          have HF : Hid (∀ j, 1 ≤ j → j ≤ k + 1 → byteAt l j / 64 = 2) := fun j j1 j2 => by
            by_cases h : j ≤ k
            · exact HJ.out j j1 h
            · rw [show j = k + 1 by omega, hX]; exact hq
          obtain ⟨V', hV'⟩ : ∃ V', V' = V * 64 + X % 64 := ⟨_, rfl⟩
          rw [← hV'] at a2 hs
          clear hV' hrel hj HJ HB HE hVe hV hq
          go_wp2
          go_roundw
          case rel => exact ⟨k + 1, hk1, by rw [hs], by go_num, ⟨by first | rfl | trivial, HF.out⟩⟩
          case measure => simp [intOf]; omega
        · have hne : (((X / 64 * 64 : Nat) : Int) == 128) = false := by simp; omega
          have hr0 := HB.out (k + 1) (by omega) hk1 (by rw [hX]; exact hq)
          subst hr0
          obtain ⟨Y, hY⟩ : ∃ Y : Int, ((X / 64 * 64 : Nat) : Int) = Y := ⟨_, rfl⟩
          rw [hY] at a3 hne
          clear hrel hj HJ HB HE hVe hV hq hY hs a1 a2
          go_wp2
          go_ret
          exact ⟨rfl, rfl⟩
      · have hke : k + 1 = 3 := by omega
        obtain ⟨V, hVe⟩ : ∃ V, accV (c % 16) l k = V := ⟨_, rfl⟩
        have he := HE.out (fun j j1 j2 => HJ.out j j1 (by omega)) V (by rw [← hVe]; congr 1; omega)
        rw [hVe]
        have i3 : (k : Int) + 1 = 3 := by omega
        obtain ⟨I, hI⟩ : ∃ I : Int, I = (k : Int) + 1 := ⟨_, rfl⟩
        rw [← hI] at i3 ⊢
        subst i3
        have H := Lib.hid he
        clear hrel hj HJ HB HE hVe hV he hI hk hke hk1
        go_wp2
        all_goals
          go_ret
          refine ⟨?_, rfl⟩
          rw [H.out]
          first
          | (rw [if_pos (by omega)]; rfl)
          | (rw [if_neg (by omega)]; rfl)

set_option maxHeartbeats 1000000 in
theorem rune1_4 (l : List UInt8) (w : World) (c : Nat) (hc : byteAt l 0 = c) (h0 : 0 < l.length) (h1 : 240 ≤ c) (h2 : c < 248) :
    Calls Tryd.prog 63 #[.string (strOf l)] w fun e w' => e = .returned (.int .i64 (wid l : Nat)) ∧ w = w' := by
  have hz : (strOf l).size = l.length := strOf_size l
  have i0 : (0 : Int) < (l.length : Int) := by omega
  have hb := strOf_at l
  have d1 : decide ((c : Int) < 128) = false := decide_eq_false (by omega)
  have d2 : decide ((192 : Int) ≤ c) = true := decide_eq_true (by omega)
  have d3 : decide ((c : Int) < 224) = false := decide_eq_false (by omega)
  have d4 : decide ((224 : Int) ≤ c) = true := decide_eq_true (by omega)
  have d5 : decide ((c : Int) < 240) = false := decide_eq_false (by omega)
  have d6 : decide ((240 : Int) ≤ c) = true := decide_eq_true (by omega)
  have d7 : decide ((c : Int) < 248) = true := decide_eq_true (by omega)
  have hbad := wid_bad l 4 c hc (by omega)
  by_cases hl : l.length < 4
  · have hl' : (l.length : Int) < 4 := by omega
    have hw := hbad (.inl hl)
    rw [hw]
    clear hbad
    go_enter Tryd.func63, Tryd.ntmps63
    go_wp2
    go_ret
    exact ⟨rfl, rfl⟩
  · have hl' : (4 : Int) ≤ (l.length : Int) := by omega
    have HB : Hid (∀ j, 1 ≤ j → j < 4 → byteAt l j / 64 ≠ 2 → wid l = 0) := fun j h1 h2 h3 => hbad (.inr ⟨j, h1, h2, h3⟩)
    have HE : Hid ((∀ j, 1 ≤ j → j < 4 → byteAt l j / 64 = 2) → ∀ V, accV (c % 8) l (4 - 1) = V → wid l = if V < 65536 ∨ 1114111 < V ∨ (55296 ≤ V ∧ V ≤ 57343) then 0 else 4) := by
      rintro hj V rfl
      rw [wid_end4 l c _ _ _ hc rfl rfl rfl h1 h2 (by omega) (hj 1 (by omega) (by omega)) (hj 2 (by omega) (by omega)) (hj 3 (by omega) (by omega))]
      simp only [accV, Nat.reduceAdd]
      split <;> split <;> omega
    have hm : wrap64 ((c : Int) % 8) = (c : Int) % 8 := by unfold wrap64; omega
    obtain ⟨r, hr⟩ : ∃ r, wid l = r := ⟨_, rfl⟩
    rw [hr] at HB HE ⊢
    clear hbad hl hr
    go_enter Tryd.func63, Tryd.ntmps63
    go_wp2
    go_loopw [5, 7] (fun v i wr => ∃ k : Nat, k < 4 ∧ v = .int .i64 (accV (c % 8) l k) ∧ i = .int .i64 ((k : Int) + 1) ∧ Hid (w = wr ∧ ∀ j, 1 ≤ j → j ≤ k → byteAt l j / 64 = 2)) (fun _ i _ => 4 - (intOf i).toNat)
    case atStart => exact ⟨0, by omega, by simp [accV], by simp, ⟨rfl, fun j h1 h2 => by omega⟩⟩
    case round =>
      obtain ⟨k, hk, rfl, rfl, hrel⟩ := hrel
      obtain ⟨rfl, hj⟩ := hrel.out
      have HJ := Lib.hid hj
      have hV := accV_lt (c % 8) l k (by omega) (by omega)
      by_cases hk1 : k + 1 < 4
      · have hs : accV (c % 8) l (k + 1) = accV (c % 8) l k * 64 + byteAt l (k + 1) % 64 := rfl
        obtain ⟨X, hX⟩ : ∃ X, byteAt l (k + 1) = X := ⟨_, rfl⟩
        have hX1 : X < 256 := by rw [← hX]; exact byteAt_lt _ _
        rw [hX] at hs
        have i1 : (k : Int) + 1 < (l.length : Int) := by omega
        have i2 : (0 : Int) ≤ (k : Int) + 1 := by omega
        have i3 : (k : Int) + 1 < 4 := by omega
        have tn : ((k : Int) + 1).toNat = k + 1 := by omega
        obtain ⟨V, hVe⟩ : ∃ V, accV (c % 8) l k = V := ⟨_, rfl⟩
        rw [hVe] at hV hs ⊢
        have a1 := and63 X hX1
        have a2 := or64 V X hV
        have a3 := and192 X hX1
        by_cases hq : X / 64 = 2
        · rw [hq] at a3
          have HF : Hid (∀ j, 1 ≤ j → j ≤ k + 1 → byteAt l j / 64 = 2) := fun j j1 j2 => by
            by_cases h : j ≤ k
            · exact HJ.out j j1 h
            · rw [show j = k + 1 by omega, hX]; exact hq
          obtain ⟨V', hV'⟩ : ∃ V', V' = V * 64 + X % 64 := ⟨_, rfl⟩
          rw [← hV'] at a2 hs
          clear hV' hrel hj HJ HB HE hVe hV hq
          go_wp2
          go_roundw
          case rel => exact ⟨k + 1, hk1, by rw [hs], by go_num, ⟨by first | rfl | trivial, HF.out⟩⟩
          case measure => simp [intOf]; omega
        · have hne : (((X / 64 * 64 : Nat) : Int) == 128) = false := by simp; omega
          have hr0 := HB.out (k + 1) (by omega) hk1 (by rw [hX]; exact hq)
          subst hr0
          obtain ⟨Y, hY⟩ : ∃ Y : Int, ((X / 64 * 64 : Nat) : Int) = Y := ⟨_, rfl⟩
          rw [hY] at a3 hne
          clear hrel hj HJ HB HE hVe hV hq hY hs a1 a2
          go_wp2
          go_ret
          exact ⟨rfl, rfl⟩
      · have hke : k + 1 = 4 := by omega
        obtain ⟨V, hVe⟩ : ∃ V, accV (c % 8) l k = V := ⟨_, rfl⟩
        have he := HE.out (fun j j1 j2 => HJ.out j j1 (by omega)) V (by rw [← hVe]; congr 1; omega)
        rw [hVe]
        have i3 : (k : Int) + 1 = 4 := by omega
        obtain ⟨I, hI⟩ : ∃ I : Int, I = (k : Int) + 1 := ⟨_, rfl⟩
        rw [← hI] at i3 ⊢
        subst i3
        have H := Lib.hid he
        clear hrel hj HJ HB HE hVe hV he hI hk hke hk1
        go_wp2
        all_goals
          go_ret
          refine ⟨?_, rfl⟩
          rw [H.out]
          first
          | (rw [if_pos (by omega)]; rfl)
          | (rw [if_neg (by omega)]; rfl)

set_option maxHeartbeats 1000000 in
theorem rune1_any (l : List UInt8) (w : World) : Calls Tryd.prog 63 #[.string (strOf l)] w fun e w' => e = .returned (.int .i64 (wid l : Nat)) ∧ w = w' := by
  have hz : (strOf l).size = l.length := strOf_size l
  have hb := strOf_at l
  by_cases h0 : l.length = 0
  · have hw : wid l = 0 := by have := wid_le l; omega
    rw [hw]
    have hz : (strOf l).size = 0 := by rw [hz, h0]
    clear h0 hb
    go_enter Tryd.func63, Tryd.ntmps63
    go_wp2
    go_ret
    exact ⟨rfl, rfl⟩
  have i0 : (0 : Int) < (l.length : Int) := by omega
  obtain ⟨c, hc⟩ : ∃ c, byteAt l 0 = c := ⟨_, rfl⟩
  have hc1 : c < 256 := by rw [← hc]; exact byteAt_lt _ _
  by_cases h1 : c < 128
  · have hw : wid l = 1 := widN_is1.2 ⟨by omega, by rw [hc]; exact h1⟩
    rw [hw]
    have d1 : decide ((c : Int) < 128) = true := decide_eq_true (by omega)
    clear hw
    go_enter Tryd.func63, Tryd.ntmps63
    go_wp2
    go_ret
    exact ⟨rfl, rfl⟩
  have d1 : decide ((c : Int) < 128) = false := decide_eq_false (by omega)
  by_cases h2 : c < 192
  · have hw : wid l = 0 := widN0 (by omega)
    rw [hw]
    have d2 : decide ((192 : Int) ≤ c) = false := decide_eq_false (by omega)
    have d3 : decide ((224 : Int) ≤ c) = false := decide_eq_false (by omega)
    have d4 : decide ((240 : Int) ≤ c) = false := decide_eq_false (by omega)
    clear hw
    go_enter Tryd.func63, Tryd.ntmps63
    go_wp2
    go_ret
    exact ⟨rfl, rfl⟩
  by_cases h3 : c < 224
  · exact rune1_2 l w c hc (by omega) (by omega) h3
  by_cases h4 : c < 240
  · exact rune1_3 l w c hc (by omega) (by omega) h4
  by_cases h5 : c < 248
  · exact rune1_4 l w c hc (by omega) (by omega) h5
  · have hw : wid l = 0 := widN0 (by omega)
    rw [hw]
    have d2 : decide ((192 : Int) ≤ c) = true := decide_eq_true (by omega)
    have d3 : decide ((c : Int) < 224) = false := decide_eq_false (by omega)
    have d4 : decide ((224 : Int) ≤ c) = true := decide_eq_true (by omega)
    have d5 : decide ((c : Int) < 240) = false := decide_eq_false (by omega)
    have d6 : decide ((240 : Int) ≤ c) = true := decide_eq_true (by omega)
    have d7 : decide ((c : Int) < 248) = false := decide_eq_false (by omega)
    clear hw
    go_enter Tryd.func63, Tryd.ntmps63
    go_wp2
    go_ret
    exact ⟨rfl, rfl⟩
end Go.Proofs.YtkhgaolaaiekjaaDoor
