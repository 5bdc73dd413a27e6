/-
  The second reading's Runes, Valid, Name over whatever text.
-/
import Derived.Test.YtkhgaolaaiekjaaDoorRefTextA
namespace Go.Proofs.YtkhgaolaaiekjaaDoor
open Go.RowKit Go.Lib
set_option maxRecDepth 100000

theorem runesAns_none : runesAns none = .tuple #[.int .i64 0, .bool false] := rfl
theorem runesAns_some (n : Nat) : runesAns (some n) = .tuple #[.int .i64 (n : Int), .bool true] := rfl

set_option maxHeartbeats 1000000 in
theorem refrunes_any (l : List UInt8) (w : World) (hl : l.length ≤ 9223372036854775806) :
    Calls Tryd.prog 48 #[.string (strOf l)] w fun e w' => e = .returned (runesAns (runes l)) ∧ w = w' := by
  have H0 : Hid (runes l = (runes l).map (· + 0) ∧ l.length + 0 ≤ l.length) := ⟨by simp, by omega⟩
  obtain ⟨r, hr⟩ : ∃ r, r = runes l := ⟨_, rfl⟩
  rw [← hr]
  have Hr := Lib.hid hr
  clear hr
  go_enter Tryd.func48, Tryd.ntmps48
  go_wp2
  go_loopw [0, 4] (fun s n wr => ∃ (l' : List UInt8) (m : Nat), s = .string (strOf l') ∧ n = .int .i64 m ∧ w = wr ∧ Hid (runes l = (runes l').map (· + m) ∧ l'.length + m ≤ l.length)) (fun s _ _ => textLen s)
  case atStart => exact ⟨l, 0, rfl, rfl, rfl, H0⟩
  case round =>
    obtain ⟨l', m, rfl, rfl, rfl, hrel⟩ := hrel
    clear H0
    obtain ⟨h1, h2⟩ := hrel.out
    rw [← Hr.out] at h1
    by_cases h0 : l'.length = 0
    · have hn : l' = [] := List.eq_nil_of_length_eq_zero h0
      subst hn
      have hz : (strOf []).size = 0 := rfl
      have he : r = some m := by rw [h1, runes_nil]; simp
      clear h1 h2 hrel h0 Hr
      subst he
      go_wp2
      go_ret2
      exact ⟨rfl, rfl⟩
    · have hz : (strOf l').size = l'.length := strOf_size l'
      have hp : (0 : Int) < (l'.length : Int) := by omega
      have hstep := runes_step h0
      have hwl := wid_le l'
      have C := Lib.hid (rune1_any l' w)
      obtain ⟨K, hK⟩ : ∃ K, wid l' = K := ⟨_, rfl⟩
      rw [hK] at hstep hwl C
      by_cases hw : K = 0
      · rw [if_pos hw] at hstep
        have he : r = none := by rw [h1, hstep]; rfl
        clear h1 h2 hrel h0 Hr hstep hK hwl
        subst he hw
        go_wp2_with fail
        refine C.out.mono ?_
        rintro e w' ⟨rfl, rfl⟩
        go_wp2
        go_ret2
        exact ⟨rfl, rfl⟩
      · rw [if_neg hw] at hstep
        have hx : (strOf l').extract K l'.length = strOf (l'.drop K) := strOf_tail l' K
        have k1 : decide (K ≤ l'.length) = true := decide_eq_true hwl
        have k2 : ((K : Int) == 0) = false := by simpa using hw
        have R : Hid (runes l = (runes (l'.drop K)).map (· + (m + 1)) ∧ (l'.drop K).length + (m + 1) ≤ l.length) := by
          refine ⟨?_, by rw [List.length_drop]; omega⟩
          rw [← Hr.out, h1, hstep, Option.map_map]
          congr 1
          funext x
          simp; omega
        have hK0 : 0 < K := by omega
        clear h1 hrel Hr hstep hK hw
        go_wp2_with fail
        refine C.out.mono ?_
        rintro e w' ⟨rfl, rfl⟩
        go_wp2
        go_roundw
        case rel => exact ⟨l'.drop K, m + 1, by rw [← hx], by go_num, by first | rfl | trivial, R⟩
        case measure => simp only [textLen, strOf_size, List.length_drop]; omega

theorem mem_byteAt {l : List UInt8} {k : Nat} (h : k < l.length) {c : UInt8} (hc : byteAt l k = c.toNat) : c ∈ l := by
  rw [byteAt_get h] at hc
  have : l[k] = c := UInt8.toNat_inj.1 hc
  rw [← this]
  exact List.getElem_mem h
theorem byteAt_mem {l : List UInt8} {c : UInt8} (h : c ∈ l) : ∃ k, k < l.length ∧ byteAt l k = c.toNat := by
  obtain ⟨k, hk, rfl⟩ := List.getElem_of_mem h
  exact ⟨k, hk, byteAt_get hk⟩

set_option maxHeartbeats 1000000 in
theorem refvalid_any (l : List UInt8) (w : World) (hl : l.length ≤ 9223372036854775806) :
    Calls Tryd.prog 31 #[.string (strOf l)] w fun e w' => e = .returned (.bool (decide (wrongOf l = 0))) ∧ w = w' := by
  have hz : (strOf l).size = l.length := strOf_size l
  have hb := strOf_at l
  have C := Lib.hid (refrunes_any l w hl)
  have Hw0 : Hid (∀ k, k < l.length → byteAt l k = 0 → decide (wrongOf l = 0) = false) := fun k hk hc => by
    have hm : (0 : UInt8) ∈ l := mem_byteAt hk hc
    refine decide_eq_false ?_
    rw [wrongOf]
    split
    · decide
    · first | decide | (rw [if_pos hm]; decide)
  have Hw1 : Hid ((∀ j, j < l.length → byteAt l j ≠ 0) → decide (wrongOf l = 0) = ((runes l).isSome && decide (l.length ≤ 64))) := fun h => by
    have hm : ¬ (0 : UInt8) ∈ l := fun hm => by
      obtain ⟨k, hk, hc⟩ := byteAt_mem hm
      exact h k hk hc
    rw [wrongOf, if_neg hm]
    by_cases h64 : 64 < l.length
    · rw [if_pos h64, decide_eq_false (by decide), decide_eq_false (p := l.length ≤ 64) (by omega), Bool.and_false]
    · rw [if_neg h64, decide_eq_true (p := l.length ≤ 64) (by omega), Bool.and_true]
      cases runes l <;> simp [utfErr]
  obtain ⟨V, hV⟩ : ∃ V, V = decide (wrongOf l = 0) := ⟨_, rfl⟩
  rw [← hV] at Hw0 Hw1 ⊢
  clear hV
  go_enter Tryd.func31, Tryd.ntmps31
  go_wp2
  go_loopw [3] (fun i wr => ∃ k : Nat, k ≤ l.length ∧ i = .int .i64 k ∧ w = wr ∧ Hid (∀ j, j < k → byteAt l j ≠ 0)) (fun i _ => l.length - (intOf i).toNat)
  case atStart => exact ⟨0, Nat.zero_le _, rfl, rfl, fun j hj => by omega⟩
  case round =>
    obtain ⟨k, hk, rfl, rfl, hrel⟩ := hrel
    have i0 : (0 : Int) ≤ (k : Int) := by omega
    by_cases hlt : k < l.length
    · have i1 : (k : Int) < (l.length : Int) := by omega
      obtain ⟨X, hX⟩ : ∃ X, byteAt l k = X := ⟨_, rfl⟩
      by_cases hx : X = 0
      · have hv := Hw0.out k hlt (by rw [hX, hx])
        subst hx hv
        clear C Hw0 Hw1 hrel
        go_wp2
        go_ret
        exact ⟨rfl, rfl⟩
      · have hne : ((X : Int) == 0) = false := by simpa using hx
        have R : Hid (∀ j, j < k + 1 → byteAt l j ≠ 0) := fun j hj => by
          by_cases h : j < k
          · exact hrel.out j h
          · rw [show j = k by omega, hX]; exact hx
        clear C Hw0 Hw1 hrel hx
        go_wp2
        go_roundw
        case rel => exact ⟨k + 1, by omega, by go_num, by first | rfl | trivial, R⟩
        case measure => simp [intOf]; omega
    · have hke : k = l.length := by omega
      subst hke
      have hv := Hw1.out hrel.out
      have Hv := Lib.hid hv
      clear Hw0 Hw1 hrel hv hb
      generalize runes l = r at C Hv
      go_wp2_with fail
      refine C.out.mono ?_
      rintro e w' ⟨rfl, rfl⟩
      have hv := Hv.out
      clear C Hv
      cases r with
      | none =>
        simp only [Option.isSome_none, Bool.false_and] at hv
        rw [runesAns_none]
        subst hv
        go_wp2
        go_ret
        exact ⟨rfl, rfl⟩
      | some n =>
        simp only [Option.isSome_some, Bool.true_and] at hv
        rw [runesAns_some]
        by_cases h64 : l.length ≤ 64
        · rw [decide_eq_true h64] at hv
          subst hv
          have d : decide ((l.length : Int) ≤ 64) = true := decide_eq_true (by omega)
          go_wp2
          go_ret
          exact ⟨rfl, rfl⟩
        · rw [decide_eq_false h64] at hv
          subst hv
          have d : decide ((l.length : Int) ≤ 64) = false := decide_eq_false (by omega)
          go_wp2
          go_ret
          exact ⟨rfl, rfl⟩

/-- A byte that no name has. -/
def outB (c : UInt8) : Bool := decide (c.toNat < 32) || decide (c.toNat = 47)
/-- What keeps a text from being a name. -/
def nameOf (l : List UInt8) : Int := if wrongOf l ≠ 0 ∨ l = [] ∨ l = [46] ∨ l = [46, 46] ∨ l.any outB = true then 6 else if 28 < l.length then 3 else 0
theorem nameOf_first {l : List UInt8} (h : wrongOf l ≠ 0 ∨ l = [] ∨ l = [46] ∨ l = [46, 46] ∨ l.any outB = true) : nameOf l = 6 := by rw [nameOf, if_pos h]
theorem nameOf_last {l : List UInt8} (h : ¬ (wrongOf l ≠ 0 ∨ l = [] ∨ l = [46] ∨ l = [46, 46] ∨ l.any outB = true)) : nameOf l = if 28 < l.length then 3 else 0 := by rw [nameOf, if_neg h]
theorem outB_at {l : List UInt8} {k : Nat} (h : k < l.length) : outB l[k] = (decide (byteAt l k < 32) || decide (byteAt l k = 47)) := by
  rw [outB, byteAt_get h]
theorem any_at {l : List UInt8} {k : Nat} (h : k < l.length) (ho : byteAt l k < 32 ∨ byteAt l k = 47) : l.any outB = true := by
  rw [List.any_eq_true]
  refine ⟨l[k], List.getElem_mem h, ?_⟩
  rw [outB_at h]
  rcases ho with ho | ho <;> simp [ho]
theorem any_none {l : List UInt8} (h : ∀ k, k < l.length → 32 ≤ byteAt l k ∧ byteAt l k ≠ 47) : ¬ l.any outB = true := by
  rw [List.any_eq_true]
  rintro ⟨c, hc, ho⟩
  obtain ⟨k, hk, e⟩ := byteAt_mem hc
  have := h k hk
  rw [outB, ← e] at ho
  simp at ho
  omega

set_option maxHeartbeats 1000000 in
theorem refname_any (l : List UInt8) (w : World) (hl : l.length ≤ 9223372036854775806) :
    Calls Tryd.prog 16 #[.string (strOf l)] w fun e w' => e = .returned (.int .i64 (nameOf l)) ∧ w = w' := by
  have hz : (strOf l).size = l.length := strOf_size l
  have hL : (strOf l).toList = l := strOf_list l
  have hb := strOf_at l
  have C := Lib.hid (refvalid_any l w hl)
  obtain ⟨N, hN⟩ : ∃ N, N = nameOf l := ⟨_, rfl⟩
  rw [← hN]
  by_cases hv : wrongOf l = 0
  · rw [decide_eq_true hv] at C
    by_cases h1 : l = []
    · have e : N = 6 := by rw [hN, nameOf_first (.inr (.inl h1))]
      have q1 : l.isEmpty = true := by rw [h1]; rfl
      clear hN hv hb h1
      subst e
      go_enter Tryd.func16, Tryd.ntmps16
      go_wp2_with fail
      refine C.out.mono ?_
      rintro e w' ⟨rfl, rfl⟩
      go_wp2
      go_ret
      exact ⟨rfl, rfl⟩
    have q1 : l.isEmpty = false := by
      cases l with
      | nil => exact absurd rfl h1
      | cons _ _ => rfl
    by_cases h2 : l = [46]
    · have e : N = 6 := by rw [hN, nameOf_first (.inr (.inr (.inl h2)))]
      have q2 : (l == [46]) = true := by rw [h2]; rfl
      clear hN hv hb h2 h1
      subst e
      go_enter Tryd.func16, Tryd.ntmps16
      go_wp2_with fail
      refine C.out.mono ?_
      rintro e w' ⟨rfl, rfl⟩
      go_wp2
      go_ret
      exact ⟨rfl, rfl⟩
    have q2 : (l == [46]) = false := by simpa using h2
    by_cases h3 : l = [46, 46]
    · have e : N = 6 := by rw [hN, nameOf_first (.inr (.inr (.inr (.inl h3))))]
      have q3 : (l == [46, 46]) = true := by rw [h3]; rfl
      clear hN hv hb h2 h1 h3
      subst e
      go_enter Tryd.func16, Tryd.ntmps16
      go_wp2_with fail
      refine C.out.mono ?_
      rintro e w' ⟨rfl, rfl⟩
      go_wp2
      go_ret
      exact ⟨rfl, rfl⟩
    have q3 : (l == [46, 46]) = false := by simpa using h3
    have HA : Hid (l.any outB = true → N = 6) := fun h => by rw [hN, nameOf_first (.inr (.inr (.inr (.inr h))))]
    have HB : Hid (¬ l.any outB = true → N = if 28 < l.length then 3 else 0) := fun h => by
      rw [hN, nameOf_last]
      rintro (h' | h' | h' | h' | h')
      · exact h' hv
      · exact h1 h'
      · exact h2 h'
      · exact h3 h'
      · exact h h'
    clear hN h1 h2 h3 hv
    go_enter Tryd.func16, Tryd.ntmps16
    go_wp2_with fail
    refine C.out.mono ?_
    rintro e w' ⟨rfl, rfl⟩
    clear C
    go_wp2
    go_loopw [3] (fun i wr => ∃ k : Nat, k ≤ l.length ∧ i = .int .i64 k ∧ w = wr ∧ Hid (∀ j, j < k → 32 ≤ byteAt l j ∧ byteAt l j ≠ 47)) (fun i _ => l.length - (intOf i).toNat)
    case atStart => exact ⟨0, Nat.zero_le _, rfl, rfl, fun j hj => by omega⟩
    case round =>
      obtain ⟨k, hk, rfl, rfl, hrel⟩ := hrel
      have i0 : (0 : Int) ≤ (k : Int) := by omega
      by_cases hlt : k < l.length
      · have i1 : (k : Int) < (l.length : Int) := by omega
        obtain ⟨X, hX⟩ : ∃ X, byteAt l k = X := ⟨_, rfl⟩
        by_cases hx : X < 32
        · have hv := HA.out (any_at hlt (by omega))
          have d : decide ((X : Int) < 32) = true := decide_eq_true (by omega)
          subst hv
          clear HA HB hrel hx
          go_wp2
          go_ret
          exact ⟨rfl, rfl⟩
        · have d : decide ((X : Int) < 32) = false := decide_eq_false (by omega)
          by_cases hx2 : X = 47
          · have hv := HA.out (any_at hlt (by omega))
            subst hv hx2
            clear HA HB hrel hx
            go_wp2
            go_ret
            exact ⟨rfl, rfl⟩
          · have hne : ((X : Int) == 47) = false := by simp; omega
            have R : Hid (∀ j, j < k + 1 → 32 ≤ byteAt l j ∧ byteAt l j ≠ 47) := fun j hj => by
              by_cases h : j < k
              · exact hrel.out j h
              · rw [show j = k by omega, hX]; omega
            clear HA HB hrel hx hx2
            go_wp2
            go_roundw
            case rel => exact ⟨k + 1, by omega, by go_num, by first | rfl | trivial, R⟩
            case measure => simp [intOf]; omega
      · have hke : k = l.length := by omega
        subst hke
        have hv := HB.out (any_none hrel.out)
        clear HA HB hrel hb
        by_cases h28 : 28 < l.length
        · rw [if_pos h28] at hv
          subst hv
          have d : (28 : Int) < (l.length : Int) := by omega
          go_wp2
          go_ret
          exact ⟨rfl, rfl⟩
        · rw [if_neg h28] at hv
          subst hv
          have d : (l.length : Int) ≤ 28 := by omega
          go_wp2
          go_ret
          exact ⟨rfl, rfl⟩
  · rw [decide_eq_false hv] at C
    have e : N = 6 := by rw [hN, nameOf_first (.inl hv)]
    clear hN hv hb
    subst e
    go_enter Tryd.func16, Tryd.ntmps16
    go_wp2_with fail
    refine C.out.mono ?_
    rintro e w' ⟨rfl, rfl⟩
    go_wp2
    go_ret
    exact ⟨rfl, rfl⟩
end Go.Proofs.YtkhgaolaaiekjaaDoor
