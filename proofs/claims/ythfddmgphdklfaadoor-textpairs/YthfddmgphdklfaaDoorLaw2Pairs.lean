/-
  Layer 2's TextPairs: whatever two texts and whatever cut, it answers true and leaves what was there.
-/
import Derived.Test.YthfddmgphdklfaaDoorLaw2Known
namespace Go.Proofs.YthfddmgphdklfaaDoor
open Go.RowKit Go.Lib
set_option maxRecDepth 100000

set_option maxHeartbeats 2000000 in
theorem pairs_small (a b : List UInt8) (cut : Int) (w : World) (hT : Tabs w) (ha : a.length ≤ 100) (hb : b.length ≤ 100) (hc : 0 ≤ cut) :
    Calls Tryd.prog 6 #[.string (strOf a), .string (strOf b), .int .i64 cut] w fun e w' => e = .returned (.bool true) ∧ Below w.heap.size w w' := by
  have hza : (strOf a).size = a.length := strOf_size a
  have hzb : (strOf b).size = b.length := strOf_size b
  have da : decide ((100 : Int) < (a.length : Int)) = false := decide_eq_false (by omega)
  have db : decide ((100 : Int) < (b.length : Int)) = false := decide_eq_false (by omega)
  have dc : decide (cut < 0) = false := decide_eq_false (by omega)
  have HT := Lib.hid hT
  have CR : Hid (∀ (l : List UInt8) (W : World), Below w.heap.size w W → l.length ≤ 200 → Calls Tryd.prog 8 #[.string (strOf l)] W fun e w' => e = .returned (runesAns (runes l)) ∧ Below w.heap.size w w') :=
    fun l W hW hl => (runes_any l W (HT.out.below hW) (by omega)).mono fun e w' h => ⟨h.1, hW.trans (h.2.mono hW.size)⟩
  have C0 := Lib.hid (known2 w hT)
  have HA : Hid (∀ n m, runes a = some n → runes b = some m → runes (a ++ b) = some (n + m)) := fun n m => runes_add a.length a b n m (Nat.le_refl _)
  have hab : strOf a ++ strOf b = strOf (a ++ b) := ByteArray.ext (by rw [ByteArray.data_append]; simp [strOf])
  have hzab : (strOf (a ++ b)).size = (a ++ b).length := strOf_size (a ++ b)
  have hle : (a ++ b).length ≤ 200 := by rw [List.length_append]; omega
  clear hT
  go_enter Tryd.func6, Tryd.ntmps6
  go_wp2_with fail
  refine C0.out.mono ?_
  rintro e w0 ⟨rfl, k0⟩
  have K0 := Lib.hid k0
  clear C0 k0
  go_wp2_with fail
  refine (CR.out a w0 K0.out (by omega)).mono ?_
  rintro e w1 ⟨rfl, k1⟩
  have K1 := Lib.hid k1
  clear K0 k1
  unfold runesAns
  go_wp2_with fail
  refine (CR.out b w1 K1.out (by omega)).mono ?_
  rintro e w2 ⟨rfl, k2⟩
  have K2 := Lib.hid k2
  clear K1 k2
  unfold runesAns
  go_wp2_with fail
  refine (CR.out (a ++ b) w2 K2.out hle).mono ?_
  rintro e w3 ⟨rfl, k3⟩
  have K3 := Lib.hid k3
  clear K2 k3
  unfold runesAns
  have HC : Hid (∀ c, (runes (a ++ b)).isSome = true → (runes ((a ++ b).take c)).isSome = (runes ((a ++ b).drop c)).isSome) := fun c => runes_cut _ (a ++ b) c (Nat.le_refl _)
  have CF : Hid (∀ (l : List UInt8) (W : World), l.length ≤ 200 → Calls Tryd.prog 9 #[.string (strOf l)] W fun e w' => e = .returned (runesAns (runes l)) ∧ W = w') := fun l W hl => refrunes_any l W (by omega)
  have hx : ∀ c, (strOf (a ++ b)).extract 0 c = strOf ((a ++ b).take c) := fun c => by rw [strOf_extract]; simp
  have hy : ∀ c, (strOf (a ++ b)).extract c (a ++ b).length = strOf ((a ++ b).drop c) := fun c => strOf_tail _ c
  have HX := Lib.hid hx
  have HY := Lib.hid hy
  clear hx hy
  have Q : Hid ((runes a).isSome = true → (runes b).isSome = true → (runes (a ++ b)).isSome = true ∧ (runes (a ++ b)).getD 0 = (runes a).getD 0 + (runes b).getD 0) := by
    intro h1 h2
    obtain ⟨n, hn⟩ := Option.isSome_iff_exists.1 h1
    obtain ⟨m, hm⟩ := Option.isSome_iff_exists.1 h2
    rw [HA.out n m hn hm, hn, hm]
    exact ⟨rfl, rfl⟩
  have HL : Hid (∀ m, runes a = some m → m ≤ 100) := fun m h => Nat.le_trans (runes_le a.length a m (Nat.le_refl _) h) ha
  have HL2 : Hid (∀ m, runes b = some m → m ≤ 100) := fun m h => Nat.le_trans (runes_le b.length b m (Nat.le_refl _) h) hb
  generalize runes a = r1 at Q HL ⊢
  generalize runes b = r2 at Q HL2 ⊢
  obtain ⟨l, hl⟩ : ∃ l, l = a ++ b := ⟨_, rfl⟩
  rw [← hl] at HC HX HY Q hle hzab hab ⊢
  clear hl HA
  generalize hr3 : runes l = r3 at Q ⊢
  cases r3 with
  | none =>
    cases r1 with
    | none =>
      go_wp2
      go_ret
      exact ⟨rfl, K3.out⟩
    | some n =>
      cases r2 with
      | none =>
        go_wp2
        go_ret
        exact ⟨rfl, K3.out⟩
      | some m =>
        have := (Q.out rfl rfl).1
        cases this
  | some k =>
    have hd : r1 = none ∨ (∃ n, r1 = some n) ∧ r2 = none ∨ ∃ n m, r1 = some n ∧ r2 = some m ∧ k = n + m ∧ n ≤ 100 ∧ m ≤ 100 := by
      cases r1 with
      | none => exact .inl rfl
      | some n =>
        cases r2 with
        | none => exact .inr (.inl ⟨⟨n, rfl⟩, rfl⟩)
        | some m => exact .inr (.inr ⟨n, m, rfl, rfl, (Q.out rfl rfl).2, HL.out n rfl, HL2.out m rfl⟩)
    clear Q HL HL2
    by_cases h0 : l.length = 0
    · have hz0 : (strOf l).size = 0 := by rw [hzab, h0]
      clear hr3 HC CF HX HY hzab hle h0
      rcases hd with rfl | ⟨⟨n, rfl⟩, rfl⟩ | ⟨n, m, rfl, rfl, rfl, hn, hm⟩
      · go_wp2
        go_ret
        exact ⟨rfl, K3.out⟩
      · go_wp2
        go_ret
        exact ⟨rfl, K3.out⟩
      · have hw : wrap64 ((n : Int) + (m : Int)) = (n : Int) + (m : Int) := by unfold wrap64; omega
        go_wp2
        go_ret
        exact ⟨rfl, K3.out⟩
    · have hz0 : ((l.length : Int) == 0) = false := by simpa using h0
      obtain ⟨c, hc0, hc1⟩ : ∃ c : Nat, cut % (l.length : Int) = (c : Int) ∧ c < l.length := by
        have h1 := Int.emod_nonneg cut (b := (l.length : Int)) (by omega)
        have h2 := Int.emod_lt_of_pos cut (b := (l.length : Int)) (by omega)
        exact ⟨(cut % (l.length : Int)).toNat, by omega, by omega⟩
      have hx := HX.out c
      have hy := HY.out c
      have he := HC.out c (by rw [hr3]; rfl)
      have hl1 : (l.take c).length ≤ 200 := by rw [List.length_take]; omega
      have hl2 : (l.drop c).length ≤ 200 := by rw [List.length_drop]; omega
      have He := Lib.hid he
      clear hr3 HC HX HY he
      rcases hd with rfl | ⟨⟨n, rfl⟩, rfl⟩ | ⟨n, m, rfl, rfl, rfl, hn, hm⟩
      · go_wp2_with fail
        refine (CR.out (l.take c) w3 K3.out hl1).mono ?_
        rintro e w4 ⟨rfl, k4⟩
        have K4 := Lib.hid k4
        clear K3 k4
        unfold runesAns
        go_wp2_with fail
        refine (CR.out (l.drop c) w4 K4.out hl2).mono ?_
        rintro e w5 ⟨rfl, k5⟩
        have K5 := Lib.hid k5
        clear K4 k5
        unfold runesAns
        go_wp2_with fail
        refine (CF.out (l.take c) w5 hl1).mono ?_
        rintro e w6 ⟨rfl, rfl⟩
        unfold runesAns
        rw [← He.out]
        clear CR CF hl1 hl2 He hx hy hc0 hc1
        generalize (runes (l.take c)).isSome = t
        cases t
        · go_wp2
          go_ret
          exact ⟨rfl, K5.out⟩
        · go_wp2
          go_ret
          exact ⟨rfl, K5.out⟩
      · go_wp2_with fail
        refine (CR.out (l.take c) w3 K3.out hl1).mono ?_
        rintro e w4 ⟨rfl, k4⟩
        have K4 := Lib.hid k4
        clear K3 k4
        unfold runesAns
        go_wp2_with fail
        refine (CR.out (l.drop c) w4 K4.out hl2).mono ?_
        rintro e w5 ⟨rfl, k5⟩
        have K5 := Lib.hid k5
        clear K4 k5
        unfold runesAns
        go_wp2_with fail
        refine (CF.out (l.take c) w5 hl1).mono ?_
        rintro e w6 ⟨rfl, rfl⟩
        unfold runesAns
        rw [← He.out]
        clear CR CF hl1 hl2 He hx hy hc0 hc1
        generalize (runes (l.take c)).isSome = t
        cases t
        · go_wp2
          go_ret
          exact ⟨rfl, K5.out⟩
        · go_wp2
          go_ret
          exact ⟨rfl, K5.out⟩
      · have hw : wrap64 ((n : Int) + (m : Int)) = (n : Int) + (m : Int) := by unfold wrap64; omega
        go_wp2_with fail
        refine (CR.out (l.take c) w3 K3.out hl1).mono ?_
        rintro e w4 ⟨rfl, k4⟩
        have K4 := Lib.hid k4
        clear K3 k4
        unfold runesAns
        go_wp2_with fail
        refine (CR.out (l.drop c) w4 K4.out hl2).mono ?_
        rintro e w5 ⟨rfl, k5⟩
        have K5 := Lib.hid k5
        clear K4 k5
        unfold runesAns
        go_wp2_with fail
        refine (CF.out (l.take c) w5 hl1).mono ?_
        rintro e w6 ⟨rfl, rfl⟩
        unfold runesAns
        rw [← He.out]
        clear CR CF hl1 hl2 He hx hy hc0 hc1
        generalize (runes (l.take c)).isSome = t
        cases t
        · go_wp2
          go_ret
          exact ⟨rfl, K5.out⟩
        · go_wp2
          go_ret
          exact ⟨rfl, K5.out⟩

set_option maxHeartbeats 1000000 in
theorem pairs_any (a b : List UInt8) (cut : Int) (w : World) (hT : Tabs w) :
    Calls Tryd.prog 6 #[.string (strOf a), .string (strOf b), .int .i64 cut] w fun e w' => e = .returned (.bool true) ∧ Below w.heap.size w w' := by
  by_cases ha : a.length ≤ 100
  · by_cases hb : b.length ≤ 100
    · by_cases hc : 0 ≤ cut
      · exact pairs_small a b cut w hT ha hb hc
      · have hza : (strOf a).size = a.length := strOf_size a
        have hzb : (strOf b).size = b.length := strOf_size b
        have da : decide ((100 : Int) < (a.length : Int)) = false := decide_eq_false (by omega)
        have db : decide ((100 : Int) < (b.length : Int)) = false := decide_eq_false (by omega)
        have dc : decide (cut < 0) = true := decide_eq_true (by omega)
        have C0 := Lib.hid (known2 w hT)
        clear hT
        go_enter Tryd.func6, Tryd.ntmps6
        go_wp2_with fail
        refine C0.out.mono ?_
        rintro e w0 ⟨rfl, k0⟩
        have K0 := Lib.hid k0
        clear C0 k0
        go_wp2
        go_ret
        exact ⟨rfl, K0.out⟩
    · have hza : (strOf a).size = a.length := strOf_size a
      have hzb : (strOf b).size = b.length := strOf_size b
      have da : decide ((100 : Int) < (a.length : Int)) = false := decide_eq_false (by omega)
      have db : decide ((100 : Int) < (b.length : Int)) = true := decide_eq_true (by omega)
      have C0 := Lib.hid (known2 w hT)
      clear hT
      go_enter Tryd.func6, Tryd.ntmps6
      go_wp2_with fail
      refine C0.out.mono ?_
      rintro e w0 ⟨rfl, k0⟩
      have K0 := Lib.hid k0
      clear C0 k0
      go_wp2
      go_ret
      exact ⟨rfl, K0.out⟩
  · have hza : (strOf a).size = a.length := strOf_size a
    have da : decide ((100 : Int) < (a.length : Int)) = true := decide_eq_true (by omega)
    have C0 := Lib.hid (known2 w hT)
    clear hT
    go_enter Tryd.func6, Tryd.ntmps6
    go_wp2_with fail
    refine C0.out.mono ?_
    rintro e w0 ⟨rfl, k0⟩
    have K0 := Lib.hid k0
    clear C0 k0
    go_wp2
    go_ret
    exact ⟨rfl, K0.out⟩
end Go.Proofs.YthfddmgphdklfaaDoor
