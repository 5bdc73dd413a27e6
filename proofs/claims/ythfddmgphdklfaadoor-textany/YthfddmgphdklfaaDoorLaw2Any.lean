/-
  Layer 2's TextAny: whatever text, it answers true and leaves what was there.
-/
import Derived.Test.YthfddmgphdklfaaDoorLaw2Known
import Derived.Test.YthfddmgphdklfaaDoorRefTextE
import Derived.Deep.QuietTactic
import Derived.BigQuiet
namespace Go.Proofs.YthfddmgphdklfaaDoor
open Go.RowKit Go.Lib
set_option maxRecDepth 100000

/-- A row of texts as a slice. -/
theorem strs_slice {w : World} {B : Nat} {v : Value} {ws : List (List UInt8)} (h : w.ownsRow B 9 1 v ws.length (strs ws)) :
    ∃ A c, v = .slice A ws.length c ∧ ws.length ≤ c ∧ (0 < ws.length → ∃ g, A = some ⟨g, 0, none⟩ ∧ g < w.heap.size ∧ ∀ j x, ws[j]? = some x → w.cell? ⟨g, j, none⟩ = some (.string (strOf x))) := by
  by_cases h0 : 0 < ws.length
  · obtain ⟨g, cap, rfl, _, h2, h3, h4⟩ := strs_cell h h0
    exact ⟨_, cap, rfl, h3, fun _ => ⟨g, rfl, h2, h4⟩⟩
  · have hn : ws = [] := List.eq_nil_of_length_eq_zero (by omega)
    subst hn
    rcases h.2 with ⟨rfl, _⟩ | ⟨g', cap', cur, rfl, _, _, h1, _⟩
    · exact ⟨none, 0, rfl, Nat.le_refl _, fun h => absurd h (by simp)⟩
    · exact ⟨_, cap', rfl, h1, fun h => absurd h (by simp)⟩

set_option maxHeartbeats 4000000 in
theorem tany_small (l : List UInt8) (w : World) (hT : Tabs w) (hb : l.length ≤ 300) :
    Calls Tryd.prog 3 #[.string (strOf l)] w fun e w' => e = .returned (.bool true) ∧ Below w.heap.size w w' := by
  have hz : (strOf l).size = l.length := strOf_size l
  have d1 : decide ((300 : Int) < (l.length : Int)) = false := decide_eq_false (by omega)
  have HT := Lib.hid hT
  have C0 := Lib.hid (known2 w hT)
  have CF : Hid (∀ W, Calls Tryd.prog 9 #[.string (strOf l)] W fun e w' => e = .returned (runesAns (runes l)) ∧ W = w') := fun W => refrunes_any l W (by omega)
  have CV : Hid (∀ W, Calls Tryd.prog 13 #[.string (strOf l)] W fun e w' => e = .returned (.bool (decide (wrongOf l = 0))) ∧ W = w') := fun W => refvalid_any l W (by omega)
  have CN : Hid (∀ W, Calls Tryd.prog 15 #[.string (strOf l)] W fun e w' => e = .returned (.int .i64 (nameOf l)) ∧ W = w') := fun W => refname_any l W (by omega)
  have DR : Hid (∀ W, Below w.heap.size w W → Calls Tryd.prog 8 #[.string (strOf l)] W fun e w' => e = .returned (runesAns (runes l)) ∧ Below W.heap.size W w') := fun W k => runes_any l W (HT.out.below k) (by omega)
  have DV : Hid (∀ W, Below w.heap.size w W → Calls Tryd.prog 12 #[.string (strOf l)] W fun e w' => e = .returned (.bool (decide (wrongOf l = 0))) ∧ Below W.heap.size W w') := fun W k => valid_any l W (HT.out.below k) (by omega)
  have DN : Hid (∀ W, Below w.heap.size w W → Calls Tryd.prog 14 #[.string (strOf l)] W fun e w' => e = .returned (.int .i64 (nameOf l)) ∧ Below W.heap.size W w') := fun W k => name_any l W (HT.out.below k) (by omega)
  have DW : Hid (∀ W, Calls Tryd.prog 10 #[.string (strOf l)] W (WordsStep W (wordsOf l))) := fun W => words_any l W (by omega)
  have CW : Hid (∀ W, Calls Tryd.prog 11 #[.string (strOf l)] W (WordsStep W (wordsOf l))) := fun W => refwords_any l W (by omega)
  have hcnt : (wordsOf l).length ≤ l.length + 1 := wst_count l (l.length + 1)
  generalize runes l = r at CF DR
  generalize decide (wrongOf l = 0) = vd at CV DV
  generalize nameOf l = nm at CN DN
  generalize wordsOf l = ws at CW DW hcnt
  clear hT HT
  go_enter Tryd.func3, Tryd.ntmps3
  go_wp2_with fail
  refine C0.out.mono ?_
  rintro e w0 ⟨rfl, k0⟩
  have K0 := Lib.hid k0
  clear C0 k0
  go_wp2_with fail
  refine (DR.out w0 K0.out).mono ?_
  rintro e w1 ⟨rfl, b1⟩
  have K1 := Lib.hid (K0.out.trans (b1.mono K0.out.size))
  clear b1 K0 DR
  unfold runesAns
  go_wp2_with fail
  refine (CF.out w1).mono ?_
  rintro e w' ⟨rfl, rfl⟩
  clear CF
  unfold runesAns
  go_wp2_with fail
  refine (DW.out w1).mono ?_
  rintro e w2 ⟨v2, rfl, r2, b2⟩
  have K2 := Lib.hid (K1.out.trans (b2.mono K1.out.size))
  obtain ⟨A, ca, rfl, hca, hA⟩ := strs_slice r2
  have HA := Lib.hid hA
  clear r2 b2 K1 DW hA
  go_wp2_with fail
  refine (CW.out w2).mono ?_
  rintro e w3 ⟨v3, rfl, r3, b3⟩
  have K3 := Lib.hid (K2.out.trans (b3.mono K2.out.size))
  obtain ⟨B, cb, rfl, hcb, hB⟩ := strs_slice r3
  have HC : Hid (0 < ws.length → ∃ g g', A = some ⟨g, 0, none⟩ ∧ B = some ⟨g', 0, none⟩ ∧ ∀ j x, ws[j]? = some x → ∀ W, Below w3.heap.size w3 W → W.cell? ⟨g, j, none⟩ = some (.string (strOf x)) ∧ W.cell? ⟨g', j, none⟩ = some (.string (strOf x))) := by
    intro h0
    obtain ⟨g, e1, l1, c1⟩ := HA.out h0
    obtain ⟨g', e2, l2, c2⟩ := hB h0
    refine ⟨g, g', e1, e2, fun j x hx W hW => ⟨?_, ?_⟩⟩
    · exact (hW.cell (p := ⟨g, j, none⟩) (by have := b3.size; exact Nat.lt_of_lt_of_le l1 this)).trans ((b3.cell (p := ⟨g, j, none⟩) l1).trans (c1 j x hx))
    · exact (hW.cell (p := ⟨g', j, none⟩) l2).trans (c2 j x hx)
  clear r3 b3 K2 CW hB HA
  go_wp2_with fail
  refine (DV.out w3 K3.out).mono ?_
  rintro e w4 ⟨rfl, b4⟩
  have K4 := Lib.hid (K3.out.trans (b4.mono K3.out.size))
  have F4 := Lib.hid b4
  clear b4 K3 DV
  go_wp2_with fail
  refine (CV.out w4).mono ?_
  rintro e w' ⟨rfl, rfl⟩
  clear CV
  go_wp2_with fail
  refine (DN.out w4 K4.out).mono ?_
  rintro e w5 ⟨rfl, b5⟩
  have K5 := Lib.hid (K4.out.trans (b5.mono K4.out.size))
  have F5 := Lib.hid (F4.out.trans (b5.mono F4.out.size))
  clear b5 K4 F4 DN
  go_wp2_with fail
  refine (CN.out w5).mono ?_
  rintro e w' ⟨rfl, rfl⟩
  clear CN
  go_wp2
  go_loopw [9] (fun i wr => ∃ k : Nat, k ≤ ws.length ∧ i = .int .i64 k ∧ Hid (Below w.heap.size w wr ∧ Below w3.heap.size w3 wr)) (fun i _ => ws.length - (intOf i).toNat)
  case atStart => exact ⟨0, Nat.zero_le _, rfl, ⟨K5.out, F5.out⟩⟩
  case round =>
    obtain ⟨k, hk, rfl, hrel⟩ := hrel
    have i0 : (0 : Int) ≤ (k : Int) := by omega
    by_cases hlt : k < ws.length
    · have i1 : (k : Int) < (ws.length : Int) := by omega
      obtain ⟨g, g', rfl, rfl, hcell⟩ := HC.out (by omega)
      obtain ⟨c1, c2⟩ := hcell k _ (List.getElem?_eq_getElem hlt) wr hrel.out.2
      obtain ⟨x, hx⟩ : ∃ x, ws[k] = x := ⟨_, rfl⟩
      rw [hx] at c1 c2
      have R : Hid (∀ m, Below w.heap.size w (wr.drewN m) ∧ Below w3.heap.size w3 (wr.drewN m)) := fun m => ⟨below_drewN' hrel.out.1 m, below_drewN' hrel.out.2 m⟩
      clear HC hcell hrel hx K5 F5
      go_wp2
      go_quiet (fail)
      go_wp2
      go_roundw
      case rel => exact ⟨k + 1, by omega, by go_num, R.out _⟩
      case measure => simp [intOf]; omega
    · have hke : k = ws.length := by omega
      subst hke
      have R := Lib.hid hrel.out.1
      clear hrel HC K5 F5
      go_wp2
      go_ret
      exact ⟨rfl, R.out⟩

set_option maxHeartbeats 400000 in
theorem tany_any (l : List UInt8) (w : World) (hT : Tabs w) :
    Calls Tryd.prog 3 #[.string (strOf l)] w fun e w' => e = .returned (.bool true) ∧ Below w.heap.size w w' := by
  by_cases hb : l.length ≤ 300
  · exact tany_small l w hT hb
  · have hz : (strOf l).size = l.length := strOf_size l
    have d1 : decide ((300 : Int) < (l.length : Int)) = true := decide_eq_true (by omega)
    have C0 := Lib.hid (known2 w hT)
    clear hT
    go_enter Tryd.func3, Tryd.ntmps3
    go_wp2_with fail
    refine C0.out.mono ?_
    rintro e w0 ⟨rfl, k0⟩
    have K0 := Lib.hid k0
    clear C0 k0
    go_wp2
    go_ret
    exact ⟨rfl, K0.out⟩
end Go.Proofs.YthfddmgphdklfaaDoor
