/-
  Layer 2's TextBack: whatever text, it answers true and leaves what was there.
-/
import Derived.Test.YthfddmgphdklfaaDoorLaw2Known
import Derived.Test.YthfddmgphdklfaaDoorRefTextD
import Derived.Deep.DeepCutAuto
namespace Go.Proofs.YthfddmgphdklfaaDoor
open Go.RowKit Go.Lib
set_option maxRecDepth 100000

/-- The Out holds L, so does the other list. -/
def Back2 (w : World) (g : Nat) (vo u : Value) (L : List UInt8) (wx : World) : Prop :=
  OutAt wx g g vo L ∧ wx.ownsRow g 5 1 u L.length (b8s L) ∧ Below w.heap.size w wx ∧ w.heap.size ≤ g
theorem Back2.below {w wx wy : World} {g : Nat} {vo u : Value} {L : List UInt8} (h : Back2 w g vo u L wx) (k : Below wx.heap.size wx wy) : Back2 w g vo u L wy := by
  obtain ⟨h1, h2, h3, h4⟩ := h
  exact ⟨h1.only (Only.of_below k) (fun i hi => by have := h1.foot_lt hi; omega), owns_only h2 (Only.of_below k) (fun i hi => by have := h2.lt i hi; omega), h3.trans (k.mono h3.size), h4⟩

set_option maxHeartbeats 4000000 in
theorem tback_small (l : List UInt8) (w : World) (hT : Tabs w) (hb : l.length ≤ 300) :
    Calls Tryd.prog 4 #[.string (strOf l)] w fun e w' => e = .returned (.bool true) ∧ Below w.heap.size w w' := by
  have hz : (strOf l).size = l.length := strOf_size l
  have d1 : decide ((300 : Int) < (l.length : Int)) = false := decide_eq_false (by omega)
  have HT := Lib.hid hT
  have hlt := tab_lt hT
  have C0 := Lib.hid (known2 w hT)
  have HB : Hid (wrongOf l = 0 → tans (textB l) 0 = (l, 0)) := tans_back l
  have htl : (textB l).length ≤ 308 := by
    rw [textB]
    split
    · have := putI_length 2 (l.length : Int)
      rw [List.length_append]; omega
    · simp
  clear hT
  go_enter Tryd.func4, Tryd.ntmps4
  go_wp2_with fail
  refine C0.out.mono ?_
  rintro e w0 ⟨rfl, k0⟩
  have s0 := k0.size
  have K0 := Lib.hid k0
  have kO := k0.alloc s0 (.cells #[.slice none 0 0] 34)
  have C1 := Lib.hid (tput_any w0.heap.size w0.heap.size _ [] l _ (new_out w0) (HT.out.below kO) (by omega) (by simp))
  clear C0 k0 kO
  go_wp2_with fail
  refine C1.out.mono ?_
  rintro e w1 ⟨v1, rfl, o1, f1, g1⟩
  rw [List.nil_append] at o1
  have k1 : Below w.heap.size w w1 := (K0.out.alloc s0 _).trans (f1.below (by simp; omega) (fun i hi h => by have := (new_out w0).foot_lt h; omega))
  have C2 := Lib.hid (reftextS_any l w1 (by omega))
  have O1 := Lib.hid o1
  have K1 := Lib.hid k1
  have s1 : w0.heap.size ≤ w1.heap.size := by have := f1.size; simp at this; omega
  clear o1 k1 f1 g1 C1 K0
  go_wp2_with fail
  refine C2.out.mono ?_
  rintro e w2 ⟨u, rfl, a2, b2⟩
  have M2 : Hid (Back2 w w0.heap.size v1 u (textB l) w2) :=
    ⟨O1.out.only (Only.of_below b2) (fun i hi => by have := O1.out.foot_lt hi; omega), owns_base a2 s1, K1.out.trans (b2.mono K1.out.size), s0⟩
  clear a2 b2 O1 K1 C2
  generalize textB l = L at M2 HB htl
  generalize wrongOf l = er at HB ⊢
  have hM : Hid (Back2 w w0.heap.size v1 u L w2.drew) := M2.out.below ((Below.refl _ w2).drew)
  have e1 := run_str u L _ _ w2.drew (owns_SlIs hM.out.2.1)
  go_upto_region 8 with fail
  go_cut [34] (fun s34 wx => s34 = .bool false ∧ Hid (Back2 w w0.heap.size v1 u L wx))
  case first =>
    go_region_with (first | (go_at_call 18; go_must (refine (bytes_any w0.heap.size w0.heap.size v1 L _ hM.out.1 (by omega)).mono ?_; rintro e w3 ⟨v3, rfl, a3, b3⟩; have e2 := run_str v3 L _ _ w3 (owns_SlIs a3); have M3 : Hid (Back2 w w0.heap.size v1 u L w3) := hM.out.below b3; have e3 := run_str u L _ _ w3 (owns_SlIs M3.out.2.1); clear a3 b3)))
    all_goals
      go_wp2_with fail
      go_meet
      exact ⟨rfl, M3⟩
  case rest =>
    obtain ⟨rfl, M3⟩ := hcut
    clear e1 hM M2
    by_cases he : er = 0
    · have hans := HB.out he
      subst he
      have HA := Lib.hid hans
      clear hans HB
      go_wp2_with fail
      refine (of_any u L _ _ wc (owns_SlIs M3.out.2.1) (Nat.le_refl _) (by omega)).mono ?_
      rintro e w4 ⟨g, rfl, i4, b4⟩
      have hg := i4.lt
      have s4 := M3.out.2.2.1.size
      have k4 := M3.out.2.2.1.trans (b4.mono M3.out.2.2.1.size)
      have C4 := Lib.hid (ttake_any _ g L 0 w4 i4 (HT.out.below k4) (by omega) (by omega) (by omega))
      have K4 := Lib.hid k4
      clear i4 b4 k4 M3
      go_wp2_with fail
      refine C4.out.mono ?_
      rintro e w5 ⟨rfl, i5, o5⟩
      rw [HA.out]
      have K5 : Hid (Below w.heap.size w w5) := K4.out.trans (o5.below (B := w.heap.size) (by have := K4.out.size; omega) (fun i hi h => by omega))
      clear i5 o5 K4 C4 HA
      go_wp2
      go_ret
      exact ⟨rfl, K5.out⟩
    · have hne : (er == 0) = false := by simpa using he
      have hne2 : (er != 0) = true := by simpa using he
      have K3 : Hid (Below w.heap.size w wc) := M3.out.2.2.1
      clear HB M3 he
      go_wp2
      go_ret
      exact ⟨rfl, K3.out⟩

set_option maxHeartbeats 400000 in
theorem tback_any (l : List UInt8) (w : World) (hT : Tabs w) :
    Calls Tryd.prog 4 #[.string (strOf l)] w fun e w' => e = .returned (.bool true) ∧ Below w.heap.size w w' := by
  by_cases hb : l.length ≤ 300
  · exact tback_small l w hT hb
  · have hz : (strOf l).size = l.length := strOf_size l
    have d1 : decide ((300 : Int) < (l.length : Int)) = true := decide_eq_true (by omega)
    have C0 := Lib.hid (known2 w hT)
    clear hT
    go_enter Tryd.func4, Tryd.ntmps4
    go_wp2_with fail
    refine C0.out.mono ?_
    rintro e w0 ⟨rfl, k0⟩
    have K0 := Lib.hid k0
    clear C0 k0
    go_wp2
    go_ret
    exact ⟨rfl, K0.out⟩
end Go.Proofs.YthfddmgphdklfaaDoor
