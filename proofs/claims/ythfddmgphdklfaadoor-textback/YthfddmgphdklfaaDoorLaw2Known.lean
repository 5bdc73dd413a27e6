/-
  The fixed example at the head of each statement of layer 2: it answers true and leaves what was there.
-/
import Derived.Test.YthfddmgphdklfaaDoorTextD
namespace Go.Proofs.YthfddmgphdklfaaDoor
open Go.RowKit Go.Lib
set_option maxRecDepth 100000

/-- A cell of a row of texts. -/
theorem strs_cell {w : World} {B : Nat} {v : Value} {ws : List (List UInt8)} (h : w.ownsRow B 9 1 v ws.length (strs ws)) (h0 : 0 < ws.length) :
    ∃ g cap, v = .slice (some ⟨g, 0, none⟩) ws.length cap ∧ B ≤ g ∧ g < w.heap.size ∧ ws.length ≤ cap ∧ ∀ j x, ws[j]? = some x → w.cell? ⟨g, j, none⟩ = some (.string (strOf x)) := by
  obtain ⟨g, cap, rfl, hb, hlt⟩ := h.form (by simpa [strs] using h0)
  refine ⟨g, cap, rfl, hb, hlt, ?_, fun j x hx => ?_⟩
  · rcases h.2 with ⟨e, _⟩ | ⟨g', cap', cur, e, _, _, h1, _⟩
    · cases e
    · injection e with _ _ e
      omega
  · have := h.cells (g := g) rfl j (.string (strOf x)) (by simp [strs, hx])
    have e : ((⟨g, 0, none⟩ : Addr).add j) = ⟨g, j, none⟩ := by by_cases hj0 : j = 0 <;> simp [Addr.add, hj0]
    rwa [e] at this

theorem tab_lt {w : World} (h : Tabs w) : 0 < w.heap.size ∧ 1 < w.heap.size :=
  ⟨World.block_lt_of_cell? w _ (h.1 0 (by omega)), World.block_lt_of_cell? w _ (h.2 0 (by omega)).1⟩

set_option maxHeartbeats 2000000 in
theorem known2 (w : World) (hT : Tabs w) : Calls Tryd.prog 7 #[] w fun e w' => e = .returned (.bool true) ∧ Below w.heap.size w w' := by
  have hO : OutAt (w.alloc (.cells #[.slice none 0 0] 34)) w.heap.size w.heap.size (.slice none 0 0) [] := ⟨Has.new _ _ _, World.ownsRow_nil _ _ _ _, Nat.le_refl _⟩
  have k0 : Below w.heap.size w (w.alloc (.cells #[.slice none 0 0] 34)) := (Below.refl _ w).alloc (Nat.le_refl _) _
  have H1 := Lib.hid (tput_any w.heap.size w.heap.size _ [] [97, 195, 164] _ hO (hT.below k0) (by simp) (by simp))
  have HT := Lib.hid hT
  have hlt := tab_lt hT
  clear hO hT
  go_enter Tryd.func7, Tryd.ntmps7
  go_wp2_with fail
  refine H1.out.mono ?_
  rintro e w1 ⟨v1, rfl, o1, f1, g1⟩
  have k1 : Below w.heap.size w w1 := k0.trans (f1.below (by simp) (fun i hi h => by rcases h with h | h; omega; simp [Value.ownBlock] at h))
  rw [show ([] ++ textB [97, 195, 164] : List UInt8) = [3, 0, 97, 195, 164] from by decide] at o1
  rw [show wrongOf [97, 195, 164] = 0 from by decide]
  have O1 := Lib.hid o1
  have K1 := Lib.hid k1
  clear o1 k1 f1 g1 H1 k0
  go_wp2_with fail
  refine (bytes_any _ _ _ _ w1 O1.out (by decide)).mono ?_
  rintro e w3 ⟨v3, rfl, a3, b3⟩
  have K3 := Lib.hid (K1.out.trans (b3.mono K1.out.size))
  have A3 := Lib.hid (owns_SlIs a3)
  clear a3 b3 O1 K1
  go_wp2_with fail
  refine (of_any v3 _ _ _ w3 A3.out (Nat.le_refl _) (by decide)).mono ?_
  rintro e w4 ⟨g, rfl, a4, b4⟩
  have hg := a4.lt
  have K4 := Lib.hid (K3.out.trans (b4.mono K3.out.size))
  have I4 := Lib.hid a4
  have hws := K3.out.size
  clear a4 b4 K3 A3
  go_wp2_with fail
  refine (ttake_any _ g _ 0 w4 I4.out (HT.out.below K4.out) (by omega) (by omega) (by decide)).mono ?_
  rintro e w5 ⟨rfl, a5, b5⟩
  rw [show tans [3, 0, 97, 195, 164] 0 = ([97, 195, 164], 0) from by decide]
  have K5 := Lib.hid (K4.out.trans (b5.below (B := w.heap.size) (by have := K4.out.size; omega) (fun i hi h => by omega)))
  clear a5 b5 K4 I4
  go_wp2_with fail
  refine (runes_any [97, 195, 164] w5 (HT.out.below K5.out) (by decide)).mono ?_
  rintro e w6 ⟨rfl, b6⟩
  rw [show runesAns (runes [97, 195, 164]) = .tuple #[.int .i64 2, .bool true] from by rw [show runes [97, 195, 164] = some 2 from by decide]; rfl]
  have K6 := Lib.hid (K5.out.trans (b6.mono K5.out.size))
  clear b6 K5
  go_wp2_with fail
  refine (words_any [47, 97, 47, 47, 98] w6 (by decide)).mono ?_
  rintro e w7 ⟨v7, rfl, r7, b7⟩
  rw [show wordsOf [47, 97, 47, 47, 98] = [[97], [98]] from by decide] at r7
  have K7 := Lib.hid (K6.out.trans (b7.mono K6.out.size))
  obtain ⟨A, cap, rfl, _, ha, hcap, hcell⟩ := strs_cell r7 (by decide)
  have hc7 := hcell 1 [98] rfl
  have t1 := strOf_list [97, 195, 164]
  have t2 := strOf_list [98]
  clear r7 b7 K6 hcell
  go_wp2_with fail
  refine (valid_any [97, 195, 164] w7 (HT.out.below K7.out) (by decide)).mono ?_
  rintro e w8 ⟨rfl, b8⟩
  rw [show decide (wrongOf [97, 195, 164] = 0) = true from by decide]
  have K8 := Lib.hid (K7.out.trans (b8.mono K7.out.size))
  have hc8 := (b8.cell (p := ⟨A, 1, none⟩) ha).trans hc7
  have ha8 := Nat.lt_of_lt_of_le ha b8.size
  clear b8 K7 hc7 ha
  go_wp2_with fail
  refine (valid_any [255] w8 (HT.out.below K8.out) (by decide)).mono ?_
  rintro e w9 ⟨rfl, b9⟩
  rw [show decide (wrongOf [255] = 0) = false from by decide]
  have K9 := Lib.hid (K8.out.trans (b9.mono K8.out.size))
  have hc9 := (b9.cell (p := ⟨A, 1, none⟩) ha8).trans hc8
  have ha9 := Nat.lt_of_lt_of_le ha8 b9.size
  clear b9 K8 hc8 ha8
  go_wp2_with fail
  refine (name_any [97] w9 (HT.out.below K9.out) (by decide)).mono ?_
  rintro e w10 ⟨rfl, b10⟩
  rw [show nameOf [97] = 0 from by decide]
  have K10 := Lib.hid (K9.out.trans (b10.mono K9.out.size))
  have hc10 := (b10.cell (p := ⟨A, 1, none⟩) ha9).trans hc9
  have ha10 := Nat.lt_of_lt_of_le ha9 b10.size
  clear b10 K9 hc9 ha9
  go_wp2_with fail
  refine (name_any [46, 46] w10 (HT.out.below K10.out) (by decide)).mono ?_
  rintro e w11 ⟨rfl, b11⟩
  rw [show nameOf [46, 46] = 6 from by decide]
  have K11 := Lib.hid (K10.out.trans (b11.mono K10.out.size))
  have hc11 := (b11.cell (p := ⟨A, 1, none⟩) ha10).trans hc10
  clear b11 K10 hc10 ha10
  go_wp2
  go_ret
  exact ⟨rfl, K11.out⟩
end Go.Proofs.YthfddmgphdklfaaDoor
