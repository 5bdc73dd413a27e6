/-
  PagesBytes: whatever bytes a disk has, opening a book on it ends.
-/
import Derived.Test.YtnhojcldeloigaaGreatPagesX
import Derived.Test.YtnhojcldeloigaaGreatDiskP
namespace Go.Proofs.YtnhojcldeloigaaGreat
open Go.RowKit Go.Lib Go.Maps
set_option maxRecDepth 100000

/-- Bytes with 0s behind them. -/
def padB (b : List UInt8) (j : Nat) : List UInt8 := b ++ List.replicate (j - b.length) 0
theorem padB_len {b : List UInt8} {j : Nat} (h : b.length ≤ j) : (padB b j).length = j := by simp [padB]; omega
theorem padB_start (b : List UInt8) : padB b b.length = b := by simp [padB]
theorem padB_next {b : List UInt8} {j : Nat} (h : b.length ≤ j) : padB b j ++ [0] = padB b (j + 1) := by
  unfold padB
  rw [List.append_assoc, show j + 1 - b.length = (j - b.length) + 1 by omega, List.replicate_succ']
theorem SlIs.one (w : World) (u : UInt8) : SlIs (w.alloc (.cells #[b8 u] 5)) w.heap.size (w.heap.size + 1) (.slice (some ⟨w.heap.size, 0, none⟩) 1 1) [u] :=
  ⟨_, _, rfl, by simp, by simp [maxLen], fun _ => ⟨_, rfl, Nat.le_refl _, Nat.lt_succ_self _, cell_one_new w (b8 u) 5⟩⟩

def lenOf : Value → Nat
  | .slice _ n _ => n
  | _ => 0
theorem SlIs.zero1 (w : World) : SlIs (w.alloc (.cells #[.int .u8 0] 5)) w.heap.size (w.heap.size + 1) (.slice (some ⟨w.heap.size, 0, none⟩) 1 1) [0] := SlIs.one w 0

set_option maxHeartbeats 1000000 in
theorem bytes8_big (A : Option Addr) (n c : Nat) (a m : Int) (w : World) (h : 4096 < n) : Calls Tryz.prog 5 #[.slice A n c, .int .i64 a, .int .i64 m] w fun e w' => e = .returned (.bool true) ∧ Below w.heap.size w w' := by
  have CK := Lib.hid (known8_any w)
  have i1 : (4096 : Int) < (n : Int) := by omega
  go_enter Tryz.func5, Tryz.ntmps5
  go_wp2_with fail
  refine CK.out.mono ?_
  rintro e w1 ⟨rfl, b1⟩
  have R := Lib.hid b1
  clear b1
  go_wp2
  go_ret
  exact ⟨rfl, R.out⟩
/-- What Open answers, of whatever disk. -/
theorem open8 (w wr : World) (gd : Nat) (s : D) (h : Live w (fun _ => False) gd s wr) (ho : s.off = false) (hz : 64 ≤ s.size) (a m : Int) :
    Calls Tryz.prog 21 #[.pointer (some ⟨gd, 0, none⟩), .int .i64 a, .int .i64 m] wr fun e w' =>
      ((e = .returned (.tuple #[.pointer none, .int .i64 1]) ∨ e = .returned (.tuple #[.pointer none, .int .i64 2])) ∧ Below w.heap.size w w') ∨
      ∃ gb g, e = .returned (.tuple #[.pointer (some ⟨gb, 0, none⟩), .int .i64 0]) ∧ Lv w (fun _ => False) gd s gb g noCh w' := by
  have hlow := h.low
  cases ht : there s.kept.length a m with
  | false => exact (lv_open_not w wr _ gd s h a m ht).mono fun e w' hh => .inl ⟨.inl hh.1, hlow.trans (hh.2.mono hlow.size)⟩
  | true =>
    have ht' : 0 ≤ a ∧ a < (s.kept.length : Int) ∧ 0 ≤ m ∧ m ≤ (s.kept.length : Int) - a := of_decide_eq_true ht
    obtain ⟨a', rfl⟩ : ∃ a' : Nat, a = (a' : Int) := ⟨a.toNat, by omega⟩
    obtain ⟨m', rfl⟩ : ∃ m' : Nat, m = (m' : Int) := ⟨m.toNat, by omega⟩
    by_cases hok : OpenOk s (openG s a' m')
    · refine (lv_open w wr _ gd s h a' m' ho hz ht hok).mono fun e w' hh => ?_
      obtain ⟨gb, rfl, l, _⟩ := hh
      exact .inr ⟨gb, _, rfl, l⟩
    · exact (lv_open_form w wr _ gd s h a' m' ho hz ht hok).mono fun e w' hh => .inl ⟨.inr hh.1, hlow.trans (hh.2.mono hlow.size)⟩
set_option maxHeartbeats 4000000 in
theorem bytes8_walk (A : Option Addr) (c : Nat) (b : List UInt8) (a m : Int) (w : World) (hb : SlIs w 0 w.heap.size (.slice A b.length c) b) (hn : b.length ≤ 4096) : Calls Tryz.prog 5 #[.slice A b.length c, .int .i64 a, .int .i64 m] w fun e w' => e = .returned (.bool true) ∧ Below w.heap.size w w' := by
  have CK := Lib.hid (known8_any w)
  obtain ⟨i0, hi0, hy0, hy1, hy2⟩ := info_parts Tryz.info8
  obtain ⟨N, hN1, hN2, hN3, hN5, hN4⟩ : ∃ N, N % 64 = 0 ∧ 0 < N ∧ b.length ≤ N ∧ N ≤ b.length + 64 ∧ ∀ x, b.length ≤ x → x < N → x = 0 ∨ x % 64 ≠ 0 := by
    by_cases h0 : b.length = 0
    · exact ⟨64, by decide, by decide, by omega, by omega, fun x h1 h2 => by omega⟩
    · exact ⟨(b.length + 63) / 64 * 64, by omega, by omega, by omega, by omega, fun x h1 h2 => by omega⟩
  have d1 : decide ((4096 : Int) < (b.length : Int)) = false := decide_eq_false (by omega)
  have HB := Lib.hid hb
  clear hb
  go_enter Tryz.func5, Tryz.ntmps5
  go_wp2_with fail
  refine CK.out.mono ?_
  rintro e w1 ⟨rfl, b1⟩
  have B1 := Lib.hid b1
  have k1 : Only (fun _ => False) w w1 := (Only.of_below b1).mono (fun i hi h => by have h : w.heap.size ≤ i := h; omega)
  have hs1 := b1.size
  have X1 := Lib.hid (((HB.out.only k1 (Nat.le_refl _) (fun _ _ _ h => h)).wide8 (Nat.le_refl 0) hs1).alloc (o := .cells #[] 5) (Nat.le_refl _))
  have hown : (w1.alloc (.cells #[] 5)).ownsRow w1.heap.size 5 1 (.slice (some ⟨w1.heap.size, 0, none⟩) 0 0) ([] : List UInt8).length (b8s []) :=
    World.ownsRow_made w1 #[] 0 (Nat.le_refl _) (by simp [maxLen]) (by simp)
  have H1 := Lib.hid hown
  clear hown b1 k1 CK HB
  go_wp2_with (at_builtin; go_must (refine wpList_append_bytes _ rfl (.tmp 17) (.tmp 18) 33 rfl w1.heap.size 5 i0 Tryz.underlying33 hi0 hy0 hy1 hy2 _ [] b rfl H1.out _ _ _ rfl X1.out (by simp; omega) (by simp) ?_))
  intro v2 w2 o2 g2 _
  have o2 : w2.ownsRow w1.heap.size 5 1 v2 b.length (b8s b) := by simpa using o2
  have b2 : Below w.heap.size w w2 := (B1.out.alloc hs1 _).grown g2 (by simp; omega) (by simp [Value.ownBlock]; omega)
  have J0 : Hid (w2.ownsRow w.heap.size 5 1 v2 b.length (b8s (padB b b.length)) ∧ Below w.heap.size w w2) := ⟨by rw [padB_start]; exact owns_base o2 hs1, b2⟩
  clear o2 g2 H1 X1 B1 b2
  go_wp2_with fail
  go_loopw [7] (fun u wr => ∃ (j : Nat) (v : Value), b.length ≤ j ∧ j ≤ N ∧ v = u ∧ Hid (wr.ownsRow w.heap.size 5 1 v j (b8s (padB b j)) ∧ Below w.heap.size w wr)) (fun v _ => N - lenOf v)
  case atStart => exact ⟨b.length, _, Nat.le_refl _, hN3, rfl, J0⟩
  case round =>
    obtain ⟨j, v7, hj1, hj2, rfl, hrel⟩ := hrel
    clear J0
    obtain ⟨o1, b1⟩ := hrel.out
    clear hrel
    obtain ⟨A', c', rfl⟩ : ∃ A' c', v7 = .slice A' j c' := by
      rcases id o1.2 with ⟨rfl, h0⟩ | ⟨q, cap, cur, rfl, _⟩
      · exact ⟨none, 0, by rw [h0]⟩
      · exact ⟨_, _, rfl⟩
    have hs := b1.size
    have hpl := padB_len hj1
    by_cases hlt : j < N
    · have hn4 := hN4 j hj1 hlt
      have hx := padB_next hj1
      have O1 := Lib.hid (owns_only o1 ((Only.refl (fun _ => False) wr).alloc (.cells #[.int .u8 0] 5)) (fun _ _ h => h))
      have X1 := Lib.hid (SlIs.zero1 wr)
      have B1 := Lib.hid (b1.alloc hs (.cells #[.int .u8 0] 5))
      have HL := Lib.hid hpl
      have HX := Lib.hid hx
      have HO := Lib.hid o1
      clear o1 b1 hpl hx hN4
      by_cases h0 : j = 0
      · subst h0
        go_wp2_with (at_builtin; go_must (refine wpList_append_bytes _ rfl (.tmp 29) (.tmp 30) 33 rfl w.heap.size 5 i0 Tryz.underlying33 hi0 hy0 hy1 hy2 _ (padB b 0) [0] rfl (by rw [HL.out]; exact O1.out) _ _ _ rfl X1.out (by simp [HL.out] <;> omega) (by simp <;> omega) ?_))
        intro v3 w3 o3 g3 _
        have R : Hid (w3.ownsRow w.heap.size 5 1 v3 (0 + 1) (b8s (padB b (0 + 1))) ∧ Below w.heap.size w w3) := by
          rw [HX.out, HL.out] at o3
          exact ⟨o3, B1.out.grown g3 (by simp; omega) (fun i hi => (O1.out.lt i hi).1)⟩
        have ML : Hid (lenOf v3 = 0 + 1) := by
          rcases id R.out.1.2 with ⟨_, h0⟩ | ⟨q, cap, cur, rfl, _⟩
          · omega
          · rfl
        clear o3 g3 O1 X1 B1
        go_wp2
        go_roundw
        case rel => exact ⟨0 + 1, _, by omega, by omega, rfl, R⟩
        case measure =>
          have := ML.out
          show N - lenOf v3 < N - 0
          omega
      · have e0 : decide ((j : Int) = 0) = false := decide_eq_false (by omega)
        have e0' : ((j : Int) == 0) = false := beq_eq_false_iff_ne.2 (by omega)
        have e1 : decide ((j : Int) % 64 = 0) = false := decide_eq_false (by omega)
        have e1' : ((j : Int) % 64 == 0) = false := beq_eq_false_iff_ne.2 (by omega)
        have e2 : (j : Int).tmod 64 = (j : Int) % 64 := Int.tmod_eq_emod_of_nonneg (by omega)
        clear hn4 h0
        go_wp2_with (at_builtin; go_must (refine wpList_append_bytes _ rfl (.tmp 29) (.tmp 30) 33 rfl w.heap.size 5 i0 Tryz.underlying33 hi0 hy0 hy1 hy2 _ (padB b j) [0] rfl (by rw [HL.out]; exact O1.out) _ _ _ rfl X1.out (by simp [HL.out] <;> omega) (by simp <;> omega) ?_))
        intro v3 w3 o3 g3 _
        have R : Hid (w3.ownsRow w.heap.size 5 1 v3 (j + 1) (b8s (padB b (j + 1))) ∧ Below w.heap.size w w3) := by
          rw [HX.out, HL.out] at o3
          exact ⟨o3, B1.out.grown g3 (by simp; omega) (fun i hi => (O1.out.lt i hi).1)⟩
        have ML : Hid (lenOf v3 = j + 1) := by
          rcases id R.out.1.2 with ⟨_, h0⟩ | ⟨q, cap, cur, rfl, _⟩
          · omega
          · rfl
        clear o3 g3 O1 X1 B1
        go_wp2
        go_roundw
        case rel => exact ⟨j + 1, _, by omega, by omega, rfl, R⟩
        case measure =>
          have := ML.out
          show N - lenOf v3 < N - j
          omega
    · have hjm : j % 64 = 0 := by rw [show j = N by omega]; exact hN1
      have hj0 : 0 < j := by omega
      have hj3 : j ≤ 4160 := by omega
      obtain ⟨K, hK⟩ : ∃ K, j = K * 64 := ⟨j / 64, by omega⟩
      obtain ⟨ad, rfl⟩ : ∃ ad, A' = some ad := by
        rcases id o1.2 with ⟨hn, _⟩ | ⟨q, cap, cur, hn, _⟩
        · injection hn with _ hn _
          omega
        · injection hn with hn _ _
          exact ⟨_, hn⟩
      have hx : SlIs wr 0 wr.heap.size (.slice (some ad) (padB b j).length c') (padB b j) := by
        rw [hpl]
        exact (owns_SlIs (bs := padB b j) (by rw [hpl]; exact o1)).wide8 (Nat.zero_le _) (Nat.le_refl _)
      have C1 := diskof_yes K 64 c' ad (padB b j) wr hx (by rw [hpl]; exact hK) (by omega) (by omega) (by omega) (by omega)
      rw [hpl] at C1
      have C1 := Lib.hid C1
      have B1 := Lib.hid b1
      have e0 : decide ((j : Int) = 0) = false := decide_eq_false (by omega)
      have e0' : ((j : Int) == 0) = false := beq_eq_false_iff_ne.2 (by omega)
      have e1 : (j : Int) % 64 = 0 := by omega
      have e2 : (j : Int).tmod 64 = 0 := by rw [Int.tmod_eq_emod_of_nonneg (by omega)]; exact e1
      clear hx o1 b1 hpl hK hN4 hN1 hjm hlt
      go_wp2_with fail
      refine C1.out.mono ?_
      rintro e w3 ⟨v, rfl, hm⟩
      obtain ⟨gd, rfl, L, _⟩ := Live.made B1.out (K := fun _ => False) (fun _ h => h.elim) hm
      have C2 := Lib.hid (open8 w w3 gd _ L rfl (by show 64 ≤ 64; decide) a m)
      clear hm L C1 B1
      go_wp2_with fail
      refine C2.out.mono ?_
      rintro e w4 (⟨rfl | rfl, lo⟩ | ⟨gb, g, rfl, l4⟩)
      · have R := Lib.hid lo
        clear lo C2
        go_wp2
        go_ret
        exact ⟨rfl, R.out⟩
      · have R := Lib.hid lo
        clear lo C2
        go_wp2
        go_ret
        exact ⟨rfl, R.out⟩
      · have R := Lib.hid l4.low
        have C3 := Lib.hid ((lv_pages w w4 _ gd _ gb g noCh l4).mono fun e w' hh => (⟨hh.1, hh.2.symm⟩ : e = .returned (.int .i64 (g.k : Int)) ∧ w' = w4))
        have i0 : (0 : Int) ≤ (g.k : Int) := by omega
        clear l4 C2
        go_wp2_with fail
        refine C3.out.mono ?_
        rintro e w5 ⟨rfl, rfl⟩
        go_wp2
        go_ret
        exact ⟨rfl, R.out⟩
end Go.Proofs.YtnhojcldeloigaaGreat
