/-
  The second reading's Words: the parts of whatever text.
-/
import Derived.Test.YthfddmgphdklfaaDoorTextD
namespace Go.Proofs.YthfddmgphdklfaaDoor
open Go.RowKit Go.Lib
set_option maxRecDepth 100000

theorem Tryd.infoStr : (Tryd.prog.info? 9).map (fun i => (i.zero, i.size, i.bytes)) = some (some (.string ⟨#[]⟩), 1, 16) := by kernel_rfl
theorem wst_count (l : List UInt8) (k : Nat) : (wst l k).1.length ≤ k := by
  induction k with
  | zero => simp [wst]
  | succ k ih =>
    simp only [wst]
    split
    · simp only
      split
      · rw [List.length_append]; simp; omega
      · omega
    · omega
theorem strs_length (ws : List (List UInt8)) : (strs ws).length = ws.length := by simp [strs]

def WInv (w : World) (l : List UInt8) (k : Nat) (u : Value) (wr : World) : Prop :=
  wr.ownsRow w.heap.size 9 1 u (wst l k).1.length (strs (wst l k).1) ∧ Below w.heap.size w wr

set_option maxHeartbeats 2000000 in
theorem refwords_any (l : List UInt8) (w : World) (hl : l.length ≤ 4294967296) : Calls Tryd.prog 11 #[.string (strOf l)] w (WordsStep w (wordsOf l)) := by
  have hz : (strOf l).size = l.length := strOf_size l
  have hb := strOf_at l
  have H0 : Hid (WInv w l 0 (.slice none 0 0) w) := ⟨World.ownsRow_nil _ _ _ _, Below.refl _ _⟩
  have H00 : (wst l 0).2 = 0 := rfl
  go_enter Tryd.func11, Tryd.ntmps11
  go_wp2
  go_loopw [3, 4, 5] (fun u p i wr => ∃ k : Nat, k ≤ l.length + 1 ∧ p = .int .i64 ((wst l k).2 : Nat) ∧ i = .int .i64 k ∧ Hid (WInv w l k u wr)) (fun _ _ i _ => l.length + 1 - (intOf i).toNat)
  case atStart => exact ⟨0, Nat.zero_le _, by rw [H00]; rfl, rfl, H0⟩
  case round =>
    obtain ⟨k, hk, rfl, rfl, hrel⟩ := hrel
    clear H0 H00
    have i0 : (0 : Int) ≤ (k : Int) := by omega
    by_cases hlt : k ≤ l.length
    · have i1 : (k : Int) ≤ (l.length : Int) := by omega
      obtain ⟨ho, hB⟩ := hrel.out
      have hle := wst_le l k
      have hcnt := wst_count l k
      have slash : (k = l.length ∨ byteAt l k = 47) → _ := wst_slash (l := l) (k := k)
      have other : ¬ (k = l.length ∨ byteAt l k = 47) → _ := wst_other (l := l) (k := k)
      have HO := Lib.hid ho
      have HB := Lib.hid hB
      have hs := hB.size
      obtain ⟨a, ha⟩ : ∃ a, (wst l k).2 = a := ⟨_, rfl⟩
      obtain ⟨ws, hws⟩ : ∃ ws, (wst l k).1 = ws := ⟨_, rfl⟩
      rw [ha] at hle slash ⊢
      rw [hws] at hcnt slash HO
      have hx : (strOf l).extract a k = strOf (piece l a k) := strOf_extract l a k
      have k1 : decide (a ≤ k) = true := decide_eq_true hle
      have k2 : decide (k ≤ l.length) = true := decide_eq_true hlt
      by_cases hsl : k = l.length ∨ byteAt l k = 47
      · have hw := slash hsl
        clear slash other hrel
        by_cases hak : a < k
        · rw [if_pos hak] at hw
          have da : decide ((a : Int) < (k : Int)) = true := decide_eq_true (by omega)
          have hown : (wr.alloc (.cells #[.string (strOf (piece l a k))] 9)).ownsRow w.heap.size 9 1 u3 ws.length (strs ws) := owns_only HO.out ((Only.refl (fun _ => False) wr).alloc _) (fun _ _ h => h)
          have fin : ∀ v' w', w'.ownsRow w.heap.size 9 1 v' (ws.length + 1) (strs ws ++ [.string (strOf (piece l a k))]) → (wr.alloc (.cells #[.string (strOf (piece l a k))] 9)).grownBy w' u3.ownBlock → WInv w l (k + 1) v' w' := by
            intro v' w' h1 h2
            rw [WInv, hw]
            refine ⟨by simpa [strs] using h1, (hB.alloc hs _).trans ((Only.of_grown h2).below (by simp; omega) (fun i hi h => ?_))⟩
            have := HO.out.lt i h.symm
            omega
          have hw2 : (wst l (k + 1)).2 = k + 1 := by rw [hw]
          obtain ⟨i0', hi0, hz0, hz1, hz2⟩ := info_parts Tryd.infoStr
          have HF := Lib.hid fin
          have HN := Lib.hid hown
          clear fin hown hw ha hws HO HB ho hB
          by_cases hke : k = l.length
          · have q : ((k : Int) == (l.length : Int)) = true := by simp [hke]
            clear hke hsl
            go_wp2_with (at_builtin; go_must (refine wpList_append_lies _ rfl (.tmp 25) (.tmp 30) 25 rfl w.heap.size 9 i0' _ 1 16 Tryd.underlying25 hi0 hz0 hz1 hz2 rfl (by omega) _ _ _ rfl HN.out ⟨wr.heap.size, 0, none⟩ 1 1 [.string (strOf (piece l a k))] rfl rfl (World.news_of_block (cs := #[.string (strOf (piece l a k))]) (t := 9) (fr := (0, 0)) (heap_alloc_new wr _)) (by simp [Value.oneCell']) (by omega) (by simp only [maxLen]; omega) (by omega) (by simp; omega) (wr.heap.size + 1) (by simp) ?_))
            intro g cap w' h1 h2 _ _
            have R := Lib.hid (HF.out _ w' h1 h2)
            clear h1 h2 HF HN
            go_wp2
            go_roundw
            case rel => exact ⟨k + 1, by omega, by rw [hw2]; go_num, by go_num, R⟩
            case measure => simp [intOf]; omega
          · have q : ((k : Int) == (l.length : Int)) = false := by simp; omega
            have hbyte : byteAt l k = 47 := hsl.resolve_left hke
            have i2 : (k : Int) < (l.length : Int) := by omega
            clear hke hsl
            go_wp2_with (at_builtin; go_must (refine wpList_append_lies _ rfl (.tmp 25) (.tmp 30) 25 rfl w.heap.size 9 i0' _ 1 16 Tryd.underlying25 hi0 hz0 hz1 hz2 rfl (by omega) _ _ _ rfl HN.out ⟨wr.heap.size, 0, none⟩ 1 1 [.string (strOf (piece l a k))] rfl rfl (World.news_of_block (cs := #[.string (strOf (piece l a k))]) (t := 9) (fr := (0, 0)) (heap_alloc_new wr _)) (by simp [Value.oneCell']) (by omega) (by simp only [maxLen]; omega) (by omega) (by simp; omega) (wr.heap.size + 1) (by simp) ?_))
            intro g cap w' h1 h2 _ _
            have R := Lib.hid (HF.out _ w' h1 h2)
            clear h1 h2 HF HN
            go_wp2
            go_roundw
            case rel => exact ⟨k + 1, by omega, by rw [hw2]; go_num, by go_num, R⟩
            case measure => simp [intOf]; omega
        · rw [if_neg hak] at hw
          have da : decide ((a : Int) < (k : Int)) = false := decide_eq_false (by omega)
          have R : Hid (WInv w l (k + 1) u3 wr) := by
            show WInv w l (k + 1) u3 wr
            rw [WInv, hw]
            exact ⟨HO.out, hB⟩
          have hw2 : (wst l (k + 1)).2 = k + 1 := by rw [hw]
          clear hw ha hws HO HB ho hB
          by_cases hke : k = l.length
          · have q : ((k : Int) == (l.length : Int)) = true := by simp [hke]
            clear hke hsl
            go_wp2
            go_roundw
            case rel => exact ⟨k + 1, by omega, by rw [hw2]; go_num, by go_num, R⟩
            case measure => simp [intOf]; omega
          · have q : ((k : Int) == (l.length : Int)) = false := by simp; omega
            have hbyte : byteAt l k = 47 := hsl.resolve_left hke
            have i2 : (k : Int) < (l.length : Int) := by omega
            clear hke hsl
            go_wp2
            go_roundw
            case rel => exact ⟨k + 1, by omega, by rw [hw2]; go_num, by go_num, R⟩
            case measure => simp [intOf]; omega
      · have hw := other hsl
        have R : Hid (WInv w l (k + 1) u3 wr) := by
          show WInv w l (k + 1) u3 wr
          rw [WInv, hw, hws]
          exact ⟨HO.out, hB⟩
        have hw2 : (wst l (k + 1)).2 = a := by rw [hw, ha]
        have q : ((k : Int) == (l.length : Int)) = false := by simp; omega
        have q2 : ((byteAt l k : Int) == 47) = false := by simp; omega
        have i2 : (k : Int) < (l.length : Int) := by omega
        clear slash other hrel hw ha hws HO HB ho hB hsl
        go_wp2
        go_roundw
        case rel => exact ⟨k + 1, by omega, by rw [hw2], by go_num, R⟩
        case measure => simp [intOf]; omega
    · have hke : k = l.length + 1 := by omega
      have i1 : (l.length : Int) < (k : Int) := by omega
      have R : Hid (WordsStep w (wordsOf l) (.returned u3) wr) := by
        obtain ⟨h1, h2⟩ := hrel.out
        rw [hke] at h1
        exact ⟨u3, rfl, h1, h2⟩
      clear hrel hke
      go_wp2
      go_ret
      exact R.out
end Go.Proofs.YthfddmgphdklfaaDoor
