/-
  The second reading's Text: the bytes of whatever text, or why there are none.
-/
import Derived.Test.YtepiifbleoimkaaGreatDoorPackText
import Derived.Test.YtepiifbleoimkaaGreatDoorRefPut
import Derived.Test.YtepiifbleoimkaaGreatDoorPackNum
namespace Go.Proofs.YtepiifbleoimkaaGreatDoor
open Go.RowKit Go.Lib
set_option maxRecDepth 100000

theorem strCells_of (l : List UInt8) : strCells (strOf l) = b8s l := by simp [strCells, strOf, b8s, b8]
/-- What the second reading's Text leaves. -/
def RTextS (w : World) (l : List UInt8) (e : Ending) (w' : World) : Prop :=
  ∃ v, e = .returned (.tuple #[v, .int .i64 (wrongOf l)]) ∧ w'.ownsRow w.heap.size 5 1 v (textB l).length (b8s (textB l)) ∧ Below w.heap.size w w'

set_option maxHeartbeats 1000000 in
theorem reftextS_any (l : List UInt8) (w : World) (hl : l.length ≤ 9223372036854775806) : Calls Tryz.prog 73 #[.string (strOf l)] w (RTextS w l) := by
  have hz : (strOf l).size = l.length := strOf_size l
  have C := Lib.hid (refvalid_any l w hl)
  by_cases h64 : 64 < l.length
  · have d : decide ((64 : Int) < (l.length : Int)) = true := decide_eq_true (by omega)
    have hw : wrongOf l = 3 := by rw [wrongOf, if_pos h64]
    have R : Hid (RTextS w l (.returned (.tuple #[.slice none 0 0, .int .i64 3])) w) := by
      refine ⟨_, by rw [hw], ?_, Below.refl _ _⟩
      rw [textB, hw, if_neg (by decide)]
      exact World.ownsRow_nil _ _ _ _
    clear C hw h64
    go_enter Tryz.func73, Tryz.ntmps73
    go_wp2
    go_ret2
    exact R.out
  · have d : decide ((64 : Int) < (l.length : Int)) = false := decide_eq_false (by omega)
    by_cases hw : wrongOf l = 0
    · rw [decide_eq_true hw] at C
      have hwu : IntKind.u64.wrap (l.length : Int) = (l.length : Int) := IntWalk.u64_in _ (by omega)
      obtain ⟨i0, hi0, hz0, hz1, hz2⟩ := info_parts Tryz.info8
      have fin : Hid (∀ v' w', w'.ownsRow w.heap.size 5 1 v' ((putI 2 (l.length : Int)).length + l.length) (b8s (putI 2 (l.length : Int)) ++ b8s l) → Below w.heap.size w w' → RTextS w l (.returned (.tuple #[v', .int .i64 0])) w') := by
        intro v' w' h1 h2
        refine ⟨v', by rw [hw], ?_, h2⟩
        rw [textB, if_pos hw, List.length_append, b8s_append]
        exact h1
      clear hw
      go_enter Tryz.func73, Tryz.ntmps73
      go_wp2_with fail
      refine C.out.mono ?_
      rintro e w' ⟨rfl, rfl⟩
      clear C
      go_wp2_with fail
      refine (refnum_any 2 (l.length : Int) w (by omega)).mono ?_
      rintro e w1 ⟨v1, rfl, a1, b1⟩
      have hpl := putI_length 2 (l.length : Int)
      have hs1 := b1.size
      have A1 := Lib.hid a1
      have B1 := Lib.hid b1
      clear a1 b1
      go_wp2_with (at_builtin; go_must (refine wpList_append_own_string _ rfl (.tmp 15) (.tmp 16) 22 9 rfl w.heap.size 5 i0 Tryz.underlying22 Tryz.underlying9 hi0 hz0 hz1 hz2 _ _ _ rfl A1.out (strOf l) rfl (by rw [hz]; simp only [maxLen]; omega) (by rw [hz]; omega) hs1 ?_))
      intro v' w2 h1 h2 h3
      rw [strCells_of] at h1
      have k2 : Below w.heap.size w w2 := B1.out.trans ((Only.of_grown h2).below hs1 (fun i hi h => by
        have := A1.out.lt i h.symm
        omega))
      have R := Lib.hid (fin.out v' w2 h1 k2)
      clear h1 h2 h3 k2 fin A1 B1
      go_wp2
      go_ret2
      exact R.out
    · rw [decide_eq_false hw] at C
      have hw2 : wrongOf l = 2 := by
        rw [wrongOf, if_neg h64] at hw ⊢
        by_cases h0 : (0 : UInt8) ∈ l
        · rw [if_pos h0]
        · rw [if_neg h0] at hw ⊢
          unfold utfErr at hw ⊢
          by_cases h1 : runes l = none
          · rw [if_pos h1]
          · rw [if_neg h1] at hw
            exact absurd rfl hw
      have R : Hid (RTextS w l (.returned (.tuple #[.slice none 0 0, .int .i64 2])) w) := by
        refine ⟨_, by rw [hw2], ?_, Below.refl _ _⟩
        rw [textB, if_neg hw]
        exact World.ownsRow_nil _ _ _ _
      clear hw hw2 h64
      go_enter Tryz.func73, Tryz.ntmps73
      go_wp2_with fail
      refine C.out.mono ?_
      rintro e w' ⟨rfl, rfl⟩
      clear C
      go_wp2
      go_ret2
      exact R.out

/-- What was put is what is taken. -/
theorem tans_back (l : List UInt8) (h : wrongOf l = 0) : tans (textB l) 0 = (l, 0) := by
  have h64 := wrongOf_short h
  have e1 : takeSt 2 (textB l) 0 = (l.length, l, 0) := by
    rw [textB, if_pos h, putI, if_pos (by omega)]
    have := take_item 2 l.length l (by omega) (by omega)
    rw [Nat.mod_eq_of_lt (by omega)] at this
    exact this
  have e2 : tst (textB l) 0 = (l, [], 0) := by
    rw [tst, e1]
    have := raw_item l []
    rw [List.append_nil] at this
    exact this
  rw [tans, e2, if_neg (by simp), if_neg (by simp [h])]
end Go.Proofs.YtepiifbleoimkaaGreatDoor
