/-
  Layer 11's InodeBlocks: whatever size and block, it answers true and leaves what was there.
-/
import Derived.Test.YtjlipfddbpgglaaLaw11Known
namespace Go.Proofs.Ytjlipfddbpgglaa
open Go.RowKit Go.Lib
set_option maxRecDepth 100000

theorem blocksN_ge (s b : Nat) (h : 64 ≤ b) : s ≤ blocksN s b * b := by
  unfold blocksN
  have := Nat.div_add_mod (s + b - 1) b
  have hm := Nat.mod_lt (s + b - 1) (show 0 < b by omega)
  rw [Nat.mul_comm]
  omega
theorem blocksN_lt (s b : Nat) (h : 64 ≤ b) (hp : 0 < blocksN s b) : (blocksN s b - 1) * b < s := by
  unfold blocksN at *
  have := Nat.div_add_mod (s + b - 1) b
  generalize (s + b - 1) / b = q at *
  obtain ⟨k, rfl⟩ : ∃ k, q = k + 1 := ⟨q - 1, by omega⟩
  rw [Nat.mul_add] at this
  rw [Nat.add_sub_cancel, Nat.mul_comm]
  omega
theorem blocksN_le (s b : Nat) : blocksN s b * b ≤ s + b - 1 := by
  unfold blocksN
  exact Nat.div_mul_le_self _ _
set_option maxHeartbeats 1000000 in
theorem inodeBlocks_no (s : Nat) (b : Int) (hb : b < 64 ∨ 1024 < b) (w : World) : Calls Try.prog 5 #[.int .u32 (s : Int), .int .i64 b] w fun e w' => e = .returned (.bool true) ∧ Still w w' := by
  have C := Lib.hid (blocks_none s b hb)
  by_cases h1 : b < 64
  · have d1 : decide (b < 64) = true := decide_eq_true h1
    clear hb
    go_enter Try.func5, Try.ntmps5
    go_wp2_with fail
    refine (known11_any _).mono ?_
    rintro e w1 ⟨rfl, k1⟩
    have R := Lib.hid k1
    clear k1
    go_wp2_with fail
    refine (C.out _).mono ?_
    rintro e w' ⟨rfl, rfl⟩
    go_wp2
    go_ret
    exact ⟨rfl, R.out⟩
  · have d1 : decide (b < 64) = false := decide_eq_false h1
    have h2 : 1024 < b := by omega
    have d2 : decide (1024 < b) = true := decide_eq_true h2
    clear hb
    go_enter Try.func5, Try.ntmps5
    go_wp2_with fail
    refine (known11_any _).mono ?_
    rintro e w1 ⟨rfl, k1⟩
    have R := Lib.hid k1
    clear k1
    go_wp2_with fail
    refine (C.out _).mono ?_
    rintro e w' ⟨rfl, rfl⟩
    go_wp2
    go_ret
    exact ⟨rfl, R.out⟩
set_option maxHeartbeats 1000000 in
theorem inodeBlocks_yes (s b : Nat) (hs : s < 4294967296) (h1 : 64 ≤ b) (h2 : b ≤ 1024) (w : World) : Calls Try.prog 5 #[.int .u32 (s : Int), .int .i64 (b : Int)] w fun e w' => e = .returned (.bool true) ∧ Still w w' := by
  have C := Lib.hid (blocks_some s b hs h1 h2)
  have g1 := blocksN_ge s b h1
  have g2 := blocksN_lt s b h1
  have g3 := blocksN_le s b
  have g4 : blocksN s b ≤ s + b - 1 := Nat.div_le_self _ _
  have d1 : decide ((b : Int) < 64) = false := decide_eq_false (by omega)
  have d2 : decide (1024 < (b : Int)) = false := decide_eq_false (by omega)
  generalize blocksN s b = N at *
  have m1 : ((N * b : Nat) : Int) = (N : Int) * (b : Int) := Int.natCast_mul N b
  have hw : IntKind.i64.wrap ((N : Int) * (b : Int)) = (N : Int) * (b : Int) := IntWalk.i64_in _ (by omega)
  have d3 : decide ((s : Int) ≤ (N : Int) * (b : Int)) = true := decide_eq_true (by omega)
  have d5 : decide ((0 : Int) ≤ (N : Int)) = true := decide_eq_true (by omega)
  rcases Nat.eq_zero_or_pos N with h0 | h0
  · subst h0
    go_enter Try.func5, Try.ntmps5
    go_wp2_with fail
    refine (known11_any _).mono ?_
    rintro e w1 ⟨rfl, k1⟩
    have R := Lib.hid k1
    clear k1
    go_wp2_with fail
    refine (C.out _).mono ?_
    rintro e w' ⟨rfl, rfl⟩
    go_wp2
    all_goals go_ret
    all_goals exact ⟨rfl, R.out⟩
  · have g2 := g2 h0
    have m2 : (((N - 1) * b : Nat) : Int) = ((N : Int) - 1) * (b : Int) := by rw [Int.natCast_mul]; congr 1; omega
    have hw1 : IntKind.i64.wrap ((N : Int) - 1) = (N : Int) - 1 := IntWalk.i64_in _ (by omega)
    have hw2 : IntKind.i64.wrap (((N : Int) - 1) * (b : Int)) = ((N : Int) - 1) * (b : Int) := IntWalk.i64_in _ (by omega)
    have d4 : decide (((N : Int) - 1) * (b : Int) < (s : Int)) = true := decide_eq_true (by omega)
    have e0 : ((N : Int) == 0) = false := by simp; omega
    clear g1 g2 g3 g4 m1 m2
    go_enter Try.func5, Try.ntmps5
    go_wp2_with fail
    refine (known11_any _).mono ?_
    rintro e w1 ⟨rfl, k1⟩
    have R := Lib.hid k1
    clear k1
    go_wp2_with fail
    refine (C.out _).mono ?_
    rintro e w' ⟨rfl, rfl⟩
    go_wp2
    all_goals go_ret
    all_goals exact ⟨rfl, R.out⟩
theorem inodeBlocks_any (s : Nat) (b : Int) (hs : s < 4294967296) (w : World) : Calls Try.prog 5 #[.int .u32 (s : Int), .int .i64 b] w fun e w' => e = .returned (.bool true) ∧ Still w w' := by
  by_cases hb : b < 64 ∨ 1024 < b
  · exact inodeBlocks_no s b hb w
  · obtain ⟨c, rfl⟩ : ∃ c : Nat, b = (c : Int) := ⟨b.toNat, by omega⟩
    exact inodeBlocks_yes s c hs (by omega) (by omega) w
end Go.Proofs.Ytjlipfddbpgglaa
