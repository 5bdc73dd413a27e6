/-
  Package msg: Known, Ask, Error; an error's words; the second reading's Known, Ask, Word.
-/
import Derived.Test.YtepiifbleoimkaaGreatDoorPackMsgD
namespace Go.Proofs.YtepiifbleoimkaaGreatDoor
open Go.RowKit
set_option maxRecDepth 100000

def errW : Nat → List UInt8
  | 0 => [111, 107]
  | 1 => [98, 97, 100, 32, 110, 117, 109, 98, 101, 114]
  | 2 => [98, 97, 100, 32, 109, 101, 115, 115, 97, 103, 101]
  | 3 => [116, 111, 111, 32, 108, 111, 110, 103]
  | 4 => [116, 111, 111, 32, 115, 104, 111, 114, 116]
  | 5 => [112, 101, 114, 109, 105, 115, 115, 105, 111, 110, 32, 100, 101, 110, 105, 101, 100]
  | 6 => [102, 105, 108, 101, 32, 100, 111, 101, 115, 32, 110, 111, 116, 32, 101, 120, 105, 115, 116]
  | 7 => [102, 105, 108, 101, 32, 97, 108, 114, 101, 97, 100, 121, 32, 101, 120, 105, 115, 116, 115]
  | 8 => [117, 110, 107, 110, 111, 119, 110, 32, 102, 105, 100]
  | 9 => [102, 105, 100, 32, 105, 110, 32, 117, 115, 101]
  | 10 => [102, 105, 100, 32, 105, 115, 32, 111, 112, 101, 110]
  | 11 => [102, 105, 100, 32, 110, 111, 116, 32, 111, 112, 101, 110, 32, 115, 111]
  | 12 => [105, 115, 32, 97, 32, 100, 105, 114, 101, 99, 116, 111, 114, 121]
  | 13 => [110, 111, 116, 32, 97, 32, 100, 105, 114, 101, 99, 116, 111, 114, 121]
  | 14 => [110, 111, 32, 114, 111, 111, 109, 32, 108, 101, 102, 116]
  | 15 => [100, 105, 114, 101, 99, 116, 111, 114, 121, 32, 110, 111, 116, 32, 101, 109, 112, 116, 121]
  | 16 => [100, 117, 112, 108, 105, 99, 97, 116, 101, 32, 116, 97, 103]
  | 17 => [110, 111, 32, 118, 101, 114, 115, 105, 111, 110, 32, 121, 101, 116]
  | 18 => [110, 111, 32, 97, 117, 116, 104, 101, 110, 116, 105, 99, 97, 116, 105, 111, 110, 32, 114, 101, 113, 117, 105, 114, 101, 100]
  | 19 => [117, 110, 107, 110, 111, 119, 110, 32, 117, 115, 101, 114]
  | 20 => [101, 120, 99, 108, 117, 115, 105, 118, 101, 32, 117, 115, 101, 32, 102, 105, 108, 101, 32, 97, 108, 114, 101, 97, 100, 121, 32, 111, 112, 101, 110]
  | 21 => [98, 97, 100, 32, 111, 102, 102, 115, 101, 116, 32, 105, 110, 32, 100, 105, 114, 101, 99, 116, 111, 114, 121, 32, 114, 101, 97, 100]
  | 22 => [112, 111, 119, 101, 114, 32, 105, 115, 32, 111, 102, 102]
  | _ => [101, 114, 114, 111, 114]

theorem errword_0 (w : World) : Calls Tryz.prog 33 #[.int .i64 0] w fun e w' => e = .returned (.string (strOf (errW 0))) ∧ w = w' := by
  go_enter Tryz.func33, Tryz.ntmps33
  go_wp2
  go_ret
  exact ⟨rfl, rfl⟩
theorem errword_1 (w : World) : Calls Tryz.prog 33 #[.int .i64 1] w fun e w' => e = .returned (.string (strOf (errW 1))) ∧ w = w' := by
  go_enter Tryz.func33, Tryz.ntmps33
  go_wp2
  go_ret
  exact ⟨rfl, rfl⟩
theorem errword_2 (w : World) : Calls Tryz.prog 33 #[.int .i64 2] w fun e w' => e = .returned (.string (strOf (errW 2))) ∧ w = w' := by
  go_enter Tryz.func33, Tryz.ntmps33
  go_wp2
  go_ret
  exact ⟨rfl, rfl⟩
theorem errword_3 (w : World) : Calls Tryz.prog 33 #[.int .i64 3] w fun e w' => e = .returned (.string (strOf (errW 3))) ∧ w = w' := by
  go_enter Tryz.func33, Tryz.ntmps33
  go_wp2
  go_ret
  exact ⟨rfl, rfl⟩
theorem errword_4 (w : World) : Calls Tryz.prog 33 #[.int .i64 4] w fun e w' => e = .returned (.string (strOf (errW 4))) ∧ w = w' := by
  go_enter Tryz.func33, Tryz.ntmps33
  go_wp2
  go_ret
  exact ⟨rfl, rfl⟩
theorem errword_5 (w : World) : Calls Tryz.prog 33 #[.int .i64 5] w fun e w' => e = .returned (.string (strOf (errW 5))) ∧ w = w' := by
  go_enter Tryz.func33, Tryz.ntmps33
  go_wp2
  go_ret
  exact ⟨rfl, rfl⟩
theorem errword_6 (w : World) : Calls Tryz.prog 33 #[.int .i64 6] w fun e w' => e = .returned (.string (strOf (errW 6))) ∧ w = w' := by
  go_enter Tryz.func33, Tryz.ntmps33
  go_wp2
  go_ret
  exact ⟨rfl, rfl⟩
theorem errword_7 (w : World) : Calls Tryz.prog 33 #[.int .i64 7] w fun e w' => e = .returned (.string (strOf (errW 7))) ∧ w = w' := by
  go_enter Tryz.func33, Tryz.ntmps33
  go_wp2
  go_ret
  exact ⟨rfl, rfl⟩
theorem errword_8 (w : World) : Calls Tryz.prog 33 #[.int .i64 8] w fun e w' => e = .returned (.string (strOf (errW 8))) ∧ w = w' := by
  go_enter Tryz.func33, Tryz.ntmps33
  go_wp2
  go_ret
  exact ⟨rfl, rfl⟩
theorem errword_9 (w : World) : Calls Tryz.prog 33 #[.int .i64 9] w fun e w' => e = .returned (.string (strOf (errW 9))) ∧ w = w' := by
  go_enter Tryz.func33, Tryz.ntmps33
  go_wp2
  go_ret
  exact ⟨rfl, rfl⟩
theorem errword_10 (w : World) : Calls Tryz.prog 33 #[.int .i64 10] w fun e w' => e = .returned (.string (strOf (errW 10))) ∧ w = w' := by
  go_enter Tryz.func33, Tryz.ntmps33
  go_wp2
  go_ret
  exact ⟨rfl, rfl⟩
theorem errword_11 (w : World) : Calls Tryz.prog 33 #[.int .i64 11] w fun e w' => e = .returned (.string (strOf (errW 11))) ∧ w = w' := by
  go_enter Tryz.func33, Tryz.ntmps33
  go_wp2
  go_ret
  exact ⟨rfl, rfl⟩
theorem errword_12 (w : World) : Calls Tryz.prog 33 #[.int .i64 12] w fun e w' => e = .returned (.string (strOf (errW 12))) ∧ w = w' := by
  go_enter Tryz.func33, Tryz.ntmps33
  go_wp2
  go_ret
  exact ⟨rfl, rfl⟩
theorem errword_13 (w : World) : Calls Tryz.prog 33 #[.int .i64 13] w fun e w' => e = .returned (.string (strOf (errW 13))) ∧ w = w' := by
  go_enter Tryz.func33, Tryz.ntmps33
  go_wp2
  go_ret
  exact ⟨rfl, rfl⟩
theorem errword_14 (w : World) : Calls Tryz.prog 33 #[.int .i64 14] w fun e w' => e = .returned (.string (strOf (errW 14))) ∧ w = w' := by
  go_enter Tryz.func33, Tryz.ntmps33
  go_wp2
  go_ret
  exact ⟨rfl, rfl⟩
theorem errword_15 (w : World) : Calls Tryz.prog 33 #[.int .i64 15] w fun e w' => e = .returned (.string (strOf (errW 15))) ∧ w = w' := by
  go_enter Tryz.func33, Tryz.ntmps33
  go_wp2
  go_ret
  exact ⟨rfl, rfl⟩
theorem errword_16 (w : World) : Calls Tryz.prog 33 #[.int .i64 16] w fun e w' => e = .returned (.string (strOf (errW 16))) ∧ w = w' := by
  go_enter Tryz.func33, Tryz.ntmps33
  go_wp2
  go_ret
  exact ⟨rfl, rfl⟩
theorem errword_17 (w : World) : Calls Tryz.prog 33 #[.int .i64 17] w fun e w' => e = .returned (.string (strOf (errW 17))) ∧ w = w' := by
  go_enter Tryz.func33, Tryz.ntmps33
  go_wp2
  go_ret
  exact ⟨rfl, rfl⟩
theorem errword_18 (w : World) : Calls Tryz.prog 33 #[.int .i64 18] w fun e w' => e = .returned (.string (strOf (errW 18))) ∧ w = w' := by
  go_enter Tryz.func33, Tryz.ntmps33
  go_wp2
  go_ret
  exact ⟨rfl, rfl⟩
theorem errword_19 (w : World) : Calls Tryz.prog 33 #[.int .i64 19] w fun e w' => e = .returned (.string (strOf (errW 19))) ∧ w = w' := by
  go_enter Tryz.func33, Tryz.ntmps33
  go_wp2
  go_ret
  exact ⟨rfl, rfl⟩
theorem errword_20 (w : World) : Calls Tryz.prog 33 #[.int .i64 20] w fun e w' => e = .returned (.string (strOf (errW 20))) ∧ w = w' := by
  go_enter Tryz.func33, Tryz.ntmps33
  go_wp2
  go_ret
  exact ⟨rfl, rfl⟩
theorem errword_21 (w : World) : Calls Tryz.prog 33 #[.int .i64 21] w fun e w' => e = .returned (.string (strOf (errW 21))) ∧ w = w' := by
  go_enter Tryz.func33, Tryz.ntmps33
  go_wp2
  go_ret
  exact ⟨rfl, rfl⟩
theorem errword_22 (w : World) : Calls Tryz.prog 33 #[.int .i64 22] w fun e w' => e = .returned (.string (strOf (errW 22))) ∧ w = w' := by
  go_enter Tryz.func33, Tryz.ntmps33
  go_wp2
  go_ret
  exact ⟨rfl, rfl⟩
theorem errword_no (n : Nat) (h : 23 ≤ n) (w : World) : Calls Tryz.prog 33 #[.int .i64 (n : Int)] w fun e w' => e = .returned (.string (strOf (errW n))) ∧ w = w' := by
  have hw : errW n = [101, 114, 114, 111, 114] := by
    unfold errW
    split <;> first | omega | rfl
  rw [hw]
  have d0 : ((n : Int) == 0) = false := by simp; omega
  have d1 : ((n : Int) == 1) = false := by simp; omega
  have d2 : ((n : Int) == 2) = false := by simp; omega
  have d3 : ((n : Int) == 3) = false := by simp; omega
  have d4 : ((n : Int) == 4) = false := by simp; omega
  have d5 : ((n : Int) == 5) = false := by simp; omega
  have d6 : ((n : Int) == 6) = false := by simp; omega
  have d7 : ((n : Int) == 7) = false := by simp; omega
  have d8 : ((n : Int) == 8) = false := by simp; omega
  have d9 : ((n : Int) == 9) = false := by simp; omega
  have d10 : ((n : Int) == 10) = false := by simp; omega
  have d11 : ((n : Int) == 11) = false := by simp; omega
  have d12 : ((n : Int) == 12) = false := by simp; omega
  have d13 : ((n : Int) == 13) = false := by simp; omega
  have d14 : ((n : Int) == 14) = false := by simp; omega
  have d15 : ((n : Int) == 15) = false := by simp; omega
  have d16 : ((n : Int) == 16) = false := by simp; omega
  have d17 : ((n : Int) == 17) = false := by simp; omega
  have d18 : ((n : Int) == 18) = false := by simp; omega
  have d19 : ((n : Int) == 19) = false := by simp; omega
  have d20 : ((n : Int) == 20) = false := by simp; omega
  have d21 : ((n : Int) == 21) = false := by simp; omega
  have d22 : ((n : Int) == 22) = false := by simp; omega
  clear h hw
  go_enter Tryz.func33, Tryz.ntmps33
  go_wp2
  go_ret
  exact ⟨rfl, rfl⟩
theorem errword_any (n : Nat) (w : World) : Calls Tryz.prog 33 #[.int .i64 (n : Int)] w fun e w' => e = .returned (.string (strOf (errW n))) ∧ w = w' := by
  by_cases h : 23 ≤ n
  · exact errword_no n h w
  · have : n = 0 ∨ n = 1 ∨ n = 2 ∨ n = 3 ∨ n = 4 ∨ n = 5 ∨ n = 6 ∨ n = 7 ∨ n = 8 ∨ n = 9 ∨ n = 10 ∨ n = 11 ∨ n = 12 ∨ n = 13 ∨ n = 14 ∨ n = 15 ∨ n = 16 ∨ n = 17 ∨ n = 18 ∨ n = 19 ∨ n = 20 ∨ n = 21 ∨ n = 22 := by omega
    rcases this with rfl | rfl | rfl | rfl | rfl | rfl | rfl | rfl | rfl | rfl | rfl | rfl | rfl | rfl | rfl | rfl | rfl | rfl | rfl | rfl | rfl | rfl | rfl
    · exact errword_0 w
    · exact errword_1 w
    · exact errword_2 w
    · exact errword_3 w
    · exact errword_4 w
    · exact errword_5 w
    · exact errword_6 w
    · exact errword_7 w
    · exact errword_8 w
    · exact errword_9 w
    · exact errword_10 w
    · exact errword_11 w
    · exact errword_12 w
    · exact errword_13 w
    · exact errword_14 w
    · exact errword_15 w
    · exact errword_16 w
    · exact errword_17 w
    · exact errword_18 w
    · exact errword_19 w
    · exact errword_20 w
    · exact errword_21 w
    · exact errword_22 w
theorem Tryz.builtType (t : Int) : Tryz.prog.built 34 [(0, .int .u8 t)] = some #[.int .u8 t, .int .u16 0, .int .u32 0, .string ⟨#[]⟩, .int .u32 0, .int .u32 0, .int .u32 0, .string ⟨#[]⟩, .string ⟨#[]⟩, .string ⟨#[]⟩, .int .u16 0, .slice none 0 0, .slice none 0 0,
  .int .u8 0, .int .u32 0, .int .u64 0, .int .u32 0, .int .u8 0, .int .u32 0, .string ⟨#[]⟩, .int .u64 0, .int .u32 0, .slice none 0 0,
  .int .u16 0, .int .u32 0, .int .u8 0, .int .u32 0, .int .u64 0, .int .u32 0, .int .u32 0, .int .u32 0, .int .u64 0, .string ⟨#[]⟩, .string ⟨#[]⟩, .string ⟨#[]⟩, .string ⟨#[]⟩] := by kernel_rfl
theorem Tryz.builtErr (tag : Int) (s : ByteArray) : Tryz.prog.built 34 [(0, .int .u8 107), (1, .int .u16 tag), (9, .string s)] = some #[.int .u8 107, .int .u16 tag, .int .u32 0, .string ⟨#[]⟩, .int .u32 0, .int .u32 0, .int .u32 0, .string ⟨#[]⟩, .string ⟨#[]⟩, .string s, .int .u16 0, .slice none 0 0, .slice none 0 0,
  .int .u8 0, .int .u32 0, .int .u64 0, .int .u32 0, .int .u8 0, .int .u32 0, .string ⟨#[]⟩, .int .u64 0, .int .u32 0, .slice none 0 0,
  .int .u16 0, .int .u32 0, .int .u8 0, .int .u32 0, .int .u64 0, .int .u32 0, .int .u32 0, .int .u32 0, .int .u64 0, .string ⟨#[]⟩, .string ⟨#[]⟩, .string ⟨#[]⟩, .string ⟨#[]⟩] := by kernel_rfl
/-- An error's message. -/
def errCells (tag : Nat) (l : List UInt8) : Array Value := #[.int .u8 107, .int .u16 (tag : Int), .int .u32 0, .string ⟨#[]⟩, .int .u32 0, .int .u32 0, .int .u32 0, .string ⟨#[]⟩, .string ⟨#[]⟩, .string (strOf l), .int .u16 0, .slice none 0 0, .slice none 0 0,
  .int .u8 0, .int .u32 0, .int .u64 0, .int .u32 0, .int .u8 0, .int .u32 0, .string ⟨#[]⟩, .int .u64 0, .int .u32 0, .slice none 0 0,
  .int .u16 0, .int .u32 0, .int .u8 0, .int .u32 0, .int .u64 0, .int .u32 0, .int .u32 0, .int .u32 0, .int .u64 0, .string ⟨#[]⟩, .string ⟨#[]⟩, .string ⟨#[]⟩, .string ⟨#[]⟩]
def errM (tag : Nat) (l : List UInt8) : Nat → F := upd (zeroM 107 tag) 9 (.text l)
theorem err_at (w : World) (lo hi tag : Nat) (l : List UInt8) : MgAt w lo hi (errCells tag l) (errM tag l) :=
  (zero_at w lo hi 107 tag).put (p := (.text, 9)) (by decide) rfl (Nat.le_refl _) rfl (fun _ _ _ => rfl) rfl (fun i hi => by
    have : (errCells tag l) = (zeroCells 107 tag).setIfInBounds 9 (.string (strOf l)) := rfl
    rw [this]
    exact set_out (by rcases hi with h | h <;> simp [K.size] at h <;> omega) _)
theorem named_isSome (t : Nat) : (namedOf t).isSome = decide (isType t) := by
  by_cases h : isType t
  · rw [named_some h, decide_eq_true h]
  · rw [namedOf_none h, decide_eq_false h]
    rfl
set_option maxHeartbeats 400000 in
theorem knownT_any (t : Nat) (w : World) : Calls Tryz.prog 12 #[.int .u8 (t : Int)] w fun e w' => e = .returned (.bool (decide (isType t))) ∧ Below w.heap.size w w' := by
  obtain ⟨W, hW⟩ : ∃ W, W = w.alloc (.cells (zeroCells t 0) 34) := ⟨_, rfl⟩
  have k0 : Below w.heap.size w W := by rw [hW]; exact (Below.refl _ _).alloc (Nat.le_refl _) _
  have C := named_any w.heap.size t (zeroCells t 0) W (by rw [hW]; exact Has.new _ _ _) rfl
  unfold NamedStep at C
  rw [named_isSome] at C
  rw [hW] at C k0
  have C' := Lib.hid C
  have K0 := Lib.hid k0
  clear C k0 hW
  generalize decide (isType t) = b at C'
  go_enter Tryz.func12, Tryz.ntmps12
  go_wp2_with (first
    | (refine build_struct 34 #[(0, .tmp 6)] (zeroCells t 0) rfl rfl (Tryz.builtType t) ?_)
    | fail)
  refine C'.out.mono ?_
  rintro e w1 ⟨x, rfl, _, b1⟩
  have R := Lib.hid (K0.out.trans (b1.mono K0.out.size))
  clear C' b1 K0
  go_wp2
  go_ret
  exact ⟨rfl, R.out⟩
set_option maxHeartbeats 400000 in
theorem askT_any (t : Nat) (w : World) (h : t < 256) : Calls Tryz.prog 13 #[.int .u8 (t : Int)] w fun e w' => e = .returned (.bool (decide (isType t) && decide (t % 2 = 0))) ∧ Below w.heap.size w w' := by
  have C := Lib.hid (knownT_any t w)
  by_cases hk : isType t
  · rw [decide_eq_true hk] at C ⊢
    have hm : IntKind.u8.wrap ((t : Int) % 2) = (t : Int) % 2 := IntWalk.u8_in _ (by omega)
    clear hk
    go_enter Tryz.func13, Tryz.ntmps13
    go_wp2_with fail
    refine C.out.mono ?_
    rintro e w1 ⟨rfl, b1⟩
    have R := Lib.hid b1
    clear C b1
    go_wp2
    go_ret
    refine ⟨?_, R.out⟩
    have hpar : ((t : Int) % 2 = 0) ↔ t % 2 = 0 := by omega
    simp
    rw [Bool.eq_iff_iff]
    simp [hpar]
  · rw [decide_eq_false hk] at C ⊢
    clear hk
    go_enter Tryz.func13, Tryz.ntmps13
    go_wp2_with fail
    refine C.out.mono ?_
    rintro e w1 ⟨rfl, b1⟩
    have R := Lib.hid b1
    clear C b1
    go_wp2
    go_ret
    exact ⟨rfl, R.out⟩
set_option maxHeartbeats 400000 in
theorem errorM_any (tag n : Nat) (w : World) : Calls Tryz.prog 10 #[.int .u16 (tag : Int), .int .i64 (n : Int)] w fun e w' => e = .returned (.agg (errCells tag (errW n))) ∧ Below w.heap.size w w' := by
  have NW : Hid (Has (w.alloc (.cells (zeroCells 0 0) 34)) w.heap.size 34 (zeroCells 0 0)) := Has.new _ _ _
  have C := Lib.hid (errword_any n (w.alloc (.cells (zeroCells 0 0) 34)))
  generalize errW n = l at C
  have HO : Hid ((errCells tag l).all (fun x => x.oneCell') = true) := Lib.hid (by simp [errCells, Value.oneCell'])
  go_enter Tryz.func10, Tryz.ntmps10
  go_wp2_with fail
  refine C.out.mono ?_
  rintro e w1 ⟨rfl, rfl⟩
  clear C
  go_wp2_with (first
    | (refine build_struct 34 #[(0, .const (.int .u8 107)), (1, .tmp 5), (9, .tmp 7)] (errCells tag l) rfl rfl (Tryz.builtErr tag (strOf l)) ?_)
    | (refine store_struct Tryz.msgSize w.heap.size (errCells tag l) (.tmp 4) (.tmp 8) rfl rfl rfl rfl NW.out rfl rfl HO.out ?_)
    | fail)
  refine bodyPost_ret (results_cell_row rfl _ _ w.heap.size 34 (errCells tag l) (0, 0) _ rfl (NW.out.setRow _) Tryz.underlying34 rfl Tryz.msgSize) rfl ?_
  exact ⟨rfl, (((Only.refl (fun i => i = w.heap.size) w).alloc _).setRow (fun _ => rfl) _).below (Nat.le_refl _) (fun i hi h => by omega)⟩
set_option maxHeartbeats 400000 in
theorem refknown_any (t : Nat) (w : World) : Calls Tryz.prog 19 #[.int .u8 (t : Int)] w fun e w' => e = .returned (.bool (decide (isType t))) ∧ w = w' := by
  by_cases h1 : 100 ≤ t
  · have a1 : decide ((100 : Int) ≤ (t : Int)) = true := decide_eq_true (by omega)
    by_cases h2 : t ≤ 127
    · have a2 : decide ((t : Int) ≤ 127) = true := decide_eq_true (by omega)
      by_cases h3 : t = 106
      · have a3 : ((t : Int) != 106) = false := by simp; omega
        rw [decide_eq_false (show ¬ isType t from fun h => h.2.2 h3)]
        clear h1 h2 h3
        go_enter Tryz.func19, Tryz.ntmps19
        go_wp2
        go_ret
        exact ⟨rfl, rfl⟩
      · have a3 : ((t : Int) != 106) = true := by simp; omega
        rw [decide_eq_true (show isType t from ⟨h1, h2, h3⟩)]
        clear h1 h2 h3
        go_enter Tryz.func19, Tryz.ntmps19
        go_wp2
        go_ret
        exact ⟨rfl, rfl⟩
    · have a2 : decide ((t : Int) ≤ 127) = false := decide_eq_false (by omega)
      rw [decide_eq_false (show ¬ isType t from fun h => h2 h.2.1)]
      clear h1 h2
      go_enter Tryz.func19, Tryz.ntmps19
      go_wp2
      go_ret
      exact ⟨rfl, rfl⟩
  · have a1 : decide ((100 : Int) ≤ (t : Int)) = false := decide_eq_false (by omega)
    rw [decide_eq_false (show ¬ isType t from fun h => h1 h.1)]
    clear h1
    go_enter Tryz.func19, Tryz.ntmps19
    go_wp2
    go_ret
    exact ⟨rfl, rfl⟩
end Go.Proofs.YtepiifbleoimkaaGreatDoor
