/-
  The fixed example at the head of each statement of layer 3: it answers true and leaves what was there.
-/
import Derived.Test.YthdjpbhmdfojeaaQidA
namespace Go.Proofs.Ythdjpbhmdfojeaa
open Go.RowKit
set_option maxRecDepth 100000

def q3known : Q3 := ⟨128, 3, 1099511627776⟩
theorem q3known_ok : q3known.Ok := ⟨by decide, by decide, by decide⟩

set_option maxHeartbeats 1000000 in
theorem known3 (w : World) : Calls Try.prog 6 #[] w fun e w' => e = .returned (.bool true) ∧ Below w.heap.size w w' := by
  have C1 : Hid (∀ W, OutAt W w.heap.size w.heap.size (.slice none 0 0) [] → Calls Try.prog 7 #[.pointer (some ⟨w.heap.size, 0, none⟩), .agg #[.int .u8 128, .int .u32 3, .int .u64 1099511627776]] W (OutStep W w.heap.size w.heap.size (.slice none 0 0) (qidB q3known))) :=
    fun W h => qidput_any w.heap.size w.heap.size _ [] q3known W h q3known_ok (by simp)
  obtain ⟨W0, hW0⟩ : ∃ W0, W0 = (w.alloc (.cells #[.slice none 0 0] 30)).alloc (.cells #[.int .u8 128, .int .u32 3, .int .u64 1099511627776] 25) := ⟨_, rfl⟩
  have O0 : Hid (OutAt W0 w.heap.size w.heap.size (.slice none 0 0) []) := by
    rw [hW0]
    exact (new_out w).only ((Only.refl (fun _ => False) _).alloc _) (fun _ _ h => h)
  have B0 : Hid (Has W0 (w.heap.size + 1) 25 #[.int .u8 128, .int .u32 3, .int .u64 1099511627776]) := by
    rw [hW0]
    have h := Has.new (w.alloc (.cells #[.slice none 0 0] 30)) 25 #[.int .u8 128, .int .u32 3, .int .u64 1099511627776]
    rw [show (w.alloc (.cells #[.slice none 0 0] 30)).heap.size = w.heap.size + 1 from by simp] at h
    exact h
  have K0 : Hid (Below w.heap.size w W0) := by
    rw [hW0]
    exact ((Below.refl _ w).alloc (Nat.le_refl _) _).alloc (by simp) _
  have HW := Lib.hid hW0
  have hz := B0.out.lt
  have hl := qidB_length q3known
  have T : Hid (∀ W, Calls Try.prog 9 #[.int .u32 2147484157] W fun e w' => e = .returned (.int .u8 128) ∧ W = w') := fun W => by
    have h := qidtype_any 2147484157 W (by omega)
    rw [show kindOf 2147484157 = 128 from by decide] at h
    exact h
  have M : Hid (∀ W, Calls Try.prog 10 #[.int .u8 128] W fun e w' => e = .returned (.int .u32 2147483648) ∧ W = w') := fun W => by
    have h := qidmode_any 128 W (by omega)
    rw [show modeOf 128 = 2147483648 from by decide] at h
    exact h
  clear hW0
  go_enter Try.func6, Try.ntmps6
  go_wp2_with fail
  rw [← HW.out]
  refine (C1.out W0 O0.out).mono ?_
  rintro e w1 ⟨v1, rfl, o1, f1, g1⟩
  have O1 := Lib.hid o1
  have B1 := Lib.hid (B0.out.only f1 (fun h => by have := O0.out.foot_lt h; rcases h with h | h; omega; simp [Value.ownBlock] at h))
  have K1 := Lib.hid (K0.out.trans (f1.below K0.out.size (fun i hi h => by have := O0.out.foot_lt h; omega)))
  have hz1 := B1.out.lt
  clear o1 f1 g1 O0 B0 K0 C1 HW hz
  go_wp2_with fail
  refine (bytes_any _ _ _ _ w1 O1.out (by omega)).mono ?_
  rintro e w2 ⟨v2, rfl, a2, b2⟩
  have O2 := Lib.hid (O1.out.only (Only.of_below b2) (fun i h => by have := O1.out.foot_lt h; omega))
  have B2 := Lib.hid (B1.out.only (Only.of_below b2) (by omega))
  have K2 := Lib.hid (K1.out.trans (b2.mono K1.out.size))
  have A2 := Lib.hid (owns_SlIs a2)
  clear a2 b2 O1 B1 K1
  go_wp2_with fail
  refine (of_any v2 _ _ _ w2 A2.out (Nat.le_refl _) (by omega)).mono ?_
  rintro e w3 ⟨g, rfl, a3, b3⟩
  have hz2 := B2.out.lt
  have hg := a3.lt
  have hk2 := K2.out.size
  have I3 := Lib.hid a3
  have HF : Hid (∀ i, Foot w.heap.size v1 i → i < w2.heap.size) := fun i h => (O2.out.foot_lt h).2
  have O3 := Lib.hid (O2.out.only (Only.of_below b3) (fun i h => by have := O2.out.foot_lt h; omega))
  have B3 := Lib.hid (B2.out.only (Only.of_below b3) (by omega))
  have K3 := Lib.hid (K2.out.trans (b3.mono K2.out.size))
  clear a3 b3 O2 B2 K2 A2
  go_wp2_with fail
  refine (qidtake_any _ g _ 0 w3 I3.out).mono ?_
  rintro e w4 ⟨rfl, a4, b4⟩
  have q0 := qTake_item q3known [] q3known_ok
  rw [List.append_nil] at q0
  rw [q0]
  have O4 := Lib.hid (O3.out.only b4 (fun i h => by have := HF.out i h; omega))
  have B4 := Lib.hid (B3.out.only b4 (by omega))
  have K4 := Lib.hid (K3.out.trans (b4.below (B := w.heap.size) (by have := K3.out.size; omega) (fun i hi h => by omega)))
  clear a4 b4 O3 B3 K3 I3 q0
  have hv : q3known.val = .agg #[.int .u8 128, .int .u32 3, .int .u64 1099511627776] := rfl
  rw [hv]
  obtain ⟨W5, hW5⟩ : ∃ W5, W5 = w4.alloc (.cells #[.int .u8 128, .int .u32 3, .int .u64 1099511627776] 25) := ⟨_, rfl⟩
  have O5 : Hid (OutAt W5 w.heap.size w.heap.size v1 (qidB q3known)) := by
    rw [hW5]
    exact O4.out.only ((Only.refl (fun _ => False) _).alloc _) (fun _ _ h => h)
  have B5 : Hid (Has W5 (w.heap.size + 1) 25 #[.int .u8 128, .int .u32 3, .int .u64 1099511627776]) := by
    rw [hW5]
    exact B4.out.alloc _
  have N5 : Hid (Has W5 w4.heap.size 25 #[.int .u8 128, .int .u32 3, .int .u64 1099511627776]) := by
    rw [hW5]
    exact Has.new _ _ _
  have K5 : Hid (Below w.heap.size w W5) := by
    rw [hW5]
    exact K4.out.alloc K4.out.size _
  have HW5 := Lib.hid hW5
  clear hW5 O4 B4 K4 hv
  go_wp2_with fail
  rw [← HW5.out]
  refine (bytes_any _ _ _ _ W5 O5.out (by omega)).mono ?_
  rintro e w6 ⟨v6, rfl, a6, b6⟩
  have b5 := B5.out.only (Only.of_below b6) (by have := B5.out.lt; omega)
  have n5 := N5.out.only (Only.of_below b6) (by have := N5.out.lt; omega)
  have x0 := b5.cell 0
  have x1 := b5.cell 1
  have x2 := b5.cell 2
  have y0 := n5.cell 0
  have y1 := n5.cell 1
  have y2 := n5.cell 2
  simp at x0 x1 x2 y0 y1 y2
  have K6 := Lib.hid (K5.out.trans (b6.mono K5.out.size))
  obtain ⟨A6, c6, rfl, _⟩ := owns_slice a6
  clear a6 b6 b5 n5 O5 B5 N5 K5 HW5
  rw [hl]
  go_wp2_with fail
  refine (T.out w6).mono ?_
  rintro e w' ⟨rfl, rfl⟩
  go_wp2_with fail
  refine (M.out w6).mono ?_
  rintro e w' ⟨rfl, rfl⟩
  go_wp2
  go_ret
  exact ⟨rfl, K6.out⟩
end Go.Proofs.Ythdjpbhmdfojeaa
