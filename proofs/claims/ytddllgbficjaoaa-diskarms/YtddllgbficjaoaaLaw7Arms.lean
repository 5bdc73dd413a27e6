/-
  DiskArms: armed at a write, the power goes just there.
-/
import Derived.Test.YtddllgbficjaoaaLaw7Known
namespace Go.Proofs.Ytddllgbficjaoaa
open Go.RowKit Go.Lib
set_option maxRecDepth 100000

def z64 : List UInt8 := List.replicate 64 0
/-- A disk of four sectors, armed at the a-th write; j writes of zeros were tried. -/
def armSt (a j : Nat) : D :=
  if j < a then ⟨64, List.replicate 4 z64, List.replicate j (1, z64), j, false, a - j, []⟩ else ⟨64, List.replicate 4 z64, [], a - 1, true, 0, []⟩
theorem chosen_nil : ∀ ps : List (Nat × List UInt8), chosen ps [] = []
  | [] => rfl
  | _ :: _ => rfl
theorem armSt_write {a j : Nat} (ha : 1 ≤ a) : (armSt a j).write 1 z64 = ((if j + 1 < a then 0 else 22), armSt a (j + 1)) := by
  have hz : z64.length = 64 := rfl
  by_cases h : j < a
  · rw [armSt, if_pos h, D.write, if_neg (by simp), if_neg (by simp [hz])]
    by_cases h1 : j + 1 < a
    · rw [if_neg (by simp; omega), if_pos h1, armSt, if_pos h1]
      simp only [D.put, Int.toNat_one, ← List.replicate_succ']
      congr 2
    · have e : a = j + 1 := by omega
      subst e
      rw [if_pos (by simp), if_neg h1, armSt, if_neg (by omega)]
      simp [D.cut, chosen_nil, applyL]
  · rw [armSt, if_neg h, D.write, if_pos rfl, if_neg (by omega), armSt, if_neg (by omega)]
theorem armSt_small {a j : Nat} (ha : a ≤ 1000) : (armSt a j).Small := by
  unfold armSt
  split
  · exact ⟨by simp; omega, by simp; omega, by simp; omega⟩
  · exact ⟨by simp, by simp, by simp; omega⟩
theorem arm_first (k : Nat) (hk : k ≤ 1000) : D.arm (D.new 64 (List.replicate 4 (List.replicate 64 0))) (k : Int) [] = armSt (max k 1) 0 := by
  rw [armSt, if_pos (by omega)]
  unfold D.arm D.new z64
  congr 1
  split <;> omega

set_option maxHeartbeats 4000000 in
theorem arms_walk (n : Nat) (w : World) (hn : n < 256) : Calls Try.prog 6 #[.int .u8 (n : Int)] w fun e w' => e = .returned (.bool true) ∧ Below w.heap.size w w' := by
  have C0 := Lib.hid (known7_any w)
  obtain ⟨k, hk⟩ : ∃ k, k = n % 30 := ⟨_, rfl⟩
  have hk30 : k < 30 := by omega
  have hmod : (n : Int) % 30 = (k : Int) := by omega
  clear hk
  go_enter Try.func6, Try.ntmps6
  go_wp2_with fail
  refine C0.out.mono ?_
  rintro e w0 ⟨rfl, b0⟩
  have C1 := Lib.hid (disknew_any 4 64 w0)
  have HB0 := Lib.hid b0
  clear C0 b0
  go_wp2_with fail
  refine C1.out.mono ?_
  intro e w1 hN
  rw [NewAns, if_pos (by decide)] at hN
  obtain ⟨v, rfl, hm⟩ := hN
  obtain ⟨g, rfl, L0, _⟩ := Live.made HB0.out (K := fun _ => False) (fun _ h => h.elim) hm
  have C2 := Lib.hid (live_arm w w1 _ g _ L0 (k : Int) [] (.slice none 0 0) (fun _ => False) (RwIs.nil _ _) (by simp))
  rw [show D.arm (D.new (Int.toNat 64) (List.replicate (Int.toNat 4) (List.replicate (Int.toNat 64) 0))) (k : Int) [] = armSt (max k 1) 0 from arm_first k (by omega)] at C2
  clear L0 hm C1 HB0
  go_wp2_with fail
  refine C2.out.mono ?_
  rintro e w2 ⟨rfl, l2, _⟩
  have I0 : Hid (Live w (fun _ => False) g (armSt (max k 1) (1 - 1)) w2) := l2
  clear l2 C2
  go_wp2_with fail
  go_loopw [6] (fun i wr => ∃ m : Nat, 1 ≤ m ∧ m ≤ k + 3 ∧ i = .int .i64 m ∧ Hid (Live w (fun _ => False) g (armSt (max k 1) (m - 1)) wr)) (fun i _ => k + 3 - (RowKit.intOf i).toNat)
  case atStart => exact ⟨1, Nat.le_refl _, by omega, rfl, I0⟩
  case round =>
    obtain ⟨m, hm1, hm2, rfl, hrel⟩ := hrel
    clear I0
    by_cases hlt : m < k + 3
    · obtain ⟨w3, hmk0, o3, k3, s3⟩ := make_bytes 64 (by omega) wr
      have hmk : (Instr.makeSlice 34 (.int .i64 64) (.int .i64 64)).run Try.prog wr = .ok (.slice (some ⟨wr.heap.size, 0, none⟩) 64 64) w3 := hmk0
      have L3 := hrel.out.more (K' := fun i => wr.heap.size ≤ i ∧ i < w3.heap.size) k3 (fun i hi => ⟨.inr hi.1, hi.2⟩)
      have C3 := live_write w w3 _ g _ L3 1 _ _ _ z64 (owns_SlIs o3) (Nat.le_refl _) (fun i h1 h2 => .inl ⟨h1, h2⟩) (armSt_small (by omega))
      rw [armSt_write (by omega), Nat.sub_add_cancel hm1] at C3
      have CH := Lib.hid C3
      clear L3 C3 o3 k3 hmk0 s3 hrel
      have d0 : decide ((m : Int) < (k : Int) + 3) = true := decide_eq_true (by omega)
      by_cases hmk2 : m < k
      · rw [if_pos (by omega)] at CH
        have d1 : decide (m < k) = true := decide_eq_true hmk2
        go_wp2_with fail
        refine CH.out.mono ?_
        rintro e w4 ⟨rfl, l4, _⟩
        have R : Hid (Live w (fun _ => False) g (armSt (max k 1) (m + 1 - 1)) w4) := l4.fewer (fun _ h => h.elim)
        clear l4 CH
        go_wp2
        go_roundw
        case rel => exact ⟨m + 1, by omega, by omega, by go_num, R⟩
        case measure => simp [RowKit.intOf]; omega
      · rw [if_neg (by omega)] at CH
        have d1 : decide (m < k) = false := decide_eq_false hmk2
        go_wp2_with fail
        refine CH.out.mono ?_
        rintro e w4 ⟨rfl, l4, _⟩
        have R : Hid (Live w (fun _ => False) g (armSt (max k 1) (m + 1 - 1)) w4) := l4.fewer (fun _ h => h.elim)
        clear l4 CH
        go_wp2
        go_roundw
        case rel => exact ⟨m + 1, by omega, by omega, by go_num, R⟩
        case measure => simp [RowKit.intOf]; omega
    · have hme : m = k + 3 := by omega
      subst hme
      have l := hrel.out
      rw [armSt, if_neg (by omega)] at l
      have C4 := Lib.hid (live_off w wr _ g _ l)
      have C5 := Lib.hid (live_writes w wr _ g _ l)
      have R := Lib.hid l.low
      clear l hrel
      have dl : decide (((k + 3 : Nat) : Int) < (k : Int) + 3) = false := decide_eq_false (by omega)
      by_cases h0 : k = 0
      · subst h0
        go_wp2_with fail
        refine C4.out.mono ?_
        rintro e w4 ⟨rfl, rfl⟩
        go_wp2_with fail
        refine C5.out.mono ?_
        rintro e w4 ⟨rfl, rfl⟩
        go_wp2
        go_ret
        exact ⟨rfl, R.out⟩
      · have hmx : ((max k 1 - 1 : Nat) : Int) = (k : Int) - 1 := by omega
        have hw1 : IntKind.i64.wrap ((k : Int) - 1) = (k : Int) - 1 := IntWalk.i64_in _ (by omega)
        have dz : decide ((k : Int) - 1 < 0) = false := decide_eq_false (by omega)
        have C5' : Hid (Calls Try.prog 24 #[.pointer (some ⟨g, 0, none⟩)] wr fun e w' => e = .returned (.int .i64 ((k : Int) - 1)) ∧ wr = w') := by
          rw [← hmx]
          exact C5
        clear C5 hmx
        go_wp2_with fail
        refine C4.out.mono ?_
        rintro e w4 ⟨rfl, rfl⟩
        go_wp2_with fail
        refine C5'.out.mono ?_
        rintro e w4 ⟨rfl, rfl⟩
        go_wp2
        go_ret
        exact ⟨rfl, R.out⟩
end Go.Proofs.Ytddllgbficjaoaa
