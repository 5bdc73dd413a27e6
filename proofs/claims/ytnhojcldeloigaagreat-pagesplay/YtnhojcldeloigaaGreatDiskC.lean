/-
  Package disk: the library's Repeat of a list of strings; made, New.
-/
import Derived.Test.YtnhojcldeloigaaGreatDiskB
namespace Go.Proofs.YtnhojcldeloigaaGreat
open Go.RowKit
set_option maxRecDepth 100000

theorem Tryz.sizeStr : (Tryz.prog.info? 9).map (·.size) = some 1 := by kernel_rfl
theorem splice_rep {v : Value} {L : List Value} {k m : Nat} (h : L.take k = List.replicate k v) : (splice L k (List.replicate m v)).take (k + m) = List.replicate (k + m) v := by
  unfold splice
  rw [h, ← List.append_assoc, List.replicate_append_replicate]
  exact List.take_left' (by simp)

theorem addr_zero (ad : Addr) : ad.add 0 = ad := by simp [Addr.add]
/-- What the copying in Repeat keeps: so many are done. -/
def RInv (w : World) (n : Nat) (v : Value) (k : Nat) (wr : World) : Prop :=
  ∃ L : List Value, wr.heap[w.heap.size]? = some (.cells L.toArray 9 (0, 0)) ∧ L.length = n ∧ L.take k = List.replicate k v ∧ Below w.heap.size w wr

set_option maxHeartbeats 2000000 in
/-- Repeat of a list of one string: so many of it, a row of one's own. -/
theorem repeats_any (v : Value) (hv : v.oneCell' = true) (c n : Nat) (ad : Addr) (w : World) (hr : w.cell? ad = some v) (hlt : ad.block < w.heap.size) (hn : 1 ≤ n) (hm : n ≤ 16384) :
    Calls Tryz.prog 30 #[.slice (some ad) 1 c, .int .i64 (n : Int)] w (CopyStep w 9 1 n (List.replicate n v)) := by
  obtain ⟨i0, hi0, hz0, hz1, hz2⟩ := info_parts Tryz.infoStr
  have hMul := Tryz.bits_Mul 1 n (by omega) (by omega) w
  rw [Nat.div_eq_of_lt (by omega : 1 * n < 18446744073709551616), Nat.mod_eq_of_lt (by omega : 1 * n < 18446744073709551616), Nat.one_mul] at hMul
  have HM := Lib.hid hMul
  have d1 : decide ((n : Int) < 0) = false := decide_eq_false (by omega)
  have d2 : decide ((9223372036854775807 : Int) < (n : Int)) = false := decide_eq_false (by omega)
  have hw1 : IntKind.u64.wrap (n : Int) = (n : Int) := IntWalk.u64_in _ (by omega)
  have hw2 : IntKind.i64.wrap (n : Int) = (n : Int) := IntWalk.i64_in _ (by omega)
  obtain ⟨w1, hmk, o1, g1⟩ := run_make_full (P := Tryz.prog) w w.heap.size 32 9 i0 (.string ⟨#[]⟩) 1 Tryz.underlying32 hi0 hz0 hz1 .i64 .i64 n (by rw [hz2]; omega) (by simp [maxLen]; omega) (Nat.le_refl _)
  have k1 := Only.of_grown g1
  have b1 : Below w.heap.size w w1 := k1.below (Nat.le_refl _) (fun i _ h => by cases h)
  obtain ⟨L1, hg1, hL1⟩ : ∃ L : List Value, w1.heap[w.heap.size]? = some (.cells L.toArray 9 (0, 0)) ∧ L.length = n := by
    rcases id o1.2 with ⟨h, _⟩ | ⟨g, cap, cur, he, _, hg, _, _, hs, _⟩
    · cases h
    · injection he with e1 _ e2
      injection e1 with e1
      injection e1 with e1
      subst e1 e2
      exact ⟨cur.toList, hg, by simpa using hs⟩
  have hr1 : ∀ j u, [v][j]? = some u → w1.cell? (ad.add j) = some u := fun j u hu => by
    have hj : j = 0 := by
      have := (List.getElem?_eq_some_iff.1 hu).1
      simpa using this
    subst hj
    rw [addr_zero]
    have : u = v := by simpa using hu.symm
    rw [this]
    exact (k1.cell hlt (fun h => by cases h)).trans hr
  obtain ⟨w2, hcp, hg2, hb2⟩ : ∃ w2, (Builtin.copy_ #[32, 32] 3 #[.slice (some ⟨w.heap.size, 0, none⟩) n n, .slice (some ad) 1 c]).run Tryz.prog w1 = .ok (.int .i64 1) w2 ∧ w2.heap[w.heap.size]? = some (.cells (splice L1 0 [v]).toArray 9 (0, 0)) ∧ Below w.heap.size w w2 := by
    have h := run_copy_row (P := Tryz.prog) w1 32 32 3 9 w.heap.size 0 n n ad 1 c L1.toArray 9 [v] Tryz.underlying32 Tryz.sizeStr hg1 (show 1 = Nat.min 1 n from (Nat.min_eq_left hn).symm) hr1 (by simp; omega) (by simpa using hv)
    exact ⟨_, h, by simpa [splice] using setRow_heap w1 w.heap.size _ _ 9 _ hg1, below_setRow b1 (Nat.le_refl _) _⟩
  clear hMul o1 g1 k1 b1 hr1 hg1
  go_enter Tryz.func30, Tryz.ntmps30
  go_wp2_with fail
  refine HM.out.mono ?_
  rintro e w' ⟨rfl, rfl⟩
  clear HM
  have I0 : Hid (RInv w' n v 1 w2) := ⟨_, hg2, by rw [length_splice _ _ _ (by simp; omega)]; exact hL1, by
    have := splice_rep (v := v) (L := L1) (k := 0) (m := 1) rfl
    simpa using this, hb2⟩
  clear hg2 hb2 hr
  go_wp2
  go_loopw [8] (fun i wr => ∃ k : Nat, 1 ≤ k ∧ k ≤ n ∧ i = .int .i64 k ∧ Hid (RInv w' n v k wr)) (fun i _ => n - (intOf i).toNat)
  case atStart => exact ⟨1, Nat.le_refl _, hn, rfl, I0⟩
  case round =>
    obtain ⟨k, hk1, hkn, rfl, hrel⟩ := hrel
    clear I0
    by_cases hlt' : k < n
    · obtain ⟨L, q1, q2, q3, q4⟩ := hrel.out
      obtain ⟨m, hm'⟩ : ∃ m, m = Nat.min k (n - k) := ⟨_, rfl⟩
      have hm1 : 1 ≤ m ∧ m ≤ k ∧ k + m ≤ n := by
        have : m = k ∨ m = n - k := by rw [hm']; simp only [Nat.min_def]; split <;> simp
        have h2 : m ≤ k := by rw [hm']; exact Nat.min_le_left _ _
        have h3 : m ≤ n - k := by rw [hm']; exact Nat.min_le_right _ _
        omega
      have q5 : ∀ j u, (List.replicate m v)[j]? = some u → wr.drew.cell? ((⟨w'.heap.size, 0, none⟩ : Addr).add j) = some u := fun j u hu => by
        have hj : j < m := by simpa using (List.getElem?_eq_some_iff.1 hu).1
        have hu' : u = v := by
          have := hu
          rw [List.getElem?_replicate] at this
          rw [if_pos hj] at this
          injection this with this
          exact this.symm
        have e1 : L[j]? = some v := by
          have : (L.take k)[j]? = some v := by rw [q3, List.getElem?_replicate, if_pos (by omega)]
          rw [List.getElem?_take, if_pos (by omega)] at this
          exact this
        have := Has.cell (w := wr.drew) (g := w'.heap.size) (t := 9) (cs := L.toArray) q1 j
        rw [hu']
        have ea : (⟨w'.heap.size, 0, none⟩ : Addr).add j = ⟨w'.heap.size, j, none⟩ := by
          unfold Addr.add
          split
          · rename_i h
            simp_all
          · simp
        rw [ea, this]
        simpa using e1
      obtain ⟨w4, hcp, R4⟩ : ∃ w4, (Builtin.copy_ #[32, 32] 3 #[.slice (some ⟨w'.heap.size, k, none⟩) (n - k) (n - k), .slice (some ⟨w'.heap.size, 0, none⟩) k n]).run Tryz.prog wr.drew = .ok (.int .i64 (m : Int)) w4 ∧ Hid (RInv w' n v (k + m) w4) := by
        have hg : wr.drew.heap[w'.heap.size]? = some (.cells L.toArray 9 (0, 0)) := q1
        have hb : Below w'.heap.size w' wr.drew := ⟨q4.os, q4.tape, q4.output, q4.size, q4.block⟩
        have h := run_copy_row (P := Tryz.prog) wr.drew 32 32 3 9 w'.heap.size k (n - k) (n - k) ⟨w'.heap.size, 0, none⟩ k n L.toArray 9 (List.replicate m v) Tryz.underlying32 Tryz.sizeStr hg (by rw [List.length_replicate]; exact hm') q5 (by simp; omega) (fun u hu => by rw [List.eq_of_mem_replicate hu]; exact hv)
        rw [List.length_replicate] at h
        refine ⟨_, h, splice L k (List.replicate m v), ?_, by rw [length_splice _ _ _ (by simp; omega)]; exact q2, splice_rep q3, below_setRow hb (Nat.le_refl _) _⟩
        simpa [splice] using setRow_heap wr.drew w'.heap.size _ _ 9 _ hg
      have n1 : ¬ (n = k) := by omega
      have i1 : (k : Int) ≤ (n : Int) := by omega
      have i2 : (0 : Int) ≤ (k : Int) := by omega
      have dl : decide ((k : Int) < (n : Int)) = true := decide_eq_true (by omega)
      have hw3 : IntKind.i64.wrap ((k : Int) + (m : Int)) = ((k + m : Nat) : Int) := by rw [IntWalk.i64_in _ (by omega)]; omega
      obtain ⟨hm1a, hm1b, hm1c⟩ := hm1
      clear q1 q2 q3 q4 q5 hrel hm'
      go_wp2
      go_region
      all_goals
        go_wp2
        go_roundw
        case rel => exact ⟨k + m, by omega, by omega, by go_num, R4⟩
        case measure => simp [intOf]; omega
    · have hk : k = n := by omega
      subst hk
      obtain ⟨L, q1, q2, q3, q4⟩ := hrel.out
      have hL : L = List.replicate k v := by rw [← q3, List.take_of_length_le (by omega)]
      have R : Hid (CopyStep w' 9 1 k (List.replicate k v) (.returned (.slice (some ⟨w'.heap.size, 0, none⟩) k k)) wr) :=
        ⟨_, rfl, ⟨by simp, .inr ⟨w'.heap.size, k, L.toArray, rfl, Nat.le_refl _, q1, Nat.le_refl _, by simp [maxLen]; omega, by simp [q2], by rw [← hL]; simp [← q2]⟩⟩, q4⟩
      have dl : decide ((k : Int) < (k : Int)) = false := decide_eq_false (by omega)
      clear q1 q2 q3 q4 hrel hL
      go_wp2
      go_ret
      exact R.out
end Go.Proofs.YtnhojcldeloigaaGreat
