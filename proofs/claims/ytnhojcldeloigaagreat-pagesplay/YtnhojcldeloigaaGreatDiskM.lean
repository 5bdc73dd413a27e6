/-
  Package disk: Bytes.
-/
import Derived.Test.YtnhojcldeloigaaGreatDiskL
namespace Go.Proofs.YtnhojcldeloigaaGreat
open Go.RowKit Go.Lib
set_option maxRecDepth 100000

theorem cells_of_str (l : List UInt8) : strCells (strOf l) = b8s l := by simp [strCells, strOf, b8s, b8]
theorem size_of_str (l : List UInt8) : (strOf l).size = l.length := by simp [strOf, ByteArray.size]
theorem flat_len {z : Nat} : ∀ (l : List (List UInt8)), (∀ x ∈ l, x.length = z) → l.flatten.length = l.length * z
  | [], _ => by simp
  | x :: l, h => by
    have ih := flat_len l (fun y hy => h y (List.mem_cons_of_mem _ hy))
    have hx := h x (List.mem_cons_self ..)
    simp only [List.flatten_cons, List.length_append, List.length_cons, Nat.succ_mul]
    omega
/-- New bytes. -/
def Bytes7 (w : World) (l : List UInt8) (e : Ending) (w' : World) : Prop := ∃ v, e = .returned v ∧ w'.ownsRow w.heap.size 5 1 v l.length (b8s l) ∧ Below w.heap.size w w'
def BInv7 (w : World) (l : List UInt8) (v : Value) (wr : World) : Prop := wr.ownsRow w.heap.size 5 1 v l.length (b8s l) ∧ Below w.heap.size w wr

set_option maxHeartbeats 1000000 in
theorem diskbytes_any (F E : Nat → Prop) (g : Nat) (s : D) (w : World) (h : Dk w F E g s) :
    Calls Tryz.prog 23 #[.pointer (some ⟨g, 0, none⟩)] w (Bytes7 w s.kept.flatten) := by
  obtain ⟨gk, ck, gs, cs, pv, hv, h⟩ := h
  obtain ⟨i0, hi0, hz0, hz1, hz2⟩ := info_parts Tryz.info8
  have c0 := h.has.cell 0
  have c1 := h.has.cell 1
  simp at c0 c1
  obtain ⟨n, hn⟩ : ∃ n, n = s.kept.length := ⟨_, rfl⟩
  obtain ⟨z, hz⟩ : ∃ z, z = s.size := ⟨_, rfl⟩
  have hfl := flat_len s.kept h.ok.long
  rw [← hn, ← hz] at hfl
  have hm : n * z ≤ 16777216 := by
    have h1 := h.ok.most
    have h2 := h.ok.small
    have h3 := Nat.mul_le_mul h1 h2
    rw [hn, hz]
    exact h3
  obtain ⟨N, hN⟩ : ∃ N, N = n * z := ⟨_, rfl⟩
  have hw : IntKind.i64.wrap ((n : Int) * (z : Int)) = (N : Int) := by
    have e : (n : Int) * (z : Int) = (N : Int) := by rw [hN]; simp
    rw [e, IntWalk.i64_in _ (by omega)]
  obtain ⟨w1, hmk, o1, g1⟩ := run_make_own (P := Tryz.prog) w.drew w.heap.size 33 5 i0 (.int .u8 0) 1 Tryz.underlying33 hi0 hz0 hz1 .i64 .i64 N (by rw [hz2]; omega) (by simp [maxLen]; omega) (Nat.le_refl _)
  have b1 : Below w.heap.size w w1 := ((Only.refl (fun _ => False) w).drew.trans (Only.of_grown g1) (fun i _ h => by cases h)).below (Nat.le_refl _) (fun _ _ h => h)
  have hKP : ∀ wr, Below w.heap.size w wr → ∀ (j : Nat) (hj : j < s.kept.length), wr.cell? ⟨gk, j, none⟩ = some (.string (strOf s.kept[j])) := fun wr hb j hj =>
    (World.cell?_of_block (hb.block gk h.kept.lt)).trans (h.kept.cell hj)
  have I0 : Hid (BInv7 w (s.kept.take 0).flatten (.slice (some ⟨w.heap.size, 0, none⟩) 0 N) w1) := ⟨by simpa [b8s] using o1, b1⟩
  have d1 := (World.cell?_of_block (b1.block g h.has.lt) (a := ⟨g, 1, none⟩)).trans c1
  have HK := Lib.hid hKP
  have hmk' : (Instr.makeSlice 33 (.int .i64 0) (.int .i64 (N : Int))).run Tryz.prog w.drew = .ok (.slice (some ⟨w.heap.size, 0, none⟩) 0 N) w1 := hmk
  have hle : ∀ j, j ≤ s.kept.length → (s.kept.take j).flatten.length ≤ 16777216 := fun j hj => by
    have := flat_len (z := s.size) (s.kept.take j) (fun x hx => h.ok.long x (List.mem_of_mem_take hx))
    rw [this, List.length_take]
    have h2 : min j s.kept.length * s.size ≤ s.kept.length * s.size := Nat.mul_le_mul_right _ (Nat.min_le_right _ _)
    rw [← hn, ← hz] at h2
    rw [← hn, ← hz]
    omega
  have HL := Lib.hid hle
  have hkl : s.kept.length ≤ 16384 := h.ok.most
  have hzl : ∀ j (hj : j < s.kept.length), s.kept[j].length ≤ 1024 := fun j hj => by
    rw [h.ok.long _ (List.getElem_mem hj)]
    exact h.ok.small
  have HZ := Lib.hid hzl
  rw [← hn] at c1 d1
  rw [← hz] at c0
  have HN := Lib.hid hn
  clear o1 g1 b1 hKP hmk h hfl hm hN hle hzl hn hz
  go_enter Tryz.func23, Tryz.ntmps23
  go_upto_region 1 with fail
  go_still_tail 10, (by kernel_rfl)
  go_wp2_with fail
  go_loopw [3, 22] (fun u i wr => ∃ (j : Nat) (v : Value), j ≤ n ∧ i = .int .i64 j ∧ v = u ∧ Hid (BInv7 w (s.kept.take j).flatten v wr)) (fun _ i _ => n - (RowKit.intOf i).toNat)
  case atStart => exact ⟨0, _, Nat.zero_le _, rfl, rfl, I0⟩
  case round =>
    obtain ⟨j, v, hj, rfl, rfl, hrel⟩ := hrel
    clear I0
    by_cases hlt : j < n
    · obtain ⟨q1, q2⟩ := hrel.out
      have hj' : j < s.kept.length := by rw [← HN.out]; exact hlt
      have cK := HK.out wr q2 j hj'
      have hl1 := HL.out j (Nat.le_of_lt hj')
      have hl2 := HZ.out j hj'
      have hst : (s.kept.take (j + 1)).flatten = (s.kept.take j).flatten ++ s.kept[j] := by
        rw [List.take_succ_eq_append_getElem hj', List.flatten_append]
        simp
      generalize s.kept[j] = x at cK hl2 hst
      generalize (s.kept.take j).flatten = L at q1 hl1 hst hrel
      have hs2 := q2.size
      have hsx := size_of_str x
      have S : Hid (∀ v' w', w'.ownsRow w.heap.size 5 1 v' (L.length + (strOf x).size) (b8s L ++ strCells (strOf x)) → wr.grownBy w' v.ownBlock → BInv7 w (s.kept.take (j + 1)).flatten v' w') := fun v' w' a1 a2 => by
        rw [hst]
        refine ⟨?_, q2.grown a2 hs2 (fun i hi => (q1.lt i hi).1)⟩
        rw [List.length_append, b8s_append, ← cells_of_str x, ← hsx]
        exact a1
      have Q1 := Lib.hid q1
      have i1 : (j : Int) < (n : Int) := by omega
      have i2 : (0 : Int) ≤ (j : Int) := by omega
      clear q1 q2 hst hrel
      go_wp2_with (at_builtin; refine wpList_append_own_string _ rfl (.tmp 26) (.tmp 27) 33 9 rfl w.heap.size 5 i0 Tryz.underlying33 Tryz.underlying9 hi0 hz0 hz1 hz2 _ _ _ rfl Q1.out (strOf x) rfl (by rw [hsx]; simp [maxLen]; omega) (by rw [hsx]; omega) hs2 ?_)
      intro v' w' a1 a2 _
      have R := Lib.hid (S.out v' w' a1 a2)
      clear a1 a2 S Q1
      go_wp2
      go_roundw
      case rel => exact ⟨j + 1, _, by omega, by go_num, rfl, R⟩
      case measure => simp [RowKit.intOf]; omega
    · have hje : j = n := by omega
      subst hje
      obtain ⟨q1, q2⟩ := hrel.out
      rw [HN.out, List.take_length] at q1
      have R : Hid (Bytes7 w s.kept.flatten (.returned v) wr) := ⟨v, rfl, q1, q2⟩
      clear q1 q2 hrel
      go_wp2
      go_ret
      exact R.out
end Go.Proofs.YtnhojcldeloigaaGreat
