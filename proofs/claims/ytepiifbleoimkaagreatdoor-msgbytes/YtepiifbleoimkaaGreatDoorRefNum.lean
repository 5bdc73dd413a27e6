/-
  The second reading of layer 1 (numbers in bytes): what its In answers and what it does to memory.
-/
import Derived.Test.YtepiifbleoimkaaGreatDoorPackNum
import Derived.Deep.QuietTactic
import Derived.BigQuiet
namespace Go.Proofs.YtepiifbleoimkaaGreatDoor
open Go.RowKit

/-- The second reading's In at block g: over these bytes (which lie below block H), at a place, with an error. -/
def RefAt (w : World) (H g : Nat) (bs : List UInt8) (k : Nat) (bad : Int) : Prop :=
  ∃ A c, Has w g 60 #[.slice A bs.length c, .int .i64 (k : Int), .int .i64 bad] ∧ bs.length ≤ c ∧ c ≤ maxLen ∧ Rd w 0 H A bs ∧ H ≤ g ∧ k ≤ bs.length

theorem RefAt.only {a b : World} {S : Nat → Prop} {H g k : Nat} {bs : List UInt8} {bad : Int} (h : RefAt a H g bs k bad) (q : Only S a b) (hg : ¬ S g) (hn : ∀ i, i < H → ¬ S i) : RefAt b H g bs k bad := by
  obtain ⟨A, c, h1, h2, h3, h4, h5, h6⟩ := h
  exact ⟨A, c, h1.only q hg, h2, h3, h4.only q (by have := h1.lt; omega) (fun i _ hi => hn i hi), h5, h6⟩

theorem RefAt.lt {a : World} {H g k : Nat} {bs : List UInt8} {bad : Int} (h : RefAt a H g bs k bad) : g < a.heap.size := by
  obtain ⟨A, c, h1, _⟩ := h
  exact h1.lt

def refT (n : Int) (bs : List UInt8) (k : Nat) (bad : Int) : Nat × Nat × Int :=
  if bad ≠ 0 then (0, k, bad) else if n < 1 ∨ 8 < n then (0, k, 1) else if (bs.length : Int) - k < n then (0, k, 4) else (le ((bs.drop k).take n.toNat), k + n.toNat, 0)
def refR (n : Int) (bs : List UInt8) (k : Nat) (bad : Int) : List UInt8 × Nat × Int :=
  if bad ≠ 0 then ([], k, bad) else if n < 0 then ([], k, 1) else if (bs.length : Int) - k < n then ([], k, 4) else ((bs.drop k).take n.toNat, k + n.toNat, 0)

def RefTook (w : World) (H g : Nat) (bs : List UInt8) (st : Nat × Nat × Int) (e : Ending) (w' : World) : Prop :=
  e = .returned (.int .u64 st.1) ∧ RefAt w' H g bs st.2.1 st.2.2 ∧ Only (fun i => i = g) w w'
def RefRaw (w : World) (H g : Nat) (bs : List UInt8) (st : List UInt8 × Nat × Int) (e : Ending) (w' : World) : Prop :=
  ∃ u, e = .returned u ∧ w'.ownsRow w.heap.size 5 1 u st.1.length (b8s st.1) ∧ RefAt w' H g bs st.2.1 st.2.2 ∧ Only (fun i => i = g) w w'

/-- An error set. -/
theorem ref_sets {w : World} {H g k : Nat} {bs : List UInt8} {bad : Int} (e : Int) (h : RefAt w H g bs k bad) (n : Nat) :
    RefAt ((w.drewN n).setCell ⟨g, 2, none⟩ (.int .i64 e)) H g bs k e ∧ Only (fun i => i = g) w ((w.drewN n).setCell ⟨g, 2, none⟩ (.int .i64 e)) := by
  obtain ⟨A, c, h1, h2, h3, h4, h5, h6⟩ := h
  have q : Only (fun i => i = g) w ((w.drewN n).setCell ⟨g, 2, none⟩ (.int .i64 e)) := ((Only.refl (fun i => i = g) w).drewN n).setCell (p := ⟨g, 2, none⟩) (fun _ => rfl) _
  exact ⟨⟨A, c, h1.set 2 _, h2, h3, h4.only q (by have := h1.lt; omega) (fun i _ hi h => by omega), h5, h6⟩, q⟩

set_option maxHeartbeats 400000 in
theorem refleft_any (H g k : Nat) (bs : List UInt8) (bad : Int) (w : World) (h : RefAt w H g bs k bad) :
    Calls Tryz.prog 21 #[.pointer (some ⟨g, 0, none⟩)] w fun e w' => e = .returned (.int .i64 (if bad ≠ 0 then 0 else (bs.length : Int) - k)) ∧ ∃ n, w' = w.drewN n := by
  obtain ⟨A, c, h1, h2, h3, h4, h5, h6⟩ := h
  have c0 := h1.cell 0
  have c1 := h1.cell 1
  have c2 := h1.cell 2
  simp at c0 c1 c2
  simp only [maxLen] at h3
  clear h1 h4
  by_cases hb : bad = 0
  · subst hb
    simp only [ne_eq, not_true_eq_false, if_false]
    go_enter Tryz.func21, Tryz.ntmps21
    go_wp2
    go_quiet (fail)
    go_wp2
    go_ret
    exact ⟨rfl, nq, rfl⟩
  · have hb' : (bad != 0) = true := by simpa using hb
    rw [if_pos hb]
    go_enter Tryz.func21, Tryz.ntmps21
    go_wp2
    go_ret
    exact ⟨rfl, 0, rfl⟩

set_option maxHeartbeats 1000000 in
theorem reftake_any (H g k : Nat) (n : Int) (bs : List UInt8) (bad : Int) (w : World) (h : RefAt w H g bs k bad) :
    Calls Tryz.prog 18 #[.pointer (some ⟨g, 0, none⟩), .int .i64 n] w (RefTook w H g bs (refT n bs k bad)) := by
  have HA := Lib.hid h
  obtain ⟨A, c, h1, h2, h3, h4, h5, h6⟩ := h
  have c0 := h1.cell 0
  have c1 := h1.cell 1
  have c2 := h1.cell 2
  have f1 := h1.frozen 1
  have f2 := h1.frozen 2
  simp at c0 c1 c2
  simp only [maxLen] at h3
  have H1 := Lib.hid h1
  have H4 := Lib.hid h4
  clear h1 h4
  by_cases hb : bad = 0
  · subst hb
    by_cases hn : n < 1 ∨ 8 < n
    · have R : Hid (RefTook w H g bs (refT n bs k 0) (.returned (.int .u64 0)) (w.setCell ⟨g, 2, none⟩ (.int .i64 1))) := by
        rw [refT, if_neg (by simp), if_pos hn]
        exact ⟨rfl, ref_sets 1 HA.out 0⟩
      by_cases hn1 : n < 1
      · clear hn HA H1 H4
        go_enter Tryz.func18, Tryz.ntmps18
        go_wp2
        go_ret
        exact R.out
      · have hn2 : 8 < n := by omega
        have hn3 : 1 ≤ n := by omega
        clear hn HA H1 H4
        go_enter Tryz.func18, Tryz.ntmps18
        go_wp2
        go_ret
        exact R.out
    · obtain ⟨m, rfl⟩ : ∃ m : Nat, n = (m : Int) := ⟨n.toNat, by omega⟩
      have m1 : 1 ≤ m := by omega
      have m8 : m ≤ 8 := by omega
      by_cases hs : (bs.length : Int) - k < m
      · have R : ∀ q, Hid (RefTook w H g bs (refT m bs k 0) (.returned (.int .u64 0)) ((w.drewN q).setCell ⟨g, 2, none⟩ (.int .i64 4))) := by
          intro q
          rw [refT, if_neg (by simp), if_neg hn, if_pos hs]
          exact ⟨rfl, ref_sets 4 HA.out q⟩
        have RR := Lib.hid R
        have hd : decide ((bs.length : Int) - k < m) = true := decide_eq_true hs
        clear hn HA R H1 H4
        go_enter Tryz.func18, Tryz.ntmps18
        go_wp2
        go_quiet (fail)
        go_wp2
        go_ret
        exact (RR.out nq).out
      · obtain ⟨l, hl⟩ : ∃ l, l = (bs.drop k).take m := ⟨_, rfl⟩
        have hll : l.length = m := by rw [hl, List.length_take, List.length_drop]; omega
        have R : ∀ q, Hid (RefTook w H g bs (refT m bs k 0) (.returned (.int .u64 (le l))) ((w.drewN q).setCell ⟨g, 1, none⟩ (.int .i64 ((k : Int) + m)))) := by
          intro q
          rw [refT, if_neg (by simp), if_neg hn, if_neg hs]
          simp only [Int.toNat_natCast]
          have q1 : Only (fun i => i = g) w ((w.drewN q).setCell ⟨g, 1, none⟩ (.int .i64 ((k : Int) + m))) := ((Only.refl (fun i => i = g) w).drewN q).setCell (p := ⟨g, 1, none⟩) (fun _ => rfl) _
          refine ⟨by rw [hl], ⟨A, c, ?_, h2, h3, H4.out.only q1 (by have := H1.out.lt; omega) (fun i _ hi h => by omega), h5, by show k + m ≤ bs.length; omega⟩, q1⟩
          have hq : Has (w.drewN q) g 60 _ := H1.out
          have := hq.set 1 (.int .i64 ((k : Int) + m))
          simpa using this
        have RR := Lib.hid R
        have hd : decide ((bs.length : Int) - k < m) = false := decide_eq_false hs
        obtain ⟨ad, rfl, _, _, hcells⟩ := H4.out (by omega)
        have HC := Lib.hid hcells
        have HL := Lib.hid hl
        have HN := Lib.hid hll
        clear hn HA R H1 H4 hcells hl hll
        go_enter Tryz.func18, Tryz.ntmps18
        go_wp2
        go_quiet (fail)
        go_wp2
        go_loopw [5, 6] (fun v i wr => ∃ j V q : Nat, j ≤ m ∧ i = .int .i64 j ∧ v = .int .u64 V ∧ Hid (V = le (l.take j)) ∧ wr = w.drewN q) (fun _ i _ => m - (intOf i).toNat)
        case atStart => exact ⟨0, 0, nq, Nat.zero_le _, rfl, rfl, by simp [Hid, le], rfl⟩
        case round =>
          obtain ⟨j, V, q, hj, rfl, rfl, hV, rfl⟩ := hrel
          by_cases hlt : j < m
          · have hjl : j < l.length := by rw [HN.out]; omega
            obtain ⟨cb, hcb⟩ : ∃ cb, cb = l[j] := ⟨_, rfl⟩
            have hcell : w.cell? (ad.add (k + j)) = some (.int .u8 (cb.toNat : Int)) := by
              refine HC.out (k + j) _ ?_
              have e1 : l[j] = bs[k + j] := by
                have := HL.out
                subst this
                simp
              rw [b8s_get (show k + j < bs.length by omega), hcb, e1]
              rfl
            have hY := or_byte V j cb (by omega) (by
              have := le_lt (l.take j)
              rw [List.length_take, Nat.min_eq_left (by omega), ← hV.out] at this
              exact this)
            have hN : Hid (V + cb.toNat * 256 ^ j = le (l.take (j + 1))) := by
              show _ = _
              rw [List.take_succ_eq_append_getElem hjl, le_snoc, List.length_take, Nat.min_eq_left (by omega), ← hV.out, ← hcb]
            obtain ⟨V', hV'⟩ : ∃ V', V' = V + cb.toNat * 256 ^ j := ⟨_, rfl⟩
            rw [← hV'] at hY hN
            have i0 : (0 : Int) ≤ (k : Int) + (j : Int) := by omega
            have i1 : (k : Int) + (j : Int) < (bs.length : Int) := by omega
            have hwu : IntKind.u64.wrap (cb.toNat : Int) = (cb.toNat : Int) := IntWalk.u64_in _ (by have := cb.toNat_lt; omega)
            have hwk : IntKind.i64.wrap ((k : Int) + (j : Int)) = (k : Int) + (j : Int) := IntWalk.i64_in _ (by omega)
            have hwt : ((k : Int) + (j : Int)).toNat = k + j := by omega
            have hw8 : IntKind.i64.wrap (8 * (j : Int)) = 8 * (j : Int) := IntWalk.i64_in _ (by omega)
            have hw9 : IntKind.u64.wrap (8 * (j : Int)) = 8 * (j : Int) := IntWalk.u64_in _ (by omega)
            clear hV' hcb hjl hV
            go_wp2
            go_quiet (fail)
            go_wp2
            go_roundw
            case rel => exact ⟨j + 1, V', _, by omega, by go_num, rfl, hN, rfl⟩
            case measure => simp [intOf]; omega
          · have : j = m := by omega
            subst this
            have e1 : V = le l := by rw [hV.out, List.take_of_length_le (by rw [HN.out]; omega)]
            subst e1
            have hwk : IntKind.i64.wrap ((k : Int) + (j : Int)) = (k : Int) + (j : Int) := IntWalk.i64_in _ (by omega)
            clear HC HL HN hV
            go_wp2
            go_ret
            exact (RR.out q).out
  · have hb' : (bad != 0) = true := by simpa using hb
    have R : Hid (RefTook w H g bs (refT n bs k bad) (.returned (.int .u64 0)) w) := by
      rw [refT, if_pos hb]
      exact ⟨rfl, HA.out, Only.refl _ _⟩
    clear HA H1 H4
    go_enter Tryz.func18, Tryz.ntmps18
    go_wp2
    go_ret
    exact R.out
end Go.Proofs.YtepiifbleoimkaaGreatDoor
