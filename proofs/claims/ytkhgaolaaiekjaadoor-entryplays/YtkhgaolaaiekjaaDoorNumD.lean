/-
  Package num: what takes from an In: next, and the two functions that are handed to guard.
-/
import Derived.Test.YtkhgaolaaiekjaaDoorNumC
namespace Go.Proofs.YtkhgaolaaiekjaaDoor
open Go.RowKit

/-- The bytes that are taken, and what becomes of the In. -/
def NextStep (w : World) (lo g : Nat) (bs : List UInt8) (n : Nat) (e : Ending) (w' : World) : Prop :=
  ∃ v, e = .returned v ∧ SlIs w' lo g v (bs.take n) ∧ InAt w' lo g (bs.drop n) 0 ∧ Only (fun i => i = g) w w'

set_option maxHeartbeats 400000 in
theorem next_no (lo g : Nat) (bs : List UInt8) (n : Int) (w : World) (h : InAt w lo g bs 0) (hn : (bs.length : Int) < n) :
    Calls Tryd.prog 53 #[.pointer (some ⟨g, 0, none⟩), .int .i64 n] w fun e w' => e = .panicked [{ v := .iface 26 (.int .i64 4), recovered := false }] ∧ w = w' := by
  obtain ⟨A, c, h1, h2, h3, h4, h5⟩ := h
  have hc := h1.cell 0
  simp at hc
  have hd : decide (n ≤ (bs.length : Int)) = false := decide_eq_false (by omega)
  clear h1 h4
  go_enter Tryd.func53, Tryd.ntmps53
  go_wp2_with fail
  refine (must_no 4 w).mono ?_
  rintro e w' ⟨rfl, rfl⟩
  go_wp2
  exact ⟨rfl, rfl, rfl⟩

theorem next_fin {lo g n c : Nat} {A D : Option Addr} {bs : List UInt8} {w : World} (h1 : Has w g 83 #[.slice A bs.length c, .int .i64 0]) (h4 : Rd w lo g A bs) (h2 : bs.length ≤ c) (h3 : c ≤ 2 ^ 63 - 1)
    (h5 : lo ≤ g) (hn : n ≤ bs.length) (hD : D = if c = n then A else A.map (·.add n)) :
    NextStep w lo g bs n (.returned (.slice A n c)) (w.setCell ⟨g, 0, none⟩ (.slice D (bs.length - n) (c - n))) := by
  have k0 : Only (fun i => i = g) w (w.setCell ⟨g, 0, none⟩ (.slice D (bs.length - n) (c - n))) := (Only.refl (fun i => i = g) w).setCell (p := ⟨g, 0, none⟩) (fun _ => rfl) _
  have hr := h4.only k0 (Nat.le_of_lt h1.lt) (fun i _ hi h => by omega)
  refine ⟨_, rfl, ⟨A, c, ?_, ?_, h3, hr.take n⟩, ⟨D, c - n, ?_, ?_, ?_, ?_, h5⟩, k0⟩
  · rw [List.length_take, Nat.min_eq_left hn]
  · rw [List.length_take]; omega
  · rw [List.length_drop]
    exact h1.set 0 _
  · rw [List.length_drop]; omega
  · simp only [maxLen]; omega
  · have hd := hr.drop hn h2
    rw [← hD] at hd
    exact hd

set_option maxHeartbeats 400000 in
theorem next_yes (lo g : Nat) (bs : List UInt8) (n : Nat) (w : World) (h : InAt w lo g bs 0) (hn : n ≤ bs.length) :
    Calls Tryd.prog 53 #[.pointer (some ⟨g, 0, none⟩), .int .i64 (n : Int)] w (NextStep w lo g bs n) := by
  obtain ⟨A, c, h1, h2, h3, h4, h5⟩ := h
  have hc := h1.cell 0
  have hf := h1.frozen 0
  simp at hc
  have hd : decide ((n : Int) ≤ (bs.length : Int)) = true := decide_eq_true (by omega)
  have hd2 : decide (n ≤ bs.length) = true := decide_eq_true (by omega)
  simp only [maxLen] at h3
  have H1 := Lib.hid h1
  have H4 := Lib.hid h4
  clear h1 h4
  go_enter Tryd.func53, Tryd.ntmps53
  go_wp2_with fail
  refine (must_yes 4 w).mono ?_
  rintro e w' ⟨rfl, rfl⟩
  go_wp2
  · have h : c = n := by assumption
    go_ret
    have R := next_fin H1.out H4.out h2 h3 h5 hn (D := A) (by rw [if_pos h])
    subst h
    simpa using R
  · have h : ¬ c = n := by assumption
    go_ret
    exact next_fin H1.out H4.out h2 h3 h5 hn (by rw [if_neg h])

/-- One byte more, as the machine reckons it. -/
theorem or_byte (V k : Nat) (c : UInt8) (hk : k < 8) (hV : V < 256 ^ k) :
    bits .or .u64 (V : Int) (IntKind.u64.wrap ((c.toNat : Int) * 2 ^ (8 * k))) = ((V + c.toNat * 256 ^ k : Nat) : Int) := by
  have hc := c.toNat_lt
  have hb : c.toNat * 256 ^ k < 18446744073709551616 := by
    have h1 : c.toNat * 256 ^ k < 256 * 256 ^ k := Nat.mul_lt_mul_of_pos_right (by omega) (Nat.pow_pos (by omega))
    have h2 : 256 * 256 ^ k = 256 ^ (k + 1) := by rw [Nat.pow_succ, Nat.mul_comm]
    have h3 : 256 ^ (k + 1) ≤ 256 ^ 8 := Nat.pow_le_pow_right (by omega) (by omega)
    omega
  have h2 : ((c.toNat : Int) * 2 ^ (8 * k)) = ((c.toNat * 256 ^ k : Nat) : Int) := by rw [pow8]; simp
  rw [h2, IntWalk.u64_in _ (by omega)]
  have hV2 : V < 18446744073709551616 := by
    have h3 : 256 ^ k ≤ 256 ^ 7 := Nat.pow_le_pow_right (by omega) (by omega)
    omega
  rw [u64_or_nat _ _ hV2 hb, Nat.or_comm, nat_join (8 * k) _ _ (by rw [pow8]; exact Nat.mul_mod_left _ _) (by rw [← pow8]; exact hV), Nat.add_comm]

/-- What a take's function leaves: its variable, the In. -/
def TookStep (w : World) (lo g vb : Nat) (t : TypeId) (r : World → Value → Prop) (bs' : List UInt8) (e : Ending) (w' : World) : Prop :=
  ∃ u, e = .returned (.tuple #[]) ∧ Has w' vb t #[u] ∧ r w' u ∧ InAt w' lo g bs' 0 ∧ Only (fun i => i = g ∨ i = vb) w w'

set_option maxHeartbeats 400000 in
theorem take1_arg (nb ib vb : Nat) (n : Int) (w : World) (hn : Has w nb 3 #[.int .i64 n]) (h : n < 1 ∨ 8 < n) :
    Calls Tryd.prog 52 #[.pointer (some ⟨nb, 0, none⟩), .pointer (some ⟨ib, 0, none⟩), .pointer (some ⟨vb, 0, none⟩)] w fun e w' => e = .panicked [{ v := .iface 26 (.int .i64 1), recovered := false }] ∧ w = w' := by
  have hc := hn.cell 0
  simp at hc
  have H := Lib.hid h
  clear hn h
  go_enter Tryd.func52, Tryd.ntmps52
  go_wp2_with fail
  refine (width_no n w H.out).mono ?_
  rintro e w' ⟨rfl, rfl⟩
  go_wp2_with fail
  refine (must_no 1 w).mono ?_
  rintro e w' ⟨rfl, rfl⟩
  go_wp2
  exact ⟨rfl, rfl, rfl⟩

set_option maxHeartbeats 400000 in
theorem take1_short (lo g nb ib vb : Nat) (n : Int) (bs : List UInt8) (w : World) (hn : Has w nb 3 #[.int .i64 n]) (hi : Has w ib 65 #[.pointer (some ⟨g, 0, none⟩)]) (hI : InAt w lo g bs 0)
    (h1 : 1 ≤ n) (h2 : n ≤ 8) (h3 : (bs.length : Int) < n) :
    Calls Tryd.prog 52 #[.pointer (some ⟨nb, 0, none⟩), .pointer (some ⟨ib, 0, none⟩), .pointer (some ⟨vb, 0, none⟩)] w fun e w' => e = .panicked [{ v := .iface 26 (.int .i64 4), recovered := false }] ∧ w = w' := by
  have hc := hn.cell 0
  have hc2 := hi.cell 0
  simp at hc hc2
  have H := Lib.hid hI
  clear hn hi hI
  go_enter Tryd.func52, Tryd.ntmps52
  go_wp2_with fail
  refine (width_yes n w h1 h2).mono ?_
  rintro e w' ⟨rfl, rfl⟩
  go_wp2_with fail
  refine (must_yes 1 w).mono ?_
  rintro e w' ⟨rfl, rfl⟩
  go_wp2_with fail
  refine (next_no lo g bs n w H.out h3).mono ?_
  rintro e w' ⟨rfl, rfl⟩
  go_wp2
  exact ⟨rfl, rfl, rfl⟩

def TakeInv (vb : Nat) (l : List UInt8) (w : World) (k : Nat) (wr : World) : Prop :=
  Has wr vb 53 #[.int .u64 (le (l.take k))] ∧ Only (fun i => i = vb) w wr

set_option maxHeartbeats 1000000 in
theorem take1_ok (lo g nb ib vb n : Nat) (bs : List UInt8) (w : World) (hn : Has w nb 3 #[.int .i64 (n : Int)]) (hi : Has w ib 65 #[.pointer (some ⟨g, 0, none⟩)]) (hv : Has w vb 53 #[.int .u64 0]) (hI : InAt w lo g bs 0)
    (hgv : g < vb) (h1 : 1 ≤ n) (h2 : n ≤ 8) (h3 : n ≤ bs.length) :
    Calls Tryd.prog 52 #[.pointer (some ⟨nb, 0, none⟩), .pointer (some ⟨ib, 0, none⟩), .pointer (some ⟨vb, 0, none⟩)] w
      (TookStep w lo g vb 53 (fun _ u => u = .int .u64 (le (bs.take n))) (bs.drop n)) := by
  have hc := hn.cell 0
  have hc2 := hi.cell 0
  simp at hc hc2
  have H := Lib.hid hI
  have HV := Lib.hid hv
  clear hn hi hI hv
  go_enter Tryd.func52, Tryd.ntmps52
  go_wp2_with fail
  refine (width_yes n w (by omega) (by omega)).mono ?_
  rintro e w' ⟨rfl, rfl⟩
  go_wp2_with fail
  refine (must_yes 1 w).mono ?_
  rintro e w' ⟨rfl, rfl⟩
  go_wp2_with fail
  refine (next_yes lo g bs n w H.out h3).mono ?_
  rintro e w1 ⟨v, rfl, hs, hI1, hO⟩
  obtain ⟨A, c, rfl, hlc, hcm, hr⟩ := hs
  have hlen : (bs.take n).length = n := by rw [List.length_take]; omega
  rw [hlen] at hlc
  rw [hlen]
  obtain ⟨l, hl⟩ : ∃ l, l = bs.take n := ⟨_, rfl⟩
  rw [← hl] at hr hlen
  obtain ⟨ad, rfl, hlo, hhi, hcells⟩ := hr (by omega)
  have HR := Lib.hid hr
  have HI1 := Lib.hid hI1
  have HO1 := Lib.hid hO
  have HL := Lib.hid hl
  have HN := Lib.hid hlen
  have H0 : Hid (TakeInv vb l w1 0 w1) := ⟨HV.out.only hO (by omega), Only.refl _ _⟩
  have hvlt := HV.out.lt
  have hsz := hO.size
  clear hr hI1 hO hl hlen hcells H HV
  go_wp2
  go_loopw [12] (fun i wr => ∃ k : Nat, k ≤ n ∧ i = .int .i64 k ∧ Hid (TakeInv vb l w1 k wr)) (fun i _ => n - (intOf i).toNat)
  case atStart => exact ⟨0, Nat.zero_le _, rfl, H0⟩
  case round =>
    obtain ⟨k, hk, rfl, hrel⟩ := hrel
    clear H0
    by_cases hlt : k < n
    · obtain ⟨hv1, hO2⟩ := hrel.out
      have hll := HN.out
      have hkl : k < l.length := by omega
      obtain ⟨ad', had, _, _, hcell⟩ := HR.out.at hkl
      obtain ⟨V, hV⟩ : ∃ V, V = le (l.take k) := ⟨_, rfl⟩
      obtain ⟨cb, hcb⟩ : ∃ cb, cb = l[k] := ⟨_, rfl⟩
      rw [← hcb] at hcell
      injection had with had
      subst had
      have hY := or_byte V k cb (by omega) (by
        have := le_lt (l.take k)
        rw [List.length_take, Nat.min_eq_left (by omega), ← hV] at this
        exact this)
      have hw1 : ad.block < w1.heap.size := World.block_lt_of_cell? w1 (ad.add k) hcell |> fun h => by rw [addr_block] at h; exact h
      have hcw : wr.cell? (ad.add k) = some (.int .u8 (cb.toNat : Int)) := (hO2.cell (by rw [addr_block]; exact hw1) (by rw [addr_block]; omega)).trans hcell
      rw [← hV] at hv1
      have hvc := hv1.cell 0
      have hvf := hv1.frozen 0
      simp at hvc
      have R : Hid (TakeInv vb l w1 (k + 1) ((wr.setCell ⟨vb, 0, none⟩ (.int .u64 ((V + cb.toNat * 256 ^ k : Nat) : Int))).drew)) := by
        refine ⟨?_, (hO2.setCell (p := ⟨vb, 0, none⟩) (fun _ => rfl) _).drew⟩
        have e1 : le (l.take (k + 1)) = V + cb.toNat * 256 ^ k := by
          rw [List.take_succ_eq_append_getElem hkl, le_snoc, List.length_take, Nat.min_eq_left (by omega), ← hV, ← hcb]
        rw [e1]
        exact (hv1.set 0 _).drew
      obtain ⟨V', hV'⟩ : ∃ V', V' = V + cb.toNat * 256 ^ k := ⟨_, rfl⟩
      rw [← hV'] at hY R
      have i0 : (0 : Int) ≤ (k : Int) := Int.natCast_nonneg _
      have i1 : (k : Int) < (n : Int) := by omega
      have hwu : IntKind.u64.wrap (cb.toNat : Int) = (cb.toNat : Int) := IntWalk.u64_in _ (by have := cb.toNat_lt; omega)
      clear hv1 hO2 hrel hcell hV hcb hV' hkl hw1 hll HR HI1 HO1 HL HN
      go_wp2
      go_region
      all_goals
        go_wp2
        go_roundw
        case rel => exact ⟨k + 1, by omega, by go_num, R⟩
        case measure => simp [intOf]; omega
    · have : k = n := by omega
      subst this
      obtain ⟨hv1, hO2⟩ := hrel.out
      have R : Hid (TookStep w lo g vb 53 (fun _ u => u = .int .u64 (le (bs.take k))) (bs.drop k) (.returned (.tuple #[])) wr) := by
        refine ⟨_, rfl, hv1, ?_, HI1.out.only hO2 (fun i _ hi h => by omega), ?_⟩
        · rw [List.take_of_length_le (i := k) (l := l) (by rw [HN.out]; omega), HL.out]
        · exact (HO1.out.mono fun i _ h => .inl h).trans hO2 (fun i _ h => .inr h)
      clear hv1 hO2 hrel HR HI1 HO1 HL HN
      go_wp2
      go_end0
      exact R.out
end Go.Proofs.YtkhgaolaaiekjaaDoor
