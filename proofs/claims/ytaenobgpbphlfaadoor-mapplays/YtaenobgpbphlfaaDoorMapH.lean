/-
  Package bitmap: Load.
-/
import Derived.Test.YtaenobgpbphlfaaDoorMapG
namespace Go.Proofs.YtaenobgpbphlfaaDoor
open Go.RowKit Go.Lib
set_option maxRecDepth 100000

/-- While a map is being loaded. -/
structure LAt (w1 : World) (g gw cw n m : Nat) (bs : List UInt8) (k : Nat) (ws : List Nat) (wr : World) : Prop where
  has : Has wr g 49 #[.int .i64 (n : Int), .slice (some ⟨gw, 0, none⟩) m cw]
  row : WRow wr gw cw ws
  part : Part bs m k ws
  low : Only (fun i => i = gw) w1 wr
def LInv (w1 : World) (g gw cw n m : Nat) (bs : List UInt8) (k : Nat) (wr : World) : Prop := ∃ ws, LAt w1 g gw cw n m bs k ws wr
theorem LAt.step {w1 wr : World} {g gw cw n m : Nat} {bs : List UInt8} {k : Nat} {ws : List Nat} (h : LAt w1 g gw cw n m bs k ws wr) (hne : g ≠ gw) (hk : k / 8 < m) :
    LInv w1 g gw cw n m bs (k + 1) (wr.setCell ⟨gw, k / 8, none⟩ (.int .u64 ((ws.getD (k / 8) 0 ||| (bs.getD k 0).toNat * 2 ^ (k % 8 * 8) : Nat) : Int))).drew :=
  have hs : Only (fun j => j = gw) wr (wr.setCell ⟨gw, k / 8, none⟩ (.int .u64 ((ws.getD (k / 8) 0 ||| (bs.getD k 0).toNat * 2 ^ (k % 8 * 8) : Nat) : Int))) := (Only.refl (fun j => j = gw) wr).setCell (p := ⟨gw, k / 8, none⟩) (fun _ => rfl) _
  have q1 := h.has.only hs (fun e => hne e)
  have q2 := h.row.set (k / 8) (ws.getD (k / 8) 0 ||| (bs.getD k 0).toNat * 2 ^ (k % 8 * 8))
  ⟨_, q1, q2, h.part.step hk, (h.low.trans hs (fun _ _ h => h)).drew⟩
theorem LAt.done {w w1 wr : World} {g gw cw n m : Nat} {bs : List UInt8} {ws : List Nat} (h : LAt w1 g gw cw n m bs bs.length ws wr) (hm : m = (n + 63) / 64) (hmay : mayMap bs n) (h1 : 1 ≤ n) (h2 : n ≤ 65536) (hb : Below w.heap.size w w1) (hg : w.heap.size ≤ g) (hw : w.heap.size ≤ gw) :
    Born w (marksOf bs n) ws (.pointer (some ⟨g, 0, none⟩)) wr := by
  have hl : (marksOf bs n).length = n := by simp [marksOf]
  refine ⟨g, gw, cw, rfl, ⟨?_, h.row, (hm ▸ h.part).done hmay h1, by rw [hl]; exact h1, by rw [hl]; exact h2⟩, hg, hw, hb.trans (h.low.below (by have := hb.size; omega) (fun i hi e => by omega))⟩
  · rw [hl, h.part.len]
    exact h.has
theorem or_shl (x v c : Nat) (hx : x < 18446744073709551616) (hv : v < 256) (hc : c ≤ 56) : bits .or .u64 (x : Int) (IntKind.u64.wrap ((v : Int) * 2 ^ c)) = ((x ||| v * 2 ^ c : Nat) : Int) := by
  have h1 := shl_lt v c hv hc
  have e : (v : Int) * 2 ^ c = ((v * 2 ^ c : Nat) : Int) := by simp
  rw [e, wrap_in _ h1, u64_or_nat _ _ hx h1]
theorem last_bits (v d : Nat) : ((v : Int) / 2 ^ d != 0) = decide (v / 2 ^ d ≠ 0) := by
  have e : (v : Int) / 2 ^ d = ((v / 2 ^ d : Nat) : Int) := by simp
  rw [e]
  by_cases h : v / 2 ^ d = 0
  · rw [h]
    rfl
  · rw [decide_eq_true h]
    simp only [bne_iff_ne, ne_eq]
    omega
def NoForm (w : World) (e : Ending) (w' : World) : Prop := e = .returned (.tuple #[.pointer none, .int .i64 2]) ∧ Below w.heap.size w w'
section
variable (lo hi' : Nat) (x : Value) (bs : List UInt8) (w : World) (hx : SlIs w lo hi' x bs)
include hx
set_option maxHeartbeats 1000000 in
theorem load_no (n : Int) (hn : n < 1 ∨ 65536 < n) : Calls Tryd.prog 15 #[x, .int .i64 n] w fun e w' => e = .returned (.tuple #[.pointer none, .int .i64 1]) ∧ w = w' := by
  obtain ⟨A, c, rfl, _⟩ := hx
  have C := Lib.hid (new_no n hn w)
  clear hn
  go_enter Tryd.func15, Tryd.ntmps15
  go_wp2_with fail
  refine C.out.mono ?_
  rintro e w' ⟨rfl, rfl⟩
  go_wp2
  go_ret2
  exact ⟨rfl, rfl⟩
set_option maxHeartbeats 1000000 in
theorem load_form1 (n : Nat) (h1 : 1 ≤ n) (h2 : n ≤ 65536) (hl : bs.length ≠ (n + 7) / 8) : Calls Tryd.prog 15 #[x, .int .i64 (n : Int)] w (NoForm w) := by
  obtain ⟨A, c, rfl, _⟩ := hx
  have C := Lib.hid (new_yes n h1 h2 w)
  have CU : Hid (∀ W, Calls Tryd.prog 19 #[.int .i64 (n : Int), .int .i64 8] W fun e w' => e = .returned (.int .i64 (((n + 7) / 8 : Nat) : Int)) ∧ W = w') := Lib.hid (fun W => by
    have := upwards_any n 8 (by omega) (by decide) (by decide) W
    rwa [show (n + 8 - 1) / 8 = (n + 7) / 8 by omega] at this)
  obtain ⟨m, hm⟩ : ∃ m, m = (n + 7) / 8 := ⟨_, rfl⟩
  rw [← hm] at CU hl
  have e1 : IntKind.i64.wrap ((m : Int) - 1) = (m : Int) - 1 := IntWalk.i64_in _ (by omega)
  have hm1 : m ≤ 8192 := by omega
  have d1 : ((bs.length : Int) != (m : Int)) = true := by simp; omega
  have d2 : ((bs.length : Int) == (m : Int)) = false := by simp; omega
  clear hm hl
  go_enter Tryd.func15, Tryd.ntmps15
  go_wp2_with fail
  refine C.out.mono ?_
  rintro e w1 ⟨v, rfl, b1⟩
  obtain ⟨g, gw, cw, rfl, _, _, _, b1⟩ := b1
  have R : Hid (NoForm w (.returned (.tuple #[.pointer none, .int .i64 2])) w1) := Lib.hid ⟨rfl, b1⟩
  clear b1 C
  go_wp2_with fail
  refine (CU.out _).mono ?_
  rintro e w' ⟨rfl, rfl⟩
  clear CU
  go_wp2
  go_ret2
  exact R.out
set_option maxHeartbeats 1000000 in
theorem load_form2 (n : Nat) (h1 : 1 ≤ n) (h2 : n ≤ 65536) (hl : bs.length = (n + 7) / 8) (hno : (bs.getD ((n + 7) / 8 - 1) 0).toNat / 2 ^ (n - ((n + 7) / 8 - 1) * 8) ≠ 0) : Calls Tryd.prog 15 #[x, .int .i64 (n : Int)] w (NoForm w) := by
  obtain ⟨A, c, rfl, _, _, hr⟩ := hx
  have C := Lib.hid (new_yes n h1 h2 w)
  have CU : Hid (∀ W, Calls Tryd.prog 19 #[.int .i64 (n : Int), .int .i64 8] W fun e w' => e = .returned (.int .i64 (((n + 7) / 8 : Nat) : Int)) ∧ W = w') := Lib.hid (fun W => by
    have := upwards_any n 8 (by omega) (by decide) (by decide) W
    rwa [show (n + 8 - 1) / 8 = (n + 7) / 8 by omega] at this)
  obtain ⟨ad, rfl, _, _, hcell⟩ := hr.at (k := (n + 7) / 8 - 1) (by omega)
  rw [← getD_in bs 0 _ (by omega)] at hcell
  have hv := (bs.getD ((n + 7) / 8 - 1) 0).toNat_lt
  have hblk := World.block_lt_of_cell? w _ hcell
  generalize (bs.getD ((n + 7) / 8 - 1) 0) = v at *
  obtain ⟨q, hq⟩ : ∃ q, q = (n + 7) / 8 - 1 := ⟨_, rfl⟩
  have hq1 : q ≤ 8191 ∧ q * 8 < n ∧ n ≤ q * 8 + 8 ∧ bs.length = q + 1 := by omega
  rw [← hq] at hno hcell hblk
  have dv : ((v.toNat : Int) / 2 ^ (n - q * 8) != 0) = true := (last_bits _ _).trans (decide_eq_true hno)
  have hcl : Hid (∀ W, Below w.heap.size w W → W.cell? (ad.add q) = some (.int .u8 (v.toNat : Int))) := Lib.hid (fun W b => (b.cell hblk).trans hcell)
  have CU2 : Hid (∀ W, Calls Tryd.prog 19 #[.int .i64 (n : Int), .int .i64 8] W fun e w' => e = .returned (.int .i64 ((q : Int) + 1)) ∧ W = w') := Lib.hid (fun W => by
    have := CU.out W
    rwa [show (((n + 7) / 8 : Nat) : Int) = (q : Int) + 1 by omega] at this)
  obtain ⟨hq2, hq3, hq4, hq5⟩ := hq1
  have d1 : ((bs.length : Int) != (q : Int) + 1) = false := by simp; omega
  have d2 : ((bs.length : Int) == (q : Int) + 1) = true := by simp; omega
  have i1 : (q : Int) < (bs.length : Int) := by omega
  have i2 : (0 : Int) ≤ (q : Int) := by omega
  clear hq hq5 hcell hblk CU hl hr hno
  go_enter Tryd.func15, Tryd.ntmps15
  go_wp2_with fail
  refine C.out.mono ?_
  rintro e w1 ⟨v', rfl, b1⟩
  obtain ⟨g, gw, cw, rfl, _, _, _, b1⟩ := b1
  have R : Hid (NoForm w (.returned (.tuple #[.pointer none, .int .i64 2])) w1) := Lib.hid ⟨rfl, b1⟩
  have cc := hcl.out w1 b1
  clear b1 C hcl
  go_wp2_with fail
  refine (CU2.out _).mono ?_
  rintro e w' ⟨rfl, rfl⟩
  clear CU2
  go_wp2
  go_ret2
  exact R.out
/-- What is loaded. -/
def Loaded (w : World) (L : List Bool) (e : Ending) (w' : World) : Prop := ∃ v ws, e = .returned (.tuple #[v, .int .i64 0]) ∧ Born w L ws v w'
set_option maxHeartbeats 2000000 in
theorem load_yes (n : Nat) (h1 : 1 ≤ n) (h2 : n ≤ 65536) (hmay : mayMap bs n) : Calls Tryd.prog 15 #[x, .int .i64 (n : Int)] w (Loaded w (marksOf bs n)) := by
  obtain ⟨A, c, rfl, _, _, hr⟩ := hx
  have C := Lib.hid (new_yes n h1 h2 w)
  have CU : Hid (∀ W, Calls Tryd.prog 19 #[.int .i64 (n : Int), .int .i64 8] W fun e w' => e = .returned (.int .i64 (((n + 7) / 8 : Nat) : Int)) ∧ W = w') := Lib.hid (fun W => by
    have := upwards_any n 8 (by omega) (by decide) (by decide) W
    rwa [show (n + 8 - 1) / 8 = (n + 7) / 8 by omega] at this)
  obtain ⟨hl, hno⟩ := id hmay
  obtain ⟨ad, rfl⟩ : ∃ ad, A = some ad := by
    obtain ⟨ad, e, _⟩ := hr.at (k := (n + 7) / 8 - 1) (by omega)
    exact ⟨ad, e⟩
  have hcl : Hid (∀ W, Below w.heap.size w W → ∀ k, k < bs.length → W.cell? (ad.add k) = some (.int .u8 ((bs.getD k 0).toNat : Int))) := Lib.hid (fun W b k hk => by
    obtain ⟨ad', e, _, _, hc⟩ := hr.at hk
    injection e with e
    subst e
    rw [← getD_in bs 0 k hk] at hc
    exact (b.cell (World.block_lt_of_cell? w _ hc)).trans hc)
  have hv : Hid (∀ k, (bs.getD k 0).toNat < 256) := Lib.hid (fun k => (bs.getD k 0).toNat_lt)
  obtain ⟨q, hq⟩ : ∃ q, q = (n + 7) / 8 - 1 := ⟨_, rfl⟩
  have hq1 : q ≤ 8191 ∧ q * 8 < n ∧ n ≤ q * 8 + 8 ∧ bs.length = q + 1 := by omega
  rw [← hq] at hno
  have dv : (((bs.getD q 0).toNat : Int) / 2 ^ (n - q * 8) != 0) = false := (last_bits _ _).trans (decide_eq_false (fun h => h hno))
  have CU2 : Hid (∀ W, Calls Tryd.prog 19 #[.int .i64 (n : Int), .int .i64 8] W fun e w' => e = .returned (.int .i64 ((q : Int) + 1)) ∧ W = w') := Lib.hid (fun W => by
    have := CU.out W
    rwa [show (((n + 7) / 8 : Nat) : Int) = (q : Int) + 1 by omega] at this)
  obtain ⟨hq2, hq3, hq4, hq5⟩ := hq1
  have d1 : ((bs.length : Int) != (q : Int) + 1) = false := by simp; omega
  have d2 : ((bs.length : Int) == (q : Int) + 1) = true := by simp; omega
  have i1 : (q : Int) < (bs.length : Int) := by omega
  have i2 : (0 : Int) ≤ (q : Int) := by omega
  obtain ⟨m, hm⟩ : ∃ m, m = (n + 63) / 64 := ⟨_, rfl⟩
  rw [← hm] at C
  obtain ⟨N, hN⟩ : ∃ N, N = bs.length := ⟨_, rfl⟩
  have hN2 : N ≤ 8192 := by omega
  have hm8 : Hid (∀ k, k < N → k / 8 < m) := Lib.hid (fun k hk => by omega)
  have HF : Hid (∀ w1 wr g gw cw ws, Below w.heap.size w w1 → w.heap.size ≤ g → w.heap.size ≤ gw → LAt w1 g gw cw n m bs N ws wr → Loaded w (marksOf bs n) (.returned (.tuple #[.pointer (some ⟨g, 0, none⟩), .int .i64 0])) wr) := Lib.hid (fun w1 wr g gw cw ws b hg hw l => by
    rw [hN] at l
    exact ⟨_, ws, rfl, l.done hm hmay h1 h2 b hg hw⟩)
  have HM0 : Hid (∀ w1 g gw cw, MapAt w1 g gw cw (List.replicate n false) (List.replicate m 0) → LInv w1 g gw cw n m bs 0 w1) := Lib.hid (fun w1 g gw cw a => by
    refine ⟨List.replicate m 0, ?_, a.row, Part.zero bs m, Only.refl _ _⟩
    have := a.has
    simpa using this)
  have cq := Lib.hid (fun W b => hcl.out W b q (by omega))
  generalize (bs.getD q 0).toNat = yq at dv cq
  rw [← hN] at d1 d2 i1
  have HNh := Lib.hid hN
  have hcl0 := hcl
  have hsl : Value.slice (some ad) bs.length c = Value.slice (some ad) N c := by rw [hN]
  rw [hsl]
  clear hq hq5 CU hl hr hno hmay hm hsl hN hcl
  have hcl : Hid (∀ W, Below w.heap.size w W → ∀ k, k < N → W.cell? (ad.add k) = some (.int .u8 ((bs.getD k 0).toNat : Int))) := Lib.hid (fun W b k hk => hcl0.out W b k (by rw [← HNh.out]; exact hk))
  go_enter Tryd.func15, Tryd.ntmps15
  go_wp2_with fail
  refine C.out.mono ?_
  rintro e w1 ⟨v', rfl, b1⟩
  obtain ⟨g, gw, cw, rfl, a1, hg, hw, b1⟩ := b1
  have cc := cq.out w1 b1
  have I0 := Lib.hid (HM0.out w1 g gw cw a1)
  have hne : Hid (g ≠ gw) := Lib.hid a1.ne
  have HB := Lib.hid (And.intro b1 (And.intro hg hw))
  clear b1 C hg hw a1 HM0 cq
  go_wp2_with fail
  refine (CU2.out _).mono ?_
  rintro e w' ⟨rfl, rfl⟩
  clear CU2
  go_wp2
  go_loopw [41] (fun i wr => ∃ k : Nat, k ≤ N ∧ i = .int .i64 (k : Int) ∧ Hid (LInv w1 g gw cw n m bs k wr)) (fun i _ => N - (intOf i).toNat)
  case atStart => exact ⟨0, Nat.zero_le _, rfl, I0⟩
  case round =>
    obtain ⟨k, hk, rfl, hrel⟩ := hrel
    clear I0
    obtain ⟨ws, l⟩ := hrel.out
    obtain ⟨b1, hg, hw⟩ := HB.out
    by_cases hlt : k < N
    · have hl8 := hm8.out k hlt
      have hlen : ws.length = m := l.part.len
      have hbw : Below w.heap.size w wr := b1.trans (l.low.below (by have := b1.size; omega) (fun i hi e => by omega))
      have cb := hcl.out wr hbw k hlt
      have c1 : wr.cell? ⟨g, 1, none⟩ = some (.slice (some ⟨gw, 0, none⟩) m cw) := by
        have := l.has.cell 1
        simpa using this
      have cx : wr.cell? ⟨gw, k / 8, none⟩ = some (.int .u64 (ws.getD (k / 8) 0 : Int)) := l.row.cell (by rw [hlen]; exact hl8)
      have fz := l.row.frozen (k / 8)
      have hx := l.part.lt (k / 8)
      have R := Lib.hid (l.step hne.out hl8)
      have hv' := hv.out k
      have B := Lib.hid (or_shl (ws.getD (k / 8) 0) (bs.getD k 0).toNat (k % 8 * 8) hx hv' (by omega))
      generalize (bs.getD k 0).toNat = y at *
      generalize ws.getD (k / 8) 0 = x at *
      clear l hrel b1 hg hw hlen hbw
      go_wp2
      go_region
      all_goals
        go_wp2
        go_roundw
        case rel => exact ⟨k + 1, by omega, by go_num, by rw [B.out]; exact R⟩
        case measure => simp [intOf]; omega
    · have hje : k = N := by omega
      have R := Lib.hid (HF.out w1 wr g gw cw ws b1 hg hw (by rw [← hje]; exact l))
      have d3 : decide ((k : Int) < (N : Int)) = false := decide_eq_false (by omega)
      clear l hrel b1 hg hw hje
      go_wp2
      go_ret2
      exact R.out
end
end Go.Proofs.YtaenobgpbphlfaaDoor
