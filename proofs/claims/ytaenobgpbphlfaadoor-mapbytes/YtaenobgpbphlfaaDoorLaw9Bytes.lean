/-
  MapBytes' walk.
-/
import Derived.Test.YtaenobgpbphlfaaDoorLaw9Known
namespace Go.Proofs.YtaenobgpbphlfaaDoor
open Go.RowKit Go.Lib
set_option maxRecDepth 100000

theorem shr_and8 (x c : Nat) (hx : x < 256) : (bits .and .u8 ((x : Int) / 2 ^ c) 1 == 1) = x.testBit c := by
  have e1 : (x : Int) / 2 ^ c = ((x / 2 ^ c : Nat) : Int) := by simp
  have h1 : x / 2 ^ c ≤ x := Nat.div_le_self _ _
  have := u8_and_nat (x / 2 ^ c) 1 (by omega) (by decide)
  rw [bit_and] at this
  rw [e1, show (1 : Int) = ((1 : Nat) : Int) from rfl, this]
  cases x.testBit c <;> rfl
section
variable (w : World) (hT : Tz w)
include hT
set_option maxHeartbeats 1000000 in
theorem mbytes_big (A : Option Addr) (n c : Nat) (z : Int) (hn : 1000 < n) : Calls Tryd.prog 4 #[.slice A n c, .int .i64 z] w fun e w' => e = .returned (.bool true) ∧ Below w.heap.size w w' := by
  have C0 := Lib.hid (known9_any w hT)
  clear hT
  go_enter Tryd.func4, Tryd.ntmps4
  go_wp2_with fail
  refine C0.out.mono ?_
  rintro e w1 ⟨rfl, b1⟩
  have R := Lib.hid b1
  clear b1 C0
  go_wp2
  go_ret
  exact ⟨rfl, R.out⟩
variable (A : Option Addr) (bs : List UInt8) (c : Nat) (hx : SlIs w 0 w.heap.size (.slice A bs.length c) bs) (hl : bs.length ≤ 1000)
include hx hl
set_option maxHeartbeats 1000000 in
theorem mbytes_arg (z : Int) (hz : z < 1 ∨ 65536 < z) : Calls Tryd.prog 4 #[.slice A bs.length c, .int .i64 z] w fun e w' => e = .returned (.bool true) ∧ Below w.heap.size w w' := by
  have C0 := Lib.hid (known9_any w hT)
  have C1 : Hid (∀ wr, Below w.heap.size w wr → Calls Tryd.prog 15 #[.slice A bs.length c, .int .i64 z] wr fun e w' => e = .returned (.tuple #[.pointer none, .int .i64 1]) ∧ wr = w') := Lib.hid (fun wr b => load_no 0 w.heap.size _ bs wr (hx.only (Only.of_below b) (Nat.le_refl _) (fun i _ hi h => by omega)) z hz)
  clear hT hx
  by_cases h1 : z < 1
  · clear hz
    go_enter Tryd.func4, Tryd.ntmps4
    go_wp2_with fail
    refine C0.out.mono ?_
    rintro e w1 ⟨rfl, b1⟩
    have D1 := Lib.hid (C1.out w1 b1)
    have R := Lib.hid b1
    clear b1 C0 C1
    go_wp2_with fail
    refine D1.out.mono ?_
    rintro e w' ⟨rfl, rfl⟩
    go_wp2
    go_ret
    exact ⟨rfl, R.out⟩
  · have h2 : 65536 < z := by omega
    clear hz
    go_enter Tryd.func4, Tryd.ntmps4
    go_wp2_with fail
    refine C0.out.mono ?_
    rintro e w1 ⟨rfl, b1⟩
    have D1 := Lib.hid (C1.out w1 b1)
    have R := Lib.hid b1
    clear b1 C0 C1
    go_wp2_with fail
    refine D1.out.mono ?_
    rintro e w' ⟨rfl, rfl⟩
    go_wp2
    go_ret
    exact ⟨rfl, R.out⟩
set_option maxHeartbeats 1000000 in
theorem mbytes_len (n : Nat) (h1 : 1 ≤ n) (h2 : n ≤ 65536) (hne : bs.length ≠ (n + 7) / 8) : Calls Tryd.prog 4 #[.slice A bs.length c, .int .i64 (n : Int)] w fun e w' => e = .returned (.bool true) ∧ Below w.heap.size w w' := by
  have C0 := Lib.hid (known9_any w hT)
  have C1 : Hid (∀ wr, Below w.heap.size w wr → Calls Tryd.prog 15 #[.slice A bs.length c, .int .i64 (n : Int)] wr fun e w' => e = .returned (.tuple #[.pointer none, .int .i64 2]) ∧ Below w.heap.size w w') := Lib.hid (fun wr b => (load_form1 0 w.heap.size _ bs wr (hx.only (Only.of_below b) (Nat.le_refl _) (fun i _ hi h => by omega)) n h1 h2 hne).mono fun e w' hh => ⟨hh.1, b.trans (hh.2.mono b.size)⟩)
  have d1 : decide ((n : Int) < 1) = false := decide_eq_false (by omega)
  have d2 : decide ((65536 : Int) < (n : Int)) = false := decide_eq_false (by omega)
  have d3 : ((bs.length : Int) != ((n : Int) + 7) / 8) = true := by
    simp only [bne_iff_ne, ne_eq]
    omega
  have d4 : ((bs.length : Int) == ((n : Int) + 7) / 8) = false := by
    simp only [beq_eq_false_iff_ne, ne_eq]
    omega
  clear hT hx hne
  go_enter Tryd.func4, Tryd.ntmps4
  go_wp2_with fail
  refine C0.out.mono ?_
  rintro e w1 ⟨rfl, b1⟩
  have D1 := Lib.hid (C1.out w1 b1)
  clear b1 C0 C1
  go_wp2_with fail
  refine D1.out.mono ?_
  rintro e w2 ⟨rfl, b2⟩
  have R := Lib.hid b2
  clear b2 D1
  go_wp2
  go_ret
  exact ⟨rfl, R.out⟩
set_option maxHeartbeats 1000000 in
theorem mbytes_last (n : Nat) (h1 : 1 ≤ n) (h2 : n ≤ 65536) (he : bs.length = (n + 7) / 8) (hno : (bs.getD ((n + 7) / 8 - 1) 0).toNat / 2 ^ (n - ((n + 7) / 8 - 1) * 8) ≠ 0) : Calls Tryd.prog 4 #[.slice A bs.length c, .int .i64 (n : Int)] w fun e w' => e = .returned (.bool true) ∧ Below w.heap.size w w' := by
  have C0 := Lib.hid (known9_any w hT)
  have C1 : Hid (∀ wr, Below w.heap.size w wr → Calls Tryd.prog 15 #[.slice A bs.length c, .int .i64 (n : Int)] wr fun e w' => e = .returned (.tuple #[.pointer none, .int .i64 2]) ∧ Below w.heap.size w w') := Lib.hid (fun wr b => (load_form2 0 w.heap.size _ bs wr (hx.only (Only.of_below b) (Nat.le_refl _) (fun i _ hi h => by omega)) n h1 h2 he hno).mono fun e w' hh => ⟨hh.1, b.trans (hh.2.mono b.size)⟩)
  have d1 : decide ((n : Int) < 1) = false := decide_eq_false (by omega)
  have d2 : decide ((65536 : Int) < (n : Int)) = false := decide_eq_false (by omega)
  obtain ⟨_, _, e, _, _, hr⟩ := id hx
  obtain ⟨ad, e2, _, hlt, hcell⟩ := hr.at (k := (n + 7) / 8 - 1) (by omega)
  injection e with ea _ ec
  subst ea
  subst ec
  subst e2
  rw [← getD_in bs 0 _ (by omega)] at hcell
  have hv := (bs.getD ((n + 7) / 8 - 1) 0).toNat_lt
  have hblk := World.block_lt_of_cell? w _ hcell
  generalize (bs.getD ((n + 7) / 8 - 1) 0) = v at *
  have h8 : n % 8 ≠ 0 ∧ n - ((n + 7) / 8 - 1) * 8 = n % 8 := by
    have h0 : n % 8 ≠ 0 := fun h => hno (by
      rw [show n - ((n + 7) / 8 - 1) * 8 = 8 by omega]
      exact Nat.div_eq_of_lt hv)
    exact ⟨h0, by omega⟩
  rw [h8.2] at hno
  have d5 : decide ((0 : Int) < (n : Int) % 8) = true := decide_eq_true (by omega)
  have dv : ((v.toNat : Int) / 2 ^ (n % 8) != 0) = true := (last_bits _ _).trans (decide_eq_true hno)
  obtain ⟨q, hq⟩ : ∃ q, q = (n + 7) / 8 - 1 := ⟨_, rfl⟩
  have hbq : bs.length = q + 1 := by omega
  rw [← hq] at hcell hblk
  have hcl : Hid (∀ W, Below w.heap.size w W → W.cell? (ad.add q) = some (.int .u8 (v.toNat : Int))) := Lib.hid (fun W b => (b.cell hblk).trans hcell)
  rw [hbq] at C1 ⊢
  have d3' : ((q : Int) + 1 != ((n : Int) + 7) / 8) = false := by
    simp only [bne_eq_false_iff_eq]
    omega
  have d4' : ((q : Int) + 1 == ((n : Int) + 7) / 8) = true := by
    simp only [beq_iff_eq]
    omega
  have hq2 : q ≤ 999 := by omega
  have d6 : decide ((1000 : Int) < (q : Int) + 1) = false := decide_eq_false (by omega)
  clear hT hx he hno h8 hcell hblk hr hq hbq hl
  go_enter Tryd.func4, Tryd.ntmps4
  go_wp2_with fail
  refine C0.out.mono ?_
  rintro e w1 ⟨rfl, b1⟩
  have D1 := Lib.hid (C1.out w1 b1)
  clear b1 C0 C1
  go_wp2_with fail
  with_reducible refine D1.out.mono ?_
  rintro e w2 ⟨rfl, b2⟩
  have cc := hcl.out w2 b2
  have R := Lib.hid b2
  clear b2 D1 hcl
  go_wp2
  go_ret
  exact ⟨rfl, R.out⟩
end
end Go.Proofs.YtaenobgpbphlfaaDoor
