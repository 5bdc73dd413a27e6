/-
  Package pages: the small functions on numbers and bytes.
-/
import Derived.Test.YtnhojcldeloigaaGreatPagesA
import Derived.Test.YtnhojcldeloigaaGreatDiskB
import Derived.Deep.CutRange
import Derived.Deep.QuietTactic
import Derived.BigQuiet
import Derived.StillTailTactics
namespace Go.Proofs.YtnhojcldeloigaaGreat
open Go.RowKit Go.Lib
set_option maxRecDepth 100000

theorem secF_int (k z : Nat) (h1 : 1 ≤ z) : ((k : Int) + 4 * (z : Int) - 1) / (4 * (z : Int)) = (secF k z : Int) := by
  unfold secF
  have e : ((k + 4 * z - 1 : Nat) : Int) = (k : Int) + 4 * (z : Int) - 1 := by omega
  rw [Int.natCast_ediv, e]
  rfl
set_option maxHeartbeats 400000 in
theorem sectorsfor_any (k z : Nat) (hk : k ≤ 1024) (h1 : 1 ≤ z) (hz : z ≤ 1024) (w : World) : Calls Tryz.prog 72 #[.int .i64 (k : Int), .int .i64 (z : Int)] w fun e w' => e = .returned (.int .i64 (secF k z : Int)) ∧ w = w' := by
  have n0 : ¬ (4 * (z : Int) = 0) := by omega
  have R := Lib.hid (secF_int k z h1)
  go_enter Tryz.func72, Tryz.ntmps72
  go_wp2
  go_ret
  exact ⟨congrArg (fun x => Ending.returned (.int .i64 x)) R.out, rfl⟩

set_option maxHeartbeats 400000 in
theorem shiftof_any (p : Nat) (hp : p ≤ 1000000) (w : World) : Calls Tryz.prog 93 #[.int .i64 (p : Int)] w fun e w' => e = .returned (.int .i64 ((2 * (p % 4) : Nat) : Int)) ∧ w = w' := by
  go_enter Tryz.func93, Tryz.ntmps93
  go_wp2
  go_ret
  exact ⟨by go_num, rfl⟩

set_option maxHeartbeats 400000 in
theorem free_any (v : Nat) (hv : v < 4) (w : World) : Calls Tryz.prog 73 #[.int .u8 (v : Int)] w fun e w' => e = .returned (.int .u8 (freeS v : Int)) ∧ w = w' := by
  by_cases h : v = 1
  · subst h
    go_enter Tryz.func73, Tryz.ntmps73
    go_wp2
    go_ret
    exact ⟨rfl, rfl⟩
  · have e : (freeS v : Int) = 1 := by simp [freeS, h]
    rw [e]
    have n1 : ¬ ((v : Int) = 1) := by omega
    have d1 : decide ((v : Int) = 1) = false := decide_eq_false n1
    go_enter Tryz.func73, Tryz.ntmps73
    go_wp2
    go_ret
    exact ⟨rfl, rfl⟩

set_option maxHeartbeats 400000 in
theorem other_any (l : Nat) (hl : l < 2) (w : World) : Calls Tryz.prog 39 #[.int .i64 (l : Int)] w fun e w' => e = .returned (.int .i64 ((1 - l : Nat) : Int)) ∧ w = w' := by
  have e1 : IntKind.i64.wrap (1 - (l : Int)) = ((1 - l : Nat) : Int) := by rw [IntWalk.i64_in _ (by omega)]; omega
  go_enter Tryz.func39, Tryz.ntmps39
  go_wp2
  go_ret
  exact ⟨rfl, rfl⟩

/-- May n sectors be a book of so many pages? -/
def mayH (n k : Int) : Bool := decide (1 ≤ k ∧ k ≤ 1024 ∧ 3 * k + 16 ≤ n)
set_option maxHeartbeats 400000 in
theorem mayhave_any (n k : Int) (w : World) : Calls Tryz.prog 36 #[.int .i64 n, .int .i64 k] w fun e w' => e = .returned (.bool (mayH n k)) ∧ w = w' := by
  by_cases h1 : 1 ≤ k
  · by_cases h2 : k ≤ 1024
    · have hw : IntKind.i64.wrap (IntKind.i64.wrap (3 * k) + 16) = 3 * k + 16 := by rw [IntWalk.i64_in (3 * k) (by omega), IntWalk.i64_in _ (by omega)]
      by_cases h3 : 3 * k + 16 ≤ n
      · have R : Hid (mayH n k = true) := Lib.hid (decide_eq_true ⟨h1, h2, h3⟩)
        go_enter Tryz.func36, Tryz.ntmps36
        go_wp2
        go_ret
        exact ⟨by rw [R.out]; rfl, rfl⟩
      · have R : Hid (mayH n k = false) := Lib.hid (decide_eq_false fun h => h3 h.2.2)
        go_enter Tryz.func36, Tryz.ntmps36
        go_wp2
        go_ret
        exact ⟨by rw [R.out]; rfl, rfl⟩
    · have R : Hid (mayH n k = false) := Lib.hid (decide_eq_false fun h => h2 h.2.1)
      go_enter Tryz.func36, Tryz.ntmps36
      go_wp2
      go_ret
      exact ⟨by rw [R.out]; rfl, rfl⟩
  · have R : Hid (mayH n k = false) := Lib.hid (decide_eq_false fun h => h1 h.1)
    go_enter Tryz.func36, Tryz.ntmps36
    go_wp2
    go_ret
    exact ⟨by rw [R.out]; rfl, rfl⟩

theorem i64_or8 (b c : Nat) (hb : b < 256) (hc : c < 256) : bits .or .i64 (b : Int) ((c : Int) * 256) = ((b + 256 * c : Nat) : Int) := by
  have e : (c : Int) * (256 : Int) = ((c <<< 8 : Nat) : Int) := by rw [Nat.shiftLeft_eq]; omega
  have h8 : c <<< 8 ||| b = c <<< 8 + b := (Nat.shiftLeft_add_eq_or_of_lt (by omega) c).symm
  have hs : c <<< 8 = c * 256 := Nat.shiftLeft_eq c 8
  rw [e]
  show IntKind.i64.wrap ((BitVec.ofInt 64 (b : Int) ||| BitVec.ofInt 64 ((c <<< 8 : Nat) : Int)).toNat : Int) = _
  rw [BitVec.toNat_or, ofInt_u64 b (by omega), ofInt_u64 (c <<< 8) (by omega), Nat.or_comm, h8, IntWalk.i64_in _ (by omega)]
  omega

set_option maxHeartbeats 400000 in
theorem number_any (ad : Addr) (m cap i : Nat) (b0 b1 : UInt8) (w : World) (hm : m ≤ 1000000) (hi : i + 1 < m) (c0 : w.cell? (ad.add i) = some (b8 b0)) (c1 : w.cell? (ad.add (i + 1)) = some (b8 b1)) :
    Calls Tryz.prog 51 #[.slice (some ad) m cap, .int .i64 (i : Int)] w fun e w' => e = .returned (.int .i64 ((b0.toNat + 256 * b1.toNat : Nat) : Int)) ∧ ∃ n, w' = w.drewN n := by
  have l0 := b0.toNat_lt
  have l1 := b1.toNat_lt
  have R := Lib.hid (i64_or8 b0.toNat b1.toNat l0 l1)
  have d0 : w.cell? (ad.add i) = some (.int .u8 (b0.toNat : Int)) := c0
  have d1 : w.cell? ⟨ad.block, ad.off + (i + 1), none⟩ = some (.int .u8 (b1.toNat : Int)) := by simpa [Addr.add, b8] using c1
  have x0 : (i : Int) < (m : Int) := by omega
  have x1 : (i : Int) + 1 < (m : Int) := by omega
  have x2 : (0 : Int) ≤ (i : Int) := by omega
  have x3 : (0 : Int) ≤ (i : Int) + 1 := by omega
  have t1 : ((i : Int) + 1).toNat = i + 1 := by omega
  have w1 : IntKind.i64.wrap ((i : Int) + 1) = (i : Int) + 1 := IntWalk.i64_in _ (by omega)
  have w2 : IntKind.i64.wrap (b0.toNat : Int) = (b0.toNat : Int) := IntWalk.i64_in _ (by omega)
  have w3 : IntKind.i64.wrap (b1.toNat : Int) = (b1.toNat : Int) := IntWalk.i64_in _ (by omega)
  clear c0 c1
  go_enter Tryz.func51, Tryz.ntmps51
  go_upto_region 1 with fail
  go_quiet (fail)
  go_wp2
  go_ret
  exact ⟨by rw [← R.out]; rfl, _, rfl⟩

theorem i64_and1 (v : Nat) (hv : v < 4611686018427387904) : bits .and .i64 (v : Int) 1 = ((v % 2 : Nat) : Int) := by
  show IntKind.i64.wrap ((BitVec.ofInt 64 (v : Int) &&& BitVec.ofInt 64 ((1 : Nat) : Int)).toNat : Int) = _
  rw [BitVec.toNat_and, ofInt_u64 v (by omega), ofInt_u64 1 (by omega), Nat.and_one_is_mod, IntWalk.i64_in _ (by omega)]
theorem num2_lt (b : List UInt8) (i : Nat) : num2 b i < 65536 := by
  have h1 := (b.getD i 0).toNat_lt
  have h2 := (b.getD (i + 1) 0).toNat_lt
  unfold num2
  omega
/-- Two bytes of a slice, as a number. -/
theorem number_sl (lo hi : Nat) (x : Value) (bs : List UInt8) (i : Nat) (w : World) (h : SlIs w lo hi x bs) (hm : bs.length ≤ 1000000) (hi' : i + 1 < bs.length) :
    Calls Tryz.prog 51 #[x, .int .i64 (i : Int)] w fun e w' => e = .returned (.int .i64 (num2 bs i : Int)) ∧ ∃ n, w' = w.drewN n := by
  obtain ⟨A, c, rfl, _, _, hr⟩ := h
  obtain ⟨ad, rfl, _, _, hc⟩ := hr (by omega)
  have e : num2 bs i = bs[i].toNat + 256 * bs[i + 1].toNat := by simp [num2, List.getD, List.getElem?_eq_getElem hi', List.getElem?_eq_getElem (show i < bs.length by omega)]
  rw [e]
  exact number_any ad bs.length c i bs[i] bs[i + 1] w hm hi' (hc _ _ (b8s_get (by omega))) (hc _ _ (b8s_get hi'))

set_option maxHeartbeats 400000 in
theorem listof_any (lo hi : Nat) (x : Value) (bs : List UInt8) (w : World) (h : SlIs w lo hi x bs) (hm : bs.length ≤ 1000000) (hl : 16 ≤ bs.length) :
    Calls Tryz.prog 40 #[x] w fun e w' => e = .returned (.int .i64 (lstOf bs : Int)) ∧ ∃ n, w' = w.drewN n := by
  have C := Lib.hid (number_sl lo hi x bs 14 w h hm (by omega))
  obtain ⟨A, c, rfl, _⟩ := h
  have R : Hid (bits .and .i64 (num2 bs 14 : Int) 1 = (lstOf bs : Int)) := Lib.hid (by rw [i64_and1 _ (by have := num2_lt bs 14; omega)]; rfl)
  generalize num2 bs 14 = v at C R
  generalize lstOf bs = r at R ⊢
  go_enter Tryz.func40, Tryz.ntmps40
  go_wp2_with fail
  refine C.out.mono ?_
  rintro e w' ⟨rfl, n, rfl⟩
  clear C
  go_wp2
  go_ret
  exact ⟨congrArg (fun x => Ending.returned (.int .i64 x)) R.out, n, rfl⟩

theorem b8_ofNat (v : Nat) : b8 (UInt8.ofNat v) = .int .u8 ((v : Int) % 256) := by simp [b8, UInt8.toNat_ofNat']
set_option maxHeartbeats 400000 in
theorem putnumber_any (g n c i v : Nat) (u0 u1 : Value) (w : World) (hn : n ≤ 1000000) (hi : i + 1 < n) (c0 : w.cell? ⟨g, i, none⟩ = some u0) (c1 : w.cell? ⟨g, i + 1, none⟩ = some u1)
    (f0 : w.frozen? ⟨g, i, none⟩ = false) (f1 : w.frozen? ⟨g, i + 1, none⟩ = false) :
    Calls Tryz.prog 89 #[.slice (some ⟨g, 0, none⟩) n c, .int .i64 (i : Int), .int .i64 (v : Int)] w fun e w' => e = .returned (.tuple #[]) ∧
      w' = (w.setCell ⟨g, i, none⟩ (b8 (UInt8.ofNat v))).setCell ⟨g, i + 1, none⟩ (b8 (UInt8.ofNat (v / 256))) := by
  have x0 : (i : Int) < (n : Int) := by omega
  have x1 : (i : Int) + 1 < (n : Int) := by omega
  have x2 : (0 : Int) ≤ (i : Int) := by omega
  have x3 : (0 : Int) ≤ (i : Int) + 1 := by omega
  have t1 : ((i : Int) + 1).toNat = i + 1 := by omega
  have w1 : IntKind.i64.wrap ((i : Int) + 1) = (i : Int) + 1 := IntWalk.i64_in _ (by omega)
  go_enter Tryz.func89, Tryz.ntmps89
  go_wp2
  go_end0
  refine ⟨rfl, ?_⟩
  rw [b8_ofNat, b8_ofNat, Int.natCast_ediv]
  rfl

theorem crumb_bits : ((List.range 256).all fun c => (List.range 4).all fun j => decide ((c >>> (2 * j)) &&& 3 = crumb (UInt8.ofNat c) j)) = true := by kernel_rfl
theorem crumb_shr (c : UInt8) (j : Nat) (hj : j < 4) : (c.toNat >>> (2 * j)) &&& 3 = crumb c j := by
  have h := crumb_bits
  simp only [List.all_eq_true, List.mem_range, decide_eq_true_eq] at h
  have hc := h c.toNat c.toNat_lt j hj
  simpa using hc
theorem crumb_sets : ((List.range 256).all fun c => (List.range 4).all fun j => (List.range 4).all fun v => decide ((c &&& (255 - (3 <<< (2 * j)) % 256)) ||| (v <<< (2 * j)) % 256 = (setCrumb (UInt8.ofNat c) j v).toNat)) = true := by kernel_rfl
theorem crumb_put (c : UInt8) (j v : Nat) (hj : j < 4) (hv : v < 4) : (c.toNat &&& (255 - (3 <<< (2 * j)) % 256)) ||| (v <<< (2 * j)) % 256 = (setCrumb c j v).toNat := by
  have h := crumb_sets
  simp only [List.all_eq_true, List.mem_range, decide_eq_true_eq] at h
  have hc := h c.toNat c.toNat_lt j hj v hv
  simpa using hc

set_option maxHeartbeats 1000000 in
theorem slotof_any (ad : Addr) (m cap p : Nat) (c : UInt8) (w : World) (hm : m ≤ 100000) (hp : p / 4 < m) (hc : w.cell? (ad.add (p / 4)) = some (b8 c)) :
    Calls Tryz.prog 74 #[.slice (some ad) m cap, .int .i64 (p : Int)] w fun e w' => e = .returned (.int .u8 (crumb c (p % 4) : Int)) ∧ ∃ n, w' = w.drewN n := by
  have hl := c.toNat_lt
  have C : Hid (∀ W, Calls Tryz.prog 93 #[.int .i64 (p : Int)] W fun e w' => e = .returned (.int .i64 ((2 * (p % 4) : Nat) : Int)) ∧ w' = W) := fun W => (shiftof_any p (by omega) W).mono fun e w' h => ⟨h.1, h.2.symm⟩
  obtain ⟨q, hq⟩ : ∃ q, q = p / 4 := ⟨_, rfl⟩
  obtain ⟨r, hr⟩ : ∃ r, r = 2 * (p % 4) := ⟨_, rfl⟩
  have hr8 : r < 8 := by omega
  have R : Hid (bits .and .u8 ((c.toNat : Int) / 2 ^ r) 3 = (crumb c (p % 4) : Int)) := Lib.hid (by
    have h1 : c.toNat >>> r ≤ c.toNat := Nat.shiftRight_le _ _
    have h2 : (c.toNat : Int) / 2 ^ r = ((c.toNat >>> r : Nat) : Int) := by rw [Nat.shiftRight_eq_div_pow]; simp
    have := u8_and_nat (c.toNat >>> r) 3 (by omega) (by omega)
    rw [h2]
    rw [hr] at this ⊢
    rw [crumb_shr c (p % 4) (by omega)] at this
    exact this)
  have e1 : (p : Int) / 4 = (q : Int) := by omega
  have d0 : w.cell? (ad.add q) = some (.int .u8 (c.toNat : Int)) := by rw [hq]; exact hc
  rw [← hr] at C
  rw [← hq] at hp
  have x0 : (q : Int) < (m : Int) := by omega
  have x2 : (0 : Int) ≤ (q : Int) := by omega
  generalize crumb c (p % 4) = v at R ⊢
  clear hc hq hr
  go_enter Tryz.func74, Tryz.ntmps74
  go_upto_region 1 with fail
  go_quiet (first | (go_at_call 93; exact Calls.quiet_of_same (C.out _)))
  go_wp2
  go_ret
  exact ⟨by rw [← R.out]; rfl, _, rfl⟩

set_option maxHeartbeats 1000000 in
theorem putslot_any (g m cap p v : Nat) (c : UInt8) (w : World) (hm : m ≤ 100000) (hp : p / 4 < m) (hv : v < 4) (hc : w.cell? ⟨g, p / 4, none⟩ = some (b8 c)) (hf : w.frozen? ⟨g, p / 4, none⟩ = false) :
    Calls Tryz.prog 75 #[.slice (some ⟨g, 0, none⟩) m cap, .int .i64 (p : Int), .int .u8 (v : Int)] w fun e w' => e = .returned (.tuple #[]) ∧ ∃ n, w' = (w.drewN n).setCell ⟨g, p / 4, none⟩ (b8 (setCrumb c (p % 4) v)) := by
  have hl := c.toNat_lt
  have C : Hid (∀ W, Calls Tryz.prog 93 #[.int .i64 (p : Int)] W fun e w' => e = .returned (.int .i64 ((2 * (p % 4) : Nat) : Int)) ∧ w' = W) := fun W => (shiftof_any p (by omega) W).mono fun e w' h => ⟨h.1, h.2.symm⟩
  obtain ⟨q, hq⟩ : ∃ q, q = p / 4 := ⟨_, rfl⟩
  obtain ⟨r, hr⟩ : ∃ r, r = 2 * (p % 4) := ⟨_, rfl⟩
  have hr8 : r < 8 := by omega
  have hput := crumb_put c (p % 4) v (by omega) hv
  rw [← hr] at hput C
  generalize setCrumb c (p % 4) v = b at hput ⊢
  have ha : c.toNat &&& (255 - 3 <<< r % 256) < 256 := Nat.lt_of_le_of_lt Nat.and_le_left (by omega)
  have h1 := u8_andNot_nat c.toNat (3 <<< r % 256) (by omega) (by omega)
  have h2 := u8_or_nat (c.toNat &&& (255 - 3 <<< r % 256)) (v <<< r % 256) ha (by omega)
  have s3 : IntKind.u8.wrap (3 * 2 ^ r) = ((3 <<< r % 256 : Nat) : Int) := by rw [IntKind.wrap_u8', Nat.shiftLeft_eq]; simp
  have sv : IntKind.u8.wrap ((v : Int) * 2 ^ r) = ((v <<< r % 256 : Nat) : Int) := by rw [IntKind.wrap_u8', Nat.shiftLeft_eq]; simp
  have R : Hid (bits .or .u8 (bits .andNot .u8 (c.toNat : Int) (IntKind.u8.wrap (3 * 2 ^ r))) (IntKind.u8.wrap ((v : Int) * 2 ^ r)) = (b.toNat : Int)) := Lib.hid (by rw [s3, sv, h1, h2, hput])
  clear s3 sv h1 h2
  have e1 : (p : Int) / 4 = (q : Int) := by omega
  rw [← hq] at hc hf hp ⊢
  have d0 : w.cell? ⟨g, q, none⟩ = some (.int .u8 (c.toNat : Int)) := hc
  have x0 : (q : Int) < (m : Int) := by omega
  have x2 : (0 : Int) ≤ (q : Int) := by omega
  clear hc hq hr hput ha
  go_enter Tryz.func75, Tryz.ntmps75
  go_upto_region 1 with fail
  go_region_with (first | (go_at_call 93; refine (C.out _).mono ?_; rintro e w' ⟨rfl, rfl⟩))
  all_goals go_wp2
  all_goals go_end0
  all_goals exact ⟨rfl, 1, by rw [R.out]; rfl⟩
end Go.Proofs.YtnhojcldeloigaaGreat
