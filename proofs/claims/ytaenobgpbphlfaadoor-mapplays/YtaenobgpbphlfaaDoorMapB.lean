/-
  math/bits: OnesCount64 counts a word's bits, TrailingZeros64 names its lowest one.
-/
import Derived.Test.YtaenobgpbphlfaaDoorMapA
import Derived.Test.YtaenobgpbphlfaaDoorRows
import Derived.Shelf.Spec.TrailingZeros
import Derived.Lib.Hide
import Derived.Laws.BitsAllLaws
namespace Go.Proofs.YtaenobgpbphlfaaDoor
open Go.RowKit Go.Lib
set_option maxRecDepth 100000

/-! ### the sum of bits, byte by byte -/
def mask9 (c : Nat) : Nat → Nat
  | 0 => 0
  | j + 1 => c + 256 * mask9 c j
theorem and_peel (x c K : Nat) (hc : c < 256) : x &&& (c + 256 * K) = (x % 256 &&& c) + 256 * (x / 256 &&& K) := by
  have h1 : (x &&& (c + 256 * K)) % 2 ^ 8 = x % 2 ^ 8 &&& (c + 256 * K) % 2 ^ 8 := Nat.and_mod_two_pow
  have h2 : (x &&& (c + 256 * K)) / 2 ^ 8 = x / 2 ^ 8 &&& (c + 256 * K) / 2 ^ 8 := Nat.and_div_two_pow
  have e1 : (c + 256 * K) % 2 ^ 8 = c := by omega
  have e2 : (c + 256 * K) / 2 ^ 8 = K := by omega
  rw [e1] at h1
  rw [e2] at h2
  have := Nat.div_add_mod (x &&& (c + 256 * K)) (2 ^ 8)
  rw [h1, h2, show (2 : Nat) ^ 8 = 256 from rfl] at this
  omega
def g1 (b : Nat) : Nat := (b / 2 &&& 85) + (b &&& 85)
def g2 (b : Nat) : Nat := (b / 4 &&& 51) + (b &&& 51)
def h9 (b : Nat) : Nat := g2 (g1 b)
def P9 (b : Nat) : Nat := (h9 b / 16 + h9 b) % 16
def S1 (j x : Nat) : Nat := (x / 2 &&& mask9 85 j) + (x &&& mask9 85 j)
def S2 (j x : Nat) : Nat := (x / 4 &&& mask9 51 j) + (x &&& mask9 51 j)
def S3 (j x : Nat) : Nat := (x / 16 + x) &&& mask9 15 j
theorem low1 : ∀ y : Nat, y < 512 → (y / 2 &&& 85) = (y % 256 / 2 &&& 85) := by
  have h : ((List.range 512).all fun y => decide ((y / 2 &&& 85) = (y % 256 / 2 &&& 85))) = true := by decide +kernel
  intro y hy
  simpa using (List.all_eq_true.1 h) y (List.mem_range.2 hy)
theorem low2 : ∀ y : Nat, y < 1024 → (y / 4 &&& 51) = (y % 256 / 4 &&& 51) := by
  have h : ((List.range 1024).all fun y => decide ((y / 4 &&& 51) = (y % 256 / 4 &&& 51))) = true := by decide +kernel
  intro y hy
  simpa using (List.all_eq_true.1 h) y (List.mem_range.2 hy)
theorem byte9 : ∀ b : Nat, b < 256 → g1 b < 256 ∧ h9 b ≤ 68 ∧ h9 b % 16 ≤ 4 ∧ P9 b ≤ 8 ∧ cnt (fun j => b.testBit j) 8 = P9 b := by
  have h : ((List.range 256).all fun b => decide (g1 b < 256 ∧ h9 b ≤ 68 ∧ h9 b % 16 ≤ 4 ∧ P9 b ≤ 8 ∧ cnt (fun j => b.testBit j) 8 = P9 b)) = true := by decide +kernel
  intro b hb
  simpa using (List.all_eq_true.1 h) b (List.mem_range.2 hb)
theorem S1_peel (j x : Nat) : S1 (j + 1) x = g1 (x % 256) + 256 * S1 j (x / 256) := by
  unfold S1 g1
  rw [show mask9 85 (j + 1) = 85 + 256 * mask9 85 j from rfl, and_peel _ 85 _ (by decide), and_peel x 85 _ (by decide)]
  have e1 : x / 2 % 256 = x % 512 / 2 := by omega
  have e2 : x / 2 / 256 = x / 256 / 2 := by omega
  have e3 : x % 512 % 256 = x % 256 := by omega
  rw [e1, e2, low1 (x % 512) (by omega), e3]
  omega
theorem S2_peel (j x : Nat) : S2 (j + 1) x = g2 (x % 256) + 256 * S2 j (x / 256) := by
  unfold S2 g2
  rw [show mask9 51 (j + 1) = 51 + 256 * mask9 51 j from rfl, and_peel _ 51 _ (by decide), and_peel x 51 _ (by decide)]
  have e1 : x / 4 % 256 = x % 1024 / 4 := by omega
  have e2 : x / 4 / 256 = x / 256 / 4 := by omega
  have e3 : x % 1024 % 256 = x % 256 := by omega
  rw [e1, e2, low2 (x % 1024) (by omega), e3]
  omega
def Z9 (j x : Nat) : Nat := S2 j (S1 j x)
theorem Z9_peel (j x : Nat) : Z9 (j + 1) x = h9 (x % 256) + 256 * Z9 j (x / 256) := by
  have hb := (byte9 (x % 256) (Nat.mod_lt _ (by decide))).1
  unfold Z9 h9
  rw [S2_peel, S1_peel]
  have e1 : (g1 (x % 256) + 256 * S1 j (x / 256)) % 256 = g1 (x % 256) := by omega
  have e2 : (g1 (x % 256) + 256 * S1 j (x / 256)) / 256 = S1 j (x / 256) := by omega
  rw [e1, e2]
theorem Z9_low : ∀ (j x : Nat), Z9 j x % 16 ≤ 4
  | 0, x => by simp [Z9, S2, S1, mask9]
  | j + 1, x => by
    have hb := (byte9 (x % 256) (Nat.mod_lt _ (by decide))).2.2.1
    rw [Z9_peel]
    omega
def T9 (j x : Nat) : Nat := S3 j (Z9 j x)
theorem T9_peel (j x : Nat) : T9 (j + 1) x = P9 (x % 256) + 256 * T9 j (x / 256) := by
  have hb := (byte9 (x % 256) (Nat.mod_lt _ (by decide)))
  have hz := Z9_low j (x / 256)
  unfold T9 S3 P9
  rw [show mask9 15 (j + 1) = 15 + 256 * mask9 15 j from rfl, and_peel _ 15 _ (by decide), Z9_peel]
  generalize h9 (x % 256) = c at hb
  generalize Z9 j (x / 256) = z at hz
  have e0 : ((c + 256 * z) / 16 + (c + 256 * z)) % 256 &&& 15 = ((c + 256 * z) / 16 + (c + 256 * z)) % 256 % 16 := Nat.and_two_pow_sub_one_eq_mod _ 4
  have e1 : ((c + 256 * z) / 16 + (c + 256 * z)) % 256 % 16 = (c / 16 + c) % 16 := by omega
  have e2 : ((c + 256 * z) / 16 + (c + 256 * z)) / 256 = z / 16 + z := by omega
  rw [e0, e1, e2]
def sum9 : Nat → Nat → Nat
  | 0, _ => 0
  | j + 1, x => P9 (x % 256) + sum9 j (x / 256)
theorem sum9_cnt : ∀ (j x : Nat), cnt (fun i => x.testBit i) (8 * j) = sum9 j x
  | 0, _ => rfl
  | j + 1, x => by
    rw [show 8 * (j + 1) = 8 + 8 * j by omega, cnt_add]
    show _ = P9 (x % 256) + sum9 j (x / 256)
    rw [← sum9_cnt j (x / 256), ← (byte9 (x % 256) (Nat.mod_lt _ (by decide))).2.2.2.2]
    congr 1
    · refine cnt_congr 8 (fun i hi => ?_)
      rw [show (256 : Nat) = 2 ^ 8 by decide, Nat.testBit_mod_two_pow]
      simp [hi]
    · refine cnt_congr _ (fun i _ => ?_)
      rw [show (256 : Nat) = 2 ^ 8 by decide, Nat.testBit_div_two_pow, Nat.add_comm]
theorem pop_sum (x : Nat) : pop64 x = sum9 8 x := sum9_cnt 8 x
theorem pop_le (x : Nat) : pop64 x ≤ 64 := cnt_le _ _
theorem mask_85 : mask9 85 8 = 6148914691236517205 := by decide +kernel
theorem mask_51 : mask9 51 8 = 3689348814741910323 := by decide +kernel
theorem mask_15 : mask9 15 8 = 1085102592571150095 := by decide +kernel
def up9 (x d : Nat) : Nat := x + x / d
theorem up9_sum (a0 a1 a2 a3 a4 a5 a6 a7 : Nat) (q0 : a0 ≤ 8) (q1 : a1 ≤ 8) (q2 : a2 ≤ 8) (q3 : a3 ≤ 8) (q4 : a4 ≤ 8) (q5 : a5 ≤ 8) (q6 : a6 ≤ 8) (q7 : a7 ≤ 8) :
    up9 (up9 (up9 (a0 + 256 * (a1 + 256 * (a2 + 256 * (a3 + 256 * (a4 + 256 * (a5 + 256 * (a6 + 256 * (a7 + 256 * 0)))))))) 256) 65536) 4294967296 % 128 = a0 + (a1 + (a2 + (a3 + (a4 + (a5 + (a6 + (a7 + 0))))))) := by
  have e1 : up9 (a0 + 256 * (a1 + 256 * (a2 + 256 * (a3 + 256 * (a4 + 256 * (a5 + 256 * (a6 + 256 * (a7 + 256 * 0)))))))) 256 = (a0 + a1) + 256 * ((a1 + a2) + 256 * ((a2 + a3) + 256 * ((a3 + a4) + 256 * ((a4 + a5) + 256 * ((a5 + a6) + 256 * ((a6 + a7) + 256 * a7)))))) := by
    unfold up9
    rw [show (a0 + 256 * (a1 + 256 * (a2 + 256 * (a3 + 256 * (a4 + 256 * (a5 + 256 * (a6 + 256 * (a7 + 256 * 0)))))))) / 256 = a1 + 256 * (a2 + 256 * (a3 + 256 * (a4 + 256 * (a5 + 256 * (a6 + 256 * a7))))) by omega]
    omega
  rw [e1]
  clear e1
  have e2 : up9 ((a0 + a1) + 256 * ((a1 + a2) + 256 * ((a2 + a3) + 256 * ((a3 + a4) + 256 * ((a4 + a5) + 256 * ((a5 + a6) + 256 * ((a6 + a7) + 256 * a7))))))) 65536 =
      (a0 + a1 + a2 + a3) + 256 * ((a1 + a2 + a3 + a4) + 256 * ((a2 + a3 + a4 + a5) + 256 * ((a3 + a4 + a5 + a6) + 256 * ((a4 + a5 + a6 + a7) + 256 * ((a5 + a6 + a7) + 256 * ((a6 + a7) + 256 * a7)))))) := by
    unfold up9
    rw [show ((a0 + a1) + 256 * ((a1 + a2) + 256 * ((a2 + a3) + 256 * ((a3 + a4) + 256 * ((a4 + a5) + 256 * ((a5 + a6) + 256 * ((a6 + a7) + 256 * a7))))))) / 65536 = (a2 + a3) + 256 * ((a3 + a4) + 256 * ((a4 + a5) + 256 * ((a5 + a6) + 256 * ((a6 + a7) + 256 * a7)))) by omega]
    omega
  rw [e2]
  clear e2
  unfold up9
  rw [show ((a0 + a1 + a2 + a3) + 256 * ((a1 + a2 + a3 + a4) + 256 * ((a2 + a3 + a4 + a5) + 256 * ((a3 + a4 + a5 + a6) + 256 * ((a4 + a5 + a6 + a7) + 256 * ((a5 + a6 + a7) + 256 * ((a6 + a7) + 256 * a7))))))) / 4294967296 = (a4 + a5 + a6 + a7) + 256 * ((a5 + a6 + a7) + 256 * ((a6 + a7) + 256 * a7)) by omega]
  omega
theorem up9_all (x : Nat) : T9 8 x ≤ 1085102592571150095 ∧ up9 (up9 (up9 (T9 8 x) 256) 65536) 4294967296 % 128 = pop64 x := by
  have hP : ∀ y, P9 (y % 256) ≤ 8 := fun y => (byte9 (y % 256) (Nat.mod_lt _ (by decide))).2.2.2.1
  have h0 : ∀ y, T9 0 y = 0 := fun y => by simp [T9, S3, mask9]
  refine ⟨by rw [← mask_15]; exact Nat.and_le_right, ?_⟩
  rw [pop_sum, T9_peel, T9_peel, T9_peel, T9_peel, T9_peel, T9_peel, T9_peel, T9_peel, h0]
  exact up9_sum _ _ _ _ _ _ _ _ (hP _) (hP _) (hP _) (hP _) (hP _) (hP _) (hP _) (hP _)

/-! ### the walks -/
theorem ofInt_i64 (a : Nat) (ha : a < 9223372036854775808) : (BitVec.ofInt 64 (a : Int)).toNat = a := by
  rw [BitVec.ofInt_natCast, BitVec.toNat_ofNat]
  exact Nat.mod_eq_of_lt (by omega)
theorem i64_and_nat (a b : Nat) (ha : a < 9223372036854775808) (hb : b < 9223372036854775808) : bits .and .i64 (a : Int) (b : Int) = ((a &&& b : Nat) : Int) := by
  have hx : a &&& b ≤ a := Nat.and_le_left
  show IntKind.i64.wrap ((BitVec.ofInt 64 (a : Int) &&& BitVec.ofInt 64 (b : Int)).toNat : Int) = _
  rw [BitVec.toNat_and, ofInt_i64 a ha, ofInt_i64 b hb]
  exact IntWalk.i64_in _ (by omega)
theorem wrap_in (n : Nat) (h : n < 18446744073709551616) : IntKind.u64.wrap (n : Int) = (n : Int) := by
  rw [IntKind.wrap_u64]
  omega
theorem step_and (x d m : Nat) (hx : x < 18446744073709551616) (hm : m < 9223372036854775808) :
    IntKind.u64.wrap (bits .and .u64 ((x : Int) / (d : Int)) (m : Int) + bits .and .u64 (x : Int) (m : Int)) = (((x / d &&& m) + (x &&& m) : Nat) : Int) := by
  have e1 : (x : Int) / (d : Int) = ((x / d : Nat) : Int) := (Int.natCast_ediv x d).symm
  have h1 : x / d ≤ x := Nat.div_le_self _ _
  have h2 : x / d &&& m ≤ m := Nat.and_le_right
  have h3 : x &&& m ≤ m := Nat.and_le_right
  rw [e1, u64_and_nat _ m (by omega) (by omega), u64_and_nat x m hx (by omega), ← Int.natCast_add]
  exact wrap_in _ (by omega)
theorem step_up (x d : Nat) (hx : x < 9223372036854775808) : IntKind.u64.wrap ((x : Int) + (x : Int) / (d : Int)) = ((up9 x d : Nat) : Int) := by
  have e1 : (x : Int) / (d : Int) = ((x / d : Nat) : Int) := (Int.natCast_ediv x d).symm
  have h1 : x / d ≤ x := Nat.div_le_self _ _
  rw [e1, ← Int.natCast_add]
  exact wrap_in _ (by omega)
theorem up9_le (x d b : Nat) (h : x ≤ b) : up9 x d ≤ b + b / d := Nat.add_le_add h (Nat.div_le_div_right h)
set_option maxHeartbeats 1000000 in
theorem ones_any (x : Nat) (hx : x < 18446744073709551616) (w : World) : Calls Tryd.prog 24 #[.int .u64 (x : Int)] w fun e w' => e = .returned (.int .i64 (pop64 x : Int)) ∧ w = w' := by
  obtain ⟨x1, h1⟩ : ∃ x1, x1 = S1 8 x := ⟨_, rfl⟩
  obtain ⟨x2, h2⟩ : ∃ x2, x2 = S2 8 x1 := ⟨_, rfl⟩
  obtain ⟨x3, h3⟩ : ∃ x3, x3 = S3 8 x2 := ⟨_, rfl⟩
  obtain ⟨x4, h4⟩ : ∃ x4, x4 = up9 x3 256 := ⟨_, rfl⟩
  obtain ⟨x5, h5⟩ : ∃ x5, x5 = up9 x4 65536 := ⟨_, rfl⟩
  obtain ⟨x6, h6⟩ : ∃ x6, x6 = up9 x5 4294967296 := ⟨_, rfl⟩
  have hT : x3 = T9 8 x := by rw [h3, h2, h1]; rfl
  have hall := up9_all x
  rw [← hT, ← h4, ← h5, ← h6] at hall
  have b1 : x1 < 18446744073709551616 := by
    rw [h1]
    unfold S1
    have q1 : x / 2 &&& mask9 85 8 ≤ mask9 85 8 := Nat.and_le_right
    have q2 : x &&& mask9 85 8 ≤ mask9 85 8 := Nat.and_le_right
    rw [mask_85] at q1 q2 ⊢
    omega
  have b2 : x2 ≤ 7378697629483820646 := by
    rw [h2]
    unfold S2
    have q1 : x1 / 4 &&& mask9 51 8 ≤ mask9 51 8 := Nat.and_le_right
    have q2 : x1 &&& mask9 51 8 ≤ mask9 51 8 := Nat.and_le_right
    rw [mask_51] at q1 q2 ⊢
    omega
  have b3 := hall.1
  have b4 := up9_le x3 256 _ b3
  rw [← h4] at b4
  have b5 := up9_le x4 65536 _ b4
  rw [← h5] at b5
  have b6 := up9_le x5 4294967296 _ b5
  rw [← h6] at b6
  have k1 : IntKind.u64.wrap (bits .and .u64 ((x : Int) / 2) 6148914691236517205 + bits .and .u64 (x : Int) 6148914691236517205) = (x1 : Int) := by
    rw [h1]
    unfold S1
    rw [mask_85]
    exact step_and x 2 6148914691236517205 hx (by decide)
  have k2 : IntKind.u64.wrap (bits .and .u64 ((x1 : Int) / 4) 3689348814741910323 + bits .and .u64 (x1 : Int) 3689348814741910323) = (x2 : Int) := by
    rw [h2]
    unfold S2
    rw [mask_51]
    exact step_and x1 4 3689348814741910323 b1 (by decide)
  have k3 : bits .and .u64 (IntKind.u64.wrap ((x2 : Int) / 16 + (x2 : Int))) 1085102592571150095 = (x3 : Int) := by
    have e1 : (x2 : Int) / 16 + (x2 : Int) = ((x2 / 16 + x2 : Nat) : Int) := by omega
    rw [h3]
    unfold S3
    rw [mask_15, e1, wrap_in _ (by omega)]
    exact u64_and_nat _ 1085102592571150095 (by omega) (by decide)
  have k4 : IntKind.u64.wrap ((x3 : Int) + (x3 : Int) / 256) = (x4 : Int) := by
    rw [h4]
    exact step_up x3 256 (by omega)
  have k5 : IntKind.u64.wrap ((x4 : Int) + (x4 : Int) / 65536) = (x5 : Int) := by
    rw [h5]
    exact step_up x4 65536 (by omega)
  have k6 : IntKind.u64.wrap ((x5 : Int) + (x5 : Int) / 4294967296) = (x6 : Int) := by
    rw [h6]
    exact step_up x5 4294967296 (by omega)
  have k7 : bits .and .i64 (x6 : Int) 127 = (pop64 x : Int) := by
    rw [← hall.2, ← Nat.and_two_pow_sub_one_eq_mod x6 7]
    exact i64_and_nat x6 127 (by omega) (by decide)
  have k8 : wrap64 (x6 : Int) = (x6 : Int) := by unfold wrap64; omega
  have K := Lib.hid (And.intro k1 (And.intro k2 (And.intro k3 (And.intro k4 (And.intro k5 (And.intro k6 (And.intro k7 k8)))))))
  clear k1 k2 k3 k4 k5 k6 k7 k8 h1 h2 h3 h4 h5 h6 hall hT b1 b2 b3 b4 b5 b6
  go_enter Tryd.func24, Tryd.ntmps24
  go_wp2
  obtain ⟨k1, k2, k3, k4, k5, k6, k7, k8⟩ := K.out
  simp only [k1, k2, k3, k4, k5, k6, k7, k8]
  go_ret
  exact ⟨rfl, rfl⟩

/-- The table of the library's in its variable. -/
def Tz (w : World) : Prop := ∀ j, j < 64 → w.cell? ⟨0, j, none⟩ = some (.int .u8 ((deBruijn64tab.getD j 0 : Nat) : Int))
theorem Tz.only {S : Nat → Prop} {w w' : World} (h : Tz w) (k : Only S w w') (hn : ¬ S 0) : Tz w' := fun j hj =>
  (k.cell (p := ⟨0, j, none⟩) (World.block_lt_of_cell? w _ (h j hj)) hn).trans (h j hj)
theorem Tz.lt {w : World} (h : Tz w) : 0 < w.heap.size := World.block_lt_of_cell? w _ (h 0 (by decide))
set_option maxHeartbeats 1000000 in
theorem tz_core (x k idx : Nat) (w : World) (hx0 : ((x : Int) == 0) = false)
    (key : Hid (IntKind.u64.wrap (bits BinOp.and IntKind.u64 (x : Int) (IntKind.u64.wrap (-(x : Int))) * 285870213051353865) / 288230376151711744 = (idx : Int)))
    (hi : idx < 64) (hk : k < 64) (hcell : w.cell? ⟨0, idx, none⟩ = some (.int .u8 (k : Int))) :
    Calls Tryd.prog 25 #[.int .u64 (x : Int)] w fun e w' => e = .returned (.int .i64 (k : Int)) ∧ w = w' := by
  go_enter Tryd.func25, Tryd.ntmps25
  go_wp2_with (simp only [key.out])
  go_ret
  exact ⟨rfl, rfl⟩
theorem tz_any (x : Nat) (hx : x < 18446744073709551616) (h0 : x ≠ 0) (w : World) (hT : Tz w) :
    Calls Tryd.prog 25 #[.int .u64 (x : Int)] w fun e w' => e = .returned (.int .i64 (ctz 64 x : Int)) ∧ w = w' := by
  obtain ⟨hlow, hk⟩ := lowest_bit 64 x h0 hx
  obtain ⟨hi, htab⟩ := deBruijn64_at _ hk
  have hcell := hT _ hi
  rw [htab] at hcell
  exact tz_core x _ _ w (by simp; omega) (Lib.hid (tz64_key x _ hx h0 hlow)) hi hk hcell
end Go.Proofs.YtaenobgpbphlfaaDoor
