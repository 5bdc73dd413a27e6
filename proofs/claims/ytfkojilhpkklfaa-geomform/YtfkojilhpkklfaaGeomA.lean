/-
  Package geom: geometries; upwards, may, sizes.
-/
import Derived.Test.YtfkojilhpkklfaaNumI
import Derived.Deep.QuietTactic
import Derived.BigQuiet
import Derived.Deep.Cut
import Derived.Deep.CutRange
import Derived.StillTailTactics
import Derived.Deep.RegionHeld3
import Derived.Test.YtfkojilhpkklfaaDrawn
namespace Go.Proofs.Ytfkojilhpkklfaa
open Go.RowKit Go.Lib
set_option maxRecDepth 100000

/-- Nothing that was there has turned. -/
def Still (a b : World) : Prop := Only (fun _ => False) a b
section
variable {a b c : World}
theorem Still.refl (a : World) : Still a a := Only.refl _ a
theorem Still.trans (h : Still a b) (k : Still b c) : Still a c := Only.trans h k (fun _ _ h => h)
theorem Still.alloc (h : Still a b) (o : Obj) : Still a (b.alloc o) := Only.alloc h o
theorem Still.drewN (h : Still a b) (n : Nat) : Still a (b.drewN n) := Only.drewN h n
theorem Still.drew (h : Still a b) : Still a b.drew := Only.drew h
theorem Still.below (h : Still a b) : Below a.heap.size a b := Only.below h (Nat.le_refl _) (fun _ _ h => h)
theorem Still.has {g : Nat} {t : TypeId} {cs : Array Value} (h : Still a b) (k : Has a g t cs) : Has b g t cs := k.only h (fun h => h)
theorem Still.of_below (h : Below a.heap.size a b) : Still a b := (Only.of_below h).mono (fun i hi h => by omega)
theorem Still.size (h : Still a b) : a.heap.size ≤ b.heap.size := Only.size h
theorem Still.set (h : Still a b) {p : Addr} (hp : a.heap.size ≤ p.block) (u : Value) : Still a (b.setCell p u) := Only.setCell h (fun h => by omega) u
theorem Has.drewN {g : Nat} {t : TypeId} {cs : Array Value} (h : Has a g t cs) (n : Nat) : Has (a.drewN n) g t cs := h
end

/-- A geometry: how many bytes a block has, how many blocks, how many inodes. -/
structure G3 where
  b : Int
  n : Int
  i : Int
def G3.val (g : G3) : Value := .agg #[.int .i64 g.b, .int .i64 g.n, .int .i64 g.i]
def G3.cells (g : G3) : Array Value := #[.int .i64 g.b, .int .i64 g.n, .int .i64 g.i]
def G3.zero : G3 := ⟨0, 0, 0⟩
/-- Each of its numbers may be. -/
structure May (B N I : Nat) : Prop where
  b : B = 64 ∨ B = 128 ∨ B = 256 ∨ B = 512 ∨ B = 1024
  n8 : 8 ≤ N
  n : N ≤ 65536
  i1 : 1 ≤ I
  i : I ≤ 4096
def gN (B N I : Nat) : G3 := ⟨(B : Int), (N : Int), (I : Int)⟩
def G3.may (g : G3) : Bool := decide ((g.b = 64 ∨ g.b = 128 ∨ g.b = 256 ∨ g.b = 512 ∨ g.b = 1024) ∧ 8 ≤ g.n ∧ g.n ≤ 65536 ∧ 1 ≤ g.i ∧ g.i ≤ 4096)
theorem G3.nat {g : G3} (h : g.may = true) : ∃ B N I : Nat, g = gN B N I ∧ May B N I := by
  obtain ⟨b, n, i⟩ := g
  have h := of_decide_eq_true h
  simp only at h
  refine ⟨b.toNat, n.toNat, i.toNat, ?_, ?_⟩
  · unfold gN
    congr 1 <;> omega
  · constructor <;> omega
theorem May.yes {B N I : Nat} (h : May B N I) : (gN B N I).may = true := by
  obtain ⟨h1, h2, h3, h4, h5⟩ := h
  unfold G3.may gN
  simp only [decide_eq_true_eq]
  omega

/-! ### how many blocks each part takes -/
def upN (a d : Nat) : Nat := (a + d - 1) / d
def s1 (B N : Nat) : Nat := upN N (B * 8)
def s2 (B I : Nat) : Nat := upN I (B * 8)
def s3 (B I : Nat) : Nat := upN (I * 64) B
theorem May.range {B N I : Nat} (h : May B N I) : 64 ≤ B ∧ B ≤ 1024 := by have := h.b; omega
theorem upN_le {a d : Nat} (h : 1 ≤ d) : upN a d ≤ a := by
  unfold upN
  rcases Nat.eq_zero_or_pos a with h0 | h0
  · subst h0
    rw [Nat.div_eq_of_lt (by omega)]
    exact Nat.zero_le _
  · have : (a + d - 1) / d ≤ (a * d) / d := Nat.div_le_div_right (by
      have : d - 1 ≤ a * (d - 1) := Nat.le_mul_of_pos_left _ h0
      have e : a * d = a * (d - 1) + a := by
        obtain ⟨k, rfl⟩ : ∃ k, d = k + 1 := ⟨d - 1, by omega⟩
        simp [Nat.mul_add]
      omega)
    rwa [Nat.mul_div_cancel _ (by omega)] at this
theorem upN_pos {a d : Nat} (h : 1 ≤ d) (ha : 1 ≤ a) : 1 ≤ upN a d := by
  unfold upN
  exact (Nat.le_div_iff_mul_le (by omega)).2 (by omega)
theorem May.sizes {B N I : Nat} (h : May B N I) : 1 ≤ s1 B N ∧ s1 B N ≤ 65536 ∧ 1 ≤ s2 B I ∧ s2 B I ≤ 4096 ∧ 1 ≤ s3 B I ∧ s3 B I ≤ 262144 := by
  have := h.range
  obtain ⟨_, h2, h3, h4, h5⟩ := h
  have a1 : s1 B N ≤ N := upN_le (by omega)
  have a2 : s2 B I ≤ I := upN_le (by omega)
  have a3 : s3 B I ≤ I * 64 := upN_le (by omega)
  have b1 : 1 ≤ s1 B N := upN_pos (by omega) (by omega)
  have b2 : 1 ≤ s2 B I := upN_pos (by omega) (by omega)
  have b3 : 1 ≤ s3 B I := upN_pos (by omega) (by omega)
  omega

set_option maxHeartbeats 400000 in
theorem gupwards_any (n d : Nat) (hn : n ≤ 1000000) (h1 : 1 ≤ d) (hd : d ≤ 1000000) (w : World) : Calls Try.prog 32 #[.int .i64 (n : Int), .int .i64 (d : Int)] w fun e w' => e = .returned (.int .i64 (upN n d : Int)) ∧ w = w' := by
  have n0 : ¬ ((d : Int) = 0) := by omega
  have R : Hid (((n : Int) + (d : Int) - 1) / (d : Int) = (upN n d : Int)) := Lib.hid (by
    have e : ((n + d - 1 : Nat) : Int) = (n : Int) + (d : Int) - 1 := by omega
    unfold upN
    rw [Int.natCast_ediv, e])
  go_enter Try.func32, Try.ntmps32
  go_wp2
  go_ret
  exact ⟨congrArg (fun x => Ending.returned (.int .i64 x)) R.out, rfl⟩

theorem may_rest {b n i : Int} (hb : b = 64 ∨ b = 128 ∨ b = 256 ∨ b = 512 ∨ b = 1024) : (G3.mk b n i).may = (decide (8 ≤ n) && decide (n ≤ 65536) && decide (1 ≤ i) && decide (i ≤ 4096)) := by
  unfold G3.may
  simp only [hb, true_and]
  simp only [Bool.decide_and, Bool.and_assoc]
set_option maxHeartbeats 1000000 in
theorem may_of (b n i : Int) (hb : b = 64 ∨ b = 128 ∨ b = 256 ∨ b = 512 ∨ b = 1024) (w : World) : Calls Try.prog 21 #[.agg #[.int .i64 b, .int .i64 n, .int .i64 i]] w fun e w' => e = .returned (.bool (G3.mk b n i).may) ∧ Still w w' := by
  have HV := Lib.hid (may_rest (n := n) (i := i) hb)
  generalize (G3.mk b n i).may = V at *
  have K : Hid (Still w (w.alloc (.cells #[.int .i64 b, .int .i64 n, .int .i64 i] 23))) := Lib.hid ((Still.refl w).alloc _)
  rcases hb with rfl | rfl | rfl | rfl | rfl
  all_goals
    go_enter Try.func21, Try.ntmps21
    go_wp2
    all_goals
      go_ret
      refine ⟨congrArg (fun x => Ending.returned (.bool x)) ?_, K.out⟩
      rw [HV.out, Bool.eq_iff_iff]
      simp only [Bool.and_eq_true, decide_eq_true_eq, Bool.false_eq_true]
      first | omega | exact ⟨fun h => h.elim, fun h => by omega⟩
set_option maxHeartbeats 1000000 in
theorem may_none (b n i : Int) (h1 : ¬ b = 64) (h2 : ¬ b = 128) (h3 : ¬ b = 256) (h4 : ¬ b = 512) (h5 : ¬ b = 1024) (w : World) : Calls Try.prog 21 #[.agg #[.int .i64 b, .int .i64 n, .int .i64 i]] w fun e w' => e = .returned (.bool false) ∧ Still w w' := by
  have K : Hid (Still w (w.alloc (.cells #[.int .i64 b, .int .i64 n, .int .i64 i] 23))) := Lib.hid ((Still.refl w).alloc _)
  have e1 : (b == 64) = false := by simpa using h1
  have e2 : (b == 128) = false := by simpa using h2
  have e3 : (b == 256) = false := by simpa using h3
  have e4 : (b == 512) = false := by simpa using h4
  have e5 : (b == 1024) = false := by simpa using h5
  go_enter Try.func21, Try.ntmps21
  go_wp2
  go_ret
  exact ⟨rfl, K.out⟩
theorem may_any (g : G3) (w : World) : Calls Try.prog 21 #[g.val] w fun e w' => e = .returned (.bool g.may) ∧ Still w w' := by
  obtain ⟨b, n, i⟩ := g
  by_cases hb : b = 64 ∨ b = 128 ∨ b = 256 ∨ b = 512 ∨ b = 1024
  · exact may_of b n i hb w
  · have e : (G3.mk b n i).may = false := decide_eq_false (fun h => hb h.1)
    rw [e]
    exact may_none b n i (by omega) (by omega) (by omega) (by omega) (by omega) w

/-! ### sizes -/
theorem has_set4 {w : World} {g : Nat} {t : TypeId} {x0 x1 x2 x3 : Value} (h : Has w g t #[x0, x1, x2, x3]) (y0 y1 y2 y3 : Value) :
    Has ((((w.setCell ⟨g, 0, none⟩ y0).setCell ⟨g, 1, none⟩ y1).setCell ⟨g, 2, none⟩ y2).setCell ⟨g, 3, none⟩ y3) g t #[y0, y1, y2, y3] := (((h.set 0 y0).set 1 y1).set 2 y2).set 3 y3
theorem Try.arr4Size : (Try.prog.info? 48).map (·.size) = some 4 := by kernel_rfl
/-- The four sizes as a value. -/
def sizesV (B N I : Nat) : Value := .agg #[.int .i64 1, .int .i64 (s1 B N : Int), .int .i64 (s2 B I : Int), .int .i64 (s3 B I : Int)]
set_option maxHeartbeats 1000000 in
theorem sizes_any {B N I : Nat} (h : May B N I) (w : World) : Calls Try.prog 22 #[(gN B N I).val] w fun e w' => e = .returned (sizesV B N I) ∧ Still w w' := by
  have hr := h.range
  have C1 : Hid (∀ W, Calls Try.prog 32 #[.int .i64 (N : Int), .int .i64 ((B : Int) * 8)] W fun e w' => e = .returned (.int .i64 (s1 B N : Int)) ∧ W = w') := Lib.hid (fun W => gupwards_any N (B * 8) (by have := h.n; omega) (by omega) (by omega) W)
  have C2 : Hid (∀ W, Calls Try.prog 32 #[.int .i64 (I : Int), .int .i64 ((B : Int) * 8)] W fun e w' => e = .returned (.int .i64 (s2 B I : Int)) ∧ W = w') := Lib.hid (fun W => gupwards_any I (B * 8) (by have := h.i; omega) (by omega) (by omega) W)
  have C3 : Hid (∀ W, Calls Try.prog 32 #[.int .i64 ((I : Int) * 64), .int .i64 (B : Int)] W fun e w' => e = .returned (.int .i64 (s3 B I : Int)) ∧ W = w') := Lib.hid (fun W => gupwards_any (I * 64) B (by have := h.i; omega) (by omega) (by omega) W)
  have hw3 : IntKind.i64.wrap ((I : Int) * 64) = (I : Int) * 64 := IntWalk.i64_in _ (by have := h.i; omega)
  have C4 : Hid (∀ W, Calls Try.prog 32 #[.int .i64 (IntKind.i64.wrap ((I : Int) * 64)), .int .i64 (B : Int)] W fun e w' => e = .returned (.int .i64 (s3 B I : Int)) ∧ W = w') := Lib.hid (by rw [hw3]; exact C3.out)
  have hi := h.i
  unfold sizesV
  generalize s1 B N = a1 at *
  generalize s2 B I = a2 at *
  generalize s3 B I = a3 at *
  clear h hw3
  show Calls Try.prog 22 #[.agg #[.int .i64 (B : Int), .int .i64 (N : Int), .int .i64 (I : Int)]] w _
  have HB := (Has.new w 23 #[.int .i64 (B : Int), .int .i64 (N : Int), .int .i64 (I : Int)]).alloc (.cells #[.int .i64 0, .int .i64 0, .int .i64 0, .int .i64 0] 48)
  have c0 := HB.cell 0
  have c1 := HB.cell 1
  have c2 := HB.cell 2
  simp only [List.getElem?_toArray, List.getElem?_cons_zero, List.getElem?_cons_succ] at c0 c1 c2
  clear HB
  have HR : Hid (Has ((w.alloc (.cells #[.int .i64 (B : Int), .int .i64 (N : Int), .int .i64 (I : Int)] 23)).alloc (.cells #[.int .i64 1, .int .i64 (a1 : Int), .int .i64 (a2 : Int), .int .i64 (a3 : Int)] 48)).drew (w.heap.size + 1) 48 #[.int .i64 1, .int .i64 (a1 : Int), .int .i64 (a2 : Int), .int .i64 (a3 : Int)]) := Lib.hid (by
    have := Has.new (w.alloc (.cells #[.int .i64 (B : Int), .int .i64 (N : Int), .int .i64 (I : Int)] 23)) 48 #[.int .i64 1, .int .i64 (a1 : Int), .int .i64 (a2 : Int), .int .i64 (a3 : Int)]
    simpa using this.drew)
  have K : Hid (Still w ((w.alloc (.cells #[.int .i64 (B : Int), .int .i64 (N : Int), .int .i64 (I : Int)] 23)).alloc (.cells #[.int .i64 1, .int .i64 (a1 : Int), .int .i64 (a2 : Int), .int .i64 (a3 : Int)] 48)).drew) := Lib.hid ((((Still.refl w).alloc _).alloc _).drew)
  go_enter Try.func22, Try.ntmps22
  go_wp2
  go_region_held3 (fun w' => w'.cell? ⟨w.heap.size, 0, none⟩ = some (.int .i64 (B : Int)) ∧ w'.cell? ⟨w.heap.size, 1, none⟩ = some (.int .i64 (N : Int)) ∧ w'.cell? ⟨w.heap.size, 2, none⟩ = some (.int .i64 (I : Int)))
    (first | exact ⟨c0, c1, c2⟩ | go_keep)
    (first | (go_at_call 32; first | (with_reducible refine (C1.out _).mono ?_; rintro e w' ⟨rfl, rfl⟩) | (with_reducible refine (C2.out _).mono ?_; rintro e w' ⟨rfl, rfl⟩) | (with_reducible refine (C3.out _).mono ?_; rintro e w' ⟨rfl, rfl⟩) | (with_reducible refine (C4.out _).mono ?_; rintro e w' ⟨rfl, rfl⟩) | fail) | fail)
  go_wp2_with fail
  refine bodyPost_ret (results_cell_row rfl _ _ (w.heap.size + 1) 48 _ (0, 0) _ rfl HR.out Try.underlying48 rfl Try.arr4Size) rfl ?_
  exact ⟨rfl, K.out⟩
end Go.Proofs.Ytfkojilhpkklfaa
