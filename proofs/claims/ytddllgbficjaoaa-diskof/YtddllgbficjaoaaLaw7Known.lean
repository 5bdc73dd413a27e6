/-
  What the laws of layer 7 ask first: a sector that is kept, one that is lost.
-/
import Derived.Test.YtddllgbficjaoaaDiskN
namespace Go.Proofs.Ytddllgbficjaoaa
open Go.RowKit Go.Lib
set_option maxRecDepth 100000

theorem b8s_replicate (n : Nat) (c : UInt8) : b8s (List.replicate n c) = List.replicate n (b8 c) := by simp [b8s]
theorem b8s_set (l : List UInt8) (i : Nat) (c : UInt8) : b8s (l.set i c) = (b8s l).set i (b8 c) := by simp [b8s, List.map_set]
theorem made_zero (n : Nat) : (madeCells (Value.int .u8 0).cells (n * 1)).toList = b8s (List.replicate n 0) := by
  rw [b8s_replicate, Nat.mul_one]
  apply List.ext_getElem?
  intro j
  by_cases hj : j < n
  · simp [madeCells, hj, Nat.mod_one, Value.cells, b8]
  · simp [madeCells, hj]
/-- Bytes of zero, made. -/
theorem make_bytes (n : Nat) (hn : n ≤ 1000000) (w : World) : ∃ w', (Instr.makeSlice 34 (.int .i64 (n : Int)) (.int .i64 (n : Int))).run Try.prog w = .ok (.slice (some ⟨w.heap.size, 0, none⟩) n n) w' ∧
    w'.ownsRow w.heap.size 5 1 (.slice (some ⟨w.heap.size, 0, none⟩) n n) n (b8s (List.replicate n 0)) ∧ Only (fun _ => False) w w' ∧ w.heap.size < w'.heap.size := by
  obtain ⟨i0, hi0, hz0, hz1, hz2⟩ := info_parts Try.info8
  obtain ⟨w1, hmk, o1, g1⟩ := run_make_full (P := Try.prog) w w.heap.size 34 5 i0 (.int .u8 0) 1 Try.underlying34 hi0 hz0 hz1 .i64 .i64 n (by rw [hz2]; omega) (by simp [maxLen]; omega) (Nat.le_refl _)
  rw [made_zero] at o1
  exact ⟨w1, hmk, o1, (Only.of_grown g1).mono (fun i _ h => by cases h), (o1.lt _ rfl).2⟩
/-- One byte set. -/
theorem set_byte {w : World} {B b n : Nat} {l : List UInt8} (h : w.ownsRow B 5 1 (.slice (some ⟨b, 0, none⟩) n n) n (b8s l)) (i : Nat) (c : UInt8) :
    (w.setCell ⟨b, i, none⟩ (b8 c)).ownsRow B 5 1 (.slice (some ⟨b, 0, none⟩) n n) n (b8s (l.set i c)) ∧ Only (fun i => i = b) w (w.setCell ⟨b, i, none⟩ (b8 c)) := by
  refine ⟨?_, (Only.refl (fun i => i = b) w).setCell (p := ⟨b, i, none⟩) (fun _ => rfl) _⟩
  rw [b8s_set]
  exact (World.ownsRow.stored h i (b8 c)).1

theorem SlIs.head {w : World} {lo hi n c : Nat} {A : Option Addr} {l : List UInt8} (h : SlIs w lo hi (.slice A n c) l) (hl : 0 < l.length) : ∃ ad, A = some ad ∧ lo ≤ ad.block ∧ ad.block < hi ∧ w.cell? ad = some (b8 l[0]) := by
  obtain ⟨A', c', e, _, _, h⟩ := h
  injection e with e _ _
  subst e
  obtain ⟨ad, e, h1, h2, h3⟩ := h.at hl
  rw [addr_zero] at h3
  exact ⟨ad, e, h1, h2, h3⟩

def x5 : List UInt8 := (List.replicate 64 (0 : UInt8)).set 0 5
def k70 : D := D.new 64 (List.replicate 4 (List.replicate 64 0))
def k71 : D := k70.put 1 x5
def k72 : D := k71.put 2 x5
def k73 : D := k72.cut [true]
def k74 : D := { k73 with off := false }
theorem k70_w : k70.write 1 x5 = (0, k71) := by kernel_rfl
theorem k71_w : k71.write 2 x5 = (0, k72) := by kernel_rfl
theorem k73_r : k73.read 1 = (22, []) := by kernel_rfl
theorem k74_r1 : k74.read 1 = (0, x5) := by kernel_rfl
theorem k74_r2 : k74.read 2 = (0, List.replicate 64 0) := by kernel_rfl
theorem k74_b : k74.kept.flatten.length = 256 := by kernel_rfl

set_option maxHeartbeats 4000000 in
theorem known7_any (w : World) : Calls Try.prog 7 #[] w fun e w' => e = .returned (.bool true) ∧ Below w.heap.size w w' := by
  have C1 := Lib.hid (disknew_any 4 64 w)
  go_enter Try.func7, Try.ntmps7
  go_wp2_with fail
  refine C1.out.mono ?_
  intro e w1 hN
  rw [NewAns, if_pos (by decide)] at hN
  obtain ⟨v, rfl, hm⟩ := hN
  obtain ⟨g, rfl, L0, _⟩ := Live.made (Below.refl w.heap.size w) (K := fun _ => False) (fun _ h => h.elim) hm
  have L1 : Live w (fun _ => False) g k70 w1 := L0
  obtain ⟨w2, hmk0, o2, k2, s2⟩ := make_bytes 64 (by omega) w1
  obtain ⟨o3, k3⟩ := set_byte o2 0 5
  have hf0 := World.ownsRow.frozenAt o2 0
  have hc0 : w2.cell? ⟨w1.heap.size, 0, none⟩ = some (.int .u8 0) := World.ownsRow.cellAt o2 0 (by omega)
  have hmk : (Instr.makeSlice 34 (.int .i64 64) (.int .i64 64)).run Try.prog w1 = .ok (.slice (some ⟨w1.heap.size, 0, none⟩) 64 64) w2 := hmk0
  have L3 : Live w (fun i => i = w1.heap.size) g k70 (w2.setCell ⟨w1.heap.size, 0, none⟩ (.int .u8 5)) :=
    (L1.more (K' := fun i => i = w1.heap.size) k2 (fun i hi => ⟨.inr (by omega), by omega⟩)).far k3 (fun i _ h => h) (fun i hi e => by have := L1.low.size; omega)
  have X3 : SlIs (w2.setCell ⟨w1.heap.size, 0, none⟩ (.int .u8 5)) w1.heap.size (w1.heap.size + 1) (.slice (some ⟨w1.heap.size, 0, none⟩) 64 64) x5 := by
    obtain ⟨A, c, e, q1, q2, q3⟩ := owns_SlIs o3
    injection e with e1 e2 e3
    subst e1 e3
    refine ⟨_, _, rfl, q1, q2, fun hn => ?_⟩
    obtain ⟨ad, e, _, _, r⟩ := q3 hn
    injection e with e
    subst e
    exact ⟨_, rfl, Nat.le_refl _, Nat.lt_succ_self _, r⟩
  have hs3 : w1.heap.size + 1 ≤ (w2.setCell ⟨w1.heap.size, 0, none⟩ (.int .u8 5)).heap.size := L3.klt _ rfl
  have HX3 := Lib.hid X3
  have HL3 := Lib.hid L3
  clear hm C1 L0 L1 o2 k2 o3 k3 X3 L3 hmk0
  go_upto_region 6 with fail
  generalize w2.setCell ⟨w1.heap.size, 0, none⟩ (.int .u8 5) = w3 at HX3 HL3 hs3 ⊢
  clear hmk hc0 hf0 s2 w2
  have C2 := Lib.hid (live_write w w3 _ g k70 HL3.out 1 _ _ _ x5 HX3.out hs3 (fun i h1 h2 => .inl (by omega)) ⟨by decide, by decide, by decide⟩)
  rw [k70_w] at C2
  go_wp2_with fail
  refine C2.out.mono ?_
  rintro e w4 ⟨rfl, l4, o4⟩
  have X4 := Lib.hid (HX3.out.only o4 hs3 (fun i h1 h2 h => h.1 (by omega)))
  have hs4 := Nat.le_trans hs3 o4.size
  have C3 := Lib.hid (live_write w w4 _ g k71 l4 2 _ _ _ x5 X4.out hs4 (fun i h1 h2 => .inl (by omega)) ⟨by decide, by decide, by decide⟩)
  rw [k71_w] at C3
  clear l4 o4 C2 HX3 HL3
  go_wp2_with fail
  refine C3.out.mono ?_
  rintro e w5 ⟨rfl, l5, o5⟩
  have hlow := l5.low.size
  have L5 : Hid (Live w (fun i => i = w5.heap.size) g k72 (w5.alloc (.cells #[.bool true] 4))) := l5.more ((Only.refl _ w5).alloc _) (fun i hi => ⟨.inr (by omega), by simp; omega⟩)
  have C4 := Lib.hid (live_cut w _ _ g k72 L5.out [true] (.slice (some ⟨w5.heap.size, 0, none⟩) 1 1) (fun i => i = w5.heap.size) ⟨_, _, rfl, fun _ => ⟨_, rfl, rfl, by simp, cell_one_new w5 (.bool true) 4⟩⟩ (fun i hi => .inl hi) ⟨by decide, by decide, by decide⟩)
  clear l5 o5 C3 X4 L5
  go_wp2_with fail
  refine C4.out.mono ?_
  rintro e w6 ⟨rfl, l6, _⟩
  have l6 : Live w _ g k73 w6 := l6
  have C5 := Lib.hid (live_read w w6 _ g k73 l6 1)
  rw [k73_r] at C5
  have L6 := Lib.hid (l6.fewer (K' := fun _ => False) (fun _ h => h.elim))
  clear l6 C4
  go_wp2_with fail
  refine C5.out.mono ?_
  rintro e w7 ⟨A7, c7, rfl, _, b7⟩
  have l7 := L6.out.below b7
  have C6 := Lib.hid (live_on w w7 _ g k73 l7)
  clear l7 b7 L6 C5
  go_wp2_with fail
  refine C6.out.mono ?_
  rintro e w8 ⟨rfl, l8, _⟩
  have l8 : Live w _ g k74 w8 := l8
  have C7 := Lib.hid (live_read w w8 _ g k74 l8 1)
  rw [k74_r1] at C7
  rw [show ((0 : Int), x5).2.length = 64 from rfl] at C7
  have L8 := Lib.hid l8
  clear l8 C6
  go_wp2_with fail
  refine C7.out.mono ?_
  rintro e w9 ⟨A9, c9, rfl, x9, b9⟩
  have l9 := L8.out.below b9
  have C8 := Lib.hid (live_read w w9 _ g k74 l9 2)
  rw [k74_r2] at C8
  have L9 := Lib.hid l9
  have X9 := Lib.hid x9
  clear l9 L8 C7 x9 b9
  go_wp2_with fail
  refine C8.out.mono ?_
  rintro e w10 ⟨A10, c10, rfl, x10, b10⟩
  have l10 := L9.out.below b10
  have x9 := X9.out.only (Only.of_below b10) (Nat.le_refl _) (fun i h1 h2 h => by omega)
  have C9 := Lib.hid (live_shape w w10 _ g k74 l10)
  rw [show k74.kept.length = 4 from rfl, show k74.size = 64 from rfl] at C9
  have L10 := Lib.hid l10
  have X9' := Lib.hid x9
  have X10 := Lib.hid x10
  clear l10 L9 C8 x9 b10 x10 X9
  go_wp2_with fail
  refine C9.out.mono ?_
  rintro e w11 ⟨rfl, m, rfl⟩
  have l11 : Live w _ g k74 (w10.drewN m) := L10.out.new ((Only.refl _ w10).drewN m)
  obtain ⟨ad9, rfl, _, _, e9⟩ := X9'.out.head (by decide)
  obtain ⟨ad10, rfl, _, _, e10⟩ := X10.out.head (by decide)
  have e9' : w10.cell? ad9 = some (.int .u8 5) := e9
  have e10' : w10.cell? ad10 = some (.int .u8 0) := e10
  have C10 := Lib.hid (live_writes w _ _ g k74 l11)
  have C11 := Lib.hid (live_bytes w _ _ g k74 l11)
  have hlw := l11.low
  have H11 := Lib.hid hlw
  rw [k74_b] at C11
  rw [show k74.writes = 2 from rfl] at C10
  clear l11 L10 C9 X9' X10 e9 e10 hlw
  go_wp2_with fail
  refine C10.out.mono ?_
  rintro e w12 ⟨rfl, rfl⟩
  go_wp2_with fail
  refine C11.out.mono ?_
  rintro e w12 ⟨A12, c12, rfl, _, b12⟩
  have R := Lib.hid (H11.out.trans (b12.mono H11.out.size))
  clear b12 C11 C10 e9' e10'
  go_wp2
  go_ret
  exact ⟨rfl, R.out⟩
end Go.Proofs.Ytddllgbficjaoaa
