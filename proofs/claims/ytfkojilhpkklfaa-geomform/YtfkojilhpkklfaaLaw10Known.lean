/-
  Layer 10's own 'known': a small geometry; 'check'.
-/
import Derived.Test.YtfkojilhpkklfaaGeomD
import Derived.Test.YtfkojilhpkklfaaGeomF
import Derived.Test.YtfkojilhpkklfaaGeomH
namespace Go.Proofs.Ytfkojilhpkklfaa
open Go.RowKit Go.Lib
set_option maxRecDepth 100000

theorem Has.cells3 {w : World} {g : Nat} {t : TypeId} {x0 x1 x2 : Value} (h : Has w g t #[x0, x1, x2]) :
    w.cell? ⟨g, 0, none⟩ = some x0 ∧ w.cell? ⟨g, 1, none⟩ = some x1 ∧ w.cell? ⟨g, 2, none⟩ = some x2 :=
  ⟨by simpa using h.cell 0, by simpa using h.cell 1, by simpa using h.cell 2⟩
theorem may_small : May 64 100 10 := by constructor <;> omega
theorem chk_small : (gN 64 100 10).chk = 0 := by decide
theorem partsCells_small : partsCells 64 100 10 = #[.int .i64 0, .int .i64 1, .int .i64 1, .int .i64 1, .int .i64 2, .int .i64 1, .int .i64 3, .int .i64 10] := by kernel_rfl
set_option maxHeartbeats 4000000 in
theorem known10_any (w : World) : Calls Try.prog 6 #[] w fun e w' => e = .returned (.bool true) ∧ Still w w' := by
  have P : Hid (∀ W, Calls Try.prog 11 #[.agg #[.int .i64 64, .int .i64 100, .int .i64 10]] W fun e w' => e = .returned (.agg #[.int .i64 0, .int .i64 1, .int .i64 1, .int .i64 1, .int .i64 2, .int .i64 1, .int .i64 3, .int .i64 10]) ∧ Still W w') := Lib.hid (fun W => by
    have := parts_any may_small W
    rw [partsCells_small] at this
    exact this)
  have IN : Hid (∀ W, Calls Try.prog 12 #[.agg #[.int .i64 64, .int .i64 100, .int .i64 10], .int .i64 3] W fun e w' => e = .returned (.tuple #[.int .i64 5, .int .i64 0]) ∧ Still W w') := Lib.hid (fun W => inode_any may_small 2 (by decide) W)
  have EN : Hid (∀ W, Calls Try.prog 7 #[.agg #[.int .i64 64, .int .i64 100, .int .i64 10]] W fun e w' => ∃ A c, e = .returned (.tuple #[.slice A 64 c, .int .i64 0]) ∧ SlIs w' W.heap.size w'.heap.size (.slice A 64 c) (gN 64 100 10).bytes ∧ Still W w') := Lib.hid (fun W => (gencode_any (gN 64 100 10) W).mono fun e w' hh => by
    obtain ⟨v, rfl, h1, _, h3⟩ := hh
    have o := h1 chk_small
    obtain ⟨A, c, rfl, q1, q2, q3⟩ := owns_slice o
    have hl : (gN 64 100 10).bytes.length = 64 := superB_length 64 100 10
    rw [chk_small, hl]
    exact ⟨A, c, rfl, ⟨A, c, by rw [hl], q1, q2, q3⟩, h3⟩)
  have DE : Hid (∀ W A c lo, SlIs W lo W.heap.size (.slice A 64 c) (gN 64 100 10).bytes → Calls Try.prog 9 #[.slice A 64 c] W fun e w' => e = .returned (.tuple #[.agg #[.int .i64 64, .int .i64 100, .int .i64 10], .int .i64 0]) ∧ Still W w') := Lib.hid (fun W A c lo h => by
    have hl : (gN 64 100 10).bytes.length = 64 := superB_length 64 100 10
    have := gdecode_any _ _ lo W.heap.size W h (Nat.le_refl _) (by rw [hl]; decide)
    have hi := isG_bytes chk_small
    rw [show decG (gN 64 100 10).bytes = gN 64 100 10 by unfold decG; rw [if_pos hi, readG_bytes chk_small], show decE (gN 64 100 10).bytes = 0 from if_pos hi] at this
    exact this)
  have CK : Hid (∀ W, Calls Try.prog 8 #[.agg #[.int .i64 64, .int .i64 100, .int .i64 10]] W fun e w' => e = .returned (.int .i64 0) ∧ Still W w') := Lib.hid (fun W => by
    have := check_any (gN 64 100 10) W
    rw [chk_small] at this
    exact this)
  have DA : Hid (∀ W, Calls Try.prog 13 #[.agg #[.int .i64 64, .int .i64 100, .int .i64 10]] W fun e w' => e = .returned (.int .i64 87) ∧ Still W w') := Lib.hid (fun W => data_any may_small W)
  have q0 : ∀ w, (binOp .eql 38 (.agg #[.int .i64 0, .int .i64 1]) (.agg #[.int .i64 0, .int .i64 1])).run Try.prog w = .ok (.bool true) w := fun _ => by kernel_rfl
  have q1 : ∀ w, (binOp .eql 38 (.agg #[.int .i64 1, .int .i64 1]) (.agg #[.int .i64 1, .int .i64 1])).run Try.prog w = .ok (.bool true) w := fun _ => by kernel_rfl
  have q2 : ∀ w, (binOp .eql 38 (.agg #[.int .i64 2, .int .i64 1]) (.agg #[.int .i64 2, .int .i64 1])).run Try.prog w = .ok (.bool true) w := fun _ => by kernel_rfl
  have q3 : ∀ w, (binOp .eql 38 (.agg #[.int .i64 3, .int .i64 10]) (.agg #[.int .i64 3, .int .i64 10])).run Try.prog w = .ok (.bool true) w := fun _ => by kernel_rfl
  have q4 : ∀ w, (binOp .eql 23 (.agg #[.int .i64 64, .int .i64 100, .int .i64 10]) (.agg #[.int .i64 64, .int .i64 100, .int .i64 10])).run Try.prog w = .ok (.bool true) w := fun _ => by kernel_rfl
  go_enter Try.func6, Try.ntmps6
  go_wp2_with fail
  refine (P.out _).mono ?_
  rintro e w1 ⟨rfl, k1⟩
  have G1 := Lib.hid (k1.has (Has.new w 23 #[.int .i64 64, .int .i64 100, .int .i64 10]))
  have K1 := Lib.hid (((Still.refl w).alloc (.cells #[.int .i64 64, .int .i64 100, .int .i64 10] 23)).trans k1)
  obtain ⟨c0, c1, c2⟩ := (G1.out.alloc (.cells #[.int .i64 0, .int .i64 1, .int .i64 1, .int .i64 1, .int .i64 2, .int .i64 1, .int .i64 3, .int .i64 10] 39)).cells3
  clear k1 P
  go_wp2_with fail
  refine (IN.out _).mono ?_
  rintro e w2 ⟨rfl, k2⟩
  have H2 := Lib.hid (k2.has (Has.new w1 39 #[.int .i64 0, .int .i64 1, .int .i64 1, .int .i64 1, .int .i64 2, .int .i64 1, .int .i64 3, .int .i64 10]))
  have G2 := Lib.hid (k2.has (G1.out.alloc _))
  have K2 := Lib.hid ((K1.out.alloc _).trans k2)
  clear c0 c1 c2
  obtain ⟨c0, c1, c2⟩ := G2.out.cells3
  clear k2 IN G1 K1
  go_wp2_with fail
  refine (EN.out _).mono ?_
  rintro e w3 ⟨A, c, rfl, s3, k3⟩
  have H3 := Lib.hid (k3.has H2.out)
  have G3 := Lib.hid (k3.has G2.out)
  have K3 := Lib.hid (K2.out.trans k3)
  have D3 := Lib.hid (DE.out w3 A c _ s3)
  clear c0 c1 c2 k3 s3 EN DE H2 G2 K2
  go_wp2_with fail
  refine D3.out.mono ?_
  rintro e w4 ⟨rfl, k4⟩
  have H4 := Lib.hid (k4.has H3.out)
  have G4 := Lib.hid (k4.has G3.out)
  have K4 := Lib.hid (K3.out.trans k4)
  clear k4 H3 G3 K3 D3
  obtain ⟨c0, c1, c2⟩ := (G4.out.alloc (.cells #[.int .i64 64, .int .i64 100, .int .i64 10] 23)).cells3
  go_wp2_with fail
  refine (CK.out _).mono ?_
  rintro e w5 ⟨rfl, k5⟩
  have H5 := Lib.hid (k5.has (H4.out.alloc _))
  have G5 := Lib.hid (k5.has (G4.out.alloc _))
  have X5 := Lib.hid (k5.has (Has.new w4 23 #[.int .i64 64, .int .i64 100, .int .i64 10]))
  have K5 := Lib.hid ((K4.out.alloc _).trans k5)
  clear c0 c1 c2 k5 H4 G4 K4 CK
  obtain ⟨c0, c1, c2⟩ := G5.out.cells3
  obtain ⟨p0, p1, p2, p3, p4, p5, p6, p7⟩ := H5.out.cells8
  go_wp2_with fail
  refine (DA.out _).mono ?_
  rintro e w6 ⟨rfl, k6⟩
  have R := Lib.hid (K5.out.trans k6)
  obtain ⟨d0, d1, d2⟩ := (k6.has G5.out).cells3
  obtain ⟨e0, e1, e2⟩ := (k6.has X5.out).cells3
  clear c0 c1 c2 p0 p1 p2 p3 p4 p5 p6 p7 k6 H5 G5 X5 K5 DA
  go_wp2
  go_ret
  exact ⟨rfl, R.out⟩
end Go.Proofs.Ytfkojilhpkklfaa
