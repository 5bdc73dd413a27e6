/-
  Package geom: Data, must, Check.
-/
import Derived.Test.YtfkojilhpkklfaaGeomA
import Derived.Test.YtfkojilhpkklfaaCaughtA
import Derived.LoopN
namespace Go.Proofs.Ytfkojilhpkklfaa
open Go.RowKit Go.Lib
set_option maxRecDepth 100000

/-- How many blocks are left behind the parts. -/
def dataN (B N I : Nat) : Int := (N : Int) - 1 - (s1 B N : Int) - (s2 B I : Int) - (s3 B I : Int)
/-- The box in which a geometry lies. -/
def gBox (b n i : Int) : Obj := .cells #[.int .i64 b, .int .i64 n, .int .i64 i] 23
set_option maxHeartbeats 1000000 in
theorem data_no (g : G3) (hg : g.may = false) (w : World) : Calls Try.prog 13 #[g.val] w fun e w' => e = .returned (.int .i64 0) ∧ Still w w' := by
  have C : Hid (∀ W, Calls Try.prog 21 #[.agg #[.int .i64 g.b, .int .i64 g.n, .int .i64 g.i]] W fun e w' => e = .returned (.bool false) ∧ Still W w') := Lib.hid (fun W => by
    have := may_any g W
    rw [hg] at this
    exact this)
  have K0 : Hid (Still w (w.alloc (.cells #[.int .i64 g.b, .int .i64 g.n, .int .i64 g.i] 23))) := Lib.hid ((Still.refl w).alloc _)
  show Calls Try.prog 13 #[.agg #[.int .i64 g.b, .int .i64 g.n, .int .i64 g.i]] w _
  clear hg
  go_enter Try.func13, Try.ntmps13
  go_wp2_with fail
  refine (C.out _).mono ?_
  rintro e w1 ⟨rfl, k1⟩
  have R := Lib.hid (K0.out.trans k1)
  clear k1 K0 C
  go_wp2
  go_ret
  exact ⟨rfl, R.out⟩

/-- A geometry in its box, behind a call that turned nothing. -/
theorem box_facts {w w1 : World} {b n i : Int} (k : Still (w.alloc (.cells #[.int .i64 b, .int .i64 n, .int .i64 i] 23)) w1) :
    (w1.cell? ⟨w.heap.size, 0, none⟩ = some (.int .i64 b) ∧ w1.cell? ⟨w.heap.size, 1, none⟩ = some (.int .i64 n) ∧ w1.cell? ⟨w.heap.size, 2, none⟩ = some (.int .i64 i)) ∧ Still w w1 := by
  have h := k.has (Has.new w 23 #[.int .i64 b, .int .i64 n, .int .i64 i])
  have c0 := h.cell 0
  have c1 := h.cell 1
  have c2 := h.cell 2
  simp only [List.getElem?_toArray, List.getElem?_cons_zero, List.getElem?_cons_succ] at c0 c1 c2
  exact ⟨⟨c0, c1, c2⟩, ((Still.refl w).alloc _).trans k⟩

set_option maxHeartbeats 1000000 in
theorem data_any {B N I : Nat} (h : May B N I) (w : World) : Calls Try.prog 13 #[(gN B N I).val] w fun e w' => e = .returned (.int .i64 (dataN B N I)) ∧ Still w w' := by
  obtain ⟨z1, z2, z3, z4, z5, z6⟩ := h.sizes
  have hn := h.n
  have hn8 := h.n8
  have C : Hid (∀ W, Calls Try.prog 21 #[.agg #[.int .i64 (B : Int), .int .i64 (N : Int), .int .i64 (I : Int)]] W fun e w' => e = .returned (.bool true) ∧ Still W w') := Lib.hid (fun W => by
    have := may_any (gN B N I) W
    rw [h.yes] at this
    exact this)
  have D : Hid (∀ W, Calls Try.prog 22 #[.agg #[.int .i64 (B : Int), .int .i64 (N : Int), .int .i64 (I : Int)]] W fun e w' => e = .returned (.agg #[.int .i64 1, .int .i64 (s1 B N : Int), .int .i64 (s2 B I : Int), .int .i64 (s3 B I : Int)]) ∧ Still W w') := Lib.hid (fun W => sizes_any h W)
  unfold dataN
  generalize s1 B N = a1 at *
  generalize s2 B I = a2 at *
  generalize s3 B I = a3 at *
  show Calls Try.prog 13 #[.agg #[.int .i64 (B : Int), .int .i64 (N : Int), .int .i64 (I : Int)]] w _
  have i0 : ∀ w, (Instr.index 48 (.agg #[.int .i64 1, .int .i64 (a1 : Int), .int .i64 (a2 : Int), .int .i64 (a3 : Int)]) (.int .i64 0)).run Try.prog w = .ok (.int .i64 1) w := fun _ => by kernel_rfl
  have i1 : ∀ w, (Instr.index 48 (.agg #[.int .i64 1, .int .i64 (a1 : Int), .int .i64 (a2 : Int), .int .i64 (a3 : Int)]) (.int .i64 1)).run Try.prog w = .ok (.int .i64 (a1 : Int)) w := fun _ => by kernel_rfl
  have i2 : ∀ w, (Instr.index 48 (.agg #[.int .i64 1, .int .i64 (a1 : Int), .int .i64 (a2 : Int), .int .i64 (a3 : Int)]) (.int .i64 2)).run Try.prog w = .ok (.int .i64 (a2 : Int)) w := fun _ => by kernel_rfl
  have i3 : ∀ w, (Instr.index 48 (.agg #[.int .i64 1, .int .i64 (a1 : Int), .int .i64 (a2 : Int), .int .i64 (a3 : Int)]) (.int .i64 3)).run Try.prog w = .ok (.int .i64 (a3 : Int)) w := fun _ => by kernel_rfl
  clear h
  go_enter Try.func13, Try.ntmps13
  go_wp2_with fail
  refine (C.out _).mono ?_
  rintro e w1 ⟨rfl, k1⟩
  obtain ⟨⟨c0, c1, c2⟩, q1⟩ := box_facts k1
  have Q1 := Lib.hid q1
  clear k1 q1 C
  go_wp2_with fail
  refine (D.out _).mono ?_
  rintro e w2 ⟨rfl, k2⟩
  have R := Lib.hid (Q1.out.trans k2)
  clear k2 D Q1 c0 c1 c2
  go_wp2
  refine wp_loop_rounds 5 ?_
  rw [rounds_succ]
  go_wp2
  rw [rounds_succ]
  go_wp2
  rw [rounds_succ]
  go_wp2
  rw [rounds_succ]
  go_wp2
  rw [rounds_succ]
  go_wp2
  go_ret
  exact ⟨rfl, R.out⟩

/-- What Check tells. -/
def G3.chk (g : G3) : Int := if g.may = true then (if 1 ≤ dataN g.b.toNat g.n.toNat g.i.toNat then 0 else 14) else 1
theorem chk_no {g : G3} (h : g.may = false) : g.chk = 1 := by unfold G3.chk; rw [h]; rfl
theorem chk_nat {B N I : Nat} (h : May B N I) : (gN B N I).chk = if 1 ≤ dataN B N I then 0 else 14 := by
  unfold G3.chk
  rw [if_pos h.yes]
  rfl
theorem chk_zero {g : G3} (h : g.chk = 0) : ∃ B N I : Nat, g = gN B N I ∧ May B N I ∧ 1 ≤ dataN B N I := by
  cases hm : g.may with
  | false =>
    rw [chk_no hm] at h
    exact absurd h (by decide)
  | true =>
    obtain ⟨B, N, I, rfl, k⟩ := G3.nat hm
    rw [chk_nat k] at h
    refine ⟨B, N, I, rfl, k, ?_⟩
    by_cases h1 : 1 ≤ dataN B N I
    · exact h1
    · rw [if_neg h1] at h
      exact absurd h (by decide)
theorem chk_of (g : G3) : g.chk = 0 ∨ g.chk = 1 ∨ g.chk = 14 := by
  unfold G3.chk
  split
  · split <;> simp
  · simp

set_option maxHeartbeats 1000000 in
theorem gmust_any (g : G3) (w : World) : Calls Try.prog 16 #[g.val] w fun e w' => e = endsIn g.chk ∧ Still w w' := by
  cases hm : g.may with
  | false =>
    rw [chk_no hm, endsIn_no (by decide)]
    have C : Hid (∀ W, Calls Try.prog 21 #[.agg #[.int .i64 g.b, .int .i64 g.n, .int .i64 g.i]] W fun e w' => e = .returned (.bool false) ∧ Still W w') := Lib.hid (fun W => by
      have := may_any g W
      rw [hm] at this
      exact this)
    have K0 : Hid (Still w (w.alloc (.cells #[.int .i64 g.b, .int .i64 g.n, .int .i64 g.i] 23))) := Lib.hid ((Still.refl w).alloc _)
    show Calls Try.prog 16 #[.agg #[.int .i64 g.b, .int .i64 g.n, .int .i64 g.i]] w _
    clear hm
    go_enter Try.func16, Try.ntmps16
    go_wp2_with fail
    refine (C.out _).mono ?_
    rintro e w1 ⟨rfl, k1⟩
    have R := Lib.hid (K0.out.trans k1)
    clear k1 K0 C
    go_wp2_with fail
    refine (must_no 1 _).mono ?_
    rintro e w' ⟨rfl, rfl⟩
    go_wp2
    exact ⟨rfl, rfl, R.out⟩
  | true =>
    obtain ⟨B, N, I, rfl, h⟩ := G3.nat hm
    rw [chk_nat h]
    have C : Hid (∀ W, Calls Try.prog 21 #[.agg #[.int .i64 (B : Int), .int .i64 (N : Int), .int .i64 (I : Int)]] W fun e w' => e = .returned (.bool true) ∧ Still W w') := Lib.hid (fun W => by
      have := may_any (gN B N I) W
      rw [hm] at this
      exact this)
    have D : Hid (∀ W, Calls Try.prog 13 #[.agg #[.int .i64 (B : Int), .int .i64 (N : Int), .int .i64 (I : Int)]] W fun e w' => e = .returned (.int .i64 (dataN B N I)) ∧ Still W w') := Lib.hid (fun W => data_any h W)
    show Calls Try.prog 16 #[.agg #[.int .i64 (B : Int), .int .i64 (N : Int), .int .i64 (I : Int)]] w _
    generalize dataN B N I = d at *
    clear hm h
    by_cases hd : 1 ≤ d
    · have hd1 : decide (1 ≤ d) = true := decide_eq_true hd
      rw [if_pos hd]
      go_enter Try.func16, Try.ntmps16
      go_wp2_with fail
      refine (C.out _).mono ?_
      rintro e w1 ⟨rfl, k1⟩
      obtain ⟨⟨c0, c1, c2⟩, q1⟩ := box_facts k1
      have Q1 := Lib.hid q1
      clear k1 q1 C
      go_wp2_with fail
      refine (must_yes 1 _).mono ?_
      rintro e w' ⟨rfl, rfl⟩
      go_wp2_with fail
      refine (D.out _).mono ?_
      rintro e w2 ⟨rfl, k2⟩
      have R := Lib.hid (Q1.out.trans k2)
      clear k2 Q1 D c0 c1 c2
      go_wp2_with fail
      refine (must_yes 14 _).mono ?_
      rintro e w' ⟨rfl, rfl⟩
      go_wp2
      go_end0
      exact ⟨rfl, R.out⟩
    · have hd1 : decide (1 ≤ d) = false := decide_eq_false hd
      rw [if_neg hd, endsIn_no (by decide)]
      go_enter Try.func16, Try.ntmps16
      go_wp2_with fail
      refine (C.out _).mono ?_
      rintro e w1 ⟨rfl, k1⟩
      obtain ⟨⟨c0, c1, c2⟩, q1⟩ := box_facts k1
      have Q1 := Lib.hid q1
      clear k1 q1 C
      go_wp2_with fail
      refine (must_yes 1 _).mono ?_
      rintro e w' ⟨rfl, rfl⟩
      go_wp2_with fail
      refine (D.out _).mono ?_
      rintro e w2 ⟨rfl, k2⟩
      have R := Lib.hid (Q1.out.trans k2)
      clear k2 Q1 D c0 c1 c2
      go_wp2_with fail
      refine (must_no 14 _).mono ?_
      rintro e w' ⟨rfl, rfl⟩
      go_wp2
      exact ⟨rfl, rfl, R.out⟩

theorem Try.enterGCheck1 : ∀ args w, (callFunc 18 args).run Try.prog w = .ok (.enter 18 args) w := enters_of Try.func18 (by kernel_rfl) rfl
theorem endsIn_yes : endsIn 0 = .returned (.tuple #[]) := if_pos rfl
set_option maxHeartbeats 400000 in
theorem gcheck1_any (g : G3) (p : Nat) (w : World) (hp : Has w p 23 g.cells) : Calls Try.prog 18 #[.pointer (some ⟨p, 0, none⟩)] w fun e w' => e = endsIn g.chk ∧ Still w w' := by
  have c0 := hp.cell 0
  have c1 := hp.cell 1
  have c2 := hp.cell 2
  simp only [G3.cells, List.getElem?_toArray, List.getElem?_cons_zero, List.getElem?_cons_succ] at c0 c1 c2
  have C : Hid (Calls Try.prog 16 #[.agg #[.int .i64 g.b, .int .i64 g.n, .int .i64 g.i]] w fun e w' => e = endsIn g.chk ∧ Still w w') := Lib.hid (gmust_any g w)
  clear hp
  rcases Classical.em (g.chk = 0) with h | h
  · rw [h, endsIn_yes] at C ⊢
    go_enter Try.func18, Try.ntmps18
    go_wp2_with fail
    refine C.out.mono ?_
    rintro e w1 ⟨rfl, k1⟩
    have R := Lib.hid k1
    clear k1 C c0 c1 c2
    go_wp2
    go_end0
    exact ⟨rfl, R.out⟩
  · rw [endsIn_no h] at C ⊢
    go_enter Try.func18, Try.ntmps18
    go_wp2_with fail
    refine C.out.mono ?_
    rintro e w1 ⟨rfl, k1⟩
    have R := Lib.hid k1
    clear k1 C c0 c1 c2
    go_wp2
    exact ⟨rfl, rfl, R.out⟩

set_option maxHeartbeats 1000000 in
theorem check_any (g : G3) (w : World) : Calls Try.prog 8 #[g.val] w fun e w' => e = .returned (.int .i64 g.chk) ∧ Still w w' := by
  have sW : (w.alloc (.cells #[.int .i64 g.b, .int .i64 g.n, .int .i64 g.i] 23)).heap.size = w.heap.size + 1 := by simp
  have hp : Has ((w.alloc (.cells #[.int .i64 g.b, .int .i64 g.n, .int .i64 g.i] 23)).alloc errBox) w.heap.size 23 g.cells := (Has.new w 23 g.cells).alloc _
  have C := Lib.hid (caught_any 18 _ Try.enterGCheck1 (w.alloc (.cells #[.int .i64 g.b, .int .i64 g.n, .int .i64 g.i] 23)) g.chk (fun w' => Still ((w.alloc (.cells #[.int .i64 g.b, .int .i64 g.n, .int .i64 g.i] 23)).alloc errBox) w')
    ((gcheck1_any g _ _ hp).mono fun e w' hh => ⟨hh.1, hh.2.has (Has.new _ _ _), hh.2⟩))
  have K : Hid (∀ w1 w', Still ((w.alloc (.cells #[.int .i64 g.b, .int .i64 g.n, .int .i64 g.i] 23)).alloc errBox) w1 → Only (fun i => i = (w.alloc (.cells #[.int .i64 g.b, .int .i64 g.n, .int .i64 g.i] 23)).heap.size) w1 w' → Still w w') := Lib.hid (fun w1 w' k1 k2 =>
    Only.trans ((((Still.refl w).alloc _).alloc _).trans k1) k2 (fun i hi e => by omega))
  generalize g.chk = r at *
  show Calls Try.prog 8 #[.agg #[.int .i64 g.b, .int .i64 g.n, .int .i64 g.i]] w _
  clear hp sW
  go_enter Try.func8, Try.ntmps8
  go_wp2_with fail
  refine C.out.mono ?_
  rintro e w2 ⟨rfl, w1, k1, k2⟩
  have R := Lib.hid (K.out w1 w2 k1 k2)
  clear k1 k2 K C
  go_wp2
  go_ret
  exact ⟨rfl, R.out⟩
end Go.Proofs.Ytfkojilhpkklfaa
