/-
  Package geom: Parts, Inode.
-/
import Derived.Test.YtfkojilhpkklfaaGeomB
namespace Go.Proofs.Ytfkojilhpkklfaa
open Go.RowKit Go.Lib
set_option maxRecDepth 100000

/-- Where the parts lie, as a value. -/
def partsCells (B N I : Nat) : Array Value := #[.int .i64 0, .int .i64 1, .int .i64 1, .int .i64 (s1 B N : Int), .int .i64 (1 + (s1 B N : Int)), .int .i64 (s2 B I : Int), .int .i64 (1 + (s1 B N : Int) + (s2 B I : Int)), .int .i64 (s3 B I : Int)]
theorem Try.arrPSize : (Try.prog.info? 39).map (·.size) = some 8 := by kernel_rfl
def zero8 : Array Value := #[.int .i64 0, .int .i64 0, .int .i64 0, .int .i64 0, .int .i64 0, .int .i64 0, .int .i64 0, .int .i64 0]
/-- A row of eight, each written. -/
def set8 (w : World) (g : Nat) (y0 y1 y2 y3 y4 y5 y6 y7 : Value) : World := ((((((((w.setCell ⟨g, 0, none⟩ y0).setCell ⟨g, 1, none⟩ y1).setCell ⟨g, 2, none⟩ y2).setCell ⟨g, 3, none⟩ y3).setCell ⟨g, 4, none⟩ y4).setCell ⟨g, 5, none⟩ y5).setCell ⟨g, 6, none⟩ y6).setCell ⟨g, 7, none⟩ y7)
theorem has_set8 {w : World} {g : Nat} {t : TypeId} {x0 x1 x2 x3 x4 x5 x6 x7 : Value} (h : Has w g t #[x0, x1, x2, x3, x4, x5, x6, x7]) (y0 y1 y2 y3 y4 y5 y6 y7 : Value) :
    Has (set8 w g y0 y1 y2 y3 y4 y5 y6 y7) g t #[y0, y1, y2, y3, y4, y5, y6, y7] := by
  have h1 : Has (w.setCell ⟨g, 0, none⟩ y0) g t #[y0, x1, x2, x3, x4, x5, x6, x7] := h.set 0 y0
  have h2 : Has ((w.setCell ⟨g, 0, none⟩ y0).setCell ⟨g, 1, none⟩ y1) g t #[y0, y1, x2, x3, x4, x5, x6, x7] := h1.set 1 y1
  have h3 : Has (((w.setCell ⟨g, 0, none⟩ y0).setCell ⟨g, 1, none⟩ y1).setCell ⟨g, 2, none⟩ y2) g t #[y0, y1, y2, x3, x4, x5, x6, x7] := h2.set 2 y2
  have h4 : Has ((((w.setCell ⟨g, 0, none⟩ y0).setCell ⟨g, 1, none⟩ y1).setCell ⟨g, 2, none⟩ y2).setCell ⟨g, 3, none⟩ y3) g t #[y0, y1, y2, y3, x4, x5, x6, x7] := h3.set 3 y3
  have h5 : Has (((((w.setCell ⟨g, 0, none⟩ y0).setCell ⟨g, 1, none⟩ y1).setCell ⟨g, 2, none⟩ y2).setCell ⟨g, 3, none⟩ y3).setCell ⟨g, 4, none⟩ y4) g t #[y0, y1, y2, y3, y4, x5, x6, x7] := h4.set 4 y4
  have h6 : Has ((((((w.setCell ⟨g, 0, none⟩ y0).setCell ⟨g, 1, none⟩ y1).setCell ⟨g, 2, none⟩ y2).setCell ⟨g, 3, none⟩ y3).setCell ⟨g, 4, none⟩ y4).setCell ⟨g, 5, none⟩ y5) g t #[y0, y1, y2, y3, y4, y5, x6, x7] := h5.set 5 y5
  have h7 : Has (((((((w.setCell ⟨g, 0, none⟩ y0).setCell ⟨g, 1, none⟩ y1).setCell ⟨g, 2, none⟩ y2).setCell ⟨g, 3, none⟩ y3).setCell ⟨g, 4, none⟩ y4).setCell ⟨g, 5, none⟩ y5).setCell ⟨g, 6, none⟩ y6) g t #[y0, y1, y2, y3, y4, y5, y6, x7] := h6.set 6 y6
  have h8 : Has ((((((((w.setCell ⟨g, 0, none⟩ y0).setCell ⟨g, 1, none⟩ y1).setCell ⟨g, 2, none⟩ y2).setCell ⟨g, 3, none⟩ y3).setCell ⟨g, 4, none⟩ y4).setCell ⟨g, 5, none⟩ y5).setCell ⟨g, 6, none⟩ y6).setCell ⟨g, 7, none⟩ y7) g t #[y0, y1, y2, y3, y4, y5, y6, y7] := h7.set 7 y7
  exact h8
theorem only_set8 (w : World) (g : Nat) (y0 y1 y2 y3 y4 y5 y6 y7 : Value) : Only (fun i => i = g) w (set8 w g y0 y1 y2 y3 y4 y5 y6 y7) := by
  unfold set8
  exact (((((((((Only.refl (fun i => i = g) w).setCell (p := ⟨g, 0, none⟩) (fun _ => rfl) y0).setCell (p := ⟨g, 1, none⟩) (fun _ => rfl) y1).setCell (p := ⟨g, 2, none⟩) (fun _ => rfl) y2).setCell (p := ⟨g, 3, none⟩) (fun _ => rfl) y3).setCell (p := ⟨g, 4, none⟩) (fun _ => rfl) y4).setCell (p := ⟨g, 5, none⟩) (fun _ => rfl) y5).setCell (p := ⟨g, 6, none⟩) (fun _ => rfl) y6).setCell (p := ⟨g, 7, none⟩) (fun _ => rfl) y7)
theorem Has.cells8 {w : World} {g : Nat} {t : TypeId} {x0 x1 x2 x3 x4 x5 x6 x7 : Value} (h : Has w g t #[x0, x1, x2, x3, x4, x5, x6, x7]) :
    w.cell? ⟨g, 0, none⟩ = some x0 ∧ w.cell? ⟨g, 1, none⟩ = some x1 ∧ w.cell? ⟨g, 2, none⟩ = some x2 ∧ w.cell? ⟨g, 3, none⟩ = some x3 ∧ w.cell? ⟨g, 4, none⟩ = some x4 ∧ w.cell? ⟨g, 5, none⟩ = some x5 ∧ w.cell? ⟨g, 6, none⟩ = some x6 ∧ w.cell? ⟨g, 7, none⟩ = some x7 :=
  ⟨by simpa using h.cell 0, by simpa using h.cell 1, by simpa using h.cell 2, by simpa using h.cell 3, by simpa using h.cell 4, by simpa using h.cell 5, by simpa using h.cell 6, by simpa using h.cell 7⟩
theorem Has.frozen8 {w : World} {g : Nat} {t : TypeId} {cs : Array Value} (h : Has w g t cs) :
    w.frozen? ⟨g, 0, none⟩ = false ∧ w.frozen? ⟨g, 1, none⟩ = false ∧ w.frozen? ⟨g, 2, none⟩ = false ∧ w.frozen? ⟨g, 3, none⟩ = false ∧ w.frozen? ⟨g, 4, none⟩ = false ∧ w.frozen? ⟨g, 5, none⟩ = false ∧ w.frozen? ⟨g, 6, none⟩ = false ∧ w.frozen? ⟨g, 7, none⟩ = false :=
  ⟨h.frozen 0, h.frozen 1, h.frozen 2, h.frozen 3, h.frozen 4, h.frozen 5, h.frozen 6, h.frozen 7⟩

/-- A geometry's box and two rows of eight, behind a call that turned nothing. -/
theorem box3_facts {w w1 : World} {b n i : Int} (k : Still (((w.alloc (.cells #[.int .i64 b, .int .i64 n, .int .i64 i] 23)).alloc (.cells zero8 39)).alloc (.cells zero8 39)) w1) :
    (w1.cell? ⟨w.heap.size, 0, none⟩ = some (.int .i64 b) ∧ w1.cell? ⟨w.heap.size, 1, none⟩ = some (.int .i64 n) ∧ w1.cell? ⟨w.heap.size, 2, none⟩ = some (.int .i64 i)) ∧
      Has w1 (w.heap.size + 1) 39 zero8 ∧ Has w1 (w.heap.size + 2) 39 zero8 ∧ Still w w1 := by
  have h := k.has (((Has.new w 23 #[.int .i64 b, .int .i64 n, .int .i64 i]).alloc (.cells zero8 39)).alloc (.cells zero8 39))
  have c0 := h.cell 0
  have c1 := h.cell 1
  have c2 := h.cell 2
  simp only [List.getElem?_toArray, List.getElem?_cons_zero, List.getElem?_cons_succ] at c0 c1 c2
  have h1 := k.has ((Has.new (w.alloc (.cells #[.int .i64 b, .int .i64 n, .int .i64 i] 23)) 39 zero8).alloc (.cells zero8 39))
  have h2 := k.has (Has.new ((w.alloc (.cells #[.int .i64 b, .int .i64 n, .int .i64 i] 23)).alloc (.cells zero8 39)) 39 zero8)
  exact ⟨⟨c0, c1, c2⟩, by simpa using h1, by simpa using h2, ((((Still.refl w).alloc _).alloc _).alloc _).trans k⟩

set_option maxHeartbeats 4000000 in
theorem parts_any {B N I : Nat} (h : May B N I) (w : World) : Calls Try.prog 11 #[(gN B N I).val] w fun e w' => e = .returned (.agg (partsCells B N I)) ∧ Still w w' := by
  obtain ⟨z1, z2, z3, z4, z5, z6⟩ := h.sizes
  have C : Hid (∀ W, Calls Try.prog 21 #[.agg #[.int .i64 (B : Int), .int .i64 (N : Int), .int .i64 (I : Int)]] W fun e w' => e = .returned (.bool true) ∧ Still W w') := Lib.hid (fun W => by
    have := may_any (gN B N I) W
    rw [h.yes] at this
    exact this)
  have D : Hid (∀ W, Calls Try.prog 22 #[.agg #[.int .i64 (B : Int), .int .i64 (N : Int), .int .i64 (I : Int)]] W fun e w' => e = .returned (.agg #[.int .i64 1, .int .i64 (s1 B N : Int), .int .i64 (s2 B I : Int), .int .i64 (s3 B I : Int)]) ∧ Still W w') := Lib.hid (fun W => sizes_any h W)
  unfold partsCells
  generalize s1 B N = a1 at *
  generalize s2 B I = a2 at *
  generalize s3 B I = a3 at *
  show Calls Try.prog 11 #[.agg #[.int .i64 (B : Int), .int .i64 (N : Int), .int .i64 (I : Int)]] w _
  have i0 : ∀ w, (Instr.index 48 (.agg #[.int .i64 1, .int .i64 (a1 : Int), .int .i64 (a2 : Int), .int .i64 (a3 : Int)]) (.int .i64 0)).run Try.prog w = .ok (.int .i64 1) w := fun _ => by kernel_rfl
  have i1 : ∀ w, (Instr.index 48 (.agg #[.int .i64 1, .int .i64 (a1 : Int), .int .i64 (a2 : Int), .int .i64 (a3 : Int)]) (.int .i64 1)).run Try.prog w = .ok (.int .i64 (a1 : Int)) w := fun _ => by kernel_rfl
  have i2 : ∀ w, (Instr.index 48 (.agg #[.int .i64 1, .int .i64 (a1 : Int), .int .i64 (a2 : Int), .int .i64 (a3 : Int)]) (.int .i64 2)).run Try.prog w = .ok (.int .i64 (a2 : Int)) w := fun _ => by kernel_rfl
  have i3 : ∀ w, (Instr.index 48 (.agg #[.int .i64 1, .int .i64 (a1 : Int), .int .i64 (a2 : Int), .int .i64 (a3 : Int)]) (.int .i64 3)).run Try.prog w = .ok (.int .i64 (a3 : Int)) w := fun _ => by kernel_rfl
  clear h
  go_enter Try.func11, Try.ntmps11
  go_wp2_with fail
  refine (C.out _).mono ?_
  rintro e w1 ⟨rfl, k1⟩
  obtain ⟨⟨c0, c1, c2⟩, h1, h2, q1⟩ := box3_facts k1
  have Q1 := Lib.hid q1
  have H1 := Lib.hid h1
  have H2 := Lib.hid h2
  clear k1 q1 h1 h2 C
  go_wp2_with fail
  refine (D.out _).mono ?_
  rintro e w2 ⟨rfl, k2⟩
  have K2 := Lib.hid (Q1.out.trans k2)
  have A1 := Lib.hid (k2.has H1.out)
  have A2 := Lib.hid (k2.has H2.out)
  have S2 := Lib.hid (Q1.out.size)
  clear k2 D Q1 H1 H2 c0 c1 c2
  obtain ⟨d0, d1, d2, d3, d4, d5, d6, d7⟩ := A2.out.cells8
  obtain ⟨f0, f1, f2, f3, f4, f5, f6, f7⟩ := A2.out.frozen8
  obtain ⟨x0, x1, x2, x3, x4, x5, x6, x7⟩ := A1.out.cells8
  obtain ⟨y0, y1, y2, y3, y4, y5, y6, y7⟩ := A1.out.frozen8
  have HR : Hid (Has (set8 (set8 w2 (w.heap.size + 1 + 1) (.int .i64 0) (.int .i64 1) (.int .i64 1) (.int .i64 (a1 : Int)) (.int .i64 (1 + (a1 : Int))) (.int .i64 (a2 : Int)) (.int .i64 (1 + (a1 : Int) + (a2 : Int))) (.int .i64 (a3 : Int))) (w.heap.size + 1) (.int .i64 0) (.int .i64 1) (.int .i64 1) (.int .i64 (a1 : Int)) (.int .i64 (1 + (a1 : Int))) (.int .i64 (a2 : Int)) (.int .i64 (1 + (a1 : Int) + (a2 : Int))) (.int .i64 (a3 : Int))) (w.heap.size + 1) 39 #[.int .i64 0, .int .i64 1, .int .i64 1, .int .i64 (a1 : Int), .int .i64 (1 + (a1 : Int)), .int .i64 (a2 : Int), .int .i64 (1 + (a1 : Int) + (a2 : Int)), .int .i64 (a3 : Int)]) := Lib.hid (has_set8 (A1.out.only (only_set8 w2 (w.heap.size + 1 + 1) _ _ _ _ _ _ _ _) (by omega)) _ _ _ _ _ _ _ _)
  have R : Hid (Still w (set8 (set8 w2 (w.heap.size + 1 + 1) (.int .i64 0) (.int .i64 1) (.int .i64 1) (.int .i64 (a1 : Int)) (.int .i64 (1 + (a1 : Int))) (.int .i64 (a2 : Int)) (.int .i64 (1 + (a1 : Int) + (a2 : Int))) (.int .i64 (a3 : Int))) (w.heap.size + 1) (.int .i64 0) (.int .i64 1) (.int .i64 1) (.int .i64 (a1 : Int)) (.int .i64 (1 + (a1 : Int))) (.int .i64 (a2 : Int)) (.int .i64 (1 + (a1 : Int) + (a2 : Int))) (.int .i64 (a3 : Int)))) := Lib.hid (Only.trans (Only.trans K2.out (only_set8 w2 (w.heap.size + 1 + 1) _ _ _ _ _ _ _ _) (fun i hi e => by omega)) (only_set8 _ (w.heap.size + 1) _ _ _ _ _ _ _ _) (fun i hi e => by omega))
  go_wp2
  refine wp_loop_rounds 5 ?_
  rw [rounds_succ]
  go_wp2
  rw [rounds_succ]
  go_wp2
  rw [rounds_succ]
  go_wp2
  rw [rounds_succ]
  go_wp2
  rw [rounds_succ]
  go_wp2_with fail
  refine bodyPost_ret (results_cell_row rfl _ _ (w.heap.size + 1) 39 _ (0, 0) _ rfl HR.out Try.underlying39 rfl Try.arrPSize) rfl ?_
  exact ⟨rfl, R.out⟩
end Go.Proofs.Ytfkojilhpkklfaa
