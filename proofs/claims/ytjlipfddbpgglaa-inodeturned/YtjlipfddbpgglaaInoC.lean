/-
  Package inode: mustBlock, must, Check.
-/
import Derived.Test.YtjlipfddbpgglaaInoB
import Derived.Test.YtjlipfddbpgglaaCaughtA
import Derived.Test.YtjlipfddbpgglaaStructL
import Derived.Deep.QuietTactic
import Derived.BigQuiet
namespace Go.Proofs.Ytjlipfddbpgglaa
open Go.RowKit Go.Lib
set_option maxRecDepth 100000

theorem mustBlock_yes (n : Nat) (h : n ≤ 65535) (w : World) : Calls Try.prog 24 #[.int .u32 (n : Int)] w fun e w' => e = .returned (.tuple #[]) ∧ w = w' := by
  have hd : decide ((n : Int) ≤ 65535) = true := decide_eq_true (by omega)
  clear h
  go_enter Try.func24, Try.ntmps24
  go_wp2_with fail
  refine (must_yes 1 _).mono ?_
  rintro e w' ⟨rfl, rfl⟩
  go_wp2
  go_end0
  exact ⟨rfl, rfl⟩
theorem mustBlock_no (n : Nat) (h : ¬ n ≤ 65535) (w : World) : Calls Try.prog 24 #[.int .u32 (n : Int)] w fun e w' => e = endsIn 1 ∧ w = w' := by
  have hd : decide ((n : Int) ≤ 65535) = false := decide_eq_false (by omega)
  rw [endsIn_no (by decide)]
  clear h
  go_enter Try.func24, Try.ntmps24
  go_wp2_with fail
  refine (must_no 1 _).mono ?_
  rintro e w' ⟨rfl, rfl⟩
  go_wp2
  exact ⟨rfl, rfl, rfl⟩

/-- An inode's fourteen cells. -/
theorem I14.cellsOf {w : World} {g : Nat} {t : TypeId} {i : I14} (h : Has w g t i.cells) :
    w.cell? ⟨g, 0, none⟩ = some (.int .u32 (i.m : Int)) ∧ w.cell? ⟨g, 1, none⟩ = some (.int .u32 (i.v : Int)) ∧ w.cell? ⟨g, 2, none⟩ = some (.int .u32 (i.s : Int)) ∧ w.cell? ⟨g, 3, none⟩ = some (.int .u16 (i.l : Int)) ∧ w.cell? ⟨g, 4, none⟩ = some (.int .u32 (i.d0 : Int)) ∧ w.cell? ⟨g, 5, none⟩ = some (.int .u32 (i.d1 : Int)) ∧ w.cell? ⟨g, 6, none⟩ = some (.int .u32 (i.d2 : Int)) ∧ w.cell? ⟨g, 7, none⟩ = some (.int .u32 (i.d3 : Int)) ∧ w.cell? ⟨g, 8, none⟩ = some (.int .u32 (i.d4 : Int)) ∧ w.cell? ⟨g, 9, none⟩ = some (.int .u32 (i.d5 : Int)) ∧ w.cell? ⟨g, 10, none⟩ = some (.int .u32 (i.d6 : Int)) ∧ w.cell? ⟨g, 11, none⟩ = some (.int .u32 (i.d7 : Int)) ∧ w.cell? ⟨g, 12, none⟩ = some (.int .u32 (i.a : Int)) ∧ w.cell? ⟨g, 13, none⟩ = some (.int .u32 (i.b : Int)) :=
  ⟨h.cell 0, h.cell 1, h.cell 2, h.cell 3, h.cell 4, h.cell 5, h.cell 6, h.cell 7, h.cell 8, h.cell 9, h.cell 10, h.cell 11, h.cell 12, h.cell 13⟩

set_option maxHeartbeats 4000000 in
theorem imust_any (i : I14) (w : World) : Calls Try.prog 17 #[.agg i.cells] w fun e w' => e = endsIn i.chk ∧ Still w w' := by
  have HY : Hid (i.May → i.chk = 0) := Lib.hid I14.chk_yes
  have HN : Hid (¬ i.May → endsIn i.chk = .panicked [{ v := .iface 29 (.int .i64 1), recovered := false }]) := Lib.hid (fun h => by rw [I14.chk_no h, endsIn_no (by decide)])
  have R : Hid (Still w (w.alloc (.cells i.cells 26))) := Lib.hid ((Still.refl w).alloc _)
  have HC := I14.cellsOf (Has.new w 26 i.cells)
  generalize i.chk = r at *
  obtain ⟨m, v, s, l, d0, d1, d2, d3, d4, d5, d6, d7, a, b⟩ := i
  simp only at HC
  obtain ⟨c0, c1, c2, c3, c4, c5, c6, c7, c8, c9, c10, c11, c12, c13⟩ := HC
  have i0 : ∀ w, (Instr.index 24 (.agg #[.int .u32 (d0 : Int), .int .u32 (d1 : Int), .int .u32 (d2 : Int), .int .u32 (d3 : Int), .int .u32 (d4 : Int), .int .u32 (d5 : Int), .int .u32 (d6 : Int), .int .u32 (d7 : Int)]) (.int .i64 0)).run Try.prog w = .ok (.int .u32 (d0 : Int)) w := fun _ => by kernel_rfl
  have i1 : ∀ w, (Instr.index 24 (.agg #[.int .u32 (d0 : Int), .int .u32 (d1 : Int), .int .u32 (d2 : Int), .int .u32 (d3 : Int), .int .u32 (d4 : Int), .int .u32 (d5 : Int), .int .u32 (d6 : Int), .int .u32 (d7 : Int)]) (.int .i64 1)).run Try.prog w = .ok (.int .u32 (d1 : Int)) w := fun _ => by kernel_rfl
  have i2 : ∀ w, (Instr.index 24 (.agg #[.int .u32 (d0 : Int), .int .u32 (d1 : Int), .int .u32 (d2 : Int), .int .u32 (d3 : Int), .int .u32 (d4 : Int), .int .u32 (d5 : Int), .int .u32 (d6 : Int), .int .u32 (d7 : Int)]) (.int .i64 2)).run Try.prog w = .ok (.int .u32 (d2 : Int)) w := fun _ => by kernel_rfl
  have i3 : ∀ w, (Instr.index 24 (.agg #[.int .u32 (d0 : Int), .int .u32 (d1 : Int), .int .u32 (d2 : Int), .int .u32 (d3 : Int), .int .u32 (d4 : Int), .int .u32 (d5 : Int), .int .u32 (d6 : Int), .int .u32 (d7 : Int)]) (.int .i64 3)).run Try.prog w = .ok (.int .u32 (d3 : Int)) w := fun _ => by kernel_rfl
  have i4 : ∀ w, (Instr.index 24 (.agg #[.int .u32 (d0 : Int), .int .u32 (d1 : Int), .int .u32 (d2 : Int), .int .u32 (d3 : Int), .int .u32 (d4 : Int), .int .u32 (d5 : Int), .int .u32 (d6 : Int), .int .u32 (d7 : Int)]) (.int .i64 4)).run Try.prog w = .ok (.int .u32 (d4 : Int)) w := fun _ => by kernel_rfl
  have i5 : ∀ w, (Instr.index 24 (.agg #[.int .u32 (d0 : Int), .int .u32 (d1 : Int), .int .u32 (d2 : Int), .int .u32 (d3 : Int), .int .u32 (d4 : Int), .int .u32 (d5 : Int), .int .u32 (d6 : Int), .int .u32 (d7 : Int)]) (.int .i64 5)).run Try.prog w = .ok (.int .u32 (d5 : Int)) w := fun _ => by kernel_rfl
  have i6 : ∀ w, (Instr.index 24 (.agg #[.int .u32 (d0 : Int), .int .u32 (d1 : Int), .int .u32 (d2 : Int), .int .u32 (d3 : Int), .int .u32 (d4 : Int), .int .u32 (d5 : Int), .int .u32 (d6 : Int), .int .u32 (d7 : Int)]) (.int .i64 6)).run Try.prog w = .ok (.int .u32 (d6 : Int)) w := fun _ => by kernel_rfl
  have i7 : ∀ w, (Instr.index 24 (.agg #[.int .u32 (d0 : Int), .int .u32 (d1 : Int), .int .u32 (d2 : Int), .int .u32 (d3 : Int), .int .u32 (d4 : Int), .int .u32 (d5 : Int), .int .u32 (d6 : Int), .int .u32 (d7 : Int)]) (.int .i64 7)).run Try.prog w = .ok (.int .u32 (d7 : Int)) w := fun _ => by kernel_rfl
  by_cases hs : s ≤ 1073741824
  rotate_left
  · have hn := HN.out (fun h => absurd h.s (by simp only; omega))
    have hd : decide ((s : Int) ≤ 1073741824) = false := decide_eq_false (by omega)
    clear HY HN hs
    go_enter Try.func17, Try.ntmps17
    go_wp2_with fail
    refine (must_no 1 _).mono ?_
    rintro e w' ⟨rfl, rfl⟩
    go_wp2
    exact ⟨rfl, hn.symm, R.out⟩
  by_cases hl : l ≤ 1000
  rotate_left
  · have hn := HN.out (fun h => absurd h.l (by simp only; omega))
    have hd : decide ((s : Int) ≤ 1073741824) = true := decide_eq_true (by omega)
    have hd2 : decide ((l : Int) ≤ 1000) = false := decide_eq_false (by omega)
    clear HY HN hs hl
    go_enter Try.func17, Try.ntmps17
    go_wp2_with fail
    refine (must_no 1 _).mono ?_
    rintro e w' ⟨rfl, rfl⟩
    go_wp2
    exact ⟨rfl, hn.symm, R.out⟩
  have hd : decide ((s : Int) ≤ 1073741824) = true := decide_eq_true (by omega)
  have hd2 : decide ((l : Int) ≤ 1000) = true := decide_eq_true (by omega)
  go_enter Try.func17, Try.ntmps17
  go_wp2_with fail
  refine (must_yes 1 _).mono ?_
  rintro e w' ⟨rfl, rfl⟩
  clear hd hd2
  go_wp2
  refine wp_loop_rounds 9 ?_
  rw [rounds_succ]
  go_wp2_with fail
  by_cases h0 : d0 ≤ 65535
  rotate_left
  · have hn := HN.out (fun h => absurd h.d0 (by simp only; omega))
    refine (mustBlock_no d0 h0 _).mono ?_
    rintro e w' ⟨rfl, rfl⟩
    rw [endsIn_no (by decide)]
    clear HY HN
    go_wp2
    exact ⟨rfl, hn.symm, R.out⟩
  refine (mustBlock_yes d0 h0 _).mono ?_
  rintro e w' ⟨rfl, rfl⟩
  go_wp2
  rw [rounds_succ]
  go_wp2_with fail
  by_cases h1 : d1 ≤ 65535
  rotate_left
  · have hn := HN.out (fun h => absurd h.d1 (by simp only; omega))
    refine (mustBlock_no d1 h1 _).mono ?_
    rintro e w' ⟨rfl, rfl⟩
    rw [endsIn_no (by decide)]
    clear HY HN
    go_wp2
    exact ⟨rfl, hn.symm, R.out⟩
  refine (mustBlock_yes d1 h1 _).mono ?_
  rintro e w' ⟨rfl, rfl⟩
  go_wp2
  rw [rounds_succ]
  go_wp2_with fail
  by_cases h2 : d2 ≤ 65535
  rotate_left
  · have hn := HN.out (fun h => absurd h.d2 (by simp only; omega))
    refine (mustBlock_no d2 h2 _).mono ?_
    rintro e w' ⟨rfl, rfl⟩
    rw [endsIn_no (by decide)]
    clear HY HN
    go_wp2
    exact ⟨rfl, hn.symm, R.out⟩
  refine (mustBlock_yes d2 h2 _).mono ?_
  rintro e w' ⟨rfl, rfl⟩
  go_wp2
  rw [rounds_succ]
  go_wp2_with fail
  by_cases h3 : d3 ≤ 65535
  rotate_left
  · have hn := HN.out (fun h => absurd h.d3 (by simp only; omega))
    refine (mustBlock_no d3 h3 _).mono ?_
    rintro e w' ⟨rfl, rfl⟩
    rw [endsIn_no (by decide)]
    clear HY HN
    go_wp2
    exact ⟨rfl, hn.symm, R.out⟩
  refine (mustBlock_yes d3 h3 _).mono ?_
  rintro e w' ⟨rfl, rfl⟩
  go_wp2
  rw [rounds_succ]
  go_wp2_with fail
  by_cases h4 : d4 ≤ 65535
  rotate_left
  · have hn := HN.out (fun h => absurd h.d4 (by simp only; omega))
    refine (mustBlock_no d4 h4 _).mono ?_
    rintro e w' ⟨rfl, rfl⟩
    rw [endsIn_no (by decide)]
    clear HY HN
    go_wp2
    exact ⟨rfl, hn.symm, R.out⟩
  refine (mustBlock_yes d4 h4 _).mono ?_
  rintro e w' ⟨rfl, rfl⟩
  go_wp2
  rw [rounds_succ]
  go_wp2_with fail
  by_cases h5 : d5 ≤ 65535
  rotate_left
  · have hn := HN.out (fun h => absurd h.d5 (by simp only; omega))
    refine (mustBlock_no d5 h5 _).mono ?_
    rintro e w' ⟨rfl, rfl⟩
    rw [endsIn_no (by decide)]
    clear HY HN
    go_wp2
    exact ⟨rfl, hn.symm, R.out⟩
  refine (mustBlock_yes d5 h5 _).mono ?_
  rintro e w' ⟨rfl, rfl⟩
  go_wp2
  rw [rounds_succ]
  go_wp2_with fail
  by_cases h6 : d6 ≤ 65535
  rotate_left
  · have hn := HN.out (fun h => absurd h.d6 (by simp only; omega))
    refine (mustBlock_no d6 h6 _).mono ?_
    rintro e w' ⟨rfl, rfl⟩
    rw [endsIn_no (by decide)]
    clear HY HN
    go_wp2
    exact ⟨rfl, hn.symm, R.out⟩
  refine (mustBlock_yes d6 h6 _).mono ?_
  rintro e w' ⟨rfl, rfl⟩
  go_wp2
  rw [rounds_succ]
  go_wp2_with fail
  by_cases h7 : d7 ≤ 65535
  rotate_left
  · have hn := HN.out (fun h => absurd h.d7 (by simp only; omega))
    refine (mustBlock_no d7 h7 _).mono ?_
    rintro e w' ⟨rfl, rfl⟩
    rw [endsIn_no (by decide)]
    clear HY HN
    go_wp2
    exact ⟨rfl, hn.symm, R.out⟩
  refine (mustBlock_yes d7 h7 _).mono ?_
  rintro e w' ⟨rfl, rfl⟩
  go_wp2
  rw [rounds_succ]
  go_wp2_with fail
  by_cases ha : a ≤ 65535
  rotate_left
  · have hn := HN.out (fun h => absurd h.a (by simp only; omega))
    refine (mustBlock_no a ha _).mono ?_
    rintro e w' ⟨rfl, rfl⟩
    rw [endsIn_no (by decide)]
    clear HY HN
    go_wp2
    exact ⟨rfl, hn.symm, R.out⟩
  refine (mustBlock_yes a ha _).mono ?_
  rintro e w' ⟨rfl, rfl⟩
  go_wp2_with fail
  by_cases hb : b ≤ 65535
  rotate_left
  · have hn := HN.out (fun h => absurd h.b (by simp only; omega))
    refine (mustBlock_no b hb _).mono ?_
    rintro e w' ⟨rfl, rfl⟩
    rw [endsIn_no (by decide)]
    clear HY HN
    go_wp2
    exact ⟨rfl, hn.symm, R.out⟩
  refine (mustBlock_yes b hb _).mono ?_
  rintro e w' ⟨rfl, rfl⟩
  go_wp2
  go_end0
  rw [HY.out ⟨hs, hl, h0, h1, h2, h3, h4, h5, h6, h7, ha, hb⟩, endsIn_yes]
  exact ⟨rfl, R.out⟩

theorem Try.inoSize : (Try.prog.info? 26).map (·.size) = some 14 := by kernel_rfl
theorem Try.enterICheck1 : ∀ args w, (callFunc 19 args).run Try.prog w = .ok (.enter 19 args) w := enters_of Try.func19 (by kernel_rfl) rfl
set_option maxHeartbeats 400000 in
theorem icheck1_any (i : I14) (p : Nat) (w : World) (hp : Has w p 26 i.cells) : Calls Try.prog 19 #[.pointer (some ⟨p, 0, none⟩)] w fun e w' => e = endsIn i.chk ∧ Still w w' := by
  have HP := Lib.hid hp
  have C := Lib.hid (imust_any i w)
  have HZ := Lib.hid i.cells_size
  generalize i.cells = cs at *
  generalize i.chk = r at *
  clear hp
  rcases Classical.em (r = 0) with h | h
  · rw [h, endsIn_yes] at C ⊢
    go_enter Try.func19, Try.ntmps19
    go_wp2_with (first
      | (refine load_struct Try.underlying26 rfl Try.inoSize p cs (.tmp 0) rfl rfl rfl HP.out HZ.out ?_)
      | fail)
    refine C.out.mono ?_
    rintro e w1 ⟨rfl, k1⟩
    have R := Lib.hid k1
    clear k1 C
    go_wp2
    go_end0
    exact ⟨rfl, R.out⟩
  · rw [endsIn_no h] at C ⊢
    go_enter Try.func19, Try.ntmps19
    go_wp2_with (first
      | (refine load_struct Try.underlying26 rfl Try.inoSize p cs (.tmp 0) rfl rfl rfl HP.out HZ.out ?_)
      | fail)
    refine C.out.mono ?_
    rintro e w1 ⟨rfl, k1⟩
    have R := Lib.hid k1
    clear k1 C
    go_wp2
    exact ⟨rfl, rfl, R.out⟩
theorem icheck_any (i : I14) (w : World) : Calls Try.prog 10 #[.agg i.cells] w fun e w' => e = .returned (.int .i64 i.chk) ∧ Still w w' := by
  have sW : (w.alloc (.cells i.cells 26)).heap.size = w.heap.size + 1 := by simp
  have hp : Has ((w.alloc (.cells i.cells 26)).alloc errBox) w.heap.size 26 i.cells := (Has.new w 26 i.cells).alloc _
  have C := Lib.hid (caught_any 19 _ Try.enterICheck1 (w.alloc (.cells i.cells 26)) i.chk (fun w' => Still ((w.alloc (.cells i.cells 26)).alloc errBox) w')
    ((icheck1_any i _ _ hp).mono fun e w' hh => ⟨hh.1, hh.2.has (Has.new _ _ _), hh.2⟩))
  have K : Hid (∀ w1 w', Still ((w.alloc (.cells i.cells 26)).alloc errBox) w1 → Only (fun j => j = (w.alloc (.cells i.cells 26)).heap.size) w1 w' → Still w w') := Lib.hid (fun w1 w' k1 k2 =>
    Only.trans ((((Still.refl w).alloc _).alloc _).trans k1) k2 (fun i hi e => by omega))
  have HZ := Lib.hid i.cells_size
  generalize i.chk = r at *
  generalize i.cells = cs at *
  clear hp sW
  go_enter Try.func10, Try.ntmps10
  go_wp2_with fail
  refine C.out.mono ?_
  rintro e w2 ⟨rfl, w1, k1, k2⟩
  have R := Lib.hid (K.out w1 w2 k1 k2)
  clear k1 k2 K C
  go_wp2
  go_ret
  exact ⟨rfl, R.out⟩
end Go.Proofs.Ytjlipfddbpgglaa
