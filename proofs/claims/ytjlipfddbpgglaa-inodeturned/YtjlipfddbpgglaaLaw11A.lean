/-
  Layer 11: Encode and Decode as the laws call them; whether two inodes are the same.
-/
import Derived.Test.YtjlipfddbpgglaaInoG
import Derived.ChangeKeysEq
namespace Go.Proofs.Ytjlipfddbpgglaa
open Go.RowKit Go.Lib
set_option maxRecDepth 100000

theorem isI_len {bs : List UInt8} (h : isI bs) : bs.length = 64 := by rw [h.2, I14.bytes_length]
/-- Encode of what may be: 64 bytes. -/
theorem iencode_yes {i : I14} (hi : i.Num) (hc : i.May) (W : World) : Calls Try.prog 8 #[.agg i.cells] W fun e w' => ∃ A c, e = .returned (.tuple #[.slice A 64 c, .int .i64 0]) ∧ SlIs w' W.heap.size w'.heap.size (.slice A 64 c) i.bytes ∧ Still W w' :=
  (iencode_any i hi W).mono fun e w' hh => by
    obtain ⟨v, rfl, h1, _, h3⟩ := hh
    obtain ⟨A, c, rfl, q1, q2, q3⟩ := owns_slice (h1 hc)
    rw [I14.chk_yes hc]
    have hl := i.bytes_length
    refine ⟨A, c, by rw [hl], ⟨A, c, by rw [hl], q1, q2, q3⟩, h3⟩
theorem iencode_no {i : I14} (hi : i.Num) (hc : ¬ i.May) (W : World) : Calls Try.prog 8 #[.agg i.cells] W fun e w' => e = .returned (.tuple #[.slice none 0 0, .int .i64 1]) ∧ Still W w' :=
  (iencode_any i hi W).mono fun e w' hh => by
    obtain ⟨v, rfl, _, h2, h3⟩ := hh
    rw [h2 hc, I14.chk_no hc]
    exact ⟨rfl, h3⟩
theorem idecode_yes {bs : List UInt8} (hc : isI bs) (v : Value) (lo hi : Nat) (W : World) (h : SlIs W lo hi v bs) (hh : hi ≤ W.heap.size) : Calls Try.prog 12 #[v] W fun e w' => e = .returned (.tuple #[.agg (readI bs).cells, .int .i64 0]) ∧ Still W w' := by
  have := idecode_any v _ lo hi W h hh (by rw [isI_len hc]; decide)
  rw [show decI bs = readI bs from if_pos hc, show decJ bs = 0 from if_pos hc] at this
  exact this
theorem idecode_own {i : I14} (hn : i.Num) (hc : i.May) (v : Value) (lo hi : Nat) (W : World) (h : SlIs W lo hi v i.bytes) (hh : hi ≤ W.heap.size) : Calls Try.prog 12 #[v] W fun e w' => e = .returned (.tuple #[.agg i.cells, .int .i64 0]) ∧ Still W w' := by
  have := idecode_yes (isI_bytes hn hc) v lo _ W h hh
  rw [readI_bytes hn] at this
  exact this
theorem idecode_no {bs : List UInt8} (hc : ¬ isI bs) (v : Value) (lo hi : Nat) (W : World) (h : SlIs W lo hi v bs) (hh : hi ≤ W.heap.size) (hl : bs.length ≤ 140737488355328) : Calls Try.prog 12 #[v] W fun e w' => e = .returned (.tuple #[.agg I14.zero.cells, .int .i64 2]) ∧ Still W w' := by
  have := idecode_any v _ lo hi W h hh hl
  rw [show decI bs = I14.zero from if_neg hc, show decJ bs = 2 from if_neg hc] at this
  exact this

/-! ### are two inodes the same? -/
theorem u32_part (ns : List Nat) (k : Nat) (h : k < ns.length) (w : World) : (part 22 (u32v ns).toArray k).run Try.prog w = .ok (.int .u32 (ns[k] : Int)) w :=
  run_part_plain w (by kernel_rfl) (by rw [List.getElem?_toArray]; exact u32v_get h)
theorem eqItems_u32 (d : Nat) (ns ms : List Nat) (w : World) : ∀ is : List Nat, (∀ i ∈ is, i < ns.length ∧ i < ms.length) →
    (Op.eqItems (d + 1) 22 1 (u32v ns).toArray (u32v ms).toArray is).run Try.prog w = .ok (decide (∀ i ∈ is, ns[i]? = ms[i]?)) w
  | [], _ => by simp [Op.eqItems]
  | i :: is, h => by
    obtain ⟨h1, h2⟩ := h i (by simp)
    have ih := eqItems_u32 d ns ms w is (fun j hj => h j (by simp [hj]))
    simp only [Op.eqItems, Nat.mul_one, Sem.run_bind, u32_part ns i h1, u32_part ms i h2, Result.andThen_ok, run_equalIn_int w d 22 .u32 .u32 _ _ Try.underlying22]
    by_cases he : ns[i] = ms[i]
    · have e1 : ((ns[i] : Int) == (ms[i] : Int)) = true := by simp [he]
      rw [e1]
      simp only [Bool.not_true, Bool.false_eq_true, if_false]
      rw [ih]
      congr 1
      simp [h1, h2, he]
    · have e1 : ((ns[i] : Int) == (ms[i] : Int)) = false := by simp; omega
      rw [e1]
      simp only [Bool.not_false, if_true, Sem.run_pure]
      congr 1
      symm
      apply decide_eq_false
      intro hh
      have := hh i (by simp)
      rw [List.getElem?_eq_getElem h1, List.getElem?_eq_getElem h2] at this
      injection this with this
      exact he this
theorem eqArr8 (ns ms : List Nat) (h1 : ns.length = 8) (h2 : ms.length = 8) (w : World) : (Op.equalIn 9999 24 (.agg (u32v ns).toArray) (.agg (u32v ms).toArray)).run Try.prog w = .ok (decide (ns = ms)) w := by
  have hc : Try.prog.cellsOf 22 = 1 := by kernel_rfl
  obtain ⟨i0, hi0⟩ := info_of_underlying Try.underlying22
  rw [run_equalIn_array w 9998 _ _ Try.underlying24 hi0, hc, eqItems_u32 9997 ns ms w (List.range 8) (fun i hi => by rw [List.mem_range] at hi; omega)]
  congr 1
  rw [decide_eq_decide]
  constructor
  · intro h
    apply List.ext_getElem?
    intro i
    by_cases hi : i < 8
    · exact h i (List.mem_range.2 hi)
    · rw [List.getElem?_eq_none (by omega), List.getElem?_eq_none (by omega)]
  · rintro rfl i _
    rfl
set_option maxHeartbeats 2000000 in
theorem Try.eqInode (x : I14) : ∀ w, (binOp .eql 26 (.agg x.cells) (.agg x.cells)).run Try.prog w = .ok (.bool true) w := by
  intro w
  obtain ⟨m, v, s, l, d0, d1, d2, d3, d4, d5, d6, d7, a, b⟩ := x
  have e := eqArr8 [d0, d1, d2, d3, d4, d5, d6, d7] [d0, d1, d2, d3, d4, d5, d6, d7] rfl rfl w
  rw [decide_eq_true rfl] at e
  simp only [u32v, List.map_cons, List.map_nil] at e
  unfold I14.cells
  go_simp
set_option maxHeartbeats 2000000 in
theorem Try.neqInode {x y : I14} (h : x ≠ y) : ∀ w, (binOp .neq 26 (.agg x.cells) (.agg y.cells)).run Try.prog w = .ok (.bool true) w := by
  intro w
  obtain ⟨m, v, s, l, d0, d1, d2, d3, d4, d5, d6, d7, a, b⟩ := x
  obtain ⟨m', v', s', l', d0', d1', d2', d3', d4', d5', d6', d7', a', b'⟩ := y
  have e := eqArr8 [d0, d1, d2, d3, d4, d5, d6, d7] [d0', d1', d2', d3', d4', d5', d6', d7'] rfl rfl w
  unfold I14.cells
  by_cases hd : [d0, d1, d2, d3, d4, d5, d6, d7] = [d0', d1', d2', d3', d4', d5', d6', d7']
  · rw [decide_eq_true hd] at e
    simp only [u32v, List.map_cons, List.map_nil] at e
    go_simp
    intro h1 h2 h3 h4 h5 h6
    apply h
    simp only [List.cons.injEq, and_true] at hd
    obtain ⟨rfl, rfl, rfl, rfl, rfl, rfl, rfl, rfl⟩ := hd
    have h1 : m = m' := by omega
    have h2 : v = v' := by omega
    have h3 : s = s' := by omega
    have h4 : l = l' := by omega
    have h5 : a = a' := by omega
    have h6 : b = b' := by omega
    rw [h1, h2, h3, h4, h5, h6]
  · rw [decide_eq_false hd] at e
    simp only [u32v, List.map_cons, List.map_nil] at e
    go_simp
theorem Try.neqInode0 : ∀ w, (binOp .neq 26 (.agg I14.zero.cells) (.agg I14.zero.cells)).run Try.prog w = .ok (.bool false) w := fun _ => by kernel_rfl
end Go.Proofs.Ytjlipfddbpgglaa
