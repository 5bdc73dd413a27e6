/-
  Package geom: superblock.
-/
import Derived.Test.YtfkojilhpkklfaaGeomB
import Derived.Test.YtfkojilhpkklfaaCopyB
import Derived.Lib.SlBytesConst
namespace Go.Proofs.Ytfkojilhpkklfaa
open Go.RowKit Go.Lib
set_option maxRecDepth 100000

/-- The word and its version; the three numbers. -/
def headB : List UInt8 := [76, 79, 71, 71, 73, 65, 1, 0]
def numsB (B N I : Nat) : List UInt8 := headB ++ putB 4 B ++ putB 4 N ++ putB 4 I
def superB (B N I : Nat) : List UInt8 := cpy B (numsB B N I)
theorem numsB_length (B N I : Nat) : (numsB B N I).length = 20 := by simp [numsB, headB, putB_length]
theorem superB_length (B N I : Nat) : (superB B N I).length = B := cpy_length _ _
/-- A list of bytes that was made behind w. -/
def NewB (w : World) (bs : List UInt8) (e : Ending) (w' : World) : Prop := ∃ v, e = .returned v ∧ w'.ownsRow w.heap.size 5 1 v bs.length (b8s bs) ∧ Still w w'

/-- Between two calls of superblock: the Out and the geometry's box, both behind w. -/
structure SB (w : World) (cs : Array Value) (v : Value) (bs : List UInt8) (wr : World) : Prop where
  out : OutAt wr (w.heap.size + 1) (w.heap.size + 1) v bs
  box : Has wr w.heap.size 23 cs
  still : Still w wr
section
variable {w wr w' : World} {cs : Array Value} {v : Value} {bs bs' : List UInt8}
theorem SB.keep (h : SB w cs v bs wr) (k : Still wr w') : SB w cs v bs w' := ⟨h.out.only k (fun _ _ h => h), k.has h.box, h.still.trans k⟩
theorem SB.step (h : SB w cs v bs wr) {e : Ending} (k : OutStep wr (w.heap.size + 1) (w.heap.size + 1) v bs' e w') : ∃ v', e = .returned (.tuple #[]) ∧ SB w cs v' bs' w' := by
  obtain ⟨v', he, o, f, _⟩ := k
  refine ⟨v', he, o, h.box.only f (fun hf => ?_), Only.trans h.still f (fun i hi hf => ?_)⟩
  · have := h.out.foot_lt hf
    omega
  · have := h.out.foot_lt hf
    omega
theorem SB.cells {x0 x1 x2 : Value} (h : SB w #[x0, x1, x2] v bs wr) : wr.cell? ⟨w.heap.size, 0, none⟩ = some x0 ∧ wr.cell? ⟨w.heap.size, 1, none⟩ = some x1 ∧ wr.cell? ⟨w.heap.size, 2, none⟩ = some x2 :=
  ⟨by simpa using h.box.cell 0, by simpa using h.box.cell 1, by simpa using h.box.cell 2⟩
theorem SB.put (h : SB w cs v bs wr) (x : Nat) (hx : x < 18446744073709551616) (hl : bs.length ≤ 1000) : Calls Try.prog 26 #[.pointer (some ⟨w.heap.size + 1, 0, none⟩), .int .i64 4, .int .u64 (x : Int)] wr fun e w' => ∃ v', e = .returned (.tuple #[]) ∧ SB w cs v' (bs ++ putB 4 x) w' :=
  (put_yes _ _ _ _ 4 x _ h.out (by omega) (by omega) hx (by omega)).mono fun _ _ k => h.step k
end

set_option maxHeartbeats 2000000 in
theorem super_any {B N I : Nat} (h : May B N I) (w : World) : Calls Try.prog 17 #[(gN B N I).val] w (NewB w (superB B N I)) := by
  have hr := h.range
  have hn := h.n
  have hi := h.i
  have hw1 : IntKind.u64.wrap (B : Int) = (B : Int) := IntWalk.u64_in _ (by omega)
  have hw2 : IntKind.u64.wrap (N : Int) = (N : Int) := IntWalk.u64_in _ (by omega)
  have hw3 : IntKind.u64.wrap (I : Int) = (I : Int) := IntWalk.u64_in _ (by omega)
  have i0 : ∀ w, (Instr.index 54 (.agg #[.int .i64 (B : Int), .int .i64 (N : Int), .int .i64 (I : Int)]) (.int .i64 0)).run Try.prog w = .ok (.int .i64 (B : Int)) w := fun _ => by kernel_rfl
  have i1 : ∀ w, (Instr.index 54 (.agg #[.int .i64 (B : Int), .int .i64 (N : Int), .int .i64 (I : Int)]) (.int .i64 1)).run Try.prog w = .ok (.int .i64 (N : Int)) w := fun _ => by kernel_rfl
  have i2 : ∀ w, (Instr.index 54 (.agg #[.int .i64 (B : Int), .int .i64 (N : Int), .int .i64 (I : Int)]) (.int .i64 2)).run Try.prog w = .ok (.int .i64 (I : Int)) w := fun _ => by kernel_rfl
  obtain ⟨W0, hW0⟩ : ∃ W0, W0 = (w.alloc (.cells #[.int .i64 (B : Int), .int .i64 (N : Int), .int .i64 (I : Int)] 23)).alloc (.cells #[.slice none 0 0] 52) := ⟨_, rfl⟩
  have s0 : W0.heap.size = w.heap.size + 1 + 1 := by rw [hW0]; simp
  have h0 : SB w #[.int .i64 (B : Int), .int .i64 (N : Int), .int .i64 (I : Int)] (.slice none 0 0) [] W0 := by
    rw [hW0]
    refine ⟨?_, (Has.new w 23 _).alloc _, ((Still.refl w).alloc _).alloc _⟩
    have := new_out (w.alloc (.cells #[.int .i64 (B : Int), .int .i64 (N : Int), .int .i64 (I : Int)] 23))
    simpa using this
  have kc := Lib.run_convert_bytes_const (P := Try.prog) W0 24 5 #[.int .u8 76, .int .u8 79, .int .u8 71, .int .u8 71, .int .u8 73, .int .u8 65, .int .u8 1, .int .u8 0] 8 8 Try.underlying24 Try.underlying5
  have C0 := Lib.hid ((outraw_any _ _ _ (.slice (some ⟨W0.heap.size, 0, none⟩) 8 8) [] headB _ _ _ (h0.keep ((Still.refl W0).alloc (.cells #[.int .u8 76, .int .u8 79, .int .u8 71, .int .u8 71, .int .u8 73, .int .u8 65, .int .u8 1, .int .u8 0] 5 (8, 9)))).out (lit_SlIs W0 5 (8, 9) headB 8 rfl (by simp [maxLen])) (by decide)).mono fun _ _ k => (h0.keep ((Still.refl W0).alloc _)).step k)
  rw [s0] at kc C0
  show Calls Try.prog 17 #[.agg #[.int .i64 (B : Int), .int .i64 (N : Int), .int .i64 (I : Int)]] w _
  have HW := Lib.hid hW0.symm
  rw [hW0] at kc C0
  clear h s0 h0
  go_enter Try.func17, Try.ntmps17
  go_wp2_with fail
  refine C0.out.mono ?_
  rintro e w1 ⟨v1, rfl, h1⟩
  obtain ⟨c0, c1, c2⟩ := h1.cells
  have P1 := Lib.hid (h1.put B (by omega) (by decide))
  clear C0 kc h1 HW hW0
  go_wp2
  refine wp_loop_rounds 4 ?_
  rw [rounds_succ]
  go_wp2_with fail
  refine P1.out.mono ?_
  rintro e w2 ⟨v2, rfl, h2⟩
  have P2 := Lib.hid (h2.put N (by omega) (by simp [headB, putB_length]))
  clear P1 h2 c0 c1 c2
  go_wp2
  rw [rounds_succ]
  go_wp2_with fail
  refine P2.out.mono ?_
  rintro e w3 ⟨v3, rfl, h3⟩
  have P3 := Lib.hid (h3.put I (by omega) (by simp [headB, putB_length]))
  clear P2 h3
  go_wp2
  rw [rounds_succ]
  go_wp2_with fail
  refine P3.out.mono ?_
  rintro e w4 ⟨v4, rfl, h4⟩
  obtain ⟨c0, c1, c2⟩ := h4.cells
  obtain ⟨w5, hmk, o5, k5, l5⟩ := make_bytes B (by omega) w4
  have h5 := h4.keep k5
  have eL : [] ++ headB ++ putB 4 B ++ putB 4 N ++ putB 4 I = numsB B N I := by simp [numsB]
  have P4 := Lib.hid (bytes_any _ _ _ _ w5 h5.out (by simp [headB, putB_length]))
  rw [eL] at P4
  have S5 := Lib.hid h5.still
  have O5 := Lib.hid o5
  have L5 := Lib.hid l5
  have S4 := Lib.hid h4.still.size
  clear P3 h4 h5 o5 k5 l5 eL
  go_wp2
  rw [rounds_succ]
  go_wp2_with fail
  refine P4.out.mono ?_
  rintro e w6 ⟨v6, rfl, o6, k6⟩
  obtain ⟨A6, n6, rfl, _⟩ := owns_SlIs o6
  have hl20 := numsB_length B N I
  have o7 := owns_only O5.out (Only.of_below k6) (fun i hi h => by
    have := (O5.out.lt i hi).2
    omega)
  obtain ⟨m, w7, hcp, o8, k8⟩ := copy_bytes o7 (owns_SlIs o6)
  have R : Hid (NewB w (superB B N I) (.returned (.slice (some ⟨w4.heap.size, 0, none⟩) B B)) w7) := Lib.hid ⟨_, rfl, by
    rw [superB_length]
    exact owns_base o8 S4.out, Only.trans (Only.trans S5.out (Only.of_below k6) (fun i hi h => by have := S5.out.size; omega)) k8 (fun i hi h => by have := S4.out; omega)⟩
  rw [hl20] at hcp ⊢
  clear o6 k6 o7 o8 k8 P4 S5 O5 L5 hl20
  go_wp2
  go_ret
  exact R.out
end Go.Proofs.Ytfkojilhpkklfaa
