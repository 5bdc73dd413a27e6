/-
  Package inode: written.
-/
import Derived.Test.YtjlipfddbpgglaaInoC
import Derived.Lib.SlBytesConst
namespace Go.Proofs.Ytjlipfddbpgglaa
open Go.RowKit Go.Lib
set_option maxRecDepth 100000

/-- Between two calls of written: the Out and the inode's box, both behind w. -/
structure WB (w : World) (i : I14) (v : Value) (bs : List UInt8) (wr : World) : Prop where
  out : OutAt wr (w.heap.size + 1) (w.heap.size + 1) v bs
  box : Has wr w.heap.size 26 i.cells
  still : Still w wr
section
variable {w wr w' : World} {i : I14} {v : Value} {bs bs' : List UInt8}
theorem WB.keep (h : WB w i v bs wr) (k : Still wr w') : WB w i v bs w' := ⟨h.out.only k (fun _ _ h => h), k.has h.box, h.still.trans k⟩
theorem WB.step (h : WB w i v bs wr) {e : Ending} (k : OutStep wr (w.heap.size + 1) (w.heap.size + 1) v bs' e w') : ∃ v', e = .returned (.tuple #[]) ∧ WB w i v' bs' w' := by
  obtain ⟨v', he, o, f, _⟩ := k
  refine ⟨v', he, o, h.box.only f (fun hf => ?_), Only.trans h.still f (fun i hi hf => ?_)⟩
  · have := h.out.foot_lt hf
    omega
  · have := h.out.foot_lt hf
    omega
theorem WB.put2 (h : WB w i v bs wr) (x : Nat) (hx : x < 65536) (hl : bs.length ≤ 1000) : Calls Try.prog 26 #[.pointer (some ⟨w.heap.size + 1, 0, none⟩), .int .i64 2, .int .u64 (x : Int)] wr fun e w' => ∃ v', e = .returned (.tuple #[]) ∧ WB w i v' (bs ++ putB 2 x) w' :=
  (put_yes _ _ _ _ 2 x _ h.out (by omega) (by omega) (by omega) (by omega)).mono fun _ _ k => h.step k
/-- Numbers of a new row. -/
theorem WB.putsNew (h : WB w i v bs wr) (ns : List Nat) (cs : Array Value) (hcs : cs = (u32v ns).toArray) (n : Nat) (hns : ns.length = n) (hn : ∀ k (hk : k < ns.length), ns[k] < 4294967296) (hl : bs.length + 4 * ns.length ≤ 10000) :
    Calls Try.prog 25 #[.pointer (some ⟨w.heap.size + 1, 0, none⟩), .slice (some ⟨wr.heap.size, 0, none⟩) n n] (wr.alloc (.cells cs 22)) fun e w' => ∃ v', e = .returned (.tuple #[]) ∧ WB w i v' (bs ++ putsB ns) w' := by
  subst hcs hns
  have h1 := h.keep ((Still.refl wr).alloc (.cells (u32v ns).toArray 22))
  have hr : RwIs (wr.alloc (.cells (u32v ns).toArray 22)) (fun i => i = wr.heap.size) ns.length (.slice (some ⟨wr.heap.size, 0, none⟩) ns.length ns.length) (u32v ns) :=
    ⟨_, _, rfl, fun _ => ⟨_, rfl, rfl, by simp, fun j u hu => by
      have := (Has.new wr 22 (u32v ns).toArray).cell j
      rw [List.getElem?_toArray, hu] at this
      rw [Addr.add_lit, Nat.zero_add]
      exact this⟩⟩
  refine (puts_any _ _ wr.heap.size _ _ _ ns _ h1.out hr (fun hf => ?_) (by simp) hn (by omega)).mono fun _ _ k => h1.step k
  have := h.out.foot_lt hf
  omega
/-- The numbers of the inode's own row. -/
theorem WB.putsOwn (h : WB w i v bs wr) (hn : i.Num) (hl : bs.length ≤ 1000) :
    Calls Try.prog 25 #[.pointer (some ⟨w.heap.size + 1, 0, none⟩), .slice (some ⟨w.heap.size, 4, none⟩) 8 8] wr fun e w' => ∃ v', e = .returned (.tuple #[]) ∧ WB w i v' (bs ++ putsB [i.d0, i.d1, i.d2, i.d3, i.d4, i.d5, i.d6, i.d7]) w' := by
  obtain ⟨c0, c1, c2, c3, c4, c5, c6, c7, c8, c9, c10, c11, c12, c13⟩ := I14.cellsOf h.box
  have hr : RwIs wr (fun j => j = w.heap.size) 8 (.slice (some ⟨w.heap.size, 4, none⟩) 8 8) (u32v [i.d0, i.d1, i.d2, i.d3, i.d4, i.d5, i.d6, i.d7]) :=
    ⟨_, _, rfl, fun _ => ⟨_, rfl, rfl, h.box.lt, fun j u hu => by
      match j, hu with
      | 0, hu => simp only [u32v, List.map_cons, List.getElem?_cons_zero, Option.some.injEq] at hu; rw [← hu]; exact c4
      | 1, hu => simp only [u32v, List.map_cons, List.getElem?_cons_zero, List.getElem?_cons_succ, Option.some.injEq] at hu; rw [← hu]; exact c5
      | 2, hu => simp only [u32v, List.map_cons, List.getElem?_cons_zero, List.getElem?_cons_succ, Option.some.injEq] at hu; rw [← hu]; exact c6
      | 3, hu => simp only [u32v, List.map_cons, List.getElem?_cons_zero, List.getElem?_cons_succ, Option.some.injEq] at hu; rw [← hu]; exact c7
      | 4, hu => simp only [u32v, List.map_cons, List.getElem?_cons_zero, List.getElem?_cons_succ, Option.some.injEq] at hu; rw [← hu]; exact c8
      | 5, hu => simp only [u32v, List.map_cons, List.getElem?_cons_zero, List.getElem?_cons_succ, Option.some.injEq] at hu; rw [← hu]; exact c9
      | 6, hu => simp only [u32v, List.map_cons, List.getElem?_cons_zero, List.getElem?_cons_succ, Option.some.injEq] at hu; rw [← hu]; exact c10
      | 7, hu => simp only [u32v, List.map_cons, List.getElem?_cons_zero, List.getElem?_cons_succ, Option.some.injEq] at hu; rw [← hu]; exact c11
      | j + 8, hu => simp [u32v] at hu⟩⟩
  refine (puts_any _ _ w.heap.size _ _ _ [i.d0, i.d1, i.d2, i.d3, i.d4, i.d5, i.d6, i.d7] _ h.out hr (fun hf => ?_) h.box.lt (fun k hk => ?_) (by simp; omega)).mono fun _ _ k => h.step k
  · have := h.out.foot_lt hf
    omega
  · have hk8 : k < 8 := hk
    obtain ⟨_, _, _, _, h0, h1, h2, h3, h4, h5, h6, h7, _, _⟩ := hn
    match k, hk8 with
    | 0, _ => exact h0
    | 1, _ => exact h1
    | 2, _ => exact h2
    | 3, _ => exact h3
    | 4, _ => exact h4
    | 5, _ => exact h5
    | 6, _ => exact h6
    | 7, _ => exact h7
end

set_option maxHeartbeats 4000000 in
theorem written_any (i : I14) (hi : i.Num) (w : World) : Calls Try.prog 18 #[.agg i.cells] w (NewB w i.bytes) := by
  obtain ⟨W0, hW0⟩ : ∃ W0, W0 = (w.alloc (.cells i.cells 26)).alloc (.cells #[.slice none 0 0] 50) := ⟨_, rfl⟩
  have s0 : W0.heap.size = w.heap.size + 1 + 1 := by rw [hW0]; simp
  have h0 : WB w i (.slice none 0 0) [] W0 := by
    rw [hW0]
    refine ⟨?_, (Has.new w 26 _).alloc _, ((Still.refl w).alloc _).alloc _⟩
    have := new_out (w.alloc (.cells i.cells 26))
    simpa using this
  have P1 := Lib.hid (h0.putsNew [i.m, i.v, i.s] #[.int .u32 (i.m : Int), .int .u32 (i.v : Int), .int .u32 (i.s : Int)] rfl 3 rfl (fun k hk => by
    have hk3 : k < 3 := hk
    match k, hk3 with
    | 0, _ => exact hi.m
    | 1, _ => exact hi.v
    | 2, _ => exact hi.s) (by simp))
  rw [s0] at P1
  obtain ⟨a0, a1, a2, _, _, _, _, _, _, _, _, _, _, _⟩ := I14.cellsOf h0.box
  have HI := Lib.hid hi
  have HB := Lib.hid i.bytes_is
  have HL := Lib.hid i.nums_length
  rw [hW0] at P1 a0 a1 a2
  clear s0 h0 hi hW0
  go_enter Try.func18, Try.ntmps18
  go_wp2_with fail
  refine P1.out.mono ?_
  rintro e w1 ⟨v1, rfl, h1⟩
  obtain ⟨_, _, _, b3, _, _, _, _, _, _, _, _, _, _⟩ := I14.cellsOf h1.box
  have hw : IntKind.u64.wrap (i.l : Int) = (i.l : Int) := IntWalk.u64_in _ (by have := HI.out.l; omega)
  have P2 := Lib.hid (h1.put2 i.l HI.out.l (by simp [putsB_length]))
  clear P1 h1 a0 a1 a2
  go_wp2_with fail
  refine P2.out.mono ?_
  rintro e w2 ⟨v2, rfl, h2⟩
  obtain ⟨w3, hmk', o3, k3, l3⟩ := make_bytes 2 (by omega) w2
  have hmk : (Instr.makeSlice 28 (.int .i64 2) (.int .i64 2)).run Try.prog w2 = .ok (.slice (some ⟨w2.heap.size, 0, none⟩) 2 2) w3 := hmk'
  clear hmk'
  have h3 := h2.keep k3
  have P3 := Lib.hid ((outraw_any _ _ _ _ _ [0, 0] _ _ w3 h3.out (owns_SlIs o3) (by simp [putsB_length, putB_length])).mono fun _ _ k => h3.step k)
  clear P2 h2 h3 o3 k3 l3 b3
  go_wp2_with fail
  refine P3.out.mono ?_
  rintro e w4 ⟨v4, rfl, h4⟩
  have P4 := Lib.hid (h4.putsOwn HI.out (by simp [putsB_length, putB_length]))
  clear P3 h4 hmk
  go_wp2_with fail
  refine P4.out.mono ?_
  rintro e w5 ⟨v5, rfl, h5⟩
  obtain ⟨_, _, _, _, _, _, _, _, _, _, _, _, b12, b13⟩ := I14.cellsOf h5.box
  have P5 := Lib.hid (h5.putsNew [i.a, i.b] #[.int .u32 (i.a : Int), .int .u32 (i.b : Int)] rfl 2 rfl (fun k hk => by
    have hk2 : k < 2 := hk
    match k, hk2 with
    | 0, _ => exact HI.out.a
    | 1, _ => exact HI.out.b) (by simp [putsB_length, putB_length]))
  clear P4 h5
  go_wp2_with fail
  refine P5.out.mono ?_
  rintro e w6 ⟨v6, rfl, h6⟩
  obtain ⟨w7, hmk', o7, k7, l7⟩ := make_bytes 64 (by omega) w6
  have hmk : (Instr.makeSlice 28 (.int .i64 64) (.int .i64 64)).run Try.prog w6 = .ok (.slice (some ⟨w6.heap.size, 0, none⟩) 64 64) w7 := hmk'
  clear hmk'
  have h7 := h6.keep k7
  have eL : [] ++ putsB [i.m, i.v, i.s] ++ putB 2 i.l ++ [0, 0] ++ putsB [i.d0, i.d1, i.d2, i.d3, i.d4, i.d5, i.d6, i.d7] ++ putsB [i.a, i.b] = i.nums := by simp [I14.nums, putsB]
  have P6 := Lib.hid (bytes_any _ _ _ _ w7 h7.out (by simp [putsB_length, putB_length]))
  rw [eL] at P6
  have S7 := Lib.hid h7.still
  have O7 := Lib.hid o7
  have L7 := Lib.hid l7
  have S6 := Lib.hid h6.still.size
  clear P5 h6 h7 o7 k7 l7 eL b12 b13
  go_wp2_with fail
  refine P6.out.mono ?_
  rintro e w8 ⟨v8, rfl, o8, k8⟩
  obtain ⟨A8, n8, rfl, _⟩ := owns_SlIs o8
  have hl := HL.out
  have o9 := owns_only O7.out (Only.of_below k8) (fun i hi h => by
    have := (O7.out.lt i hi).2
    omega)
  obtain ⟨m, w9, hcp, oA, kA⟩ := copy_bytes o9 (owns_SlIs o8)
  rw [HB.out] at oA
  have R : Hid (NewB w i.bytes (.returned (.slice (some ⟨w6.heap.size, 0, none⟩) 64 64)) w9) := Lib.hid ⟨_, rfl, by
    rw [I14.bytes_length]
    exact owns_base oA S6.out, Only.trans (Only.trans S7.out (Only.of_below k8) (fun i hi h => by have := S7.out.size; omega)) kA (fun i hi h => by have := S6.out; omega)⟩
  rw [hl] at hcp ⊢
  clear o8 k8 o9 oA kA P6 S7 O7 L7 hl
  go_wp2
  go_ret
  exact R.out
end Go.Proofs.Ytjlipfddbpgglaa
