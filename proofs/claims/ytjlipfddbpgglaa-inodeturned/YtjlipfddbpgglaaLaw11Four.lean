/-
  Layer 11's own 'check' and 'four'; a list of bytes that grows beside an inode's box.
-/
import Derived.Test.YtjlipfddbpgglaaLaw11Known
import Derived.Test.YtjlipfddbpgglaaAppZeros
import Derived.Test.YtjlipfddbpgglaaFourB
namespace Go.Proofs.Ytjlipfddbpgglaa
open Go.RowKit Go.Lib
set_option maxRecDepth 100000

set_option maxHeartbeats 4000000 in
theorem check11_any (i : I14) (w : World) : Calls Try.prog 9 #[.agg i.cells] w fun e w' => e = .returned (.int .i64 i.chk) ∧ Still w w' := by
  have HY : Hid (i.May → i.chk = 0) := Lib.hid I14.chk_yes
  have HN : Hid (¬ i.May → i.chk = 1) := Lib.hid I14.chk_no
  have R : Hid (Still w (w.alloc (.cells i.cells 26))) := Lib.hid ((Still.refl w).alloc _)
  have HC := I14.cellsOf (Has.new w 26 i.cells)
  generalize i.chk = r at *
  obtain ⟨m, v, s, l, d0, d1, d2, d3, d4, d5, d6, d7, a, b⟩ := i
  simp only at HC
  obtain ⟨c0, c1, c2, c3, c4, c5, c6, c7, c8, c9, c10, c11, c12, c13⟩ := HC
  by_cases hs : s ≤ 1073741824
  rotate_left
  · have hn := HN.out (fun h => absurd h.s (by simp only; omega))
    subst hn
    have gs : decide ((1073741824 : Int) < (s : Int)) = true := decide_eq_true (by omega)
    clear HY HN
    go_enter Try.func9, Try.ntmps9
    go_wp2
    go_ret
    exact ⟨rfl, R.out⟩
  by_cases hl : l ≤ 1000
  rotate_left
  · have hn := HN.out (fun h => absurd h.l (by simp only; omega))
    subst hn
    have gs : decide ((1073741824 : Int) < (s : Int)) = false := decide_eq_false (by omega)
    have gl : decide ((1000 : Int) < (l : Int)) = true := decide_eq_true (by omega)
    clear HY HN
    go_enter Try.func9, Try.ntmps9
    go_wp2
    go_ret
    exact ⟨rfl, R.out⟩
  by_cases ha : a ≤ 65535
  rotate_left
  · have hn := HN.out (fun h => absurd h.a (by simp only; omega))
    subst hn
    have gs : decide ((1073741824 : Int) < (s : Int)) = false := decide_eq_false (by omega)
    have gl : decide ((1000 : Int) < (l : Int)) = false := decide_eq_false (by omega)
    have ga : decide ((65535 : Int) < (a : Int)) = true := decide_eq_true (by omega)
    clear HY HN
    go_enter Try.func9, Try.ntmps9
    go_wp2
    go_ret
    exact ⟨rfl, R.out⟩
  by_cases hb : b ≤ 65535
  rotate_left
  · have hn := HN.out (fun h => absurd h.b (by simp only; omega))
    subst hn
    have gs : decide ((1073741824 : Int) < (s : Int)) = false := decide_eq_false (by omega)
    have gl : decide ((1000 : Int) < (l : Int)) = false := decide_eq_false (by omega)
    have ga : decide ((65535 : Int) < (a : Int)) = false := decide_eq_false (by omega)
    have gb : decide ((65535 : Int) < (b : Int)) = true := decide_eq_true (by omega)
    clear HY HN
    go_enter Try.func9, Try.ntmps9
    go_wp2
    go_ret
    exact ⟨rfl, R.out⟩
  have gs : decide ((1073741824 : Int) < (s : Int)) = false := decide_eq_false (by omega)
  have gl : decide ((1000 : Int) < (l : Int)) = false := decide_eq_false (by omega)
  have ga : decide ((65535 : Int) < (a : Int)) = false := decide_eq_false (by omega)
  have gb : decide ((65535 : Int) < (b : Int)) = false := decide_eq_false (by omega)
  go_enter Try.func9, Try.ntmps9
  go_wp2
  clear gs gl ga gb
  refine wp_loop_rounds 9 ?_
  rw [rounds_succ]
  by_cases h0 : d0 ≤ 65535
  rotate_left
  · have hn := HN.out (fun h => absurd h.d0 (by simp only; omega))
    subst hn
    have g0 : decide ((65535 : Int) < (d0 : Int)) = true := decide_eq_true (by omega)
    clear HY HN
    go_wp2
    go_ret
    exact ⟨rfl, R.out⟩
  have g0 : decide ((65535 : Int) < (d0 : Int)) = false := decide_eq_false (by omega)
  go_wp2
  clear g0
  rw [rounds_succ]
  by_cases h1 : d1 ≤ 65535
  rotate_left
  · have hn := HN.out (fun h => absurd h.d1 (by simp only; omega))
    subst hn
    have g1 : decide ((65535 : Int) < (d1 : Int)) = true := decide_eq_true (by omega)
    clear HY HN
    go_wp2
    go_ret
    exact ⟨rfl, R.out⟩
  have g1 : decide ((65535 : Int) < (d1 : Int)) = false := decide_eq_false (by omega)
  go_wp2
  clear g1
  rw [rounds_succ]
  by_cases h2 : d2 ≤ 65535
  rotate_left
  · have hn := HN.out (fun h => absurd h.d2 (by simp only; omega))
    subst hn
    have g2 : decide ((65535 : Int) < (d2 : Int)) = true := decide_eq_true (by omega)
    clear HY HN
    go_wp2
    go_ret
    exact ⟨rfl, R.out⟩
  have g2 : decide ((65535 : Int) < (d2 : Int)) = false := decide_eq_false (by omega)
  go_wp2
  clear g2
  rw [rounds_succ]
  by_cases h3 : d3 ≤ 65535
  rotate_left
  · have hn := HN.out (fun h => absurd h.d3 (by simp only; omega))
    subst hn
    have g3 : decide ((65535 : Int) < (d3 : Int)) = true := decide_eq_true (by omega)
    clear HY HN
    go_wp2
    go_ret
    exact ⟨rfl, R.out⟩
  have g3 : decide ((65535 : Int) < (d3 : Int)) = false := decide_eq_false (by omega)
  go_wp2
  clear g3
  rw [rounds_succ]
  by_cases h4 : d4 ≤ 65535
  rotate_left
  · have hn := HN.out (fun h => absurd h.d4 (by simp only; omega))
    subst hn
    have g4 : decide ((65535 : Int) < (d4 : Int)) = true := decide_eq_true (by omega)
    clear HY HN
    go_wp2
    go_ret
    exact ⟨rfl, R.out⟩
  have g4 : decide ((65535 : Int) < (d4 : Int)) = false := decide_eq_false (by omega)
  go_wp2
  clear g4
  rw [rounds_succ]
  by_cases h5 : d5 ≤ 65535
  rotate_left
  · have hn := HN.out (fun h => absurd h.d5 (by simp only; omega))
    subst hn
    have g5 : decide ((65535 : Int) < (d5 : Int)) = true := decide_eq_true (by omega)
    clear HY HN
    go_wp2
    go_ret
    exact ⟨rfl, R.out⟩
  have g5 : decide ((65535 : Int) < (d5 : Int)) = false := decide_eq_false (by omega)
  go_wp2
  clear g5
  rw [rounds_succ]
  by_cases h6 : d6 ≤ 65535
  rotate_left
  · have hn := HN.out (fun h => absurd h.d6 (by simp only; omega))
    subst hn
    have g6 : decide ((65535 : Int) < (d6 : Int)) = true := decide_eq_true (by omega)
    clear HY HN
    go_wp2
    go_ret
    exact ⟨rfl, R.out⟩
  have g6 : decide ((65535 : Int) < (d6 : Int)) = false := decide_eq_false (by omega)
  go_wp2
  clear g6
  rw [rounds_succ]
  by_cases h7 : d7 ≤ 65535
  rotate_left
  · have hn := HN.out (fun h => absurd h.d7 (by simp only; omega))
    subst hn
    have g7 : decide ((65535 : Int) < (d7 : Int)) = true := decide_eq_true (by omega)
    clear HY HN
    go_wp2
    go_ret
    exact ⟨rfl, R.out⟩
  have g7 : decide ((65535 : Int) < (d7 : Int)) = false := decide_eq_false (by omega)
  go_wp2
  clear g7
  rw [rounds_succ]
  go_wp2
  go_ret
  rw [HY.out ⟨hs, hl, h0, h1, h2, h3, h4, h5, h6, h7, ha, hb⟩]
  exact ⟨rfl, R.out⟩

theorem two_of (x : Nat) : ∃ c0 c1 : UInt8, putB 2 x = [c0, c1] ∧ IntKind.u8.wrap (x : Int) = (c0.toNat : Int) ∧ IntKind.u8.wrap ((x : Int) / 256) = (c1.toNat : Int) := by
  obtain ⟨c0, c1, c2, c3, h, h0, h1, _, _⟩ := four_of x
  refine ⟨c0, c1, ?_, h0, h1⟩
  have h2 : putB 2 x = (putB 4 x).take 2 := rfl
  rw [h2, h]
  rfl
/-! ### four -/
/-- What four leaves: the list, four bytes longer. -/
def FourStep (w : World) (B : Nat) (v : Value) (bs : List UInt8) (e : Ending) (w' : World) : Prop :=
  ∃ v', e = .returned v' ∧ w'.ownsRow B 5 1 v' bs.length (b8s bs) ∧ Only (fun i => v.ownBlock = some i) w w'
set_option maxHeartbeats 1000000 in
theorem four_any (B : Nat) (v : Value) (xs : List UInt8) (x : Nat) (w : World) (h : w.ownsRow B 5 1 v xs.length (b8s xs)) (hB : B ≤ w.heap.size) (hl : xs.length ≤ 1000) :
    Calls Try.prog 11 #[v, .int .u32 (x : Int)] w (FourStep w B v (xs ++ putB 4 x)) := by
  obtain ⟨p0, p1, p2, p3, hp, e0, e1, e2, e3⟩ := four_of x
  obtain ⟨i0, hi0, hz0, hz1, hz2⟩ := info_parts Try.info8
  have k1 : Still w (w.alloc (.cells #[.int .u8 (p0.toNat : Int), .int .u8 (p1.toNat : Int), .int .u8 (p2.toNat : Int), .int .u8 (p3.toNat : Int)] 5)) := (Still.refl w).alloc _
  have O1 := Lib.hid (owns_only h k1 (fun _ _ h => h))
  have S1 := Lib.hid (lit_SlIs w 5 (0, 0) [p0, p1, p2, p3] 4 rfl (by decide))
  have K1 := Lib.hid k1
  have HL : Hid ((xs ++ [p0, p1, p2, p3]).length ≤ 140737488355328) := Lib.hid (by simp; omega)
  have HB : Hid (B ≤ (w.alloc (.cells #[.int .u8 (p0.toNat : Int), .int .u8 (p1.toNat : Int), .int .u8 (p2.toNat : Int), .int .u8 (p3.toNat : Int)] 5)).heap.size) := Lib.hid (by simp; omega)
  rw [hp]
  clear h k1 hp hB
  go_enter Try.func11, Try.ntmps11
  go_wp2_with (at_builtin; refine wpList_append_bytes _ rfl (.tmp 5) (.tmp 17) 28 rfl B 5 i0 Try.underlying28 hi0 hz0 hz1 hz2 v xs [p0, p1, p2, p3] rfl O1.out _ _ _ rfl S1.out HL.out HB.out ?_)
  intro v5 u5 o5 g5 _
  have R : Hid (FourStep w B v (xs ++ [p0, p1, p2, p3]) (.returned v5) u5) := Lib.hid ⟨v5, rfl, by rw [List.length_append]; exact o5, Only.trans (K1.out.mono (fun _ _ h => h.elim)) (Only.of_grown g5) (fun i hi e => e.symm)⟩
  clear o5 g5 K1 O1 S1 HL HB
  go_wp2
  go_ret
  exact R.out

/-- The law's own list, grown so far, and the inode's box; the list behind W, the box ahead of it. -/
structure LW (W : World) (nb : Nat) (cs : Array Value) (v : Value) (xs : List UInt8) (wr : World) : Prop where
  row : Has wr nb 26 cs
  low : nb < W.heap.size
  own : wr.ownsRow W.heap.size 5 1 v xs.length (b8s xs)
  still : Still W wr
section
variable {W wr w' : World} {nb : Nat} {cs : Array Value} {v v' : Value} {xs ys : List UInt8}
theorem LW.form (h : LW W nb cs v xs wr) : ∃ A c, v = .slice A xs.length c := by
  obtain ⟨A, c, e, _⟩ := owns_slice h.own
  exact ⟨A, c, e⟩
theorem LW.keep (h : LW W nb cs v xs wr) (k : Still wr w') : LW W nb cs v xs w' := ⟨k.has h.row, h.low, owns_only h.own k (fun _ _ h => h), h.still.trans k⟩
theorem LW.next (h : LW W nb cs v xs wr) (o : w'.ownsRow W.heap.size 5 1 v' ys.length (b8s ys)) (k : Only (fun i => v.ownBlock = some i) wr w') : LW W nb cs v' ys w' := by
  refine ⟨h.row.only k (fun e => ?_), h.low, o, Only.trans h.still k (fun i hi e => ?_)⟩
  · have := h.own.lt _ e
    have := h.low
    omega
  · have := h.own.lt _ e
    omega
theorem LW.grown (h : LW W nb cs v xs wr) (o : w'.ownsRow W.heap.size 5 1 v' ys.length (b8s ys)) (g : wr.grownBy w' v.ownBlock) : LW W nb cs v' ys w' := h.next o ((Only.of_grown g).mono (fun _ _ e => e.symm))
theorem LW.four (h : LW W nb cs v xs wr) (x : Nat) (hl : xs.length ≤ 1000) : Calls Try.prog 11 #[v, .int .u32 (x : Int)] wr fun e w' => ∃ v', e = .returned v' ∧ LW W nb cs v' (xs ++ putB 4 x) w' :=
  (four_any _ v xs x wr h.own h.still.size hl).mono fun _ _ hh => by
    obtain ⟨v', he, o, k⟩ := hh
    exact ⟨v', he, h.next o k⟩
end
/-- A builtin append whose outcome is known, at a step of a region that draws its order. -/
theorem step_append_run {P : Program} {ops : Array Oper} {o : Oper} {a : Act} {w w' : World} {K : Act → World → Prop} {Q : Exit → Act → World → Prop} {E : Prop} (hgd : o.guard = none) (s x : Operand) (t tn : TypeId)
    (ho : o.op = .call { callee := .builtin .append, args := #[s, x], argTypes := #[t, tn] }) {v xv v' : Value} (hs : a.eval s = v) (hxv : a.eval x = xv)
    (hr : (Builtin.append_ #[t, tn] o.type #[v, xv]).run P w = .ok v' w') (h : K (a.put o.dst v') w') :
    if Region.wanted o (yielded ops a.tmps) = true then Oper.wp P o a w K Q else E := by
  have hw : Region.wanted o (yielded ops a.tmps) = true := by simp [Region.wanted, hgd]
  rw [if_pos hw]
  unfold Oper.wp execOp
  simp only [ho, resolve, invoke, builtin, Sem.run_bind, Sem.run_pure, Result.andThen_ok, List.map_toArray, List.map_cons, List.map_nil, hs, hxv, hr]
  exact h
end Go.Proofs.Ytjlipfddbpgglaa
