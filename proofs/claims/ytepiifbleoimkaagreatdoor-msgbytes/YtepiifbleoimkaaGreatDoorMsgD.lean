/-
  Package msg: named: where a message has the fields that its Type names.
-/
import Derived.Test.YtepiifbleoimkaaGreatDoorPackMsgA
import Derived.StillTailTactics
namespace Go.Proofs.YtepiifbleoimkaaGreatDoor
open Go.RowKit
set_option maxRecDepth 100000

/-- What a Type names: kinds and places, in order; none: it is not one. -/
def namedOf : Nat → Option (List (K × Nat))
  | 100 => some [(.num 4, 2), (.text, 3)]
  | 101 => some [(.num 4, 2), (.text, 3)]
  | 102 => some [(.num 4, 5), (.text, 7), (.text, 8)]
  | 103 => some [(.qid, 13)]
  | 104 => some [(.num 4, 4), (.num 4, 5), (.text, 7), (.text, 8)]
  | 105 => some [(.qid, 13)]
  | 107 => some [(.text, 9)]
  | 108 => some [(.num 2, 10)]
  | 109 => some []
  | 110 => some [(.num 4, 4), (.num 4, 6), (.texts, 11)]
  | 111 => some [(.qids, 12)]
  | 112 => some [(.num 4, 4), (.num 1, 17)]
  | 113 => some [(.qid, 13), (.num 4, 16)]
  | 114 => some [(.num 4, 4), (.text, 19), (.num 4, 18), (.num 1, 17)]
  | 115 => some [(.qid, 13), (.num 4, 16)]
  | 116 => some [(.num 4, 4), (.num 8, 20), (.num 4, 21)]
  | 117 => some [(.data, 22)]
  | 118 => some [(.num 4, 4), (.num 8, 20), (.data, 22)]
  | 119 => some [(.num 4, 21)]
  | 120 => some [(.num 4, 4)]
  | 121 => some []
  | 122 => some [(.num 4, 4)]
  | 123 => some []
  | 124 => some [(.num 4, 4)]
  | 125 => some [(.stat, 23)]
  | 126 => some [(.num 4, 4), (.stat, 23)]
  | 127 => some []
  | _ => none
def fieldV (mb : Nat) (k : K × Nat) : Value := .iface k.1.ptr (.pointer (some ⟨mb, k.2, none⟩))
/-- A slice that reads as these interfaces. -/
def AnysAt (w : World) (lo : Nat) (v : Value) (xs : List Value) : Prop := ∃ A c, v = .slice A xs.length c ∧
  (0 < xs.length → ∃ g, A = some ⟨g, 0, none⟩ ∧ lo ≤ g ∧ g < w.heap.size ∧ ∀ j (h : j < xs.length), w.cell? ⟨g, j, none⟩ = some xs[j])
def NamedStep (w : World) (mb : Nat) (r : Option (List (K × Nat))) (e : Ending) (w' : World) : Prop :=
  ∃ v, e = .returned (.tuple #[v, .bool r.isSome]) ∧ AnysAt w' w.heap.size v ((r.getD []).map (fieldV mb)) ∧ Below w.heap.size w w'
theorem anys_nil (w : World) (lo : Nat) : AnysAt w lo (.slice none 0 0) [] := ⟨none, 0, rfl, fun h => absurd h (by simp)⟩
theorem anys_new (w W : World) (n : Nat) (xs : List Value) (hn : xs.length = n) (b : Below w.heap.size w W) : AnysAt (W.alloc (.cells xs.toArray 20)) w.heap.size (.slice (some ⟨W.heap.size, 0, none⟩) n n) xs := by
  subst hn
  refine ⟨_, _, rfl, fun _ => ⟨_, rfl, b.size, (Has.new W _ _).lt, fun j h => ?_⟩⟩
  have := (Has.new W 20 xs.toArray).cell j
  rw [this]
  simp [h]

theorem below_drewn (w : World) : Below w.heap.size w w.drew := ⟨rfl, rfl, rfl, Nat.le_refl _, fun _ _ => rfl⟩

set_option maxHeartbeats 1000000 in
theorem named_100 (mb : Nat) (cs : Array Value) (w : World) (hm : Has w mb 34 cs) (hc : cs[0]? = some (.int .u8 100)) :
    Calls Tryz.prog 28 #[.pointer (some ⟨mb, 0, none⟩)] w (NamedStep w mb (namedOf 100)) := by
  have c0 := (hm.cell 0).trans hc
  clear hm hc
  go_enter Tryz.func28, Tryz.ntmps28
  go_wp2_with fail
  go_region
  all_goals (go_wp2; go_ret2)
  exact ⟨_, rfl, anys_new w w.drew 2 [_, _] rfl (below_drewn w), (below_drewn w).alloc (Nat.le_refl _) _⟩
set_option maxHeartbeats 1000000 in
theorem named_101 (mb : Nat) (cs : Array Value) (w : World) (hm : Has w mb 34 cs) (hc : cs[0]? = some (.int .u8 101)) :
    Calls Tryz.prog 28 #[.pointer (some ⟨mb, 0, none⟩)] w (NamedStep w mb (namedOf 101)) := by
  have c0 := (hm.cell 0).trans hc
  clear hm hc
  go_enter Tryz.func28, Tryz.ntmps28
  go_wp2_with fail
  go_region
  all_goals (go_wp2; go_ret2)
  exact ⟨_, rfl, anys_new w w.drew 2 [_, _] rfl (below_drewn w), (below_drewn w).alloc (Nat.le_refl _) _⟩
set_option maxHeartbeats 1000000 in
theorem named_102 (mb : Nat) (cs : Array Value) (w : World) (hm : Has w mb 34 cs) (hc : cs[0]? = some (.int .u8 102)) :
    Calls Tryz.prog 28 #[.pointer (some ⟨mb, 0, none⟩)] w (NamedStep w mb (namedOf 102)) := by
  have c0 := (hm.cell 0).trans hc
  clear hm hc
  go_enter Tryz.func28, Tryz.ntmps28
  go_wp2_with fail
  go_region
  all_goals (go_wp2; go_ret2)
  exact ⟨_, rfl, anys_new w w.drew 3 [_, _, _] rfl (below_drewn w), (below_drewn w).alloc (Nat.le_refl _) _⟩
set_option maxHeartbeats 1000000 in
theorem named_103 (mb : Nat) (cs : Array Value) (w : World) (hm : Has w mb 34 cs) (hc : cs[0]? = some (.int .u8 103)) :
    Calls Tryz.prog 28 #[.pointer (some ⟨mb, 0, none⟩)] w (NamedStep w mb (namedOf 103)) := by
  have c0 := (hm.cell 0).trans hc
  clear hm hc
  go_enter Tryz.func28, Tryz.ntmps28
  go_wp2
  go_ret2
  exact ⟨_, rfl, anys_new w w 1 [_] rfl (Below.refl _ _), (Below.refl _ _).alloc (Nat.le_refl _) _⟩
set_option maxHeartbeats 1000000 in
theorem named_104 (mb : Nat) (cs : Array Value) (w : World) (hm : Has w mb 34 cs) (hc : cs[0]? = some (.int .u8 104)) :
    Calls Tryz.prog 28 #[.pointer (some ⟨mb, 0, none⟩)] w (NamedStep w mb (namedOf 104)) := by
  have c0 := (hm.cell 0).trans hc
  clear hm hc
  go_enter Tryz.func28, Tryz.ntmps28
  go_wp2_with fail
  go_region
  all_goals (go_wp2; go_ret2)
  exact ⟨_, rfl, anys_new w w.drew 4 [_, _, _, _] rfl (below_drewn w), (below_drewn w).alloc (Nat.le_refl _) _⟩
set_option maxHeartbeats 1000000 in
theorem named_105 (mb : Nat) (cs : Array Value) (w : World) (hm : Has w mb 34 cs) (hc : cs[0]? = some (.int .u8 105)) :
    Calls Tryz.prog 28 #[.pointer (some ⟨mb, 0, none⟩)] w (NamedStep w mb (namedOf 105)) := by
  have c0 := (hm.cell 0).trans hc
  clear hm hc
  go_enter Tryz.func28, Tryz.ntmps28
  go_wp2
  go_ret2
  exact ⟨_, rfl, anys_new w w 1 [_] rfl (Below.refl _ _), (Below.refl _ _).alloc (Nat.le_refl _) _⟩
set_option maxHeartbeats 1000000 in
theorem named_107 (mb : Nat) (cs : Array Value) (w : World) (hm : Has w mb 34 cs) (hc : cs[0]? = some (.int .u8 107)) :
    Calls Tryz.prog 28 #[.pointer (some ⟨mb, 0, none⟩)] w (NamedStep w mb (namedOf 107)) := by
  have c0 := (hm.cell 0).trans hc
  clear hm hc
  go_enter Tryz.func28, Tryz.ntmps28
  go_wp2
  go_ret2
  exact ⟨_, rfl, anys_new w w 1 [_] rfl (Below.refl _ _), (Below.refl _ _).alloc (Nat.le_refl _) _⟩
set_option maxHeartbeats 1000000 in
theorem named_108 (mb : Nat) (cs : Array Value) (w : World) (hm : Has w mb 34 cs) (hc : cs[0]? = some (.int .u8 108)) :
    Calls Tryz.prog 28 #[.pointer (some ⟨mb, 0, none⟩)] w (NamedStep w mb (namedOf 108)) := by
  have c0 := (hm.cell 0).trans hc
  clear hm hc
  go_enter Tryz.func28, Tryz.ntmps28
  go_wp2
  go_ret2
  exact ⟨_, rfl, anys_new w w 1 [_] rfl (Below.refl _ _), (Below.refl _ _).alloc (Nat.le_refl _) _⟩
set_option maxHeartbeats 1000000 in
theorem named_109 (mb : Nat) (cs : Array Value) (w : World) (hm : Has w mb 34 cs) (hc : cs[0]? = some (.int .u8 109)) :
    Calls Tryz.prog 28 #[.pointer (some ⟨mb, 0, none⟩)] w (NamedStep w mb (namedOf 109)) := by
  have c0 := (hm.cell 0).trans hc
  clear hm hc
  go_enter Tryz.func28, Tryz.ntmps28
  go_wp2
  go_ret2
  exact ⟨_, rfl, anys_nil _ _, Below.refl _ _⟩
set_option maxHeartbeats 1000000 in
theorem named_110 (mb : Nat) (cs : Array Value) (w : World) (hm : Has w mb 34 cs) (hc : cs[0]? = some (.int .u8 110)) :
    Calls Tryz.prog 28 #[.pointer (some ⟨mb, 0, none⟩)] w (NamedStep w mb (namedOf 110)) := by
  have c0 := (hm.cell 0).trans hc
  clear hm hc
  go_enter Tryz.func28, Tryz.ntmps28
  go_wp2_with fail
  go_region
  all_goals (go_wp2; go_ret2)
  exact ⟨_, rfl, anys_new w w.drew 3 [_, _, _] rfl (below_drewn w), (below_drewn w).alloc (Nat.le_refl _) _⟩
set_option maxHeartbeats 1000000 in
theorem named_111 (mb : Nat) (cs : Array Value) (w : World) (hm : Has w mb 34 cs) (hc : cs[0]? = some (.int .u8 111)) :
    Calls Tryz.prog 28 #[.pointer (some ⟨mb, 0, none⟩)] w (NamedStep w mb (namedOf 111)) := by
  have c0 := (hm.cell 0).trans hc
  clear hm hc
  go_enter Tryz.func28, Tryz.ntmps28
  go_wp2
  go_ret2
  exact ⟨_, rfl, anys_new w w 1 [_] rfl (Below.refl _ _), (Below.refl _ _).alloc (Nat.le_refl _) _⟩
set_option maxHeartbeats 1000000 in
theorem named_112 (mb : Nat) (cs : Array Value) (w : World) (hm : Has w mb 34 cs) (hc : cs[0]? = some (.int .u8 112)) :
    Calls Tryz.prog 28 #[.pointer (some ⟨mb, 0, none⟩)] w (NamedStep w mb (namedOf 112)) := by
  have c0 := (hm.cell 0).trans hc
  clear hm hc
  go_enter Tryz.func28, Tryz.ntmps28
  go_wp2_with fail
  go_region
  all_goals (go_wp2; go_ret2)
  exact ⟨_, rfl, anys_new w w.drew 2 [_, _] rfl (below_drewn w), (below_drewn w).alloc (Nat.le_refl _) _⟩
set_option maxHeartbeats 1000000 in
theorem named_113 (mb : Nat) (cs : Array Value) (w : World) (hm : Has w mb 34 cs) (hc : cs[0]? = some (.int .u8 113)) :
    Calls Tryz.prog 28 #[.pointer (some ⟨mb, 0, none⟩)] w (NamedStep w mb (namedOf 113)) := by
  have c0 := (hm.cell 0).trans hc
  clear hm hc
  go_enter Tryz.func28, Tryz.ntmps28
  go_wp2_with fail
  go_region
  all_goals (go_wp2; go_ret2)
  exact ⟨_, rfl, anys_new w w.drew 2 [_, _] rfl (below_drewn w), (below_drewn w).alloc (Nat.le_refl _) _⟩
set_option maxHeartbeats 1000000 in
theorem named_114 (mb : Nat) (cs : Array Value) (w : World) (hm : Has w mb 34 cs) (hc : cs[0]? = some (.int .u8 114)) :
    Calls Tryz.prog 28 #[.pointer (some ⟨mb, 0, none⟩)] w (NamedStep w mb (namedOf 114)) := by
  have c0 := (hm.cell 0).trans hc
  clear hm hc
  go_enter Tryz.func28, Tryz.ntmps28
  go_wp2_with fail
  go_region
  all_goals (go_wp2; go_ret2)
  exact ⟨_, rfl, anys_new w w.drew 4 [_, _, _, _] rfl (below_drewn w), (below_drewn w).alloc (Nat.le_refl _) _⟩
set_option maxHeartbeats 1000000 in
theorem named_115 (mb : Nat) (cs : Array Value) (w : World) (hm : Has w mb 34 cs) (hc : cs[0]? = some (.int .u8 115)) :
    Calls Tryz.prog 28 #[.pointer (some ⟨mb, 0, none⟩)] w (NamedStep w mb (namedOf 115)) := by
  have c0 := (hm.cell 0).trans hc
  clear hm hc
  go_enter Tryz.func28, Tryz.ntmps28
  go_wp2_with fail
  go_region
  all_goals (go_wp2; go_ret2)
  exact ⟨_, rfl, anys_new w w.drew 2 [_, _] rfl (below_drewn w), (below_drewn w).alloc (Nat.le_refl _) _⟩
set_option maxHeartbeats 1000000 in
theorem named_116 (mb : Nat) (cs : Array Value) (w : World) (hm : Has w mb 34 cs) (hc : cs[0]? = some (.int .u8 116)) :
    Calls Tryz.prog 28 #[.pointer (some ⟨mb, 0, none⟩)] w (NamedStep w mb (namedOf 116)) := by
  have c0 := (hm.cell 0).trans hc
  clear hm hc
  go_enter Tryz.func28, Tryz.ntmps28
  go_wp2_with fail
  go_region
  all_goals (go_wp2; go_ret2)
  exact ⟨_, rfl, anys_new w w.drew 3 [_, _, _] rfl (below_drewn w), (below_drewn w).alloc (Nat.le_refl _) _⟩
set_option maxHeartbeats 1000000 in
theorem named_117 (mb : Nat) (cs : Array Value) (w : World) (hm : Has w mb 34 cs) (hc : cs[0]? = some (.int .u8 117)) :
    Calls Tryz.prog 28 #[.pointer (some ⟨mb, 0, none⟩)] w (NamedStep w mb (namedOf 117)) := by
  have c0 := (hm.cell 0).trans hc
  clear hm hc
  go_enter Tryz.func28, Tryz.ntmps28
  go_wp2
  go_ret2
  exact ⟨_, rfl, anys_new w w 1 [_] rfl (Below.refl _ _), (Below.refl _ _).alloc (Nat.le_refl _) _⟩
set_option maxHeartbeats 1000000 in
theorem named_118 (mb : Nat) (cs : Array Value) (w : World) (hm : Has w mb 34 cs) (hc : cs[0]? = some (.int .u8 118)) :
    Calls Tryz.prog 28 #[.pointer (some ⟨mb, 0, none⟩)] w (NamedStep w mb (namedOf 118)) := by
  have c0 := (hm.cell 0).trans hc
  clear hm hc
  go_enter Tryz.func28, Tryz.ntmps28
  go_wp2_with fail
  go_region
  all_goals (go_wp2; go_ret2)
  exact ⟨_, rfl, anys_new w w.drew 3 [_, _, _] rfl (below_drewn w), (below_drewn w).alloc (Nat.le_refl _) _⟩
set_option maxHeartbeats 1000000 in
theorem named_119 (mb : Nat) (cs : Array Value) (w : World) (hm : Has w mb 34 cs) (hc : cs[0]? = some (.int .u8 119)) :
    Calls Tryz.prog 28 #[.pointer (some ⟨mb, 0, none⟩)] w (NamedStep w mb (namedOf 119)) := by
  have c0 := (hm.cell 0).trans hc
  clear hm hc
  go_enter Tryz.func28, Tryz.ntmps28
  go_wp2
  go_ret2
  exact ⟨_, rfl, anys_new w w 1 [_] rfl (Below.refl _ _), (Below.refl _ _).alloc (Nat.le_refl _) _⟩
set_option maxHeartbeats 1000000 in
theorem named_120 (mb : Nat) (cs : Array Value) (w : World) (hm : Has w mb 34 cs) (hc : cs[0]? = some (.int .u8 120)) :
    Calls Tryz.prog 28 #[.pointer (some ⟨mb, 0, none⟩)] w (NamedStep w mb (namedOf 120)) := by
  have c0 := (hm.cell 0).trans hc
  clear hm hc
  go_enter Tryz.func28, Tryz.ntmps28
  go_wp2
  go_ret2
  exact ⟨_, rfl, anys_new w w 1 [_] rfl (Below.refl _ _), (Below.refl _ _).alloc (Nat.le_refl _) _⟩
set_option maxHeartbeats 1000000 in
theorem named_121 (mb : Nat) (cs : Array Value) (w : World) (hm : Has w mb 34 cs) (hc : cs[0]? = some (.int .u8 121)) :
    Calls Tryz.prog 28 #[.pointer (some ⟨mb, 0, none⟩)] w (NamedStep w mb (namedOf 121)) := by
  have c0 := (hm.cell 0).trans hc
  clear hm hc
  go_enter Tryz.func28, Tryz.ntmps28
  go_wp2
  go_ret2
  exact ⟨_, rfl, anys_nil _ _, Below.refl _ _⟩
set_option maxHeartbeats 1000000 in
theorem named_122 (mb : Nat) (cs : Array Value) (w : World) (hm : Has w mb 34 cs) (hc : cs[0]? = some (.int .u8 122)) :
    Calls Tryz.prog 28 #[.pointer (some ⟨mb, 0, none⟩)] w (NamedStep w mb (namedOf 122)) := by
  have c0 := (hm.cell 0).trans hc
  clear hm hc
  go_enter Tryz.func28, Tryz.ntmps28
  go_wp2
  go_ret2
  exact ⟨_, rfl, anys_new w w 1 [_] rfl (Below.refl _ _), (Below.refl _ _).alloc (Nat.le_refl _) _⟩
set_option maxHeartbeats 1000000 in
theorem named_123 (mb : Nat) (cs : Array Value) (w : World) (hm : Has w mb 34 cs) (hc : cs[0]? = some (.int .u8 123)) :
    Calls Tryz.prog 28 #[.pointer (some ⟨mb, 0, none⟩)] w (NamedStep w mb (namedOf 123)) := by
  have c0 := (hm.cell 0).trans hc
  clear hm hc
  go_enter Tryz.func28, Tryz.ntmps28
  go_wp2
  go_ret2
  exact ⟨_, rfl, anys_nil _ _, Below.refl _ _⟩
set_option maxHeartbeats 1000000 in
theorem named_124 (mb : Nat) (cs : Array Value) (w : World) (hm : Has w mb 34 cs) (hc : cs[0]? = some (.int .u8 124)) :
    Calls Tryz.prog 28 #[.pointer (some ⟨mb, 0, none⟩)] w (NamedStep w mb (namedOf 124)) := by
  have c0 := (hm.cell 0).trans hc
  clear hm hc
  go_enter Tryz.func28, Tryz.ntmps28
  go_wp2
  go_ret2
  exact ⟨_, rfl, anys_new w w 1 [_] rfl (Below.refl _ _), (Below.refl _ _).alloc (Nat.le_refl _) _⟩
set_option maxHeartbeats 1000000 in
theorem named_125 (mb : Nat) (cs : Array Value) (w : World) (hm : Has w mb 34 cs) (hc : cs[0]? = some (.int .u8 125)) :
    Calls Tryz.prog 28 #[.pointer (some ⟨mb, 0, none⟩)] w (NamedStep w mb (namedOf 125)) := by
  have c0 := (hm.cell 0).trans hc
  clear hm hc
  go_enter Tryz.func28, Tryz.ntmps28
  go_wp2
  go_ret2
  exact ⟨_, rfl, anys_new w w 1 [_] rfl (Below.refl _ _), (Below.refl _ _).alloc (Nat.le_refl _) _⟩
set_option maxHeartbeats 1000000 in
theorem named_126 (mb : Nat) (cs : Array Value) (w : World) (hm : Has w mb 34 cs) (hc : cs[0]? = some (.int .u8 126)) :
    Calls Tryz.prog 28 #[.pointer (some ⟨mb, 0, none⟩)] w (NamedStep w mb (namedOf 126)) := by
  have c0 := (hm.cell 0).trans hc
  clear hm hc
  go_enter Tryz.func28, Tryz.ntmps28
  go_wp2_with fail
  go_region
  all_goals (go_wp2; go_ret2)
  exact ⟨_, rfl, anys_new w w.drew 2 [_, _] rfl (below_drewn w), (below_drewn w).alloc (Nat.le_refl _) _⟩
set_option maxHeartbeats 1000000 in
theorem named_127 (mb : Nat) (cs : Array Value) (w : World) (hm : Has w mb 34 cs) (hc : cs[0]? = some (.int .u8 127)) :
    Calls Tryz.prog 28 #[.pointer (some ⟨mb, 0, none⟩)] w (NamedStep w mb (namedOf 127)) := by
  have c0 := (hm.cell 0).trans hc
  clear hm hc
  go_enter Tryz.func28, Tryz.ntmps28
  go_wp2
  go_ret2
  exact ⟨_, rfl, anys_nil _ _, Below.refl _ _⟩
/-- The Types. -/
def isType (t : Nat) : Prop := 100 ≤ t ∧ t ≤ 127 ∧ t ≠ 106
theorem namedOf_none {t : Nat} (h : ¬ isType t) : namedOf t = none := by
  unfold isType at h
  unfold namedOf
  split <;> first | omega | rfl
set_option maxHeartbeats 1000000 in
theorem named_no (mb t : Nat) (cs : Array Value) (w : World) (hm : Has w mb 34 cs) (hc : cs[0]? = some (.int .u8 (t : Int))) (h : ¬ isType t) :
    Calls Tryz.prog 28 #[.pointer (some ⟨mb, 0, none⟩)] w (NamedStep w mb (namedOf t)) := by
  rw [namedOf_none h]
  have c0 := (hm.cell 0).trans hc
  unfold isType at h
  have d100 : ((t : Int) == 100) = false := by simp; omega
  have d101 : ((t : Int) == 101) = false := by simp; omega
  have d102 : ((t : Int) == 102) = false := by simp; omega
  have d103 : ((t : Int) == 103) = false := by simp; omega
  have d104 : ((t : Int) == 104) = false := by simp; omega
  have d105 : ((t : Int) == 105) = false := by simp; omega
  have d107 : ((t : Int) == 107) = false := by simp; omega
  have d108 : ((t : Int) == 108) = false := by simp; omega
  have d109 : ((t : Int) == 109) = false := by simp; omega
  have d110 : ((t : Int) == 110) = false := by simp; omega
  have d111 : ((t : Int) == 111) = false := by simp; omega
  have d112 : ((t : Int) == 112) = false := by simp; omega
  have d113 : ((t : Int) == 113) = false := by simp; omega
  have d114 : ((t : Int) == 114) = false := by simp; omega
  have d115 : ((t : Int) == 115) = false := by simp; omega
  have d116 : ((t : Int) == 116) = false := by simp; omega
  have d117 : ((t : Int) == 117) = false := by simp; omega
  have d118 : ((t : Int) == 118) = false := by simp; omega
  have d119 : ((t : Int) == 119) = false := by simp; omega
  have d120 : ((t : Int) == 120) = false := by simp; omega
  have d121 : ((t : Int) == 121) = false := by simp; omega
  have d122 : ((t : Int) == 122) = false := by simp; omega
  have d123 : ((t : Int) == 123) = false := by simp; omega
  have d124 : ((t : Int) == 124) = false := by simp; omega
  have d125 : ((t : Int) == 125) = false := by simp; omega
  have d126 : ((t : Int) == 126) = false := by simp; omega
  have d127 : ((t : Int) == 127) = false := by simp; omega
  clear hm hc h
  go_enter Tryz.func28, Tryz.ntmps28
  go_wp2
  go_ret2
  exact ⟨_, rfl, anys_nil _ _, Below.refl _ _⟩
theorem isType_cases {t : Nat} (h : isType t) : t = 100 ∨ t = 101 ∨ t = 102 ∨ t = 103 ∨ t = 104 ∨ t = 105 ∨ t = 107 ∨ t = 108 ∨ t = 109 ∨ t = 110 ∨ t = 111 ∨ t = 112 ∨ t = 113 ∨ t = 114 ∨ t = 115 ∨ t = 116 ∨ t = 117 ∨ t = 118 ∨ t = 119 ∨ t = 120 ∨ t = 121 ∨ t = 122 ∨ t = 123 ∨ t = 124 ∨ t = 125 ∨ t = 126 ∨ t = 127 := by
  unfold isType at h
  omega
theorem named_any (mb t : Nat) (cs : Array Value) (w : World) (hm : Has w mb 34 cs) (hc : cs[0]? = some (.int .u8 (t : Int))) :
    Calls Tryz.prog 28 #[.pointer (some ⟨mb, 0, none⟩)] w (NamedStep w mb (namedOf t)) := by
  by_cases h : isType t
  · rcases isType_cases h with rfl | rfl | rfl | rfl | rfl | rfl | rfl | rfl | rfl | rfl | rfl | rfl | rfl | rfl | rfl | rfl | rfl | rfl | rfl | rfl | rfl | rfl | rfl | rfl | rfl | rfl | rfl
    · exact named_100 mb cs w hm hc
    · exact named_101 mb cs w hm hc
    · exact named_102 mb cs w hm hc
    · exact named_103 mb cs w hm hc
    · exact named_104 mb cs w hm hc
    · exact named_105 mb cs w hm hc
    · exact named_107 mb cs w hm hc
    · exact named_108 mb cs w hm hc
    · exact named_109 mb cs w hm hc
    · exact named_110 mb cs w hm hc
    · exact named_111 mb cs w hm hc
    · exact named_112 mb cs w hm hc
    · exact named_113 mb cs w hm hc
    · exact named_114 mb cs w hm hc
    · exact named_115 mb cs w hm hc
    · exact named_116 mb cs w hm hc
    · exact named_117 mb cs w hm hc
    · exact named_118 mb cs w hm hc
    · exact named_119 mb cs w hm hc
    · exact named_120 mb cs w hm hc
    · exact named_121 mb cs w hm hc
    · exact named_122 mb cs w hm hc
    · exact named_123 mb cs w hm hc
    · exact named_124 mb cs w hm hc
    · exact named_125 mb cs w hm hc
    · exact named_126 mb cs w hm hc
    · exact named_127 mb cs w hm hc
  · exact named_no mb t cs w hm hc h
theorem named_some {t : Nat} (h : isType t) : (namedOf t).isSome = true := by
  rcases isType_cases h with rfl | rfl | rfl | rfl | rfl | rfl | rfl | rfl | rfl | rfl | rfl | rfl | rfl | rfl | rfl | rfl | rfl | rfl | rfl | rfl | rfl | rfl | rfl | rfl | rfl | rfl | rfl <;> rfl
end Go.Proofs.YtepiifbleoimkaaGreatDoor
