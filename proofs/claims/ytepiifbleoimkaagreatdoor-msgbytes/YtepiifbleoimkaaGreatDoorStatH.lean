/-
  Package stat: All of whatever bytes: its records one behind the other, or the error of the first that has one.
-/
import Derived.Test.YtepiifbleoimkaaGreatDoorPackStat
import Derived.StillTailTactics
namespace Go.Proofs.YtepiifbleoimkaaGreatDoor
open Go.RowKit
set_option maxRecDepth 100000

/-- The records of these bytes, or what is wrong with the first that has an error (at most so many). -/
def allOf : Nat → List UInt8 → Except Int (List S11)
  | 0, _ => .ok []
  | f + 1, bs => if bs = [] then .ok [] else match firstOf bs with
    | .error e => .error e
    | .ok (s, rest) => match allOf f rest with
      | .error e => .error e
      | .ok l => .ok (s :: l)
/-- Records ahead of others. -/
def pre (L : List S11) : Except Int (List S11) → Except Int (List S11)
  | .ok l => .ok (L ++ l)
  | .error e => .error e
theorem pre_nil (r : Except Int (List S11)) : pre [] r = r := by cases r <;> rfl
theorem allOf_nil (f : Nat) : allOf f [] = .ok [] := by
  cases f with
  | zero => rfl
  | succ f => rw [allOf, if_pos rfl]
theorem allOf_err {f : Nat} {bs : List UInt8} {e : Int} (h0 : bs ≠ []) (h : firstOf bs = .error e) : allOf (f + 1) bs = .error e := by rw [allOf, if_neg h0, h]
theorem allOf_ok {f : Nat} {bs rest : List UInt8} {s : S11} {L : List S11} (h0 : bs ≠ []) (h : firstOf bs = .ok (s, rest)) : pre L (allOf (f + 1) bs) = pre (L ++ [s]) (allOf f rest) := by
  rw [allOf, if_neg h0, h]
  simp only
  cases allOf f rest with
  | error e => rfl
  | ok l => simp [pre]
theorem firstOf_shrinks {bs rest : List UInt8} {s : S11} (h : firstOf bs = .ok (s, rest)) : rest.length + 2 ≤ bs.length := by
  obtain ⟨_, _, h0, hr⟩ := firstOf_len h
  have hl : (takeSt 2 bs 0).2.1.length + 2 ≤ bs.length := by
    by_cases hs : bs.length < 2
    · have e := takeSt_short 2 bs (by omega) (by omega) (by omega)
      unfold tst at h0
      rw [e] at h0
      simp [rawSt] at h0
    · rw [takeSt_long 2 bs (by omega) (by omega) (by omega)]
      simp
      omega
  rw [hr]
  unfold tst
  have := rawSt_len2 ((takeSt 2 bs 0).1 : Int) (takeSt 2 bs 0).2.1 (takeSt 2 bs 0).2.2
  omega
/-- The cells of records one behind the other. -/
def rowsOf (L : List S11) : List Value := L.flatMap fun s => s.cells.toList
theorem rowsOf_snoc (L : List S11) (s : S11) : rowsOf (L ++ [s]) = rowsOf L ++ s.cells.toList := by simp [rowsOf]
theorem Tryz.statInfo : (Tryz.prog.info? 32).map (fun i => (i.zero, i.size, i.bytes)) = some (some S11.zero.val, 13, 112) := by kernel_rfl

/-- How many bytes an In has left, as the world has it. -/
def leftIn (g : Nat) (w : World) : Nat := match w.cell? ⟨g, 0, none⟩ with
  | some (.slice _ n _) => n
  | _ => 0
theorem leftIn_of {w : World} {lo g : Nat} {bs : List UInt8} {er : Int} (h : InAt w lo g bs er) : leftIn g w = bs.length := by
  obtain ⟨A, c, h1, _⟩ := h
  have := h1.cell 0
  simp at this
  unfold leftIn
  rw [this]
end Go.Proofs.YtepiifbleoimkaaGreatDoor
