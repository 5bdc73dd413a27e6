/-
  Package stat: one record taken from an In: what its bytes tell, or what is wrong with them.
-/
import Derived.Test.YtepiifbleoimkaaDoorStatC
namespace Go.Proofs.YtepiifbleoimkaaDoor
open Go.RowKit
set_option maxRecDepth 100000

/-- The numbers of a record's bytes, and the In behind them. -/
def numSt (bs : List UInt8) : S11 × List UInt8 × Int :=
  let k := takeSt 2 bs 0
  let d := takeSt 4 k.2.1 k.2.2
  let q := qTake d.2.1 d.2.2
  let m := takeSt 4 q.2.1 q.2.2
  let a := takeSt 4 m.2.1 m.2.2
  let c := takeSt 4 a.2.1 a.2.2
  let l := takeSt 8 c.2.1 c.2.2
  (⟨k.1, d.1, q.1, m.1, a.1, c.1, l.1, [], [], [], []⟩, l.2.1, l.2.2)
/-- The next text, and what is behind it. -/
def textSt (bs : List UInt8) (er : Int) : Option (List UInt8 × List UInt8) := if (tans bs er).2 = 0 then some ((tans bs er).1, (tst bs er).2.1) else none
/-- What a count counts, as a record. -/
def recOf (bs : List UInt8) : Option S11 :=
  (textSt (numSt bs).2.1 (numSt bs).2.2).bind fun n => (textSt n.2 0).bind fun u => (textSt u.2 0).bind fun g => (textSt g.2 0).bind fun x =>
    if x.2 = [] then some { (numSt bs).1 with n := n.1, u := u.1, g := g.1, x := x.1 } else none
/-- The first record of these bytes and what is behind it, or what is wrong. -/
def firstOf (bs : List UInt8) : Except Int (S11 × List UInt8) :=
  if (tst bs 0).2.2 ≠ 0 then .error 4 else match recOf (tst bs 0).1 with
    | none => .error 2
    | some s => .ok (s, (tst bs 0).2.1)
def S11.zero : S11 := ⟨0, 0, Q3.zero, 0, 0, 0, 0, [], [], [], []⟩

theorem tans_zero {bs : List UInt8} {er : Int} (h : (tans bs er).2 = 0) : (tst bs er).2.2 = 0 ∧ wrongOf (tans bs er).1 = 0 := by
  unfold tans at h ⊢
  by_cases h1 : (tst bs er).2.2 ≠ 0
  · rw [if_pos h1] at h
    exact absurd h h1
  · rw [if_neg h1] at h ⊢
    by_cases h2 : wrongOf (tst bs er).1 ≠ 0
    · rw [if_pos h2] at h
      exact absurd h h2
    · rw [if_neg h2]
      exact ⟨by omega, by simpa using h2⟩
theorem qTake_ok (bs : List UInt8) (er : Int) : (qTake bs er).1.Ok := by
  unfold qTake
  simp only
  split
  · exact ⟨takeSt_lt 1 _ _, takeSt_lt 4 _ _, takeSt_lt 8 _ _⟩
  · exact ⟨by decide, by decide, by decide⟩
theorem numSt_num (bs : List UInt8) : (numSt bs).1.Num :=
  ⟨takeSt_lt 2 _ _, takeSt_lt 4 _ _, qTake_ok _ _, takeSt_lt 4 _ _, takeSt_lt 4 _ _, takeSt_lt 4 _ _, takeSt_lt 8 _ _⟩
theorem textSt_some {bs : List UInt8} {er : Int} {t r : List UInt8} (h : textSt bs er = some (t, r)) : (tans bs er).2 = 0 ∧ t = (tans bs er).1 ∧ r = (tst bs er).2.1 ∧ wrongOf t = 0 := by
  unfold textSt at h
  split at h
  · rename_i h0
    injection h with h
    injection h with h1 h2
    exact ⟨h0, h1.symm, h2.symm, by rw [← h1]; exact (tans_zero h0).2⟩
  · cases h
theorem recOf_some {bs : List UInt8} {s : S11} (h : recOf bs = some s) : s.Num ∧ wrongL s.texts = 0 := by
  unfold recOf at h
  obtain ⟨⟨n, r1⟩, h1, h⟩ := Option.bind_eq_some_iff.1 h
  obtain ⟨⟨u, r2⟩, h2, h⟩ := Option.bind_eq_some_iff.1 h
  obtain ⟨⟨g, r3⟩, h3, h⟩ := Option.bind_eq_some_iff.1 h
  obtain ⟨⟨x, r4⟩, h4, h⟩ := Option.bind_eq_some_iff.1 h
  have w1 := (textSt_some h1).2.2.2
  have w2 := (textSt_some h2).2.2.2
  have w3 := (textSt_some h3).2.2.2
  have w4 := (textSt_some h4).2.2.2
  split at h
  · injection h with h
    rw [← h]
    have hn := numSt_num bs
    refine ⟨⟨hn.k, hn.d, hn.q, hn.m, hn.a, hn.c, hn.l⟩, ?_⟩
    simp only [S11.texts, wrongL]
    rw [if_pos w1, if_pos w2, if_pos w3, if_pos w4]
  · cases h
theorem few_of_wrong {s : S11} (h : wrongL s.texts = 0) : s.Few := by
  obtain ⟨h1, h2, h3, h4⟩ := wrong4 h
  have := wrongOf_short h1
  have := wrongOf_short h2
  have := wrongOf_short h3
  have := wrongOf_short h4
  exact ⟨by omega, by omega, by omega, by omega⟩

/-- There and back. -/
theorem textSt_item {l rest : List UInt8} (h : wrongOf l = 0) : textSt (textB l ++ rest) 0 = some (l, rest) := by
  have h64 := wrongOf_short h
  have hp : putI 2 (l.length : Int) = putB 2 l.length := putI_of 2 _ (by omega) (by omega)
  have hb : textB l ++ rest = putB 2 l.length ++ (l ++ rest) := by rw [textB, if_pos h, hp, List.append_assoc]
  have ht : takeSt 2 (putB 2 l.length ++ (l ++ rest)) 0 = (l.length, l ++ rest, 0) := by
    have := take_item 2 l.length (l ++ rest) (by omega) (by omega)
    rw [Nat.mod_eq_of_lt (by omega)] at this
    exact this
  have hr : tst (textB l ++ rest) 0 = (l, rest, 0) := by
    rw [hb, tst, ht]
    exact raw_item l rest
  unfold textSt tans
  rw [hr]
  simp [h]
theorem take_num (n x : Nat) (rest : List UInt8) (h1 : 1 ≤ n) (h8 : n ≤ 8) (hx : x < 256 ^ n) : takeSt (n : Int) (putB n x ++ rest) 0 = (x, rest, 0) := by
  rw [take_item n x rest h1 h8, Nat.mod_eq_of_lt hx]
theorem numSt_item {s : S11} (rest : List UInt8) (h : s.Num) : numSt (numsB s ++ rest) = ({ s with n := [], u := [], g := [], x := [] }, rest, 0) := by
  obtain ⟨h1, h2, h3, h4, h5, h6, h7⟩ := h
  have e1 := fun r => take_num 2 s.k r (by omega) (by omega) (by omega)
  have e2 := fun r => take_num 4 s.d r (by omega) (by omega) (by omega)
  have e4 := fun r => take_num 4 s.m r (by omega) (by omega) (by omega)
  have e5 := fun r => take_num 4 s.a r (by omega) (by omega) (by omega)
  have e6 := fun r => take_num 4 s.c r (by omega) (by omega) (by omega)
  have e7 := fun r => take_num 8 s.l r (by omega) (by omega) (by omega)
  have e3 := fun r => qTake_item s.q r h3
  simp only [Int.cast_ofNat_Int] at e1 e2 e4 e5 e6 e7
  unfold numSt numsB
  simp only [List.append_assoc, e1, e2, e3, e4, e5, e6, e7]
theorem recOf_item {s : S11} (h : s.Num) (h0 : wrongL s.texts = 0) : recOf (statB s) = some s := by
  obtain ⟨h1, h2, h3, h4⟩ := wrong4 h0
  unfold recOf statB
  rw [numSt_item _ h]
  simp only [textsB, S11.texts, List.flatMap_cons, List.flatMap_nil]
  rw [textSt_item h1]
  simp only [Option.bind_some]
  rw [textSt_item h2]
  simp only [Option.bind_some]
  rw [textSt_item h3]
  simp only [Option.bind_some]
  rw [textSt_item h4]
  simp
theorem firstOf_item {s : S11} (rest : List UInt8) (h : s.Num) (h0 : wrongL s.texts = 0) : firstOf (recB s ++ rest) = .ok (s, rest) := by
  have hl := statB_length h0
  have hs : s.size - 2 < 65536 := by
    obtain ⟨h1, h2, h3, h4⟩ := wrong4 h0
    have := wrongOf_short h1
    have := wrongOf_short h2
    have := wrongOf_short h3
    have := wrongOf_short h4
    unfold S11.size
    omega
  have ht := take_num 2 (s.size - 2) (statB s ++ rest) (by omega) (by omega) (by omega)
  simp only [Int.cast_ofNat_Int] at ht
  have hr : tst (recB s ++ rest) 0 = (statB s, rest, 0) := by
    unfold recB tst
    rw [List.append_assoc, ht, ← hl]
    exact raw_item (statB s) rest
  unfold firstOf
  rw [hr]
  simp [recOf_item h h0]
/-- Cut anywhere. -/
theorem firstOf_cut {s : S11} (n : Nat) (h0 : wrongL s.texts = 0) (hn : n < (recB s).length) : firstOf ((recB s).take n) = .error 4 := by
  have hl := statB_length h0
  have hrl := recB_length h0
  have hs : s.size - 2 < 65536 := by
    obtain ⟨h1, h2, h3, h4⟩ := wrong4 h0
    have := wrongOf_short h1
    have := wrongOf_short h2
    have := wrongOf_short h3
    have := wrongOf_short h4
    unfold S11.size
    omega
  have hr : (tst ((recB s).take n) 0).2.2 ≠ 0 := by
    by_cases h2 : n < 2
    · have e := takeSt_short 2 ((recB s).take n) (by omega) (by omega) (by rw [List.length_take]; omega)
      unfold tst
      rw [e]
      simp [rawSt]
    · have e : (recB s).take n = putB 2 (s.size - 2) ++ (statB s).take (n - 2) := by
        unfold recB
        rw [List.take_append, putB_length, List.take_of_length_le (by rw [putB_length]; omega)]
      have ht := take_num 2 (s.size - 2) ((statB s).take (n - 2)) (by omega) (by omega) (by omega)
      simp only [Int.cast_ofNat_Int] at ht
      unfold tst
      rw [e, ht]
      have : ((statB s).take (n - 2)).length < s.size - 2 := by rw [List.length_take]; omega
      unfold rawSt
      dsimp only
      rw [if_neg (by simp), if_neg (by omega), if_pos (by omega)]
      decide
  unfold firstOf
  rw [if_pos hr]
end Go.Proofs.YtepiifbleoimkaaDoor
