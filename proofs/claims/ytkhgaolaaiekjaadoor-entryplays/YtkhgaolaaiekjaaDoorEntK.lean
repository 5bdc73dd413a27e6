/-
  Package entry, pure: which entries some bytes are read as, whether or not they may be.
-/
import Derived.Test.YtkhgaolaaiekjaaDoorEntF
namespace Go.Proofs.YtkhgaolaaiekjaaDoor
open Go.RowKit Go.Lib
set_option maxRecDepth 100000

/-- Without the zeros at its end. -/
def trimZ (l : List UInt8) : List UInt8 := (l.reverse.dropWhile (· == 0)).reverse
theorem trimZ_nil : trimZ [] = [] := rfl
theorem trimZ_snoc (l : List UInt8) (c : UInt8) : trimZ (l ++ [c]) = if c = 0 then trimZ l else l ++ [c] := by
  unfold trimZ
  rw [List.reverse_append, List.reverse_singleton, List.singleton_append, List.dropWhile_cons]
  by_cases h : c = 0
  · simp [h]
  · simp [h]
theorem trimZ_take {l : List UInt8} {k : Nat} (h : k < l.length) : trimZ (l.take (k + 1)) = if l[k] = 0 then trimZ (l.take k) else l.take (k + 1) := by
  rw [List.take_succ_eq_append_getElem h, trimZ_snoc]
theorem trimZ_len : ∀ n, ∀ l : List UInt8, l.length = n → (trimZ l).length ≤ n
  | 0, l, h => by
    rw [List.eq_nil_of_length_eq_zero h]
    exact Nat.le_refl _
  | n + 1, l, h => by
    have e : l = l.take n ++ [l[n]'(by omega)] := by
      rw [← List.take_succ_eq_append_getElem (by omega), List.take_of_length_le (by omega)]
    rw [e, trimZ_snoc]
    split
    · have := trimZ_len n (l.take n) (by rw [List.length_take]; omega)
      omega
    · rw [← e]
      omega
theorem trimZ_pad : ∀ n, ∀ l : List UInt8, l.length = n → trimZ l ++ List.replicate (n - (trimZ l).length) 0 = l
  | 0, l, h => by
    rw [List.eq_nil_of_length_eq_zero h]
    rfl
  | n + 1, l, h => by
    have e : l = l.take n ++ [l[n]'(by omega)] := by
      rw [← List.take_succ_eq_append_getElem (by omega), List.take_of_length_le (by omega)]
    have hl : (l.take n).length = n := by rw [List.length_take]; omega
    generalize l[n]'(by omega) = c at e
    generalize l.take n = t at e hl
    subst e
    rw [trimZ_snoc]
    split
    · rename_i hc
      have h1 := trimZ_pad n t hl
      have h2 := trimZ_len n t hl
      rw [show n + 1 - (trimZ t).length = (n - (trimZ t).length) + 1 by omega, List.replicate_succ', ← List.append_assoc, h1, hc]
    · rw [h, Nat.sub_self]
      simp
theorem trimZ_name {l : List UInt8} (h : (0 : UInt8) ∉ l) (k : Nat) : trimZ (l ++ List.replicate k 0) = l := by
  induction k with
  | zero =>
    rw [List.replicate_zero, List.append_nil]
    rcases List.eq_nil_or_concat l with rfl | ⟨t, c, rfl⟩
    · rfl
    · rw [List.concat_eq_append, trimZ_snoc, if_neg]
      rintro rfl
      exact h (by simp)
  | succ k ih => rw [List.replicate_succ', ← List.append_assoc, trimZ_snoc, if_pos rfl, ih]

/-- The entry of 32 bytes. -/
def entOf (bs : List UInt8) : En := ⟨trimZ ((bs.drop 4).take 28), le (bs.take 4)⟩
/-- What is read where the bytes end within an entry. -/
def endOf (bs : List UInt8) : En := ⟨[], if bs.length < 4 then 0 else le (bs.take 4)⟩
def rowOf (bs : List UInt8) : List En :=
  if bs = [] then [] else if bs.length < 32 then [endOf bs] else entOf bs :: rowOf (bs.drop 32)
termination_by bs.length
decreasing_by
  rw [List.length_drop]
  omega
theorem rowOf_nil : rowOf [] = [] := by rw [rowOf, if_pos rfl]
theorem rowOf_end {bs : List UInt8} (h : bs ≠ []) (h2 : bs.length < 32) : rowOf bs = [endOf bs] := by rw [rowOf, if_neg h, if_pos h2]
theorem rowOf_more {bs : List UInt8} (h2 : 32 ≤ bs.length) : rowOf bs = entOf bs :: rowOf (bs.drop 32) := by
  have h : bs ≠ [] := by
    rintro rfl
    simp at h2
  rw [rowOf, if_neg h, if_neg (by omega)]
theorem le4 {bs : List UInt8} : le (bs.take 4) < 4294967296 := by
  have h := le_lt (bs.take 4)
  have h2 : (bs.take 4).length ≤ 4 := by rw [List.length_take]; omega
  have h3 : 256 ^ (bs.take 4).length ≤ 256 ^ 4 := Nat.pow_le_pow_right (by decide) h2
  omega
theorem encE_entOf {bs : List UInt8} (h : 32 ≤ bs.length) : encE (entOf bs) = bs.take 32 := by
  unfold encE entOf
  have h1 : putB 4 (le (bs.take 4)) = bs.take 4 := by
    have := putB_le (bs.take 4)
    rwa [show (bs.take 4).length = 4 by rw [List.length_take]; omega] at this
  have h2 := trimZ_pad 28 ((bs.drop 4).take 28) (by rw [List.length_take, List.length_drop]; omega)
  simp only
  rw [h1, List.append_assoc, h2]
  have := List.take_add (l := bs) (i := 4) (j := 28)
  rw [this]
theorem rowOf_u32 : ∀ n, ∀ bs : List UInt8, bs.length ≤ n → U32s (rowOf bs)
  | 0, bs, h => by
    rw [List.eq_nil_of_length_eq_zero (l := bs) (by omega), rowOf_nil]
    intro x hx
    cases hx
  | n + 1, bs, h => by
    by_cases h0 : bs = []
    · rw [h0, rowOf_nil]
      intro x hx
      cases hx
    · by_cases h2 : bs.length < 32
      · rw [rowOf_end h0 h2]
        intro x hx
        rw [List.mem_singleton.1 hx]
        unfold endOf
        simp only
        split
        · decide
        · exact le4
      · rw [rowOf_more (by omega)]
        intro x hx
        rcases List.mem_cons.1 hx with rfl | hx
        · exact le4
        · exact rowOf_u32 n (bs.drop 32) (by rw [List.length_drop]; omega) x hx
theorem rowOf_len : ∀ n, ∀ bs : List UInt8, bs.length ≤ n → (rowOf bs).length ≤ n
  | 0, bs, h => by
    rw [List.eq_nil_of_length_eq_zero (l := bs) (by omega), rowOf_nil]
    exact Nat.le_refl _
  | n + 1, bs, h => by
    by_cases h0 : bs = []
    · rw [h0, rowOf_nil]
      exact Nat.zero_le _
    · by_cases h2 : bs.length < 32
      · rw [rowOf_end h0 h2]
        simp
      · rw [rowOf_more (by omega), List.length_cons]
        have := rowOf_len n (bs.drop 32) (by rw [List.length_drop]; omega)
        omega
theorem rowOf_short : ∀ n, ∀ bs : List UInt8, bs.length ≤ n → ∀ x ∈ rowOf bs, x.n.length ≤ 28
  | 0, bs, h => by
    rw [List.eq_nil_of_length_eq_zero (l := bs) (by omega), rowOf_nil]
    intro x hx
    cases hx
  | n + 1, bs, h => by
    by_cases h0 : bs = []
    · rw [h0, rowOf_nil]
      intro x hx
      cases hx
    · by_cases h2 : bs.length < 32
      · rw [rowOf_end h0 h2]
        intro x hx
        rw [List.mem_singleton.1 hx]
        simp [endOf]
      · rw [rowOf_more (by omega)]
        intro x hx
        rcases List.mem_cons.1 hx with rfl | hx
        · exact trimZ_len 28 _ (by rw [List.length_take, List.length_drop]; omega)
        · exact rowOf_short n (bs.drop 32) (by rw [List.length_drop]; omega) x hx
theorem rowOf_enc : ∀ n, ∀ bs : List UInt8, bs.length ≤ n → (∀ x ∈ rowOf bs, nameOf x.n = 0) → encL (rowOf bs) = bs
  | 0, bs, h, _ => by
    rw [List.eq_nil_of_length_eq_zero (l := bs) (by omega), rowOf_nil]
    rfl
  | n + 1, bs, h, hg => by
    by_cases h0 : bs = []
    · rw [h0, rowOf_nil]
      rfl
    · by_cases h2 : bs.length < 32
      · rw [rowOf_end h0 h2] at hg
        exact absurd rfl (name_ok (hg (endOf bs) (by simp))).2.2
      · rw [rowOf_more (by omega)] at hg ⊢
        have h3 := rowOf_enc n (bs.drop 32) (by rw [List.length_drop]; omega) (fun x hx => hg x (by simp [hx]))
        have e : encL (entOf bs :: rowOf (bs.drop 32)) = encE (entOf bs) ++ encL (rowOf (bs.drop 32)) := by simp [encL]
        rw [e, encE_entOf (by omega), h3, List.take_append_drop]
theorem rowOf_own : ∀ l : List En, (∀ x ∈ l, nameOf x.n = 0) → U32s l → rowOf (encL l) = l
  | [], _, _ => rowOf_nil
  | x :: l, hn, hu => by
    have e : encL (x :: l) = encE x ++ encL l := by simp [encL]
    have hx := encE_len (hn x (by simp))
    have ho := name_ok (hn x (by simp))
    rw [e, rowOf_more (by rw [List.length_append]; omega), ← hx, List.drop_left, rowOf_own l (fun y hy => hn y (by simp [hy])) (fun y hy => hu y (by simp [hy]))]
    congr 1
    have h4 : (encE x ++ encL l).take 4 = putB 4 x.i := by
      unfold encE
      rw [List.append_assoc, List.append_assoc]
      have := List.take_left (l₁ := putB 4 x.i) (l₂ := x.n ++ (List.replicate (28 - x.n.length) 0 ++ encL l))
      rwa [putB_length] at this
    have h5 : ((encE x ++ encL l).drop 4).take 28 = x.n ++ List.replicate (28 - x.n.length) 0 := by
      unfold encE
      rw [List.append_assoc, List.append_assoc]
      have := List.drop_left (l₁ := putB 4 x.i) (l₂ := x.n ++ (List.replicate (28 - x.n.length) 0 ++ encL l))
      rw [putB_length] at this
      rw [this, ← List.append_assoc]
      have h6 : (x.n ++ List.replicate (28 - x.n.length) (0 : UInt8)).length = 28 := by
        rw [List.length_append, List.length_replicate]
        omega
      have := List.take_left (l₁ := x.n ++ List.replicate (28 - x.n.length) (0 : UInt8)) (l₂ := encL l)
      rwa [h6] at this
    unfold entOf
    rw [h4, h5, trimZ_name ho.2.1, le_putB, Nat.mod_eq_of_lt (by have := hu x (by simp); omega)]
/-- What Decode answers. -/
def decM (bs : List UInt8) : List En := if chkE (rowOf bs) = 0 then rowOf bs else []
def decR (bs : List UInt8) : Int := if chkE (rowOf bs) = 0 then 0 else 2
theorem dec_is (bs : List UInt8) : DecIs bs (decM bs) (decR bs) := by
  unfold decM decR
  by_cases h : chkE (rowOf bs) = 0
  · rw [if_pos h, if_pos h]
    have hg := (chkE_good _).1 h
    exact .inl ⟨rfl, hg, rowOf_u32 _ bs (Nat.le_refl _), rowOf_enc _ bs (Nat.le_refl _) (fun x hx => (hg.1 x hx).1)⟩
  · rw [if_neg h, if_neg h]
    refine .inr ⟨rfl, rfl, ?_⟩
    rintro ⟨m, hg, hu, rfl⟩
    rw [rowOf_own m (fun x hx => (hg.1 x hx).1) hu] at h
    exact h ((chkE_good _).2 hg)
end Go.Proofs.YtkhgaolaaiekjaaDoor
