/-
  Layer 11: 64 bytes that are an inode's: what must be zero is, what must be small is. Pure.
-/
import Derived.Test.YtjlipfddbpgglaaInoA
namespace Go.Proofs.Ytjlipfddbpgglaa
open Go.RowKit Go.Lib
set_option maxRecDepth 100000

theorem putB_le (l : List UInt8) : putB l.length (le l) = l := by
  apply List.ext_getElem
  · rw [putB_length]
  · intro i h1 h2
    have hq : ∀ (l : List UInt8) (i : Nat) (h : i < l.length), le l / 256 ^ i % 256 = (l[i]).toNat := by
      intro l
      induction l with
      | nil => intro i h; simp at h
      | cons c l ih =>
        intro i h
        cases i with
        | zero =>
          have := c.toNat_lt
          simp only [le, Nat.pow_zero, Nat.div_one, List.getElem_cons_zero]
          omega
        | succ i =>
          have := c.toNat_lt
          have e : le (c :: l) / 256 ^ (i + 1) = le l / 256 ^ i := by
            rw [Nat.pow_succ, Nat.mul_comm (256 ^ i) 256, ← Nat.div_div_eq_div_mul]
            congr 1
            simp only [le]
            omega
          rw [e, ih i (by simpa using h)]
          simp
    simp only [putB, List.getElem_map, List.getElem_range]
    apply UInt8.toNat_inj.1
    rw [UInt8.toNat_ofNat', Nat.shiftRight_eq_div_pow, ← pow8]
    exact hq l i h2
theorem tk4 (r : List UInt8) (h : 4 ≤ r.length) : tk 4 (r, 0) = (r.drop 4, 0) := by
  unfold tk
  rw [takeSt_long 4 r (by decide) (by decide) (by omega)]
  rfl
theorem tv4 (r : List UInt8) (h : 4 ≤ r.length) : tv 4 (r, 0) = le (r.take 4) := by
  unfold tv
  rw [takeSt_long 4 r (by decide) (by decide) (by omega)]
  rfl
theorem tk2 (r : List UInt8) (h : 2 ≤ r.length) : tk 2 (r, 0) = (r.drop 2, 0) := by
  unfold tk
  rw [takeSt_long 2 r (by decide) (by decide) (by omega)]
  rfl
theorem tv2 (r : List UInt8) (h : 2 ≤ r.length) : tv 2 (r, 0) = le (r.take 2) := by
  unfold tv
  rw [takeSt_long 2 r (by decide) (by decide) (by omega)]
  rfl
theorem rw2_long (r : List UInt8) (h : 2 ≤ r.length) : rw2 2 (r, 0) = (r.drop 2, 0) := by
  unfold rw2 rawSt
  simp only
  rw [if_neg (by simp), if_neg (by decide), if_neg (by omega)]
  rfl
/-- Four bytes of a list. -/
def at4 (bs : List UInt8) (k : Nat) : List UInt8 := (bs.drop k).take 4
def at2 (bs : List UInt8) (k : Nat) : List UInt8 := (bs.drop k).take 2
theorem readI_64 {bs : List UInt8} (h : bs.length = 64) : readI bs = ⟨le (at4 bs 0), le (at4 bs 4), le (at4 bs 8), le (at2 bs 12), le (at4 bs 16), le (at4 bs 20), le (at4 bs 24), le (at4 bs 28), le (at4 bs 32), le (at4 bs 36), le (at4 bs 40), le (at4 bs 44), le (at4 bs 48), le (at4 bs 52)⟩ := by
  have hd : ∀ k, (bs.drop k).length = 64 - k := fun k => by rw [List.length_drop, h]
  have e1 : q1 bs = (bs.drop 4, 0) := tk4 bs (by omega)
  have e2 : q2 bs = (bs.drop 8, 0) := by unfold q2; rw [e1, tk4 _ (by rw [hd]; decide), List.drop_drop]
  have e3 : q3 bs = (bs.drop 12, 0) := by unfold q3; rw [e2, tk4 _ (by rw [hd]; decide), List.drop_drop]
  have e4 : q4 bs = (bs.drop 14, 0) := by unfold q4; rw [e3, tk2 _ (by rw [hd]; decide), List.drop_drop]
  have e5 : q5 bs = (bs.drop 16, 0) := by unfold q5; rw [e4, rw2_long _ (by rw [hd]; decide), List.drop_drop]
  have e6 : q6 bs = (bs.drop 20, 0) := by unfold q6; rw [e5, tk4 _ (by rw [hd]; decide), List.drop_drop]
  have e7 : q7 bs = (bs.drop 24, 0) := by unfold q7; rw [e6, tk4 _ (by rw [hd]; decide), List.drop_drop]
  have e8 : q8 bs = (bs.drop 28, 0) := by unfold q8; rw [e7, tk4 _ (by rw [hd]; decide), List.drop_drop]
  have e9 : q9 bs = (bs.drop 32, 0) := by unfold q9; rw [e8, tk4 _ (by rw [hd]; decide), List.drop_drop]
  have e10 : q10 bs = (bs.drop 36, 0) := by unfold q10; rw [e9, tk4 _ (by rw [hd]; decide), List.drop_drop]
  have e11 : q11 bs = (bs.drop 40, 0) := by unfold q11; rw [e10, tk4 _ (by rw [hd]; decide), List.drop_drop]
  have e12 : q12 bs = (bs.drop 44, 0) := by unfold q12; rw [e11, tk4 _ (by rw [hd]; decide), List.drop_drop]
  have e13 : q13 bs = (bs.drop 48, 0) := by unfold q13; rw [e12, tk4 _ (by rw [hd]; decide), List.drop_drop]
  have e14 : q14 bs = (bs.drop 52, 0) := by unfold q14; rw [e13, tk4 _ (by rw [hd]; decide), List.drop_drop]
  unfold readI
  rw [e1, e2, e3, e5, e6, e7, e8, e9, e10, e11, e12, e13, e14]
  rw [tv4 bs (by omega), tv2 _ (by rw [hd]; decide)]
  rw [tv4 (bs.drop 4) (by rw [hd]; decide), tv4 (bs.drop 8) (by rw [hd]; decide), tv4 (bs.drop 16) (by rw [hd]; decide), tv4 (bs.drop 20) (by rw [hd]; decide), tv4 (bs.drop 24) (by rw [hd]; decide), tv4 (bs.drop 28) (by rw [hd]; decide),
    tv4 (bs.drop 32) (by rw [hd]; decide), tv4 (bs.drop 36) (by rw [hd]; decide), tv4 (bs.drop 40) (by rw [hd]; decide), tv4 (bs.drop 44) (by rw [hd]; decide), tv4 (bs.drop 48) (by rw [hd]; decide), tv4 (bs.drop 52) (by rw [hd]; decide)]
  rfl
/-- What the law's bad looks at, all as it must be. -/
structure Good (bs : List UInt8) : Prop where
  len : bs.length = 64
  gap : ∀ k, k = 14 ∨ k = 15 → bs[k]? = some 0
  links : le (at2 bs 12) ≤ 1000
  high : ∀ j, j < 10 → bs[16 + 4 * j + 2]? = some 0 ∧ bs[16 + 4 * j + 3]? = some 0
  tail : ∀ k, 56 ≤ k → k < 64 → bs[k]? = some 0
  size : le (at4 bs 8) ≤ 1073741824
theorem at4_length {bs : List UInt8} (h : bs.length = 64) {k : Nat} (hk : k ≤ 60) : (at4 bs k).length = 4 := by
  unfold at4
  rw [List.length_take, List.length_drop]
  omega
theorem at4_small {bs : List UInt8} (h : bs.length = 64) {k : Nat} (hk : k ≤ 60) (h2 : bs[k + 2]? = some 0) (h3 : bs[k + 3]? = some 0) : le (at4 bs k) ≤ 65535 := by
  have h4 := at4_length h hk
  have e2 : (at4 bs k)[2]? = some 0 := by unfold at4; rw [List.getElem?_take_of_lt (by decide), List.getElem?_drop]; exact h2
  have e3 : (at4 bs k)[3]? = some 0 := by unfold at4; rw [List.getElem?_take_of_lt (by decide), List.getElem?_drop]; exact h3
  generalize at4 bs k = l at *
  match l, h4 with
  | [a, b, c, d], _ =>
    simp only [List.getElem?_cons_succ, List.getElem?_cons_zero, Option.some.injEq] at e2 e3
    subst e2 e3
    have := a.toNat_lt
    have := b.toNat_lt
    simp [le]
    omega
theorem Good.is {bs : List UInt8} (h : Good bs) : isI bs := by
  have hl := h.len
  unfold isI
  rw [readI_64 hl]
  constructor
  · have H : ∀ j, j < 10 → le (at4 bs (16 + 4 * j)) ≤ 65535 := fun j hj => at4_small hl (by omega) (h.high j hj).1 (h.high j hj).2
    exact ⟨h.size, h.links, H 0 (by decide), H 1 (by decide), H 2 (by decide), H 3 (by decide), H 4 (by decide), H 5 (by decide), H 6 (by decide), H 7 (by decide), H 8 (by decide), H 9 (by decide)⟩
  · unfold I14.bytes
    simp only
    have P : ∀ k, k ≤ 60 → ∀ rest, rest = bs.drop (k + 4) → putB 4 (le (at4 bs k)) ++ rest = bs.drop k := by
      intro k hk rest hr
      have e := putB_le (at4 bs k)
      rw [at4_length hl hk] at e
      rw [e, hr]
      unfold at4
      rw [← List.drop_drop]
      exact List.take_append_drop 4 _
    have hz : [0, 0, 0, 0, 0, 0, 0, 0] = bs.drop 56 := by
      apply List.ext_getElem?
      intro j
      rw [List.getElem?_drop]
      by_cases hj : j < 8
      · rw [h.tail (56 + j) (by omega) (by omega)]
        match j, hj with
        | 0, _ => rfl
        | 1, _ => rfl
        | 2, _ => rfl
        | 3, _ => rfl
        | 4, _ => rfl
        | 5, _ => rfl
        | 6, _ => rfl
        | 7, _ => rfl
      · rw [List.getElem?_eq_none (by simp; omega), List.getElem?_eq_none (by omega)]
    have hg : [0, 0] ++ bs.drop 16 = bs.drop 14 := by
      have e : [0, 0] = (bs.drop 14).take 2 := by
        apply List.ext_getElem?
        intro j
        by_cases hj : j < 2
        · rw [List.getElem?_take_of_lt hj, List.getElem?_drop, h.gap (14 + j) (by omega)]
          match j, hj with
          | 0, _ => rfl
          | 1, _ => rfl
        · rw [List.getElem?_eq_none (by simp; omega), List.getElem?_eq_none (by rw [List.length_take, List.length_drop]; omega)]
      rw [e, show bs.drop 16 = (bs.drop 14).drop 2 by rw [List.drop_drop]]
      exact List.take_append_drop 2 _
    have hk : putB 2 (le (at2 bs 12)) ++ bs.drop 14 = bs.drop 12 := by
      have e := putB_le (at2 bs 12)
      rw [show (at2 bs 12).length = 2 by unfold at2; rw [List.length_take, List.length_drop]; omega] at e
      rw [e]
      unfold at2
      rw [show bs.drop 14 = (bs.drop 12).drop 2 by rw [List.drop_drop]]
      exact List.take_append_drop 2 _
    rw [hz, P 52 (by decide) _ rfl, P 48 (by decide) _ rfl, P 44 (by decide) _ rfl, P 40 (by decide) _ rfl, P 36 (by decide) _ rfl, P 32 (by decide) _ rfl, P 28 (by decide) _ rfl, P 24 (by decide) _ rfl, P 20 (by decide) _ rfl, P 16 (by decide) _ rfl, hg, hk, P 8 (by decide) _ rfl, P 4 (by decide) _ rfl, P 0 (by decide) _ rfl]
    rfl
end Go.Proofs.Ytjlipfddbpgglaa
