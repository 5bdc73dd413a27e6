/-
  Plain facts on UTF-8 over lists of bytes: the width of the first code point, how many code points there are; nothing of the program is used here.
-/
import Derived.Test.YtkhgaolaaiekjaaDoorFault
import Derived.Test.YtkhgaolaaiekjaaDoorPutLe
import Derived.Lib.DecodeNEq
import Derived.Shelf.Unicode.DecodeSlow
import Derived.Shelf.GgClosure.StringsIndexFunc
import Derived.Lib.FieldsP
namespace Go.Proofs.YtkhgaolaaiekjaaDoor
open Go.RowKit Go.Lib

/-- Byte i of a list, 0 behind its end. -/
def byteAt (l : List UInt8) (i : Nat) : Nat := (l.getD i 0).toNat
theorem byteAt_lt (l : List UInt8) (i : Nat) : byteAt l i < 256 := (l.getD i 0).toNat_lt
theorem byteAt_append {a b : List UInt8} {i : Nat} (h : i < a.length) : byteAt (a ++ b) i = byteAt a i := by
  simp [byteAt, List.getD, List.getElem?_append_left h]
theorem byteAt_drop (l : List UInt8) (k i : Nat) : byteAt (l.drop k) i = byteAt l (k + i) := by simp [byteAt, List.getD]
theorem byteAt_get {l : List UInt8} {i : Nat} (h : i < l.length) : byteAt l i = l[i].toNat := by simp [byteAt, List.getD, h]

/-- What a decoder says of the beginning. -/
def dec (l : List UInt8) : Nat × Nat := decodeN l.length (byteAt l 0) (byteAt l 1) (byteAt l 2) (byteAt l 3)
/-- The width of the first code point by four bytes and a length; 0: there is none. -/
def widN (n b0 b1 b2 b3 : Nat) : Nat :=
  if 0 < n ∧ b0 < 128 then 1
  else if 1 < n ∧ (194 ≤ b0 ∧ b0 < 224) ∧ (128 ≤ b1 ∧ b1 < 192) then 2
  else if 2 < n ∧ (224 ≤ b0 ∧ b0 < 240) ∧ (128 ≤ b1 ∧ b1 < 192) ∧ (128 ≤ b2 ∧ b2 < 192) ∧ (b0 = 224 → 160 ≤ b1) ∧ (b0 = 237 → b1 < 160) then 3
  else if 3 < n ∧ (240 ≤ b0 ∧ b0 < 245) ∧ (128 ≤ b1 ∧ b1 < 192) ∧ (128 ≤ b2 ∧ b2 < 192) ∧ (128 ≤ b3 ∧ b3 < 192) ∧ (b0 = 240 → 144 ≤ b1) ∧ (b0 = 244 → b1 < 144) then 4
  else 0
def wid (l : List UInt8) : Nat := widN l.length (byteAt l 0) (byteAt l 1) (byteAt l 2) (byteAt l 3)

/-- What widN says beside a decoder's answer. -/
def WidDec (n b0 b1 b2 b3 : Nat) (d : Nat × Nat) : Prop :=
  (widN n b0 b1 b2 b3 = 0 ∧ d = (65533, 1)) ∨ (0 < widN n b0 b1 b2 b3 ∧ d.2 = widN n b0 b1 b2 b3 ∧ (d.1 ≠ 65533 ∨ 1 < widN n b0 b1 b2 b3) ∧ (d.1 < 128 → d.2 = 1 ∧ d.1 = b0))
theorem widDec_no {n b0 b1 b2 b3 : Nat} {d : Nat × Nat} (h : widN n b0 b1 b2 b3 = 0) (hd : d = (65533, 1)) : WidDec n b0 b1 b2 b3 d := .inl ⟨h, hd⟩
theorem widDec_yes {n b0 b1 b2 b3 v k : Nat} (h : widN n b0 b1 b2 b3 = k) (h1 : 1 < k) (hv : 128 ≤ v) : WidDec n b0 b1 b2 b3 (v, k) :=
  .inr ⟨by omega, by rw [h], .inr (by omega), fun h => absurd h (by simp only; omega)⟩
theorem widN2 {n b0 b1 b2 b3 : Nat} (h : 194 ≤ b0 ∧ b0 < 224) : widN n b0 b1 b2 b3 = if 1 < n ∧ (128 ≤ b1 ∧ b1 < 192) then 2 else 0 := by
  unfold widN
  repeat' split
  all_goals omega
theorem widN3 {n b0 b1 b2 b3 : Nat} (h : 224 ≤ b0 ∧ b0 < 240) : widN n b0 b1 b2 b3 = if 2 < n ∧ (128 ≤ b1 ∧ b1 < 192) ∧ (128 ≤ b2 ∧ b2 < 192) ∧ (b0 = 224 → 160 ≤ b1) ∧ (b0 = 237 → b1 < 160) then 3 else 0 := by
  unfold widN
  repeat' split
  all_goals omega
theorem widN4 {n b0 b1 b2 b3 : Nat} (h : 240 ≤ b0 ∧ b0 < 245) : widN n b0 b1 b2 b3 = if 3 < n ∧ (128 ≤ b1 ∧ b1 < 192) ∧ (128 ≤ b2 ∧ b2 < 192) ∧ (128 ≤ b3 ∧ b3 < 192) ∧ (b0 = 240 → 144 ≤ b1) ∧ (b0 = 244 → b1 < 144) then 4 else 0 := by
  unfold widN
  repeat' split
  all_goals omega
theorem widN0 {n b0 b1 b2 b3 : Nat} (h : (128 ≤ b0 ∧ b0 < 194) ∨ 245 ≤ b0) : widN n b0 b1 b2 b3 = 0 := by
  unfold widN
  repeat' split
  all_goals omega
theorem widDec_slow {n b0 b1 b2 b3 sz lo hi k : Nat} (hk : sz = k) (h1 : 2 ≤ k) (h4 : k ≤ 4) (hw : widN n b0 b1 b2 b3 = if k ≤ n ∧ (lo ≤ b1 ∧ b1 ≤ hi) ∧ (2 < k → 128 ≤ b2 ∧ b2 ≤ 191) ∧ (3 < k → 128 ≤ b3 ∧ b3 ≤ 191) then k else 0)
    (hv : k ≤ n → lo ≤ b1 → b1 ≤ hi → (2 < k → 128 ≤ b2 ∧ b2 ≤ 191) → 128 ≤ (slowN n b0 b1 b2 b3 sz lo hi).1) : WidDec n b0 b1 b2 b3 (slowN n b0 b1 b2 b3 sz lo hi) := by
  subst hk
  by_cases hc : sz ≤ n ∧ (lo ≤ b1 ∧ b1 ≤ hi) ∧ (2 < sz → 128 ≤ b2 ∧ b2 ≤ 191) ∧ (3 < sz → 128 ≤ b3 ∧ b3 ≤ 191)
  · rw [if_pos hc] at hw
    have hv := hv hc.1 hc.2.1.1 hc.2.1.2 hc.2.2.1
    have he : (slowN n b0 b1 b2 b3 sz lo hi).2 = sz := by
      unfold slowN
      repeat' split
      all_goals first | (exfalso; omega) | (simp only; omega)
    have : slowN n b0 b1 b2 b3 sz lo hi = ((slowN n b0 b1 b2 b3 sz lo hi).1, sz) := Prod.ext rfl he
    rw [this]
    exact widDec_yes hw (by omega) hv
  · rw [if_neg hc] at hw
    refine widDec_no hw ?_
    unfold slowN
    repeat' split
    all_goals first | rfl | (exfalso; omega)
theorem if_iff {p q : Prop} [Decidable p] [Decidable q] {k : Nat} (h : p ↔ q) : (if p then k else 0) = if q then k else 0 := by
  by_cases hp : p
  · rw [if_pos hp, if_pos (h.1 hp)]
  · rw [if_neg hp, if_neg (fun hq => hp (h.2 hq))]

theorem slow2v {n b0 b1 b2 b3 lo hi : Nat} (hb : 194 ≤ b0 ∧ b0 < 224) : 128 ≤ (slowN n b0 b1 b2 b3 2 lo hi).1 := by
  unfold slowN
  repeat' split
  all_goals first | (exfalso; omega) | (simp only; omega)
theorem slow3v {n b0 b1 b2 b3 lo hi : Nat} (h : b0 % 16 = 0 → 128 ≤ b1 % 64 * 64) : 128 ≤ (slowN n b0 b1 b2 b3 3 lo hi).1 := by
  unfold slowN
  repeat' split
  all_goals first | (exfalso; omega) | (simp only; omega)
theorem slow4v {n b0 b1 b2 b3 lo hi : Nat} (hb : 240 ≤ b0 ∧ b0 < 245) (h : b0 % 8 = 0 → 128 ≤ b1 % 64 * 4096) : 128 ≤ (slowN n b0 b1 b2 b3 4 lo hi).1 := by
  unfold slowN
  repeat' split
  all_goals first | (exfalso; omega) | (simp only; omega)

theorem widN_dec (n b0 b1 b2 b3 : Nat) (hn : 0 < n) (h0 : b0 < 256) (h1 : b1 < 256) (h2 : b2 < 256) (h3 : b3 < 256) : WidDec n b0 b1 b2 b3 (decodeN n b0 b1 b2 b3) := by
  by_cases c0 : b0 < 128
  · refine .inr ?_
    have e : decodeN n b0 b1 b2 b3 = (b0, 1) := by simp [decodeN, c0]
    have e2 : widN n b0 b1 b2 b3 = 1 := by rw [widN, if_pos ⟨hn, c0⟩]
    rw [e, e2]
    exact ⟨by omega, rfl, .inl (by simp only; omega), fun _ => ⟨rfl, rfl⟩⟩
  by_cases c1 : b0 < 194 ∨ 245 ≤ b0
  · exact widDec_no (widN0 (by omega)) (bad_eq n b0 b1 b2 b3 h0 (by
      unfold firstT
      repeat' split
      all_goals omega))
  by_cases c2 : b0 < 224
  · rw [← slow_C2 n b0 b1 b2 b3 hn h1 h2 h3 (by omega)]
    exact widDec_slow (k := 2) rfl (by omega) (by omega) (by rw [widN2 (by omega)]; exact if_iff (by omega)) (fun _ _ _ _ => slow2v (by omega))
  by_cases c3 : b0 < 240
  · by_cases d0 : b0 = 224
    · rw [← slow_E0 n b0 b1 b2 b3 hn h1 h2 h3 d0]
      exact widDec_slow (k := 3) rfl (by omega) (by omega) (by rw [widN3 (by omega)]; exact if_iff (by omega)) (fun _ _ _ _ => slow3v (by omega))
    by_cases d1 : b0 = 237
    · rw [← slow_ED n b0 b1 b2 b3 hn h1 h2 h3 d1]
      exact widDec_slow (k := 3) rfl (by omega) (by omega) (by rw [widN3 (by omega)]; exact if_iff (by omega)) (fun _ _ _ _ => slow3v (by omega))
    · rw [← slow_E1 n b0 b1 b2 b3 hn h1 h2 h3 (by omega)]
      exact widDec_slow (k := 3) rfl (by omega) (by omega) (by rw [widN3 (by omega)]; exact if_iff (by omega)) (fun _ _ _ _ => slow3v (by omega))
  · by_cases d0 : b0 = 240
    · rw [← slow_F0 n b0 b1 b2 b3 hn h1 h2 h3 d0]
      exact widDec_slow (k := 4) rfl (by omega) (by omega) (by rw [widN4 (by omega)]; exact if_iff (by omega)) (fun _ _ _ _ => slow4v (by omega) (by omega))
    by_cases d1 : b0 = 244
    · rw [← slow_F4 n b0 b1 b2 b3 hn h1 h2 h3 d1]
      exact widDec_slow (k := 4) rfl (by omega) (by omega) (by rw [widN4 (by omega)]; exact if_iff (by omega)) (fun _ _ _ _ => slow4v (by omega) (by omega))
    · rw [← slow_F1 n b0 b1 b2 b3 hn h1 h2 h3 (by omega)]
      exact widDec_slow (k := 4) rfl (by omega) (by omega) (by rw [widN4 (by omega)]; exact if_iff (by omega)) (fun _ _ _ _ => slow4v (by omega) (by omega))

set_option maxHeartbeats 2000000 in
theorem widN_le (n b0 b1 b2 b3 : Nat) : widN n b0 b1 b2 b3 ≤ n ∧ widN n b0 b1 b2 b3 ≤ 4 := by
  unfold widN
  repeat' split
  all_goals omega

theorem widN_is1 {n b0 b1 b2 b3 : Nat} : widN n b0 b1 b2 b3 = 1 ↔ 0 < n ∧ b0 < 128 := by
  unfold widN
  repeat' split
  all_goals omega
theorem widN_is2 {n b0 b1 b2 b3 : Nat} : widN n b0 b1 b2 b3 = 2 ↔ 1 < n ∧ (194 ≤ b0 ∧ b0 < 224) ∧ (128 ≤ b1 ∧ b1 < 192) := by
  constructor
  · intro h
    unfold widN at h
    repeat' split at h
    all_goals omega
  · intro h
    rw [widN2 h.2.1, if_pos ⟨h.1, h.2.2⟩]
theorem widN_is3 {n b0 b1 b2 b3 : Nat} : widN n b0 b1 b2 b3 = 3 ↔ 2 < n ∧ (224 ≤ b0 ∧ b0 < 240) ∧ (128 ≤ b1 ∧ b1 < 192) ∧ (128 ≤ b2 ∧ b2 < 192) ∧ (b0 = 224 → 160 ≤ b1) ∧ (b0 = 237 → b1 < 160) := by
  constructor
  · intro h
    unfold widN at h
    repeat' split at h
    all_goals first | (exfalso; omega) | assumption
  · intro h
    rw [widN3 h.2.1, if_pos ⟨h.1, h.2.2⟩]
theorem widN_is4 {n b0 b1 b2 b3 : Nat} : widN n b0 b1 b2 b3 = 4 ↔ 3 < n ∧ (240 ≤ b0 ∧ b0 < 245) ∧ (128 ≤ b1 ∧ b1 < 192) ∧ (128 ≤ b2 ∧ b2 < 192) ∧ (128 ≤ b3 ∧ b3 < 192) ∧ (b0 = 240 → 144 ≤ b1) ∧ (b0 = 244 → b1 < 144) := by
  constructor
  · intro h
    unfold widN at h
    repeat' split at h
    all_goals first | (exfalso; omega) | assumption
  · intro h
    rw [widN4 h.2.1, if_pos ⟨h.1, h.2.2⟩]
/-- A code point of k bytes is the same one wherever those bytes stand first. -/
theorem widN_same {n m b0 b1 b2 b3 c0 c1 c2 c3 : Nat} (h : widN n b0 b1 b2 b3 ≠ 0) (hm : widN n b0 b1 b2 b3 ≤ m) (h0 : 0 < n → 0 < m → c0 = b0) (h1 : 1 < n → 1 < m → c1 = b1) (h2 : 2 < n → 2 < m → c2 = b2) (h3 : 3 < n → 3 < m → c3 = b3) :
    widN m c0 c1 c2 c3 = widN n b0 b1 b2 b3 := by
  have h4 := (widN_le n b0 b1 b2 b3).2
  have hc : widN n b0 b1 b2 b3 = 1 ∨ widN n b0 b1 b2 b3 = 2 ∨ widN n b0 b1 b2 b3 = 3 ∨ widN n b0 b1 b2 b3 = 4 := by omega
  rcases hc with e | e | e | e
  · rw [e] at hm ⊢
    have k := widN_is1.1 e
    rw [h0 (by omega) (by omega)]
    exact widN_is1.2 ⟨by omega, k.2⟩
  · rw [e] at hm ⊢
    have k := widN_is2.1 e
    rw [h0 (by omega) (by omega), h1 (by omega) (by omega)]
    exact widN_is2.2 ⟨by omega, k.2⟩
  · rw [e] at hm ⊢
    have k := widN_is3.1 e
    rw [h0 (by omega) (by omega), h1 (by omega) (by omega), h2 (by omega) (by omega)]
    exact widN_is3.2 ⟨by omega, k.2⟩
  · rw [e] at hm ⊢
    have k := widN_is4.1 e
    rw [h0 (by omega) (by omega), h1 (by omega) (by omega), h2 (by omega) (by omega), h3 (by omega) (by omega)]
    exact widN_is4.2 ⟨by omega, k.2⟩

theorem widN_tails (m c0 c1 c2 c3 : Nat) : (1 < widN m c0 c1 c2 c3 → 128 ≤ c0 ∧ 128 ≤ c1 ∧ c1 < 192) ∧ (2 < widN m c0 c1 c2 c3 → 128 ≤ c2 ∧ c2 < 192) ∧ (3 < widN m c0 c1 c2 c3 → 128 ≤ c3 ∧ c3 < 192) := by
  have h4 := (widN_le m c0 c1 c2 c3).2
  have hc : widN m c0 c1 c2 c3 = 0 ∨ widN m c0 c1 c2 c3 = 1 ∨ widN m c0 c1 c2 c3 = 2 ∨ widN m c0 c1 c2 c3 = 3 ∨ widN m c0 c1 c2 c3 = 4 := by omega
  rcases hc with e | e | e | e | e
  · omega
  · omega
  · have k := widN_is2.1 e
    omega
  · have k := widN_is3.1 e
    omega
  · have k := widN_is4.1 e
    omega
theorem widN_none (n b0 b1 b2 b3 : Nat) (h : 128 ≤ b0 ∧ b0 < 192) : widN n b0 b1 b2 b3 = 0 := by
  unfold widN
  repeat' split
  all_goals omega

theorem wid_le (l : List UInt8) : wid l ≤ l.length := (widN_le _ _ _ _ _).1
theorem wid_le4 (l : List UInt8) : wid l ≤ 4 := (widN_le _ _ _ _ _).2
theorem wid_append {a : List UInt8} (b : List UInt8) (h : wid a ≠ 0) : wid (a ++ b) = wid a := by
  have hl := wid_le a
  exact widN_same h (by show wid a ≤ _; rw [List.length_append]; omega) (fun h _ => byteAt_append h) (fun h _ => byteAt_append h) (fun h _ => byteAt_append h) (fun h _ => byteAt_append h)
theorem byteAt_take (l : List UInt8) (c i : Nat) (h : i < (l.take c).length) : byteAt (l.take c) i = byteAt l i := by
  have e : l.take c ++ l.drop c = l := List.take_append_drop c l
  have := byteAt_append (b := l.drop c) h
  rw [e] at this
  exact this.symm
theorem wid_take {l : List UInt8} {c : Nat} (h : wid l ≤ c) (h0 : wid l ≠ 0) : wid (l.take c) = wid l := by
  have hl := wid_le l
  exact widN_same h0 (by show wid l ≤ _; rw [List.length_take]; omega) (fun _ h => byteAt_take l c _ h) (fun _ h => byteAt_take l c _ h) (fun _ h => byteAt_take l c _ h) (fun _ h => byteAt_take l c _ h)
theorem wid_cut {l : List UInt8} {c : Nat} (h : c < wid l) : wid (l.take c) = 0 := by
  have e : l.take c ++ l.drop c = l := List.take_append_drop c l
  have hl := wid_le (l.take c)
  rw [List.length_take] at hl
  refine Decidable.byContradiction fun hc => ?_
  have := wid_append (l.drop c) hc
  rw [e] at this
  omega
theorem wid_tail {l : List UInt8} {c : Nat} (h : c < wid l) (h0 : 0 < c) : 128 ≤ byteAt l c ∧ byteAt l c < 192 := by
  have h4 := wid_le4 l
  have t := widN_tails l.length (byteAt l 0) (byteAt l 1) (byteAt l 2) (byteAt l 3)
  unfold wid at h h4
  have hc : c = 1 ∨ c = 2 ∨ c = 3 := by omega
  rcases hc with rfl | rfl | rfl
  · exact (t.1 (by omega)).2
  · exact t.2.1 (by omega)
  · exact t.2.2 (by omega)
theorem wid_drop {l : List UInt8} {c : Nat} (h : c < wid l) (h0 : 0 < c) : wid (l.drop c) = 0 := by
  have t := wid_tail h h0
  unfold wid
  refine widN_none _ _ _ _ _ ?_
  rw [byteAt_drop]
  exact t

/-- How many code points; none: it is no UTF-8. -/
def runesF : Nat → List UInt8 → Option Nat
  | 0, l => if l.length = 0 then some 0 else none
  | f + 1, l => if l.length = 0 then some 0 else if wid l = 0 then none else (runesF f (l.drop (wid l))).map (· + 1)
def runes (l : List UInt8) : Option Nat := runesF l.length l
theorem runesF_eq : ∀ (f : Nat) (l : List UInt8), l.length ≤ f → runesF f l = runesF l.length l
  | 0, l, h => by have : l.length = 0 := by omega
                  rw [this]
  | f + 1, l, h => by
    by_cases h0 : l.length = 0
    · rw [h0]; simp [runesF, h0]
    · obtain ⟨g, hg⟩ : ∃ g, l.length = g + 1 := ⟨l.length - 1, by omega⟩
      rw [hg]
      simp only [runesF, h0, if_false]
      by_cases hw : wid l = 0
      · simp [hw]
      · have hl := wid_le l
        have hd : (l.drop (wid l)).length ≤ g := by rw [List.length_drop]; omega
        rw [if_neg hw, if_neg hw, runesF_eq f _ (by omega), runesF_eq g _ hd]
theorem runes_nil : runes [] = some 0 := rfl
theorem runes_step {l : List UInt8} (h : l.length ≠ 0) : runes l = if wid l = 0 then none else (runes (l.drop (wid l))).map (· + 1) := by
  obtain ⟨g, hg⟩ : ∃ g, l.length = g + 1 := ⟨l.length - 1, by omega⟩
  have e : runes l = runesF (g + 1) l := by rw [runes, hg]
  rw [e]
  simp only [runesF, h, if_false]
  by_cases hw : wid l = 0
  · simp [hw]
  · rw [if_neg hw, if_neg hw, runesF_eq g _ (by rw [List.length_drop]; omega)]
    rfl
theorem runes_le : ∀ (f : Nat) (l : List UInt8) (n : Nat), l.length ≤ f → runes l = some n → n ≤ l.length
  | 0, l, n, h, e => by
    have : l = [] := List.eq_nil_of_length_eq_zero (by omega)
    subst this
    rw [runes_nil] at e
    injection e with e
    omega
  | f + 1, l, n, h, e => by
    by_cases h0 : l.length = 0
    · have : l = [] := List.eq_nil_of_length_eq_zero h0
      subst this
      rw [runes_nil] at e
      injection e with e
      omega
    · rw [runes_step h0] at e
      by_cases hw : wid l = 0
      · simp [hw] at e
      · rw [if_neg hw] at e
        obtain ⟨m, hm, rfl⟩ := Option.map_eq_some_iff.1 e
        have := runes_le f _ m (by rw [List.length_drop]; omega) hm
        rw [List.length_drop] at this
        have := wid_le l
        omega

theorem runes_add : ∀ (f : Nat) (a b : List UInt8) (n m : Nat), a.length ≤ f → runes a = some n → runes b = some m → runes (a ++ b) = some (n + m)
  | 0, a, b, n, m, h, e1, e2 => by
    have : a = [] := List.eq_nil_of_length_eq_zero (by omega)
    subst this
    rw [runes_nil] at e1
    injection e1 with e1
    subst e1
    simpa using e2
  | f + 1, a, b, n, m, h, e1, e2 => by
    by_cases h0 : a.length = 0
    · have : a = [] := List.eq_nil_of_length_eq_zero h0
      subst this
      rw [runes_nil] at e1
      injection e1 with e1
      subst e1
      simpa using e2
    · rw [runes_step h0] at e1
      by_cases hw : wid a = 0
      · simp [hw] at e1
      · rw [if_neg hw] at e1
        obtain ⟨k, hk, rfl⟩ := Option.map_eq_some_iff.1 e1
        rw [runes_step (by rw [List.length_append]; omega), wid_append b hw, if_neg hw, List.drop_append_of_le_length (wid_le a), runes_add f _ b k m (by rw [List.length_drop]; omega) hk e2]
        simp; omega

theorem runes_cut : ∀ (f : Nat) (l : List UInt8) (c : Nat), l.length ≤ f → (runes l).isSome = true → (runes (l.take c)).isSome = (runes (l.drop c)).isSome
  | 0, l, c, h, e => by
    have : l = [] := List.eq_nil_of_length_eq_zero (by omega)
    subst this
    simp
  | f + 1, l, c, h, e => by
    by_cases h0 : l.length = 0
    · have : l = [] := List.eq_nil_of_length_eq_zero h0
      subst this
      simp
    · by_cases hc : c = 0
      · subst hc
        simp [runes_nil, e]
      · rw [runes_step h0] at e
        by_cases hw : wid l = 0
        · simp [hw] at e
        · rw [if_neg hw] at e
          have hl := wid_le l
          by_cases hk : wid l ≤ c
          · have ih := runes_cut f (l.drop (wid l)) (c - wid l) (by rw [List.length_drop]; omega) (by simpa using e)
            have e1 : (l.drop (wid l)).drop (c - wid l) = l.drop c := by rw [List.drop_drop]; congr 1; omega
            have e2 : (l.take c).drop (wid l) = (l.drop (wid l)).take (c - wid l) := by rw [List.drop_take]
            rw [e1] at ih
            rw [runes_step (l := l.take c) (by rw [List.length_take]; omega), wid_take hk hw, if_neg hw, e2]
            simpa using ih
          · rw [runes_step (l := l.take c) (by rw [List.length_take]; omega), wid_cut (by omega), runes_step (l := l.drop c) (by rw [List.length_drop]; omega), wid_drop (by omega) (by omega)]
            simp
end Go.Proofs.YtkhgaolaaiekjaaDoor
