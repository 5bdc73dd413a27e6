/-
  Layer 9: a map of places as a list of marks; the words of 64 bits that hold it, the bytes that tell it; what its calls do to it. Nothing of the program is used here.
-/
import Derived.Test.YtaenobgpbphlfaaDoorMem
import Derived.Lib.TrailingZeros
namespace Go.Proofs.YtaenobgpbphlfaaDoor
open Go.RowKit

/-! ### words -/
/-- The bit of a place in a row of words. -/
def wbit (ws : List Nat) (i : Nat) : Bool := (ws.getD (i / 64) 0).testBit (i % 64)
/-- A list of marks, and the words that hold it. -/
structure Bm (L : List Bool) (ws : List Nat) : Prop where
  len : ws.length = (L.length + 63) / 64
  lt : ∀ k, ws.getD k 0 < 18446744073709551616
  bit : ∀ i, wbit ws i = L.getD i false

theorem getD_set {α : Type} (l : List α) (k : Nat) (x d : α) (j : Nat) (hk : k < l.length) : (l.set k x).getD j d = if j = k then x else l.getD j d := by
  by_cases h : j = k
  · subst h
    simp [List.getD, hk]
  · simp only [List.getD]
    rw [List.getElem?_set_ne (fun e => h e.symm), if_neg h]
theorem getD_out {α : Type} (l : List α) (d : α) (j : Nat) (hj : l.length ≤ j) : l.getD j d = d := by simp [List.getD, List.getElem?_eq_none hj]
theorem getD_in {α : Type} (l : List α) (d : α) (j : Nat) (hj : j < l.length) : l.getD j d = l[j] := by simp [List.getD, List.getElem?_eq_getElem hj]

theorem Bm.put {L : List Bool} {ws : List Nat} (h : Bm L ws) {i : Nat} (hi : i < L.length) (v : Bool) (x : Nat) (hx : x < 18446744073709551616)
    (hb : ∀ j, j < 64 → x.testBit j = if j = i % 64 then v else (ws.getD (i / 64) 0).testBit j) : Bm (L.set i v) (ws.set (i / 64) x) := by
  have hk : i / 64 < ws.length := by rw [h.len]; omega
  refine ⟨by simp [h.len], fun k => ?_, fun j => ?_⟩
  · rw [getD_set _ _ _ _ _ hk]
    split
    · exact hx
    · exact h.lt k
  · rw [getD_set _ _ _ _ _ hi]
    unfold wbit
    rw [getD_set _ _ _ _ _ hk]
    by_cases hj : j / 64 = i / 64
    · rw [if_pos hj, hb _ (Nat.mod_lt _ (by decide))]
      by_cases he : j = i
      · rw [if_pos he, if_pos (by rw [he])]
      · rw [if_neg he, if_neg (by omega), ← hj]
        exact h.bit j
    · rw [if_neg hj, if_neg (fun e => hj (by rw [e]))]
      exact h.bit j
theorem Bm.take {L : List Bool} {ws : List Nat} (h : Bm L ws) {i : Nat} (hi : i < L.length) : Bm (L.set i true) (ws.set (i / 64) (ws.getD (i / 64) 0 ||| 2 ^ (i % 64))) := by
  have hp : 2 ^ (i % 64) < 2 ^ 64 := Nat.pow_lt_pow_of_lt (by decide) (Nat.mod_lt _ (by decide))
  refine h.put hi true _ (Nat.or_lt_two_pow (n := 64) (h.lt _) hp) (fun j hj => ?_)
  rw [Nat.testBit_or, Nat.testBit_two_pow]
  by_cases e : j = i % 64
  · rw [if_pos e, e]
    simp
  · rw [if_neg e]
    have : decide (i % 64 = j) = false := decide_eq_false (fun x => e x.symm)
    rw [this, Bool.or_false]
theorem Bm.drop {L : List Bool} {ws : List Nat} (h : Bm L ws) {i : Nat} (hi : i < L.length) : Bm (L.set i false) (ws.set (i / 64) (ws.getD (i / 64) 0 &&& (18446744073709551615 - 2 ^ (i % 64)))) := by
  have hp : 2 ^ (i % 64) < 2 ^ 64 := Nat.pow_lt_pow_of_lt (by decide) (Nat.mod_lt _ (by decide))
  refine h.put hi false _ (Nat.lt_of_le_of_lt Nat.and_le_left (h.lt _)) (fun j hj => ?_)
  have e2 : 18446744073709551615 - 2 ^ (i % 64) = 2 ^ 64 - (2 ^ (i % 64) + 1) := by omega
  rw [Nat.testBit_and, e2, Nat.testBit_two_pow_sub_succ hp, Nat.testBit_two_pow]
  by_cases e : j = i % 64
  · rw [if_pos e, e]
    simp
  · rw [if_neg e]
    have : decide (i % 64 = j) = false := decide_eq_false (fun x => e x.symm)
    rw [this]
    simp [hj]
theorem set_same {L : List Bool} {i : Nat} (hi : L.getD i false = true) : L.set i true = L := by
  apply List.ext_getElem?
  intro j
  by_cases e : i = j
  · subst e
    by_cases hl : i < L.length
    · rw [getD_in _ _ _ hl] at hi
      simp [hl, hi]
    · simp [hl]
  · rw [List.getElem?_set_ne e]

/-- A word's bit, as the program asks for it. -/
theorem bit_and (x c : Nat) : (x / 2 ^ c &&& 1) = if x.testBit c then 1 else 0 := by
  rw [Nat.and_one_is_mod, Nat.testBit_eq_decide_div_mod_eq]
  rcases Nat.mod_two_eq_zero_or_one (x / 2 ^ c) with h | h <;> simp [h]

/-! ### the lowest bit -/
theorem ctz_spec (x : Nat) (h0 : x ≠ 0) (h : x < 18446744073709551616) : Lib.ctz 64 x < 64 ∧ x.testBit (Lib.ctz 64 x) = true ∧ ∀ j, j < Lib.ctz 64 x → x.testBit j = false := by
  obtain ⟨m, hm, hk⟩ := Lib.ctzFrom_spec 64 x (by omega) h
  have e : Lib.ctz 64 x = Lib.ctzFrom 64 x := by simp [Lib.ctz, h0]
  rw [e]
  generalize Lib.ctzFrom 64 x = k at hm hk
  refine ⟨hk, ?_, fun j hj => ?_⟩
  · rw [hm, Nat.testBit_two_pow_mul]
    simp [Nat.testBit_zero]
  · rw [hm, Nat.testBit_two_pow_mul]
    have : ¬ j ≥ k := by omega
    simp [this]

/-! ### the next place of a kind -/
/-- r is the first place from i on that is so; behind the last if none is. -/
structure NextIs (L : List Bool) (v : Bool) (i r : Nat) : Prop where
  ge : i ≤ r
  le : r ≤ L.length
  no : ∀ j, i ≤ j → j < r → L.getD j false = !v
  yes : r < L.length → L.getD r false = v
/-- What a word is held against. -/
def kindOf9 (v : Bool) : Nat := if v then 0 else 18446744073709551615
theorem kind_lt (v : Bool) : kindOf9 v < 18446744073709551616 := by cases v <;> decide
theorem kind_bit (v : Bool) (x j : Nat) (hj : j < 64) : (x ^^^ kindOf9 v).testBit j = (x.testBit j == v) := by
  rw [Nat.testBit_xor]
  cases v
  · have e : kindOf9 false = 2 ^ 64 - (0 + 1) := by decide
    rw [e, Nat.testBit_two_pow_sub_succ (by decide)]
    simp [hj]
  · show (x.testBit j ^^ (0 : Nat).testBit j) = _
    simp
/-- What is left of a word, from a place on. -/
def restOf (ws : List Nat) (v : Bool) (i : Nat) : Nat := (ws.getD (i / 64) 0 ^^^ kindOf9 v) / 2 ^ (i % 64)
theorem rest_lt {L : List Bool} {ws : List Nat} (h : Bm L ws) (v : Bool) (i : Nat) : restOf ws v i < 2 ^ (64 - i % 64) := by
  have hx : ws.getD (i / 64) 0 ^^^ kindOf9 v < 2 ^ 64 := Nat.xor_lt_two_pow (h.lt _) (kind_lt v)
  unfold restOf
  rw [Nat.div_lt_iff_lt_mul (Nat.two_pow_pos _), ← Nat.pow_add]
  have : 64 - i % 64 + i % 64 = 64 := by omega
  rw [this]
  exact hx
theorem rest_lt64 {L : List Bool} {ws : List Nat} (h : Bm L ws) (v : Bool) (i : Nat) : restOf ws v i < 18446744073709551616 :=
  Nat.lt_of_lt_of_le (rest_lt h v i) (Nat.pow_le_pow_right (by decide) (by omega : 64 - i % 64 ≤ 64))
theorem rest_bit {L : List Bool} {ws : List Nat} (h : Bm L ws) (v : Bool) (i j : Nat) (hj : i % 64 + j < 64) : (restOf ws v i).testBit j = (L.getD (i + j) false == v) := by
  unfold restOf
  rw [Nat.testBit_div_two_pow, Nat.add_comm j, kind_bit v _ _ hj, ← h.bit]
  unfold wbit
  have e1 : (i + j) / 64 = i / 64 := by omega
  have e2 : (i + j) % 64 = i % 64 + j := by omega
  rw [e1, e2]
theorem beq_no (a v : Bool) (h : (a == v) = false) : a = !v := by cases a <;> cases v <;> first | rfl | cases h
theorem beq_yes (a v : Bool) (h : (a == v) = true) : a = v := by cases a <;> cases v <;> first | rfl | cases h
theorem rest_none {L : List Bool} {ws : List Nat} (h : Bm L ws) (v : Bool) (i : Nat) (h0 : restOf ws v i = 0) : ∀ j, i ≤ j → j < i + (64 - i % 64) → L.getD j false = !v := fun j h1 h2 => by
  have := rest_bit h v i (j - i) (by omega)
  rw [h0, show i + (j - i) = j by omega] at this
  exact beq_no _ _ (by rw [← this]; simp)
/-- The place that the lowest bit names. -/
theorem rest_some {L : List Bool} {ws : List Nat} (h : Bm L ws) (v : Bool) (i : Nat) (hi : i ≤ L.length) (h0 : restOf ws v i ≠ 0) : Lib.ctz 64 (restOf ws v i) < 64 ∧ NextIs L v i (min (i + Lib.ctz 64 (restOf ws v i)) L.length) := by
  obtain ⟨c1, c2, c3⟩ := ctz_spec _ h0 (rest_lt64 h v i)
  have hlt := rest_lt h v i
  generalize Lib.ctz 64 (restOf ws v i) = c at c1 c2 c3
  have hc : i % 64 + c < 64 := by
    apply Nat.lt_of_not_le
    intro hle
    have : (restOf ws v i).testBit c = false := Nat.testBit_lt_two_pow (Nat.lt_of_lt_of_le hlt (Nat.pow_le_pow_right (by decide) (by omega)))
    rw [c2] at this
    cases this
  refine ⟨c1, by omega, by omega, fun j h1 h2 => ?_, fun hr => ?_⟩
  · have := rest_bit h v i (j - i) (by omega)
    rw [c3 _ (by omega), show i + (j - i) = j by omega] at this
    exact beq_no _ _ this.symm
  · have e : min (i + c) L.length = i + c := by omega
    rw [e]
    have := rest_bit h v i c hc
    rw [c2] at this
    exact beq_yes _ _ this.symm

/-! ### runs -/
/-- From b on n places that are free. -/
def Fits (L : List Bool) (n b : Nat) : Prop := b + n ≤ L.length ∧ ∀ k, k < n → L.getD (b + k) false = false
structure RunIs (L : List Bool) (n a : Nat) : Prop where
  fits : Fits L n a
  least : ∀ b, b < a → ¬ Fits L n b
def RunNone (L : List Bool) (n : Nat) : Prop := ∀ b, ¬ Fits L n b
theorem RunIs.uniq {L : List Bool} {n a b : Nat} (h : RunIs L n a) (k : RunIs L n b) : a = b := by
  rcases Nat.lt_trichotomy a b with h1 | h1 | h1
  · exact absurd h.fits (k.least a h1)
  · exact h1
  · exact absurd k.fits (h.least b h1)
/-- n places from at on. -/
def putL (L : List Bool) (at_ : Nat) (v : Bool) : Nat → List Bool
  | 0 => L
  | n + 1 => (putL L at_ v n).set (at_ + n) v
theorem putL_length (L : List Bool) (at_ : Nat) (v : Bool) : ∀ n, (putL L at_ v n).length = L.length
  | 0 => rfl
  | n + 1 => by simp [putL, putL_length L at_ v n]

/-- One step of the search for a run: from a free place a on, up to the taken one e. -/
theorem run_here {L : List Bool} {n a e : Nat} (h : NextIs L true a e) (hl : ∀ b, b < a → ¬ Fits L n b) (he : n ≤ e - a) : RunIs L n a :=
  ⟨⟨by have := h.le; have := h.ge; omega, fun k hk => h.no (a + k) (by omega) (by omega)⟩, hl⟩
theorem run_on {L : List Bool} {n a e a' : Nat} (h : NextIs L true a e) (k : NextIs L false e a') (h1 : 1 ≤ n) (hl : ∀ b, b < a → ¬ Fits L n b) (he : e - a < n) : ∀ b, b < a' → ¬ Fits L n b := fun b hb hf => by
  have hge := h.ge
  rcases Nat.lt_or_ge b a with h2 | h2
  · exact hl b h2 hf
  · rcases Nat.lt_or_ge b e with h3 | h3
    · have := hf.1
      have h4 := h.yes (by omega)
      have h5 := hf.2 (e - b) (by omega)
      rw [show b + (e - b) = e by omega, h4] at h5
      cases h5
    · have h4 := k.no b h3 hb
      have h5 := hf.2 0 (by omega)
      rw [Nat.add_zero, h4] at h5
      cases h5
theorem run_more {L : List Bool} {a e : Nat} (h : NextIs L true a e) (ha : a < L.length) (hf : L.getD a false = false) : a < e := by
  rcases Nat.lt_or_ge a e with h1 | h1
  · exact h1
  · have : a = e := Nat.le_antisymm h.ge h1
    subst this
    have := h.yes ha
    rw [hf] at this
    cases this
theorem run_end {L : List Bool} {n a : Nat} (h1 : 1 ≤ n) (hl : ∀ b, b < a → ¬ Fits L n b) (ha : L.length ≤ a) : RunNone L n := fun b hf => by
  rcases Nat.lt_or_ge b a with h2 | h2
  · exact hl b h2 hf
  · have := hf.1
    omega
theorem run_first {L : List Bool} {n a : Nat} (h : NextIs L false 0 a) (h1 : 1 ≤ n) : ∀ b, b < a → ¬ Fits L n b := fun b hb hf => by
  have h4 := h.no b (Nat.zero_le _) hb
  have h5 := hf.2 0 (by omega)
  rw [Nat.add_zero, h4] at h5
  cases h5
theorem run_long {L : List Bool} {n : Nat} (h : L.length < n) : RunNone L n := fun b hf => by have := hf.1; omega

/-! ### how many -/
/-- How many of the first N are so. -/
def cnt (f : Nat → Bool) : Nat → Nat
  | 0 => 0
  | n + 1 => cnt f n + (if f n then 1 else 0)
theorem cnt_le (f : Nat → Bool) : ∀ n, cnt f n ≤ n
  | 0 => Nat.le_refl _
  | n + 1 => by
    have := cnt_le f n
    unfold cnt
    split <;> omega
theorem cnt_congr {f g : Nat → Bool} : ∀ n, (∀ i, i < n → f i = g i) → cnt f n = cnt g n
  | 0, _ => rfl
  | n + 1, h => by
    unfold cnt
    rw [cnt_congr n (fun i hi => h i (by omega)), h n (by omega)]
theorem cnt_add (f : Nat → Bool) (a : Nat) : ∀ b, cnt f (a + b) = cnt f a + cnt (fun i => f (a + i)) b
  | 0 => rfl
  | b + 1 => by
    show cnt f (a + b) + (if f (a + b) then 1 else 0) = _
    rw [cnt_add f a b]
    simp [cnt, Nat.add_assoc]
theorem cnt_none {f : Nat → Bool} : ∀ n, (∀ i, i < n → f i = false) → cnt f n = 0
  | 0, _ => rfl
  | n + 1, h => by
    unfold cnt
    rw [cnt_none n (fun i hi => h i (by omega)), h n (by omega)]
    rfl
theorem cnt_not (f : Nat → Bool) : ∀ n, cnt f n + cnt (fun i => !f i) n = n
  | 0 => rfl
  | n + 1 => by
    have := cnt_not f n
    unfold cnt
    cases f n <;> simp <;> omega
/-- How many places are free. -/
def freeN (L : List Bool) : Nat := cnt (fun i => !L.getD i false) L.length
def takenN (L : List Bool) : Nat := cnt (fun i => L.getD i false) L.length
theorem freeN_eq (L : List Bool) : takenN L + freeN L = L.length := cnt_not _ _
/-- The bits that are set in a word, in a row of words. -/
def pop64 (x : Nat) : Nat := cnt (fun j => x.testBit j) 64
theorem pops {L : List Bool} {ws : List Nat} (h : Bm L ws) (k : Nat) : cnt (fun i => L.getD i false) (64 * (k + 1)) = cnt (fun i => L.getD i false) (64 * k) + pop64 (ws.getD k 0) := by
  rw [Nat.mul_add, Nat.mul_one, cnt_add]
  congr 1
  refine cnt_congr 64 (fun j hj => ?_)
  rw [← h.bit]
  unfold wbit
  have e1 : (64 * k + j) / 64 = k := by omega
  have e2 : (64 * k + j) % 64 = j := by omega
  rw [e1, e2]
theorem pops_all {L : List Bool} {ws : List Nat} (h : Bm L ws) : cnt (fun i => L.getD i false) (64 * ws.length) = takenN L := by
  have hl := h.len
  have e : 64 * ws.length = L.length + (64 * ws.length - L.length) := by omega
  rw [e, cnt_add]
  have := cnt_none (f := fun i => L.getD (L.length + i) false) (64 * ws.length - L.length) (fun i _ => getD_out _ _ _ (by omega))
  rw [this]
  rfl

/-! ### new -/
theorem Bm.new (n : Nat) : Bm (List.replicate n false) (List.replicate ((n + 63) / 64) 0) := by
  have hz : ∀ k m, (List.replicate m (0 : Nat)).getD k 0 = 0 := fun k m => by
    by_cases h : k < m
    · rw [getD_in _ _ _ (by simpa using h)]
      simp
    · exact getD_out _ _ _ (by simpa using h)
  refine ⟨by simp, fun k => by rw [hz]; decide, fun i => ?_⟩
  unfold wbit
  rw [hz]
  by_cases h : i < n
  · rw [getD_in _ _ _ (by simpa using h)]
    simp
  · rw [getD_out _ _ _ (by simpa using h)]
    simp
theorem Bm.len1 {L : List Bool} {ws : List Nat} (h : Bm L ws) {i : Nat} (hi : i < L.length) : i / 64 < ws.length := by rw [h.len]; omega

/-! ### bytes -/
def bbit (bs : List UInt8) (i : Nat) : Bool := (bs.getD (i / 8) 0).toNat.testBit (i % 8)
/-- Bytes that tell a list of marks. -/
structure Tells9 (L : List Bool) (bs : List UInt8) : Prop where
  len : bs.length = (L.length + 7) / 8
  bit : ∀ i, bbit bs i = L.getD i false
theorem byte_ext (a b : UInt8) (h : ∀ j, j < 8 → a.toNat.testBit j = b.toNat.testBit j) : a = b := by
  apply UInt8.toNat.inj
  apply Nat.eq_of_testBit_eq
  intro j
  rcases Nat.lt_or_ge j 8 with hj | hj
  · exact h j hj
  · have e : 2 ^ 8 ≤ 2 ^ j := Nat.pow_le_pow_right (by decide) hj
    have h1 := a.toNat_lt
    have h2 := b.toNat_lt
    rw [Nat.testBit_lt_two_pow (Nat.lt_of_lt_of_le h1 e), Nat.testBit_lt_two_pow (Nat.lt_of_lt_of_le h2 e)]
theorem Tells9.uniq {L : List Bool} {a b : List UInt8} (h : Tells9 L a) (k : Tells9 L b) : a = b := by
  have hl : a.length = b.length := h.len.trans k.len.symm
  apply List.ext_getElem hl
  intro i h1 h2
  refine byte_ext _ _ (fun j hj => ?_)
  have e := (h.bit (8 * i + j)).trans (k.bit (8 * i + j)).symm
  unfold bbit at e
  rw [show (8 * i + j) / 8 = i by omega, show (8 * i + j) % 8 = j by omega, getD_in _ _ _ h1, getD_in _ _ _ h2] at e
  exact e
/-- A word's byte. -/
def wbyte (ws : List Nat) (k : Nat) : UInt8 := UInt8.ofNat (ws.getD (k / 8) 0 / 2 ^ (k % 8 * 8))
def wbytes (ws : List Nat) (n : Nat) : List UInt8 := (List.range ((n + 7) / 8)).map (wbyte ws)
theorem wbyte_bit (ws : List Nat) (k j : Nat) (hj : j < 8) : (wbyte ws k).toNat.testBit j = wbit ws (8 * k + j) := by
  unfold wbyte wbit
  have e : (UInt8.ofNat (ws.getD (k / 8) 0 / 2 ^ (k % 8 * 8))).toNat = ws.getD (k / 8) 0 / 2 ^ (k % 8 * 8) % 2 ^ 8 := by simp
  rw [e, Nat.testBit_mod_two_pow, Nat.testBit_div_two_pow]
  have e1 : (8 * k + j) / 64 = k / 8 := by omega
  have e2 : (8 * k + j) % 64 = j + k % 8 * 8 := by omega
  rw [e1, e2]
  simp [hj]
theorem Bm.tells {L : List Bool} {ws : List Nat} (h : Bm L ws) : Tells9 L (wbytes ws L.length) := by
  refine ⟨by simp [wbytes], fun i => ?_⟩
  unfold bbit
  by_cases hi : i / 8 < (L.length + 7) / 8
  · have e : (wbytes ws L.length).getD (i / 8) 0 = wbyte ws (i / 8) := by
      rw [getD_in _ _ _ (by simpa [wbytes] using hi)]
      simp [wbytes]
    rw [e, wbyte_bit _ _ _ (Nat.mod_lt _ (by decide)), h.bit]
    congr 1
    omega
  · rw [getD_out _ _ _ (by simp [wbytes]; omega), getD_out _ _ _ (by omega)]
    simp
/-- The marks that bytes tell. -/
def marksOf (bs : List UInt8) (n : Nat) : List Bool := (List.range n).map (bbit bs)
/-- May these bytes be a map of n places? -/
def mayMap (bs : List UInt8) (n : Nat) : Prop := bs.length = (n + 7) / 8 ∧ (bs.getD ((n + 7) / 8 - 1) 0).toNat / 2 ^ (n - ((n + 7) / 8 - 1) * 8) = 0
theorem marks_get (bs : List UInt8) (n i : Nat) (hi : i < n) : (marksOf bs n).getD i false = bbit bs i := by
  rw [getD_in _ _ _ (by simpa [marksOf] using hi)]
  simp [marksOf]
theorem mayMap.behind {bs : List UInt8} {n : Nat} (h : mayMap bs n) (hn : 1 ≤ n) (i : Nat) (hi : n ≤ i) : bbit bs i = false := by
  unfold bbit
  rcases Nat.lt_or_ge (i / 8) ((n + 7) / 8) with h1 | h1
  · have e : i / 8 = (n + 7) / 8 - 1 := by omega
    have h2 := h.2
    rw [e]
    generalize (bs.getD ((n + 7) / 8 - 1) 0).toNat = x at h2
    have hlt : x < 2 ^ (n - ((n + 7) / 8 - 1) * 8) := by
      have hp := Nat.two_pow_pos (n - ((n + 7) / 8 - 1) * 8)
      rcases Nat.lt_or_ge x (2 ^ (n - ((n + 7) / 8 - 1) * 8)) with h3 | h3
      · exact h3
      · have := Nat.div_pos h3 hp
        omega
    exact Nat.testBit_lt_two_pow (Nat.lt_of_lt_of_le hlt (Nat.pow_le_pow_right (by decide) (by omega)))
  · rw [getD_out _ _ _ (by rw [h.1]; exact h1)]
    simp
theorem mayMap.tells {bs : List UInt8} {n : Nat} (h : mayMap bs n) (hn : 1 ≤ n) : Tells9 (marksOf bs n) bs := by
  refine ⟨by simp [marksOf, h.1], fun i => ?_⟩
  rcases Nat.lt_or_ge i n with h1 | h1
  · rw [marks_get _ _ _ h1]
  · rw [h.behind hn i h1, getD_out _ _ _ (by simpa [marksOf] using h1)]
/-- What was told may be loaded, and is what was told. -/
theorem Tells9.may {L : List Bool} {bs : List UInt8} (h : Tells9 L bs) (hn : 1 ≤ L.length) : mayMap bs L.length ∧ marksOf bs L.length = L := by
  have hd : (bs.getD ((L.length + 7) / 8 - 1) 0).toNat / 2 ^ (L.length - ((L.length + 7) / 8 - 1) * 8) = 0 := by
    apply Nat.eq_of_testBit_eq
    intro j
    rw [Nat.testBit_div_two_pow, Nat.zero_testBit]
    rcases Nat.lt_or_ge (j + (L.length - ((L.length + 7) / 8 - 1) * 8)) 8 with h1 | h1
    · have e := h.bit (L.length + j)
      rw [getD_out _ _ _ (by omega)] at e
      unfold bbit at e
      rw [show (L.length + j) / 8 = (L.length + 7) / 8 - 1 by omega, show (L.length + j) % 8 = j + (L.length - ((L.length + 7) / 8 - 1) * 8) by omega] at e
      exact e
    · exact Nat.testBit_lt_two_pow (Nat.lt_of_lt_of_le (UInt8.toNat_lt _) (Nat.pow_le_pow_right (by decide : 0 < 2) h1))
  refine ⟨⟨h.len, hd⟩, ?_⟩
  apply List.ext_getElem (by simp [marksOf])
  intro i h1 h2
  have := h.bit i
  rw [getD_in _ _ _ h2] at this
  simp [marksOf, this]

/-! ### a map that is being loaded -/
/-- So many bytes are in. -/
structure Part (bs : List UInt8) (m k : Nat) (ws : List Nat) : Prop where
  len : ws.length = m
  lt : ∀ j, ws.getD j 0 < 18446744073709551616
  bit : ∀ i, wbit ws i = (decide (i < 8 * k) && bbit bs i)
theorem Part.zero (bs : List UInt8) (m : Nat) : Part bs m 0 (List.replicate m 0) := by
  have hz : ∀ k, (List.replicate m (0 : Nat)).getD k 0 = 0 := fun k => by
    by_cases h : k < m
    · rw [getD_in _ _ _ (by simpa using h)]
      simp
    · exact getD_out _ _ _ (by simpa using h)
  refine ⟨by simp, fun j => by rw [hz]; decide, fun i => ?_⟩
  unfold wbit
  rw [hz]
  simp
theorem shl_lt (v c : Nat) (hv : v < 256) (hc : c ≤ 56) : v * 2 ^ c < 18446744073709551616 := by
  have h1 : 2 ^ c ≤ 2 ^ 56 := Nat.pow_le_pow_right (by decide) hc
  have h2 : v * 2 ^ c ≤ 255 * 2 ^ 56 := Nat.mul_le_mul (by omega) h1
  omega
theorem Part.step {bs : List UInt8} {m k : Nat} {ws : List Nat} (h : Part bs m k ws) (hm : k / 8 < m) : Part bs m (k + 1) (ws.set (k / 8) (ws.getD (k / 8) 0 ||| (bs.getD k 0).toNat * 2 ^ (k % 8 * 8))) := by
  have hk : k / 8 < ws.length := by rw [h.len]; exact hm
  have hv := (bs.getD k 0).toNat_lt
  refine ⟨by simp [h.len], fun j => ?_, fun i => ?_⟩
  · rw [getD_set _ _ _ _ _ hk]
    split
    · exact Nat.or_lt_two_pow (n := 64) (h.lt _) (shl_lt _ _ hv (by omega))
    · exact h.lt j
  · have hb := h.bit i
    unfold wbit at hb ⊢
    rw [getD_set _ _ _ _ _ hk]
    by_cases e : i / 64 = k / 8
    · rw [if_pos e, ← e, Nat.testBit_or, hb, Nat.testBit_mul_two_pow]
      by_cases h1 : i / 8 = k
      · have e1 : k % 8 * 8 ≤ i % 64 := by omega
        have e2 : i % 64 - k % 8 * 8 = i % 8 := by omega
        have e3 : ¬ i < 8 * k := by omega
        have e4 : i < 8 * (k + 1) := by omega
        simp only [e1, e2, e3, e4, decide_true, decide_false, Bool.true_and, Bool.false_and, Bool.false_or]
        unfold bbit
        rw [h1]
      · rcases Nat.lt_or_ge i (8 * k) with h2 | h2
        · have e1 : ¬ k % 8 * 8 ≤ i % 64 := by omega
          have e4 : i < 8 * (k + 1) := by omega
          simp [h2, e1, e4]
        · have e1 : ¬ i < 8 * k := by omega
          have e4 : ¬ i < 8 * (k + 1) := by omega
          have e5 : (bs.getD k 0).toNat.testBit (i % 64 - k % 8 * 8) = false := Nat.testBit_lt_two_pow (Nat.lt_of_lt_of_le hv (Nat.pow_le_pow_right (by decide : 0 < 2) (by omega : 8 ≤ i % 64 - k % 8 * 8)))
          rw [e5]
          simp [e1, e4]
    · rw [if_neg e, hb]
      congr 1
      exact decide_eq_decide.2 ⟨fun h => by omega, fun h => by omega⟩
theorem Part.done {bs : List UInt8} {n : Nat} {ws : List Nat} (hm : mayMap bs n) (hn : 1 ≤ n) (h : Part bs ((n + 63) / 64) bs.length ws) : Bm (marksOf bs n) ws := by
  have hl : (marksOf bs n).length = n := by simp [marksOf]
  refine ⟨by rw [hl]; exact h.len, h.lt, fun i => ?_⟩
  rw [h.bit, ← (hm.tells hn).bit]
  have := hm.1
  rcases Nat.lt_or_ge i (8 * bs.length) with h1 | h1
  · simp [h1]
  · rw [hm.behind hn i (by omega)]
    simp
end Go.Proofs.YtaenobgpbphlfaaDoor
