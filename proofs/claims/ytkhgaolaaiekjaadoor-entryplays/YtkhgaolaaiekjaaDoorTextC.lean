/-
  Package text: Name and Words over whatever text, by what the library's ContainsFunc and FieldsFunc say of bytes.
-/
import Derived.Test.YtkhgaolaaiekjaaDoorRefTextB
namespace Go.Proofs.YtkhgaolaaiekjaaDoor
open Go.RowKit Go.Lib

/-- What a decoder's answer says of the bytes that it takes. -/
theorem dec_bytes {l : List UInt8} (h : l.length ≠ 0) :
    1 ≤ (dec l).2 ∧ (dec l).2 ≤ l.length ∧ (((dec l).2 = 1 ∧ (dec l).1 = byteAt l 0 ∧ byteAt l 0 < 128) ∨ (128 ≤ (dec l).1 ∧ ∀ j, j < (dec l).2 → 128 ≤ byteAt l j)) := by
  have hw := dec_wid h
  have hl := wid_le l
  by_cases hb : byteAt l 0 < 128
  · have e : dec l = (byteAt l 0, 1) := by simp [dec, decodeN, hb]
    rw [e]
    exact ⟨Nat.le_refl _, by simp only; omega, .inl ⟨rfl, rfl, hb⟩⟩
  · change (wid l = 0 ∧ _) ∨ (0 < wid l ∧ _ = wid l ∧ (_ ∨ 1 < wid l) ∧ _) at hw
    rcases hw with ⟨h0, e⟩ | ⟨h0, e, hv, ha⟩
    · rw [e]
      refine ⟨Nat.le_refl _, by simp only; omega, .inr ⟨by simp only; omega, fun j hj => ?_⟩⟩
      simp only at hj
      rw [show j = 0 by omega]
      omega
    · refine ⟨by omega, by omega, .inr ⟨?_, fun j hj => ?_⟩⟩
      · refine Decidable.byContradiction fun hc => ?_
        have := ha (by omega)
        omega
      · rw [e] at hj
        by_cases hj0 : j = 0
        · subst hj0; omega
        · exact (wid_tail hj (by omega)).1

theorem dec_bytes_at {l : List UInt8} {pos : Nat} (h : pos < l.length) :
    1 ≤ (dec (l.drop pos)).2 ∧ pos + (dec (l.drop pos)).2 ≤ l.length ∧
      (((dec (l.drop pos)).2 = 1 ∧ (dec (l.drop pos)).1 = byteAt l pos ∧ byteAt l pos < 128) ∨ (128 ≤ (dec (l.drop pos)).1 ∧ ∀ j, pos ≤ j → j < pos + (dec (l.drop pos)).2 → 128 ≤ byteAt l j)) := by
  have hd : (l.drop pos).length = l.length - pos := List.length_drop
  obtain ⟨h1, h2, h3⟩ := dec_bytes (l := l.drop pos) (by omega)
  refine ⟨h1, by omega, ?_⟩
  rcases h3 with ⟨a, b, c⟩ | ⟨a, b⟩
  · rw [byteAt_drop, Nat.add_zero] at b c
    exact .inl ⟨a, b, c⟩
  · refine .inr ⟨a, fun j j1 j2 => ?_⟩
    have := b (j - pos) (by omega)
    rwa [byteAt_drop, show pos + (j - pos) = j by omega] at this

theorem idx_from (p : Nat → Bool) (hp : ∀ r, p r = true → r < 128) (l : List UInt8) : ∀ (f pos : Nat), l.length ≤ pos + f →
    (0 ≤ idxFuncFrom p true (strOf l) f pos ↔ ∃ j, pos ≤ j ∧ j < l.length ∧ p (byteAt l j) = true)
  | 0, pos, h => by
    simp only [idxFuncFrom]
    constructor
    · intro hh; omega
    · rintro ⟨j, _, _, _⟩; omega
  | f + 1, pos, h => by
    simp only [idxFuncFrom, strOf_size, decode_list]
    by_cases hps : pos < l.length
    · rw [if_pos hps]
      obtain ⟨h1, h2, h3⟩ := dec_bytes_at hps
      by_cases hq : p (dec (l.drop pos)).1 = true
      · rw [if_pos hq]
        have := hp _ hq
        refine ⟨fun _ => ⟨pos, Nat.le_refl _, hps, ?_⟩, fun _ => by omega⟩
        rcases h3 with ⟨_, b, _⟩ | ⟨a, _⟩
        · rw [← b]; exact hq
        · omega
      · rw [if_neg hq, idx_from p hp l f _ (by omega)]
        constructor
        · rintro ⟨j, j1, j2, j3⟩
          exact ⟨j, by omega, j2, j3⟩
        · rintro ⟨j, j1, j2, j3⟩
          refine ⟨j, ?_, j2, j3⟩
          refine Decidable.byContradiction fun hc => ?_
          rcases h3 with ⟨a, b, _⟩ | ⟨_, b⟩
          · have : j = pos := by omega
            subst this
            rw [b] at hq
            exact hq j3
          · have := b j j1 (by omega)
            have := hp _ j3
            omega
    · rw [if_neg hps]
      constructor
      · intro hh; omega
      · rintro ⟨j, _, _, _⟩; omega

/-- What isOutsideNames says of a rune. -/
def outR (r : Nat) : Bool := decide (r < 32) || decide (r = 47)
theorem idx_outR (l : List UInt8) : decide (0 ≤ idxFunc outR true (strOf l)) = l.any outB := by
  have h := idx_from outR (fun r hr => by simp [outR] at hr; omega) l l.length 0 (by omega)
  have e : idxFunc outR true (strOf l) = idxFuncFrom outR true (strOf l) l.length 0 := by rw [idxFunc, strOf_size]
  rw [e]
  by_cases ha : l.any outB = true
  · rw [ha]
    refine decide_eq_true (h.2 ?_)
    rw [List.any_eq_true] at ha
    obtain ⟨c, hc, ho⟩ := ha
    obtain ⟨k, hk, e⟩ := byteAt_mem hc
    exact ⟨k, Nat.zero_le _, hk, by rw [e]; exact ho⟩
  · rw [Bool.not_eq_true] at ha
    rw [ha]
    refine decide_eq_false fun hx => ?_
    obtain ⟨j, _, j2, j3⟩ := h.1 hx
    have : l.any outB = true := any_at j2 (by simpa [outR] using j3)
    rw [ha] at this
    cases this

theorem Tryd.enterOutside : ∀ args w, (callFunc 61 args).run Tryd.prog w = .ok (.enter 61 args) w := enters_of Tryd.func61 (by kernel_rfl) rfl

theorem outside_pays (w : World) : PredAtRunes Tryd.prog 61 #[] outR w := by
  intro W x hx _
  unfold FnGives
  rw [Array.append_empty]
  by_cases h1 : x < 32
  · have d : (x : Int) < 32 := by omega
    have e : outR x = true := by simp [outR, h1]
    rw [e]
    go_enter Tryd.func61, Tryd.ntmps61
    go_wp2
    go_ret
    exact ⟨rfl, 0, rfl⟩
  · have d : decide ((x : Int) < 32) = false := decide_eq_false (by omega)
    by_cases h2 : x = 47
    · subst h2
      go_enter Tryd.func61, Tryd.ntmps61
      go_wp2
      go_ret
      exact ⟨rfl, 0, rfl⟩
    · have e : outR x = false := by simp only [outR, decide_eq_false h1, decide_eq_false h2, Bool.or_self]
      have d2 : ((x : Int) == 47) = false := by simp; omega
      rw [e]
      go_enter Tryd.func61, Tryd.ntmps61
      go_wp2
      go_ret
      exact ⟨rfl, 0, rfl⟩

set_option maxHeartbeats 1000000 in
set_option maxRecDepth 100000 in
theorem name_any (l : List UInt8) (w : World) (hT : Tabs w) (hl : l.length ≤ 9223372036854775806) :
    Calls Tryd.prog 43 #[.string (strOf l)] w fun e w' => e = .returned (.int .i64 (nameOf l)) ∧ Below w.heap.size w w' := by
  have hz : (strOf l).size = l.length := strOf_size l
  have hL : (strOf l).toList = l := strOf_list l
  have C := Lib.hid (valid_any l w hT hl)
  clear hT
  obtain ⟨N, hN⟩ : ∃ N, N = nameOf l := ⟨_, rfl⟩
  rw [← hN]
  by_cases hv : wrongOf l = 0
  · rw [decide_eq_true hv] at C
    by_cases h1 : l = []
    · have e : N = 6 := by rw [hN, nameOf_first (.inr (.inl h1))]
      have q1 : l.isEmpty = true := by rw [h1]; rfl
      clear hN hv h1
      subst e
      go_enter Tryd.func43, Tryd.ntmps43
      go_wp2_with fail
      refine C.out.mono ?_
      rintro e w' ⟨rfl, hb⟩
      have R := Lib.hid hb
      clear hb C
      go_wp2
      go_ret
      exact ⟨rfl, R.out⟩
    have q1 : l.isEmpty = false := by
      cases l with
      | nil => exact absurd rfl h1
      | cons _ _ => rfl
    by_cases h2 : l = [46]
    · have e : N = 6 := by rw [hN, nameOf_first (.inr (.inr (.inl h2)))]
      have q2 : (l == [46]) = true := by rw [h2]; rfl
      clear hN hv h2 h1
      subst e
      go_enter Tryd.func43, Tryd.ntmps43
      go_wp2_with fail
      refine C.out.mono ?_
      rintro e w' ⟨rfl, hb⟩
      have R := Lib.hid hb
      clear hb C
      go_wp2
      go_ret
      exact ⟨rfl, R.out⟩
    have q2 : (l == [46]) = false := by simpa using h2
    by_cases h3 : l = [46, 46]
    · have e : N = 6 := by rw [hN, nameOf_first (.inr (.inr (.inr (.inl h3))))]
      have q3 : (l == [46, 46]) = true := by rw [h3]; rfl
      clear hN hv h2 h1 h3
      subst e
      go_enter Tryd.func43, Tryd.ntmps43
      go_wp2_with fail
      refine C.out.mono ?_
      rintro e w' ⟨rfl, hb⟩
      have R := Lib.hid hb
      clear hb C
      go_wp2
      go_ret
      exact ⟨rfl, R.out⟩
    have q3 : (l == [46, 46]) = false := by simpa using h3
    have hN0 : N = if l.any outB = true then 6 else if 28 < l.length then 3 else 0 := by
      by_cases ha : l.any outB = true
      · rw [if_pos ha, hN, nameOf_first (.inr (.inr (.inr (.inr ha))))]
      · rw [if_neg ha, hN, nameOf_last]
        rintro (h' | h' | h' | h' | h')
        · exact h' hv
        · exact h1 h'
        · exact h2 h'
        · exact h3 h'
        · exact ha h'
    have HN := Lib.hid hN0
    clear hN0 hN h1 h2 h3 hv
    go_enter Tryd.func43, Tryd.ntmps43
    go_wp2_with fail
    refine C.out.mono ?_
    rintro e w1 ⟨rfl, hb⟩
    have R := Lib.hid hb
    clear hb C
    have C := Lib.hid (Tryd.strings_ContainsFunc_runes 61 #[] Tryd.enterOutside outR (strOf l) w1 (outside_pays w1))
    rw [idx_outR] at C
    go_wp2_with fail
    refine C.out.mono ?_
    rintro e w2 ⟨rfl, hb⟩
    have R2 : Hid (Below w.heap.size w w2) := R.out.trans (hb.mono R.out.size)
    clear hb C R
    have hn := HN.out
    clear HN
    generalize l.any outB = o at hn
    cases o with
    | true =>
      rw [if_pos rfl] at hn
      subst hn
      go_wp2
      go_ret
      exact ⟨rfl, R2.out⟩
    | false =>
      rw [if_neg (by simp)] at hn
      by_cases h28 : 28 < l.length
      · rw [if_pos h28] at hn
        subst hn
        have d : (28 : Int) < (l.length : Int) := by omega
        go_wp2
        go_ret
        exact ⟨rfl, R2.out⟩
      · rw [if_neg h28] at hn
        subst hn
        have d : decide ((28 : Int) < (l.length : Int)) = false := decide_eq_false (by omega)
        clear h28 hl q1 q2 q3 hL
        go_wp2
        go_ret
        exact ⟨rfl, R2.out⟩
  · rw [decide_eq_false hv] at C
    have e : N = 6 := by rw [hN, nameOf_first (.inl hv)]
    clear hN hv
    subst e
    go_enter Tryd.func43, Tryd.ntmps43
    go_wp2_with fail
    refine C.out.mono ?_
    rintro e w' ⟨rfl, hb⟩
    have R := Lib.hid hb
    clear hb C
    go_wp2
    go_ret
    exact ⟨rfl, R.out⟩

/-- What stands from a to b. -/
def piece (l : List UInt8) (a b : Nat) : List UInt8 := (l.drop a).take (b - a)
/-- The words of the first k places, and where the next one begins. -/
def wst (l : List UInt8) : Nat → List (List UInt8) × Nat
  | 0 => ([], 0)
  | k + 1 => if k = l.length ∨ byteAt l k = 47 then (if (wst l k).2 < k then (wst l k).1 ++ [piece l (wst l k).2 k] else (wst l k).1, k + 1) else wst l k
/-- The parts between slashes, those that are empty left out. -/
def wordsOf (l : List UInt8) : List (List UInt8) := (wst l (l.length + 1)).1
theorem wst_le (l : List UInt8) (k : Nat) : (wst l k).2 ≤ k := by
  induction k with
  | zero => simp [wst]
  | succ k ih =>
    simp only [wst]
    split
    · exact Nat.le_refl _
    · omega
theorem wst_slash {l : List UInt8} {k : Nat} (h : k = l.length ∨ byteAt l k = 47) : wst l (k + 1) = (if (wst l k).2 < k then (wst l k).1 ++ [piece l (wst l k).2 k] else (wst l k).1, k + 1) := by rw [wst, if_pos h]
theorem wst_other {l : List UInt8} {k : Nat} (h : ¬ (k = l.length ∨ byteAt l k = 47)) : wst l (k + 1) = wst l k := by rw [wst, if_neg h]
theorem wst_skip (l : List UInt8) (k : Nat) : ∀ m, (∀ j, k ≤ j → j < k + m → j ≠ l.length ∧ byteAt l j ≠ 47) → wst l (k + m) = wst l k
  | 0, _ => rfl
  | m + 1, h => by
    rw [← Nat.add_assoc, wst_other (by have := h (k + m) (by omega) (by omega); omega), wst_skip l k m (fun j j1 j2 => h j j1 (by omega))]

def slashR (r : Nat) : Bool := decide (r = 47)
theorem spans_from (l : List UInt8) : ∀ (f pos : Nat) (st : Option Nat) (acc : List (Nat × Nat)), l.length ≤ pos + f → pos ≤ l.length →
    st = (if (wst l pos).2 < pos then some (wst l pos).2 else none) → acc.map (fun x => piece l x.1 x.2) = (wst l pos).1 →
    (closeSpans (strOf l) (spansFromP slashR (strOf l) f pos st acc)).map (fun x => piece l x.1 x.2) = wordsOf l
  | 0, pos, st, acc, h, hp, hst, hacc => by
    have : pos = l.length := by omega
    subst this
    exact spans_end l st acc hst hacc
  | f + 1, pos, st, acc, h, hp, hst, hacc => by
    by_cases hps : pos < l.length
    · have hps' : pos < (strOf l).size := by rw [strOf_size]; exact hps
      simp only [spansFromP, if_pos hps', decode_list]
      obtain ⟨h1, h2, h3⟩ := dec_bytes_at hps
      by_cases hq : slashR (dec (l.drop pos)).1 = true
      · rw [if_pos hq]
        have hR : (dec (l.drop pos)).1 = 47 := by simpa [slashR] using hq
        have hb : byteAt l pos = 47 ∧ (dec (l.drop pos)).2 = 1 := by
          rcases h3 with ⟨a, b, _⟩ | ⟨a, _⟩
          · exact ⟨by rw [← b]; exact hR, a⟩
          · omega
        have hw := wst_slash (l := l) (k := pos) (.inr hb.1)
        rw [hb.2]
        by_cases ha : (wst l pos).2 < pos
        · rw [if_pos ha] at hst hw
          subst hst
          refine spans_from l f (pos + 1) none _ (by omega) (by omega) ?_ ?_
          · rw [hw]; simp
          · rw [hw, List.map_append, hacc]; rfl
        · rw [if_neg ha] at hst hw
          subst hst
          refine spans_from l f (pos + 1) none _ (by omega) (by omega) ?_ ?_
          · rw [hw]; simp
          · rw [hw, hacc]
      · rw [if_neg hq]
        have hR : (dec (l.drop pos)).1 ≠ 47 := by simpa [slashR] using hq
        have hs : wst l (pos + (dec (l.drop pos)).2) = wst l pos := wst_skip l pos _ (fun j j1 j2 => by
          refine ⟨by omega, ?_⟩
          rcases h3 with ⟨a, b, _⟩ | ⟨_, b⟩
          · have : j = pos := by omega
            subst this
            rw [← b]; exact hR
          · have := b j j1 j2
            omega)
        have hle := wst_le l pos
        by_cases ha : (wst l pos).2 < pos
        · rw [if_pos ha] at hst
          subst hst
          refine spans_from l f _ (some _) acc (by omega) h2 ?_ ?_
          · rw [hs, if_pos (by omega)]
          · rw [hs, hacc]
        · rw [if_neg ha] at hst
          subst hst
          refine spans_from l f _ (some pos) acc (by omega) h2 ?_ ?_
          · rw [hs, if_pos (by omega), show (wst l pos).2 = pos by omega]
          · rw [hs, hacc]
    · have : pos = l.length := by omega
      subst this
      rw [spansFromP_end _ _ _ _ _ _ (by rw [strOf_size]; omega)]
      exact spans_end l st acc hst hacc
where
  spans_end (l : List UInt8) (st : Option Nat) (acc : List (Nat × Nat)) (hst : st = (if (wst l l.length).2 < l.length then some (wst l l.length).2 else none)) (hacc : acc.map (fun x => piece l x.1 x.2) = (wst l l.length).1) :
      (closeSpans (strOf l) (acc, st)).map (fun x => piece l x.1 x.2) = wordsOf l := by
    rw [wordsOf, wst_slash (.inl rfl)]
    by_cases ha : (wst l l.length).2 < l.length
    · rw [if_pos ha] at hst
      subst hst
      rw [if_pos ha]
      simp only [closeSpans, List.map_append, hacc, List.map_cons, List.map_nil, strOf_size]
    · rw [if_neg ha] at hst
      subst hst
      rw [if_neg ha]
      simp only [closeSpans, hacc]
theorem fields_eq (l : List UInt8) : goFieldsP slashR (strOf l) = (wordsOf l).map strOf := by
  have h := spans_from l l.length 0 none [] (by omega) (Nat.zero_le _) (by simp) rfl
  rw [← h, goFieldsP, spansOfP, strOf_size, List.map_map]
  congr 1
  funext x
  exact strOf_extract l x.1 x.2

/-- Texts as values. -/
def strs (ws : List (List UInt8)) : List Value := ws.map fun x => Value.string (strOf x)
/-- What a call that answers a row of new texts leaves. -/
def WordsStep (w : World) (ws : List (List UInt8)) (e : Ending) (w' : World) : Prop :=
  ∃ v, e = .returned v ∧ w'.ownsRow w.heap.size 9 1 v ws.length (strs ws) ∧ Below w.heap.size w w'

end Go.Proofs.YtkhgaolaaiekjaaDoor
