/-
  Messages as they lie in memory: all fields, each at its place.
-/
import Derived.Test.YtepiifbleoimkaaDoorMsgI
namespace Go.Proofs.YtepiifbleoimkaaDoor
open Go.RowKit
set_option maxRecDepth 100000

/-- All fields of a message: kinds and places. -/
def places : List (K × Nat) := [(.num 1, 0), (.num 2, 1), (.num 4, 2), (.text, 3), (.num 4, 4), (.num 4, 5), (.num 4, 6), (.text, 7), (.text, 8), (.text, 9), (.num 2, 10), (.texts, 11), (.qids, 12), (.qid, 13),
  (.num 4, 16), (.num 1, 17), (.num 4, 18), (.text, 19), (.num 8, 20), (.num 4, 21), (.data, 22), (.stat, 23)]
/-- A message in a row of cells: m tells the field at each place. -/
structure MgAt (w : World) (lo hi : Nat) (cs : Array Value) (m : Nat → F) : Prop where
  size : cs.size = 36
  kind : ∀ p ∈ places, (m p.2).kind = p.1
  lies : ∀ p ∈ places, FAt w lo hi cs p.2 (m p.2)
theorem StrsAt.wide {w : World} {lo hi lo' hi' : Nat} {v : Value} {L : List (List UInt8)} (h : StrsAt w lo hi v L) (h1 : lo' ≤ lo) (h2 : hi ≤ hi') : StrsAt w lo' hi' v L := by
  obtain ⟨A, c, e, a, b, h3⟩ := h
  refine ⟨A, c, e, a, b, fun hn => ?_⟩
  obtain ⟨ad, e2, b1, b2, hc⟩ := h3 hn
  exact ⟨ad, e2, by omega, by omega, hc⟩
theorem QdsAt.wide {w : World} {lo hi lo' hi' : Nat} {v : Value} {L : List Q3} (h : QdsAt w lo hi v L) (h1 : lo' ≤ lo) (h2 : hi ≤ hi') : QdsAt w lo' hi' v L := by
  obtain ⟨A, c, e, a, b, h3⟩ := h
  refine ⟨A, c, e, a, b, fun hn => ?_⟩
  obtain ⟨ad, e2, b1, b2, hc⟩ := h3 hn
  exact ⟨ad, e2, by omega, by omega, hc⟩
theorem SlIs.wider {w : World} {lo hi lo' hi' : Nat} {v : Value} {L : List UInt8} (h : SlIs w lo hi v L) (h1 : lo' ≤ lo) (h2 : hi ≤ hi') : SlIs w lo' hi' v L := by
  obtain ⟨A, c, e, a, b, h3⟩ := h
  exact ⟨A, c, e, a, b, h3.wide h1 h2⟩
theorem FAt.wide {w : World} {lo hi lo' hi' : Nat} {cs : Array Value} {off : Nat} {f : F} (h : FAt w lo hi cs off f) (h1 : lo' ≤ lo) (h2 : hi ≤ hi') : FAt w lo' hi' cs off f := by
  cases f with
  | texts L => obtain ⟨v, a, b⟩ := h; exact ⟨v, a, b.wide h1 h2⟩
  | qids L => obtain ⟨v, a, b⟩ := h; exact ⟨v, a, b.wide h1 h2⟩
  | data L => obtain ⟨v, a, b⟩ := h; exact ⟨v, a, b.wider h1 h2⟩
  | num n x => exact h
  | text l => exact h
  | qid q => exact h
  | stat s => exact h
theorem size_pos (k : K) : 1 ≤ k.size := by cases k <;> simp [K.size]
/-- Only its own cells matter. -/
theorem FAt.cells {w : World} {lo hi : Nat} {cs cs' : Array Value} {off : Nat} {f : F} (h : FAt w lo hi cs off f) (hc : ∀ j, j < f.kind.size → cs'[off + j]? = cs[off + j]?) : FAt w lo hi cs' off f := by
  have h0 : cs'[off]? = cs[off]? := hc 0 (size_pos _)
  cases f with
  | texts L => obtain ⟨v, a, b⟩ := h; exact ⟨v, h0.trans a, b⟩
  | qids L => obtain ⟨v, a, b⟩ := h; exact ⟨v, h0.trans a, b⟩
  | data L => obtain ⟨v, a, b⟩ := h; exact ⟨v, h0.trans a, b⟩
  | num n x => exact h0.trans h
  | text l => exact h0.trans h
  | qid q => exact ⟨h0.trans h.1, (hc 1 (show 1 < 3 by decide)).trans h.2.1, (hc 2 (show 2 < 3 by decide)).trans h.2.2⟩
  | stat s => exact fun j hj => (hc j hj).trans (h j hj)
theorem MgAt.keep {w w' : World} {lo hi : Nat} {cs : Array Value} {m : Nat → F} (h : MgAt w lo hi cs m) (hk : ∀ p : Addr, lo ≤ p.block → p.block < hi → w'.cell? p = w.cell? p) : MgAt w' lo hi cs m :=
  ⟨h.size, h.kind, fun p hp => (h.lies p hp).keep hk⟩
theorem MgAt.wide {w : World} {lo hi lo' hi' : Nat} {cs : Array Value} {m : Nat → F} (h : MgAt w lo hi cs m) (h1 : lo' ≤ lo) (h2 : hi ≤ hi') : MgAt w lo' hi' cs m :=
  ⟨h.size, h.kind, fun p hp => (h.lies p hp).wide h1 h2⟩
/-- No place lies on another. -/
theorem places_apart : ∀ p ∈ places, ∀ q ∈ places, p = q ∨ p.2 + p.1.size ≤ q.2 ∨ q.2 + q.1.size ≤ p.2 := by decide
theorem places_in : ∀ p ∈ places, p.2 + p.1.size ≤ 36 := by decide
def upd (m : Nat → F) (off : Nat) (f : F) (i : Nat) : F := if i = off then f else m i
theorem upd_same (m : Nat → F) (off : Nat) (f : F) : upd m off f off = f := if_pos rfl
theorem upd_other (m : Nat → F) {off i : Nat} (f : F) (h : i ≠ off) : upd m off f i = m i := if_neg h
/-- A field is put in its place. -/
theorem MgAt.put {w w' : World} {lo hi hi' : Nat} {cs cs' : Array Value} {m : Nat → F} {p : K × Nat} {f : F} (h : MgAt w lo hi cs m) (hp : p ∈ places) (hf : f.kind = p.1) (hh : hi ≤ hi') (hs : cs'.size = cs.size)
    (hk : ∀ q : Addr, lo ≤ q.block → q.block < hi → w'.cell? q = w.cell? q) (ha : FAt w' lo hi' cs' p.2 f) (ho : ∀ i, i < p.2 ∨ p.2 + p.1.size ≤ i → cs'[i]? = cs[i]?) : MgAt w' lo hi' cs' (upd m p.2 f) := by
  refine ⟨by rw [hs, h.size], fun q hq => ?_, fun q hq => ?_⟩
  · rcases places_apart p hp q hq with rfl | hd
    · rw [upd_same]
      exact hf
    · have := size_pos p.1
      have := size_pos q.1
      rw [upd_other _ _ (by omega)]
      exact h.kind q hq
  · rcases places_apart p hp q hq with rfl | hd
    · rw [upd_same]
      exact ha
    · have := size_pos p.1
      have := size_pos q.1
      rw [upd_other _ _ (by omega)]
      have hq1 := h.kind q hq
      exact (((h.lies q hq).keep hk).wide (Nat.le_refl _) hh).cells (fun j hj => ho _ (by rw [hq1] at hj; omega))
/-- What Types name are places, each once. -/
theorem named_places {t : Nat} (h : isType t) : ((namedOf t).getD []).all (fun p => places.contains p) = true ∧ (((namedOf t).getD []).map (·.2)).Nodup := by
  rcases isType_cases h with rfl | rfl | rfl | rfl | rfl | rfl | rfl | rfl | rfl | rfl | rfl | rfl | rfl | rfl | rfl | rfl | rfl | rfl | rfl | rfl | rfl | rfl | rfl | rfl | rfl | rfl | rfl <;> exact ⟨by decide, by decide⟩
theorem named_mem {t : Nat} {l : List (K × Nat)} (h : namedOf t = some l) : (∀ p ∈ l, p ∈ places) ∧ (l.map (·.2)).Nodup := by
  have := named_places (isType_named h)
  rw [h] at this
  exact ⟨fun p hp => by simpa using List.all_eq_true.1 this.1 p hp, this.2⟩
/-- The fields that a Type names. -/
def fieldsOf (m : Nat → F) (l : List (K × Nat)) : List F := l.map fun p => m p.2
theorem fieldsOf_upd (m : Nat → F) (l : List (K × Nat)) (j : Nat) (h : j < l.length) (f : F) (hd : (l.map (·.2)).Nodup) : fieldsOf (upd m l[j].2 f) (l.take (j + 1)) = fieldsOf m (l.take j) ++ [f] := by
  unfold fieldsOf
  rw [List.take_succ_eq_append_getElem h, List.map_append, List.map_singleton, upd_same]
  congr 1
  apply List.map_congr_left
  intro p hp
  refine upd_other _ _ fun he => ?_
  obtain ⟨i, hi, rfl⟩ := List.getElem_of_mem hp
  rw [List.length_take] at hi
  rw [List.getElem_take] at he
  have hij := (List.getElem_inj (i := i) (j := j) (h₀ := by simp; omega) (h₁ := by simp; omega) hd).1 (by simpa using he)
  omega
theorem MgAt.fs {w : World} {lo hi : Nat} {cs : Array Value} {m : Nat → F} {t : Nat} {l : List (K × Nat)} (h : MgAt w lo hi cs m) (hl : namedOf t = some l) (hok : ∀ f ∈ fieldsOf m l, f.Ok ∧ f.Few) : FsAt w lo hi cs l (fieldsOf m l) := by
  refine ⟨by simp [fieldsOf], fun j h1 h2 => ?_⟩
  have hp := (named_mem hl).1 l[j] (List.getElem_mem h1)
  have e : (fieldsOf m l)[j] = m l[j].2 := by simp [fieldsOf]
  have ho := hok _ (List.getElem_mem h2)
  rw [e] at ho ⊢
  exact ⟨h.kind _ hp, h.lies _ hp, ho.1, ho.2⟩
/-- Its cells are single ones. -/
theorem FAt.one {w : World} {lo hi : Nat} {cs : Array Value} {off : Nat} {f : F} (h : FAt w lo hi cs off f) {j : Nat} (hj : j < f.kind.size) : ∃ v, cs[off + j]? = some v ∧ v.oneCell' = true := by
  cases f with
  | texts L =>
    obtain ⟨v, a, A, c, rfl, _⟩ := h
    have : j = 0 := by have : j < 1 := hj; omega
    subst this
    exact ⟨_, a, rfl⟩
  | qids L =>
    obtain ⟨v, a, A, c, rfl, _⟩ := h
    have : j = 0 := by have : j < 1 := hj; omega
    subst this
    exact ⟨_, a, rfl⟩
  | data L =>
    obtain ⟨v, a, A, c, rfl, _⟩ := h
    have : j = 0 := by have : j < 1 := hj; omega
    subst this
    exact ⟨_, a, rfl⟩
  | num n x =>
    have : j = 0 := by have : j < 1 := hj; omega
    subst this
    exact ⟨_, h, rfl⟩
  | text l =>
    have : j = 0 := by have : j < 1 := hj; omega
    subst this
    exact ⟨_, h, rfl⟩
  | qid q =>
    obtain ⟨a, b, c⟩ := h
    have hj3 : j < 3 := hj
    match j, hj3 with
    | 0, _ => exact ⟨_, a, rfl⟩
    | 1, _ => exact ⟨_, b, rfl⟩
    | 2, _ => exact ⟨_, c, rfl⟩
  | stat s =>
    have hj3 : j < 13 := hj
    have hs : s.cells.size = 13 := rfl
    have h1 := s.one
    rw [Array.all_eq_true] at h1
    refine ⟨s.cells[j]'(by omega), ?_, h1 j (by omega)⟩
    rw [h j hj3]
    simp [hs, hj3]
theorem places_all : ∀ i, i < 36 → ∃ p ∈ places, ∃ j, j < p.1.size ∧ i = p.2 + j := by
  intro i hi
  have h : places.any (fun p => decide (p.2 ≤ i) && decide (i < p.2 + p.1.size)) = true := by
    revert i
    decide
  obtain ⟨p, hp, hq⟩ := List.any_eq_true.1 h
  simp only [Bool.and_eq_true, decide_eq_true_eq] at hq
  exact ⟨p, hp, i - p.2, by omega, by omega⟩
theorem MgAt.one {w : World} {lo hi : Nat} {cs : Array Value} {m : Nat → F} (h : MgAt w lo hi cs m) : cs.all (fun x => x.oneCell') = true := by
  rw [Array.all_eq_true]
  intro i hi
  obtain ⟨p, hp, j, hj, rfl⟩ := places_all i (by rw [← h.size]; exact hi)
  obtain ⟨v, hv, h1⟩ := (h.lies p hp).one (j := j) (by rw [h.kind p hp]; exact hj)
  have : cs[p.2 + j] = v := by
    have := hv
    rw [Array.getElem?_eq_getElem hi] at this
    injection this
  rw [this]
  exact h1
/-- A message that has but its Type and Tag. -/
def zeroCells (t tag : Nat) : Array Value := #[.int .u8 (t : Int), .int .u16 (tag : Int), .int .u32 0, .string ⟨#[]⟩, .int .u32 0, .int .u32 0, .int .u32 0, .string ⟨#[]⟩, .string ⟨#[]⟩, .string ⟨#[]⟩, .int .u16 0, .slice none 0 0, .slice none 0 0,
  .int .u8 0, .int .u32 0, .int .u64 0, .int .u32 0, .int .u8 0, .int .u32 0, .string ⟨#[]⟩, .int .u64 0, .int .u32 0, .slice none 0 0,
  .int .u16 0, .int .u32 0, .int .u8 0, .int .u32 0, .int .u64 0, .int .u32 0, .int .u32 0, .int .u32 0, .int .u64 0, .string ⟨#[]⟩, .string ⟨#[]⟩, .string ⟨#[]⟩, .string ⟨#[]⟩]
def K.zero : K → F
  | .num n => .num n 0
  | .text => .text []
  | .texts => .texts []
  | .qid => .qid Q3.zero
  | .qids => .qids []
  | .data => .data []
  | .stat => .stat S11.zero
def kindAt (off : Nat) : K := ((places.find? fun p => p.2 == off).map (·.1)).getD .text
def zeroM (t tag off : Nat) : F := if off = 0 then .num 1 t else if off = 1 then .num 2 tag else (kindAt off).zero
theorem strs_nil (w : World) (lo hi : Nat) : StrsAt w lo hi (.slice none 0 0) [] := ⟨none, 0, rfl, Nat.le_refl _, by simp [maxLen], fun h => absurd h (by simp)⟩
theorem qds_nil (w : World) (lo hi : Nat) : QdsAt w lo hi (.slice none 0 0) [] := ⟨none, 0, rfl, Nat.le_refl _, by simp [maxLen], fun h => absurd h (by simp)⟩
theorem sl_nil (w : World) (lo hi : Nat) : SlIs w lo hi (.slice none 0 0) [] := ⟨none, 0, rfl, Nat.le_refl _, by simp [maxLen], Rd.empty _ _ _ _⟩
theorem zero_at (w : World) (lo hi t tag : Nat) : MgAt w lo hi (zeroCells t tag) (zeroM t tag) := by
  refine ⟨rfl, ?_, ?_⟩
  · intro p hp
    simp only [places, List.mem_cons, List.not_mem_nil, or_false] at hp
    rcases hp with rfl | rfl | rfl | rfl | rfl | rfl | rfl | rfl | rfl | rfl | rfl | rfl | rfl | rfl | rfl | rfl | rfl | rfl | rfl | rfl | rfl | rfl <;> rfl
  · intro p hp
    simp only [places, List.mem_cons, List.not_mem_nil, or_false] at hp
    rcases hp with rfl | rfl | rfl | rfl | rfl | rfl | rfl | rfl | rfl | rfl | rfl | rfl | rfl | rfl | rfl | rfl | rfl | rfl | rfl | rfl | rfl | rfl
    all_goals first | exact ⟨_, rfl, strs_nil _ _ _⟩ | exact ⟨_, rfl, qds_nil _ _ _⟩ | exact ⟨_, rfl, sl_nil _ _ _⟩ | exact rfl | exact ⟨rfl, rfl, rfl⟩ | skip
    intro j hj
    match j, hj with
    | 0, _ => rfl
    | 1, _ => rfl
    | 2, _ => rfl
    | 3, _ => rfl
    | 4, _ => rfl
    | 5, _ => rfl
    | 6, _ => rfl
    | 7, _ => rfl
    | 8, _ => rfl
    | 9, _ => rfl
    | 10, _ => rfl
    | 11, _ => rfl
    | 12, _ => rfl
end Go.Proofs.YtepiifbleoimkaaDoor
