/-
  Messages as they lie in memory: all fields, each at its place.
  Package msg: whole: the message that an In is, to its end.
  Package msg: whole, Decode.
  Package msg: Decode of whatever bytes.
-/
import Derived.Test.YtepiifbleoimkaaGreatDoorPackMsgB
namespace Go.Proofs.YtepiifbleoimkaaGreatDoor
open Go.RowKit
set_option maxRecDepth 100000

/-- All fields of a message: kinds and places. -/
def places : List (K × Nat) := [(.num 1, 0), (.num 2, 1), (.num 4, 2), (.text, 3), (.num 4, 4), (.num 4, 5), (.num 4, 6), (.text, 7), (.text, 8), (.text, 9), (.num 2, 10), (.texts, 11), (.qids, 12), (.qid, 13),
  (.num 4, 16), (.num 1, 17), (.num 4, 18), (.text, 19), (.num 8, 20), (.num 4, 21), (.data, 22), (.stat, 23)]
/-- A message in a row of cells: m tells the field at each place. -/
structure MgAt (w : World) (lo hi : Nat) (cs : Array Value) (m : Nat → F) : Prop where
  size : cs.size = 36
  kind : ∀ p ∈ places, (m p.2).kind = p.1
  lies : ∀ p ∈ places, FAt w lo hi cs p.2 (m p.2)
theorem StrsAt.wide {w : World} {lo hi lo' hi' : Nat} {v : Value} {L : List (List UInt8)} (h : StrsAt w lo hi v L) (h1 : lo' ≤ lo) (h2 : hi ≤ hi') : StrsAt w lo' hi' v L := by
  obtain ⟨A, c, e, a, b, h3⟩ := h
  refine ⟨A, c, e, a, b, fun hn => ?_⟩
  obtain ⟨ad, e2, b1, b2, hc⟩ := h3 hn
  exact ⟨ad, e2, by omega, by omega, hc⟩
theorem QdsAt.wide {w : World} {lo hi lo' hi' : Nat} {v : Value} {L : List Q3} (h : QdsAt w lo hi v L) (h1 : lo' ≤ lo) (h2 : hi ≤ hi') : QdsAt w lo' hi' v L := by
  obtain ⟨A, c, e, a, b, h3⟩ := h
  refine ⟨A, c, e, a, b, fun hn => ?_⟩
  obtain ⟨ad, e2, b1, b2, hc⟩ := h3 hn
  exact ⟨ad, e2, by omega, by omega, hc⟩
theorem SlIs.wider {w : World} {lo hi lo' hi' : Nat} {v : Value} {L : List UInt8} (h : SlIs w lo hi v L) (h1 : lo' ≤ lo) (h2 : hi ≤ hi') : SlIs w lo' hi' v L := by
  obtain ⟨A, c, e, a, b, h3⟩ := h
  exact ⟨A, c, e, a, b, h3.wide h1 h2⟩
theorem FAt.wide {w : World} {lo hi lo' hi' : Nat} {cs : Array Value} {off : Nat} {f : F} (h : FAt w lo hi cs off f) (h1 : lo' ≤ lo) (h2 : hi ≤ hi') : FAt w lo' hi' cs off f := by
  cases f with
  | texts L => obtain ⟨v, a, b⟩ := h; exact ⟨v, a, b.wide h1 h2⟩
  | qids L => obtain ⟨v, a, b⟩ := h; exact ⟨v, a, b.wide h1 h2⟩
  | data L => obtain ⟨v, a, b⟩ := h; exact ⟨v, a, b.wider h1 h2⟩
  | num n x => exact h
  | text l => exact h
  | qid q => exact h
  | stat s => exact h
theorem size_pos (k : K) : 1 ≤ k.size := by cases k <;> simp [K.size]
/-- Only its own cells matter. -/
theorem FAt.cells {w : World} {lo hi : Nat} {cs cs' : Array Value} {off : Nat} {f : F} (h : FAt w lo hi cs off f) (hc : ∀ j, j < f.kind.size → cs'[off + j]? = cs[off + j]?) : FAt w lo hi cs' off f := by
  have h0 : cs'[off]? = cs[off]? := hc 0 (size_pos _)
  cases f with
  | texts L => obtain ⟨v, a, b⟩ := h; exact ⟨v, h0.trans a, b⟩
  | qids L => obtain ⟨v, a, b⟩ := h; exact ⟨v, h0.trans a, b⟩
  | data L => obtain ⟨v, a, b⟩ := h; exact ⟨v, h0.trans a, b⟩
  | num n x => exact h0.trans h
  | text l => exact h0.trans h
  | qid q => exact ⟨h0.trans h.1, (hc 1 (show 1 < 3 by decide)).trans h.2.1, (hc 2 (show 2 < 3 by decide)).trans h.2.2⟩
  | stat s => exact fun j hj => (hc j hj).trans (h j hj)
theorem MgAt.keep {w w' : World} {lo hi : Nat} {cs : Array Value} {m : Nat → F} (h : MgAt w lo hi cs m) (hk : ∀ p : Addr, lo ≤ p.block → p.block < hi → w'.cell? p = w.cell? p) : MgAt w' lo hi cs m :=
  ⟨h.size, h.kind, fun p hp => (h.lies p hp).keep hk⟩
theorem MgAt.wide {w : World} {lo hi lo' hi' : Nat} {cs : Array Value} {m : Nat → F} (h : MgAt w lo hi cs m) (h1 : lo' ≤ lo) (h2 : hi ≤ hi') : MgAt w lo' hi' cs m :=
  ⟨h.size, h.kind, fun p hp => (h.lies p hp).wide h1 h2⟩
/-- No place lies on another. -/
theorem places_apart : ∀ p ∈ places, ∀ q ∈ places, p = q ∨ p.2 + p.1.size ≤ q.2 ∨ q.2 + q.1.size ≤ p.2 := by decide
theorem places_in : ∀ p ∈ places, p.2 + p.1.size ≤ 36 := by decide
def upd (m : Nat → F) (off : Nat) (f : F) (i : Nat) : F := if i = off then f else m i
theorem upd_same (m : Nat → F) (off : Nat) (f : F) : upd m off f off = f := if_pos rfl
theorem upd_other (m : Nat → F) {off i : Nat} (f : F) (h : i ≠ off) : upd m off f i = m i := if_neg h
/-- A field is put in its place. -/
theorem MgAt.put {w w' : World} {lo hi hi' : Nat} {cs cs' : Array Value} {m : Nat → F} {p : K × Nat} {f : F} (h : MgAt w lo hi cs m) (hp : p ∈ places) (hf : f.kind = p.1) (hh : hi ≤ hi') (hs : cs'.size = cs.size)
    (hk : ∀ q : Addr, lo ≤ q.block → q.block < hi → w'.cell? q = w.cell? q) (ha : FAt w' lo hi' cs' p.2 f) (ho : ∀ i, i < p.2 ∨ p.2 + p.1.size ≤ i → cs'[i]? = cs[i]?) : MgAt w' lo hi' cs' (upd m p.2 f) := by
  refine ⟨by rw [hs, h.size], fun q hq => ?_, fun q hq => ?_⟩
  · rcases places_apart p hp q hq with rfl | hd
    · rw [upd_same]
      exact hf
    · have := size_pos p.1
      have := size_pos q.1
      rw [upd_other _ _ (by omega)]
      exact h.kind q hq
  · rcases places_apart p hp q hq with rfl | hd
    · rw [upd_same]
      exact ha
    · have := size_pos p.1
      have := size_pos q.1
      rw [upd_other _ _ (by omega)]
      have hq1 := h.kind q hq
      exact (((h.lies q hq).keep hk).wide (Nat.le_refl _) hh).cells (fun j hj => ho _ (by rw [hq1] at hj; omega))
/-- What Types name are places, each once. -/
theorem named_places {t : Nat} (h : isType t) : ((namedOf t).getD []).all (fun p => places.contains p) = true ∧ (((namedOf t).getD []).map (·.2)).Nodup := by
  rcases isType_cases h with rfl | rfl | rfl | rfl | rfl | rfl | rfl | rfl | rfl | rfl | rfl | rfl | rfl | rfl | rfl | rfl | rfl | rfl | rfl | rfl | rfl | rfl | rfl | rfl | rfl | rfl | rfl <;> exact ⟨by decide, by decide⟩
theorem named_mem {t : Nat} {l : List (K × Nat)} (h : namedOf t = some l) : (∀ p ∈ l, p ∈ places) ∧ (l.map (·.2)).Nodup := by
  have := named_places (isType_named h)
  rw [h] at this
  exact ⟨fun p hp => by simpa using List.all_eq_true.1 this.1 p hp, this.2⟩
/-- The fields that a Type names. -/
def fieldsOf (m : Nat → F) (l : List (K × Nat)) : List F := l.map fun p => m p.2
theorem fieldsOf_upd (m : Nat → F) (l : List (K × Nat)) (j : Nat) (h : j < l.length) (f : F) (hd : (l.map (·.2)).Nodup) : fieldsOf (upd m l[j].2 f) (l.take (j + 1)) = fieldsOf m (l.take j) ++ [f] := by
  unfold fieldsOf
  rw [List.take_succ_eq_append_getElem h, List.map_append, List.map_singleton, upd_same]
  congr 1
  apply List.map_congr_left
  intro p hp
  refine upd_other _ _ fun he => ?_
  obtain ⟨i, hi, rfl⟩ := List.getElem_of_mem hp
  rw [List.length_take] at hi
  rw [List.getElem_take] at he
  have hij := (List.getElem_inj (i := i) (j := j) (h₀ := by simp; omega) (h₁ := by simp; omega) hd).1 (by simpa using he)
  omega
theorem MgAt.fs {w : World} {lo hi : Nat} {cs : Array Value} {m : Nat → F} {t : Nat} {l : List (K × Nat)} (h : MgAt w lo hi cs m) (hl : namedOf t = some l) (hok : ∀ f ∈ fieldsOf m l, f.Ok ∧ f.Few) : FsAt w lo hi cs l (fieldsOf m l) := by
  refine ⟨by simp [fieldsOf], fun j h1 h2 => ?_⟩
  have hp := (named_mem hl).1 l[j] (List.getElem_mem h1)
  have e : (fieldsOf m l)[j] = m l[j].2 := by simp [fieldsOf]
  have ho := hok _ (List.getElem_mem h2)
  rw [e] at ho ⊢
  exact ⟨h.kind _ hp, h.lies _ hp, ho.1, ho.2⟩
/-- Its cells are single ones. -/
theorem FAt.one {w : World} {lo hi : Nat} {cs : Array Value} {off : Nat} {f : F} (h : FAt w lo hi cs off f) {j : Nat} (hj : j < f.kind.size) : ∃ v, cs[off + j]? = some v ∧ v.oneCell' = true := by
  cases f with
  | texts L =>
    obtain ⟨v, a, A, c, rfl, _⟩ := h
    have : j = 0 := by have : j < 1 := hj; omega
    subst this
    exact ⟨_, a, rfl⟩
  | qids L =>
    obtain ⟨v, a, A, c, rfl, _⟩ := h
    have : j = 0 := by have : j < 1 := hj; omega
    subst this
    exact ⟨_, a, rfl⟩
  | data L =>
    obtain ⟨v, a, A, c, rfl, _⟩ := h
    have : j = 0 := by have : j < 1 := hj; omega
    subst this
    exact ⟨_, a, rfl⟩
  | num n x =>
    have : j = 0 := by have : j < 1 := hj; omega
    subst this
    exact ⟨_, h, rfl⟩
  | text l =>
    have : j = 0 := by have : j < 1 := hj; omega
    subst this
    exact ⟨_, h, rfl⟩
  | qid q =>
    obtain ⟨a, b, c⟩ := h
    have hj3 : j < 3 := hj
    match j, hj3 with
    | 0, _ => exact ⟨_, a, rfl⟩
    | 1, _ => exact ⟨_, b, rfl⟩
    | 2, _ => exact ⟨_, c, rfl⟩
  | stat s =>
    have hj3 : j < 13 := hj
    have hs : s.cells.size = 13 := rfl
    have h1 := s.one
    rw [Array.all_eq_true] at h1
    refine ⟨s.cells[j]'(by omega), ?_, h1 j (by omega)⟩
    rw [h j hj3]
    simp [hs, hj3]
theorem places_all : ∀ i, i < 36 → ∃ p ∈ places, ∃ j, j < p.1.size ∧ i = p.2 + j := by
  intro i hi
  have h : places.any (fun p => decide (p.2 ≤ i) && decide (i < p.2 + p.1.size)) = true := by
    revert i
    decide
  obtain ⟨p, hp, hq⟩ := List.any_eq_true.1 h
  simp only [Bool.and_eq_true, decide_eq_true_eq] at hq
  exact ⟨p, hp, i - p.2, by omega, by omega⟩
theorem MgAt.one {w : World} {lo hi : Nat} {cs : Array Value} {m : Nat → F} (h : MgAt w lo hi cs m) : cs.all (fun x => x.oneCell') = true := by
  rw [Array.all_eq_true]
  intro i hi
  obtain ⟨p, hp, j, hj, rfl⟩ := places_all i (by rw [← h.size]; exact hi)
  obtain ⟨v, hv, h1⟩ := (h.lies p hp).one (j := j) (by rw [h.kind p hp]; exact hj)
  have : cs[p.2 + j] = v := by
    have := hv
    rw [Array.getElem?_eq_getElem hi] at this
    injection this
  rw [this]
  exact h1
/-- A message that has but its Type and Tag. -/
def zeroCells (t tag : Nat) : Array Value := #[.int .u8 (t : Int), .int .u16 (tag : Int), .int .u32 0, .string ⟨#[]⟩, .int .u32 0, .int .u32 0, .int .u32 0, .string ⟨#[]⟩, .string ⟨#[]⟩, .string ⟨#[]⟩, .int .u16 0, .slice none 0 0, .slice none 0 0,
  .int .u8 0, .int .u32 0, .int .u64 0, .int .u32 0, .int .u8 0, .int .u32 0, .string ⟨#[]⟩, .int .u64 0, .int .u32 0, .slice none 0 0,
  .int .u16 0, .int .u32 0, .int .u8 0, .int .u32 0, .int .u64 0, .int .u32 0, .int .u32 0, .int .u32 0, .int .u64 0, .string ⟨#[]⟩, .string ⟨#[]⟩, .string ⟨#[]⟩, .string ⟨#[]⟩]
def K.zero : K → F
  | .num n => .num n 0
  | .text => .text []
  | .texts => .texts []
  | .qid => .qid Q3.zero
  | .qids => .qids []
  | .data => .data []
  | .stat => .stat S11.zero
def kindAt (off : Nat) : K := ((places.find? fun p => p.2 == off).map (·.1)).getD .text
def zeroM (t tag off : Nat) : F := if off = 0 then .num 1 t else if off = 1 then .num 2 tag else (kindAt off).zero
theorem strs_nil (w : World) (lo hi : Nat) : StrsAt w lo hi (.slice none 0 0) [] := ⟨none, 0, rfl, Nat.le_refl _, by simp [maxLen], fun h => absurd h (by simp)⟩
theorem qds_nil (w : World) (lo hi : Nat) : QdsAt w lo hi (.slice none 0 0) [] := ⟨none, 0, rfl, Nat.le_refl _, by simp [maxLen], fun h => absurd h (by simp)⟩
theorem sl_nil (w : World) (lo hi : Nat) : SlIs w lo hi (.slice none 0 0) [] := ⟨none, 0, rfl, Nat.le_refl _, by simp [maxLen], Rd.empty _ _ _ _⟩
theorem zero_at (w : World) (lo hi t tag : Nat) : MgAt w lo hi (zeroCells t tag) (zeroM t tag) := by
  refine ⟨rfl, ?_, ?_⟩
  · intro p hp
    simp only [places, List.mem_cons, List.not_mem_nil, or_false] at hp
    rcases hp with rfl | rfl | rfl | rfl | rfl | rfl | rfl | rfl | rfl | rfl | rfl | rfl | rfl | rfl | rfl | rfl | rfl | rfl | rfl | rfl | rfl | rfl <;> rfl
  · intro p hp
    simp only [places, List.mem_cons, List.not_mem_nil, or_false] at hp
    rcases hp with rfl | rfl | rfl | rfl | rfl | rfl | rfl | rfl | rfl | rfl | rfl | rfl | rfl | rfl | rfl | rfl | rfl | rfl | rfl | rfl | rfl | rfl
    all_goals first | exact ⟨_, rfl, strs_nil _ _ _⟩ | exact ⟨_, rfl, qds_nil _ _ _⟩ | exact ⟨_, rfl, sl_nil _ _ _⟩ | exact rfl | exact ⟨rfl, rfl, rfl⟩ | skip
    intro j hj
    match j, hj with
    | 0, _ => rfl
    | 1, _ => rfl
    | 2, _ => rfl
    | 3, _ => rfl
    | 4, _ => rfl
    | 5, _ => rfl
    | 6, _ => rfl
    | 7, _ => rfl
    | 8, _ => rfl
    | 9, _ => rfl
    | 10, _ => rfl
    | 11, _ => rfl
    | 12, _ => rfl
end Go.Proofs.YtepiifbleoimkaaGreatDoor
namespace Go.Proofs.YtepiifbleoimkaaGreatDoor
open Go.RowKit
set_option maxRecDepth 100000

/-- The message that bytes are: its Type, its Tag, what the Type names. -/
def decM (bs : List UInt8) : Option (Nat × Nat × List F) :=
  (tkN 1 bs).bind fun a => (tkN 2 a.2).bind fun b => (namedOf a.1).bind fun l => (tkL (l.map (·.1)) b.2).bind fun x => if x.2 = [] then some (a.1, b.1, x.1) else none
def WholeStep (w : World) (g : Nat) (r : Option (Nat × Nat × List F)) (e : Ending) (w' : World) : Prop :=
  match r with
  | none => e = .panicked [{ v := .iface 35 (.int .i64 2), recovered := false }] ∧ Only (fun i => i = g) w w'
  | some (t, tag, fs) => ∃ cs m l, e = .returned (.agg cs) ∧ MgAt w' w.heap.size w'.heap.size cs m ∧ m 0 = .num 1 t ∧ m 1 = .num 2 tag ∧ namedOf t = some l ∧ fieldsOf m l = fs ∧ (∀ p ∈ places, (m p.2).Ok ∧ (m p.2).Few) ∧ Only (fun i => i = g) w w'
/-- What is told once Type and Tag are taken. -/
def endOf (t tag : Nat) (r : Option (List F × List UInt8)) : Option (Nat × Nat × List F) := r.bind fun x => if x.2 = [] then some (t, tag, x.1) else none
theorem decM_known {bs : List UInt8} {t tag : Nat} {b1 b3 : List UInt8} {e1 e3 : Int} {l : List (K × Nat)} (h1 : takeSt 1 bs 0 = (t, b1, e1)) (h2 : takeSt 2 b1 e1 = (tag, b3, e3)) (hl : namedOf t = some l) :
    decM bs = endOf t tag (if e3 = 0 then tkL (l.map (·.1)) b3 else none) := by
  have a1 := @tkN_of 1 bs 0
  have n1 := @tkN_none 1 bs
  have a2 := @tkN_of 2 b1 e1
  have n2 := @tkN_none 2 b1
  rw [show takeSt ((1 : Nat) : Int) bs 0 = (t, b1, e1) from h1] at a1 n1
  rw [show takeSt ((2 : Nat) : Int) b1 e1 = (tag, b3, e3) from h2] at a2
  simp only at a1 n1 a2
  unfold decM
  by_cases h3 : e3 = 0
  · obtain ⟨h0, x2⟩ := a2 h3
    obtain ⟨_, x1⟩ := a1 h0
    rw [if_pos h3, x1, Option.bind_some]
    simp only
    rw [x2, Option.bind_some, hl, Option.bind_some]
    rfl
  · rw [if_neg h3]
    by_cases h0 : e1 = 0
    · obtain ⟨_, x1⟩ := a1 h0
      rw [x1, Option.bind_some]
      simp only
      rw [h0] at h2
      rw [n2 (by rw [show takeSt ((2 : Nat) : Int) b1 0 = (tag, b3, e3) from h2]; exact h3)]
      rfl
    · rw [n1 h0]
      rfl
theorem decM_unknown {bs : List UInt8} {t : Nat} {b1 : List UInt8} {e1 : Int} (h1 : takeSt 1 bs 0 = (t, b1, e1)) (hl : namedOf t = none) : decM bs = none := by
  have a1 := @tkN_of 1 bs 0
  have n1 := @tkN_none 1 bs
  rw [show takeSt ((1 : Nat) : Int) bs 0 = (t, b1, e1) from h1] at a1 n1
  simp only at a1 n1
  unfold decM
  by_cases h0 : e1 = 0
  · obtain ⟨_, x1⟩ := a1 h0
    rw [x1, Option.bind_some]
    simp only
    cases tkN 2 b1 with
    | none => rfl
    | some b =>
      rw [Option.bind_some, hl]
      rfl
  · rw [n1 h0]
    rfl
def preL (L : List F) (r : Option (List F × List UInt8)) : Option (List F × List UInt8) := r.map fun y => (L ++ y.1, y.2)
theorem preL_nil (r : Option (List F × List UInt8)) : preL [] r = r := by cases r <;> rfl
theorem tkL_step {k : K} {ks : List K} {bs r : List UInt8} {f : F} {L : List F} (h : tkF k bs = some (f, r)) : preL L (tkL (k :: ks) bs) = preL (L ++ [f]) (tkL ks r) := by
  rw [tkL, h, Option.bind_some]
  cases tkL ks r <;> simp [preL]
theorem tkL_stop {k : K} {ks : List K} {bs : List UInt8} {L : List F} (h : tkF k bs = none) : preL L (tkL (k :: ks) bs) = none := by
  rw [tkL, h]
  rfl
/-- At the loop's head: j fields are taken. -/
structure WI (w : World) (lo g mb gg t tag : Nat) (l : List (K × Nat)) (n : Nat) (r0 : Option (List F × List UInt8)) (j : Nat) (rest : List UInt8) (er : Int) (cs : Array Value) (m : Nat → F) (wr : World) : Prop where
  inn : InAt wr lo g rest er
  msg : Has wr mb 34 cs
  res : Has wr w.heap.size 34 (zeroCells 0 0)
  lst : ∀ i (h : i < l.length), wr.cell? ⟨gg, i, none⟩ = some (fieldV mb l[i])
  gap : 0 < l.length → mb < gg ∧ gg < wr.heap.size
  low : Only (fun i => i = g) w wr
  mg : MgAt wr (mb + 1) wr.heap.size cs m
  zer : ∀ p ∈ places, p ∉ l.take j → m p.2 = zeroM t tag p.2
  yes : er = 0 → r0 = preL (fieldsOf m (l.take j)) (tkL ((l.drop j).map (·.1)) rest)
  no : er ≠ 0 → r0 = none
  few : rest.length ≤ n
theorem WI.step {w wr w2 : World} {lo g mb gg t tag : Nat} {l : List (K × Nat)} {n : Nat} {r0 : Option (List F × List UInt8)} {j : Nat} {rest rest' : List UInt8} {er er' : Int} {cs cs' : Array Value} {m : Nat → F} {f : F}
    (I : WI w lo g mb gg t tag l n r0 j rest er cs m wr) (hj : j < l.length) (hg : lo ≤ g ∧ g < w.heap.size) (hmb : w.heap.size < mb) (hpl : ∀ p ∈ l, p ∈ places) (hnd : (l.map (·.2)).Nodup)
    (hf : f.kind = l[j].1) (hm : Has w2 mb 34 cs') (hs : cs'.size = cs.size) (ha : FAt w2 wr.heap.size w2.heap.size cs' l[j].2 f) (ho : ∀ i, i < l[j].2 ∨ l[j].2 + l[j].1.size ≤ i → cs'[i]? = cs[i]?)
    (i2 : InAt w2 lo g rest' er') (k2 : Only (fun i => i = g ∨ i = mb) wr w2) (hl : rest'.length ≤ rest.length) (hy : er' = 0 → tkE l[j].1 rest er = some (f, rest')) (hn : er' ≠ 0 → tkE l[j].1 rest er = none) :
    WI w lo g mb gg t tag l n r0 (j + 1) rest' er' cs' (upd m l[j].2 f) w2 := by
  have hsz := I.low.size
  have hs2 := k2.size
  have hml := I.msg.lt
  have hpj := hpl l[j] (List.getElem_mem hj)
  have hgap := I.gap (by omega)
  have hdrop : (l.drop j).map (·.1) = l[j].1 :: (l.drop (j + 1)).map (·.1) := by rw [List.drop_eq_getElem_cons hj, List.map_cons]
  have kk : ∀ q : Addr, mb + 1 ≤ q.block → q.block < wr.heap.size → w2.cell? q = wr.cell? q := k2.keeps (Nat.le_refl _) (fun i hi _ h => by omega)
  refine ⟨i2, hm, I.res.only k2 (by omega), fun i hi => (kk ⟨gg, i, none⟩ (by simp only; omega) (by simp only; omega)).trans (I.lst i hi), fun _ => ⟨hgap.1, by omega⟩, I.low.trans k2 (fun i hi h => by omega), ?_, ?_, ?_, ?_, by have := I.few; omega⟩
  · exact I.mg.put hpj hf hs2 hs kk (ha.wide (by omega) (Nat.le_refl _)) ho
  · intro p hp hnl
    rw [List.take_succ_eq_append_getElem hj] at hnl
    simp only [List.mem_append, List.mem_singleton, not_or] at hnl
    rw [upd_other _ _ ?_]
    · exact I.zer p hp hnl.1
    · intro he
      rcases places_apart p hp l[j] hpj with h | h
      · exact hnl.2 h
      · have := size_pos p.1
        have := size_pos l[j].1
        omega
  · intro h0
    have hE := hy h0
    have her : er = 0 := Decidable.byContradiction fun hne => by rw [tkE, if_neg hne] at hE; cases hE
    rw [tkE, if_pos her] at hE
    rw [I.yes her, hdrop, tkL_step hE, fieldsOf_upd m l j hj f hnd]
  · intro h0
    have hE := hn h0
    by_cases her : er = 0
    · rw [tkE, if_pos her] at hE
      rw [I.yes her, hdrop, tkL_stop hE]
    · exact I.no her
theorem WI.stop {w wr : World} {lo g mb gg t tag : Nat} {l : List (K × Nat)} {n : Nat} {r0 : Option (List F × List UInt8)} {j : Nat} {rest : List UInt8} {er : Int} {cs : Array Value} {m : Nat → F}
    (I : WI w lo g mb gg t tag l n r0 j rest er cs m wr) (hj : j < l.length) (hn : tkE l[j].1 rest er = none) : r0 = none := by
  have hdrop : (l.drop j).map (·.1) = l[j].1 :: (l.drop (j + 1)).map (·.1) := by rw [List.drop_eq_getElem_cons hj, List.map_cons]
  by_cases her : er = 0
  · rw [tkE, if_pos her] at hn
    rw [I.yes her, hdrop, tkL_stop hn]
  · exact I.no her
theorem zeroF_ok {t tag : Nat} (h1 : t < 256) (h2 : tag < 65536) : ∀ p ∈ places, (zeroM t tag p.2).Ok ∧ (zeroM t tag p.2).Few := by
  have hq : Q3.zero.Ok := ⟨by decide, by decide, by decide⟩
  intro p hp
  simp only [places, List.mem_cons, List.not_mem_nil, or_false] at hp
  rcases hp with rfl | rfl | rfl | rfl | rfl | rfl | rfl | rfl | rfl | rfl | rfl | rfl | rfl | rfl | rfl | rfl | rfl | rfl | rfl | rfl | rfl | rfl
  · exact ⟨⟨by decide, by decide, h1⟩, trivial⟩
  · exact ⟨⟨by decide, by decide, h2⟩, trivial⟩
  all_goals first
    | exact ⟨⟨by decide, by decide, by decide⟩, trivial⟩
    | exact ⟨trivial, (by decide : (0 : Nat) ≤ 1000)⟩
    | exact ⟨trivial, (by decide : (0 : Nat) ≤ 100000)⟩
    | exact ⟨trivial, (by decide : (0 : Nat) ≤ 1000), fun l hl => absurd hl (by simp)⟩
    | exact ⟨fun q hq => absurd hq (by simp), (by decide : (0 : Nat) ≤ 1000)⟩
    | exact ⟨hq, trivial⟩
    | exact ⟨⟨by decide, by decide, hq, by decide, by decide, by decide, by decide⟩, ⟨by decide, by decide, by decide, by decide⟩⟩
/-- No Type names Type or Tag. -/
def stdT (l : List (K × Nat)) : Bool := l.all fun p => decide (2 ≤ p.2)
theorem named_stdT {t : Nat} (h : isType t) : stdT ((namedOf t).getD []) = true := by
  rcases isType_cases h with rfl | rfl | rfl | rfl | rfl | rfl | rfl | rfl | rfl | rfl | rfl | rfl | rfl | rfl | rfl | rfl | rfl | rfl | rfl | rfl | rfl | rfl | rfl | rfl | rfl | rfl | rfl <;> decide
theorem named_noT {t : Nat} {l : List (K × Nat)} (h : namedOf t = some l) : stdT l = true := by
  have := named_stdT (isType_named h)
  rw [h] at this
  exact this
/-- Behind the loop. -/
theorem WI.fin {w wr : World} {lo g mb gg t tag : Nat} {l : List (K × Nat)} {n : Nat} {b3 : List UInt8} {e3 : Int} {cs : Array Value} {m : Nat → F} (I : WI w lo g mb gg t tag l n (if e3 = 0 then tkL (l.map (·.1)) b3 else none) l.length [] 0 cs m wr)
    (hl : namedOf t = some l) (h1 : t < 256) (h2 : tag < 65536) : endOf t tag (if e3 = 0 then tkL (l.map (·.1)) b3 else none) = some (t, tag, fieldsOf m l) ∧ m 0 = .num 1 t ∧ m 1 = .num 2 tag ∧ ∀ p ∈ places, (m p.2).Ok ∧ (m p.2).Few := by
  have hr := I.yes rfl
  rw [List.take_length, List.drop_length] at hr
  simp only [List.map_nil, tkL, preL, Option.map_some, List.append_nil] at hr
  obtain ⟨hpl, hnd⟩ := named_mem hl
  obtain ⟨hstd, _⟩ := named_std hl
  have hok : ∀ f ∈ fieldsOf m l, f.Ok ∧ f.Few := by
    by_cases h3 : e3 = 0
    · rw [if_pos h3] at hr
      exact (tkL_some _ _ _ _ (fun k hk => by obtain ⟨p, hp, rfl⟩ := List.mem_map.1 hk; exact (hstd p hp).2.1) hr).2.2.2
    · rw [if_neg h3] at hr
      cases hr
  have hz := I.zer
  rw [List.take_length] at hz
  have n0 : ((K.num 1, 0) : K × Nat) ∉ l := fun h => by
    have h0 : stdT l = true := named_noT hl
    exact absurd (List.all_eq_true.1 h0 _ h) (by decide)
  have n1 : ((K.num 2, 1) : K × Nat) ∉ l := fun h => by
    have h0 : stdT l = true := named_noT hl
    exact absurd (List.all_eq_true.1 h0 _ h) (by decide)
  refine ⟨by rw [endOf, hr]; simp, hz (.num 1, 0) (by decide) n0, hz (.num 2, 1) (by decide) n1, fun p hp => ?_⟩
  by_cases hpm : p ∈ l
  · exact hok _ (List.mem_map.2 ⟨p, hpm, rfl⟩)
  · rw [hz p hp hpm]
    exact zeroF_ok h1 h2 p hp
end Go.Proofs.YtepiifbleoimkaaGreatDoor
namespace Go.Proofs.YtepiifbleoimkaaGreatDoor
open Go.RowKit
set_option maxRecDepth 100000

theorem Tryz.msgSize : (Tryz.prog.info? 34).map (·.size) = some 36 := by kernel_rfl

/-- A whole struct is loaded; is stored. -/
theorem load_struct {P : Program} {ops : Array Oper} {rest : List Oper} {o : Oper} {a : Act} {w : World} {Q : Exit → Act → World → Prop} {ty : TypeId} {n : Nat} {d : TypeDesc} (hu : P.underlying ty = some d) (hd : (match d with | .struct _ | .array _ _ => true | _ => false) = true)
    (hi : (P.info? ty).map (·.size) = some n) (g : Nat) (cs : Array Value) (x : Operand) (hgd : o.guard = none) (ho : o.op = .load ty x) (hx : a.eval x = .pointer (some ⟨g, 0, none⟩)) {t : TypeId} (hg : Has w g t cs) (hs : cs.size = n)
    (h : wpList P ops Q rest (a.put o.dst (.agg cs)) w) : wpList P ops Q (o :: rest) a w :=
  wpList_load_row hgd ty x ho g hx t cs (0, 0) d hg hu hd (by rw [hs]; exact hi) h
theorem load_structG {P : Program} {ops : Array Oper} {rest : List Oper} {o : Oper} {a : Act} {w : World} {Q : Exit → Act → World → Prop} {ty : TypeId} {n : Nat} {d : TypeDesc} (hu : P.underlying ty = some d) (hd : (match d with | .struct _ | .array _ _ => true | _ => false) = true)
    (hi : (P.info? ty).map (·.size) = some n) (g : Nat) (cs : Array Value) (x : Operand) (hw : Region.wanted o (yielded ops a.tmps) = true) (ho : o.op = .load ty x) (hx : a.eval x = .pointer (some ⟨g, 0, none⟩)) {t : TypeId} (hg : Has w g t cs) (hs : cs.size = n)
    (h : wpList P ops Q rest (a.put o.dst (.agg cs)) w) : wpList P ops Q (o :: rest) a w :=
  BigFrame.wpList_want hw fun _ hK => wp_load_row ty x ho g hx t cs (0, 0) d hg hu hd (by rw [hs]; exact hi) (hK _ _ h)
theorem store_struct {P : Program} {ops : Array Oper} {rest : List Oper} {o : Oper} {a : Act} {w : World} {Q : Exit → Act → World → Prop} {ty : TypeId} {n : Nat} (hi : (P.info? ty).map (·.size) = some n) (g : Nat) (cs : Array Value) (x y : Operand) (hgd : o.guard = none) (ho : o.op = .store ty x y)
    (hx : a.eval x = .pointer (some ⟨g, 0, none⟩)) (hy : a.eval y = .agg cs) {t : TypeId} {old : Array Value} (hg : Has w g t old) (hold : old.size = n) (hs : cs.size = n) (h1 : cs.all (fun x => x.oneCell') = true)
    (h : wpList P ops Q rest (a.put o.dst undef) (w.setRow g cs)) : wpList P ops Q (o :: rest) a w :=
  wpList_store_row hgd ty x y ho g cs hx hy t old hg (by rw [hs]; exact hi) (by rw [hold, hs]) h1 h

theorem build_struct {P : Program} {ops : Array Oper} {rest : List Oper} {o : Oper} {a : Act} {w : World} {Q : Exit → Act → World → Prop} (ty : TypeId) (parts : Array (Nat × Operand)) (cs : Array Value) (hgd : o.guard = none) (ho : o.op = .build ty parts)
    (hb : P.built ty (parts.map fun (i, x) => (i, a.eval x)).toList = some cs) (h : wpList P ops Q rest (a.put o.dst (.agg cs)) w) : wpList P ops Q (o :: rest) a w :=
  wpList_build hgd ty parts ho (by rw [hb]; rfl) (by rw [hb]; exact h)
theorem Tryz.builtMsg (t tag : Int) : Tryz.prog.built 34 [(0, .int .u8 t), (1, .int .u16 tag)] = some #[.int .u8 t, .int .u16 tag, .int .u32 0, .string ⟨#[]⟩, .int .u32 0, .int .u32 0, .int .u32 0, .string ⟨#[]⟩, .string ⟨#[]⟩, .string ⟨#[]⟩, .int .u16 0, .slice none 0 0, .slice none 0 0,
  .int .u8 0, .int .u32 0, .int .u64 0, .int .u32 0, .int .u8 0, .int .u32 0, .string ⟨#[]⟩, .int .u64 0, .int .u32 0, .slice none 0 0,
  .int .u16 0, .int .u32 0, .int .u8 0, .int .u32 0, .int .u64 0, .int .u32 0, .int .u32 0, .int .u32 0, .int .u64 0, .string ⟨#[]⟩, .string ⟨#[]⟩, .string ⟨#[]⟩, .string ⟨#[]⟩] := by kernel_rfl
theorem zero_one (t tag : Nat) : (zeroCells t tag).all (fun x => x.oneCell') = true := by simp [zeroCells, Value.oneCell']

set_option maxHeartbeats 4000000 in
theorem whole_any (lo g : Nat) (bs : List UInt8) (w : World) (hI : InAt w lo g bs 0) (hT : Tabs w) (hgt : 1 < g ∧ 2 < g) (hb : bs.length ≤ 100000) :
    Calls Tryz.prog 16 #[.pointer (some ⟨g, 0, none⟩)] w (WholeStep w g (decM bs)) := by
  have hgl := hI.lt
  have k0 : Only (fun _ => False) w (w.alloc (.cells (zeroCells 0 0) 34)) := (Only.refl _ w).alloc _
  have r0 : Has (w.alloc (.cells (zeroCells 0 0) 34)) w.heap.size 34 (zeroCells 0 0) := Has.new _ _ _
  have c1 := take_any lo g 1 bs 0 (w.alloc (.cells (zeroCells 0 0) 34)) (hI.only k0 (fun _ _ _ h => h))
  have c2 : Calls Tryz.prog 36 #[.pointer (some ⟨g, 0, none⟩), .int .i64 1] (w.alloc (.cells (zeroCells 0 0) 34)) (fun e w' => e = .returned (.int .u64 (takeSt 1 bs 0).1) ∧ InAt w' lo g (takeSt 1 bs 0).2.1 (takeSt 1 bs 0).2.2 ∧ Only (fun i => i = g) w w' ∧ Hid (Has w' w.heap.size 34 (zeroCells 0 0))) :=
    c1.mono (by
      rintro e w' ⟨he, i1, f1⟩
      exact ⟨he, i1, (k0.mono (fun _ _ h => h.elim)).trans f1 (fun _ _ h => h), Lib.hid (r0.only f1 (by omega))⟩)
  have hlt1 := takeSt_lt 1 bs 0
  have hln1 := takeSt_len 1 bs 0
  obtain ⟨s1, hs1⟩ : ∃ s, s = takeSt 1 bs 0 := ⟨_, rfl⟩
  rw [show takeSt ((1 : Nat) : Int) bs 0 = s1 from hs1.symm] at hlt1
  rw [← hs1] at c2 hln1
  obtain ⟨t, b1, e1⟩ := s1
  simp only at c2 hlt1 hln1
  have hlt2 := takeSt_lt 2 b1 e1
  have hln2 := takeSt_len 2 b1 e1
  have hc2 := fun w' (h : InAt w' lo g b1 e1) => take_any lo g 2 b1 e1 w' h
  obtain ⟨s2, hs2⟩ : ∃ s, s = takeSt 2 b1 e1 := ⟨_, rfl⟩
  rw [show takeSt ((2 : Nat) : Int) b1 e1 = s2 from hs2.symm] at hlt2
  rw [← hs2] at hln2 hc2
  obtain ⟨tag, b3, e3⟩ := s2
  simp only at hlt2 hln2 hc2
  have hw1 : IntKind.u8.wrap (t : Int) = (t : Int) := IntWalk.u8_in _ (by omega)
  have hw2 : IntKind.u16.wrap (tag : Int) = (tag : Int) := IntWalk.u16_in _ (by omega)
  have HT := Lib.hid (fun w' (k : Only (fun i => i = g) w w') => hT.only k (by omega) (by omega))
  have HC2 := Lib.hid hc2
  have H1 := Lib.hid hs1.symm
  have H2 := Lib.hid hs2.symm
  clear hs1 hs2 hI hT k0 r0 hc2
  have C1 := Lib.hid c2
  clear c1 c2
  go_enter Tryz.func16, Tryz.ntmps16
  go_wp2_with fail
  refine C1.out.mono ?_
  rintro e w1 ⟨rfl, i1, k1, R1⟩
  have C2 := Lib.hid (HC2.out w1 i1)
  have K1 := Lib.hid k1
  clear C1 i1 k1 HC2
  go_wp2_with fail
  refine C2.out.mono ?_
  rintro e w2 ⟨rfl, i2, k2⟩
  have hsz := K1.out.size
  have hsz2 := k2.size
  have hlt0 := R1.out.lt
  have NW : Hid (Has (w2.alloc (.cells (zeroCells 0 0) 34)) w2.heap.size 34 (zeroCells 0 0)) := Has.new _ _ _
  obtain ⟨W2, hW2⟩ : ∃ W, W = (w2.alloc (.cells (zeroCells 0 0) 34)).setRow w2.heap.size (zeroCells t tag) := ⟨_, rfl⟩
  have kn : Only (fun _ => False) w2 W2 := by rw [hW2]; exact ((Only.refl _ w2).alloc _).setRow (fun h => absurd h (Nat.lt_irrefl _)) _
  have n2 : Has W2 w2.heap.size 34 (zeroCells t tag) := by rw [hW2]; exact NW.out.setRow _
  have s2 : w2.heap.size < W2.heap.size := n2.lt
  have kw : Only (fun i => i = g) w W2 := (K1.out.trans k2 (fun _ _ h => h)).trans kn (fun _ _ h => h.elim)
  have r2 : Has W2 w.heap.size 34 (zeroCells 0 0) := (R1.out.only k2 (by omega)).only kn (fun h => h)
  have i3 : InAt W2 lo g b3 e3 := i2.only kn (fun _ _ _ h => h)
  have C3 := named_any w2.heap.size t (zeroCells t tag) W2 n2 rfl
  have HW2 := Lib.hid hW2.symm
  clear C2 hW2 i2 k2 kn K1 R1
  cases hl : namedOf t with
  | none =>
    rw [hl] at C3
    have C4 := Lib.hid C3
    clear C3
    have HD : Hid (decM bs = none) := decM_unknown H1.out hl
    have KW := Lib.hid kw
    clear n2 kw r2 i3 H1 H2
    go_wp2_with (first
      | (refine build_struct 34 #[(0, .tmp 10), (1, .tmp 13)] (zeroCells t tag) rfl rfl (Tryz.builtMsg t tag) ?_)
      | (refine store_struct Tryz.msgSize w2.heap.size (zeroCells t tag) (.tmp 3) (.tmp 14) rfl rfl rfl rfl NW.out rfl rfl (zero_one t tag) ?_)
      | fail)
    refine (show Calls Tryz.prog 28 #[.pointer (some ⟨w2.heap.size, 0, none⟩)] ((w2.alloc (.cells (zeroCells 0 0) 34)).setRow w2.heap.size (zeroCells t tag)) (NamedStep W2 w2.heap.size _) from by rw [HW2.out]; exact C4.out).mono ?_
    rintro e w3 ⟨x, rfl, _, b4⟩
    have R : Hid (WholeStep w g (decM bs) (.panicked [{ v := .iface 35 (.int .i64 2), recovered := false }]) w3) := by
      rw [HD.out]
      exact ⟨rfl, KW.out.trans (Below.onlyNew b4) (fun _ _ h => h.elim)⟩
    clear C4 b4 HD KW HW2
    simp only [Option.isSome_none]
    go_wp2_with fail
    refine (must_no 2 w3).mono ?_
    rintro e w' ⟨rfl, rfl⟩
    go_wp2
    exact ⟨rfl, R.out⟩
  | some l =>
    rw [hl] at C3
    have C4 := Lib.hid C3
    clear C3
    obtain ⟨hstd, hl4⟩ := named_std hl
    obtain ⟨hpl, hnd⟩ := named_mem hl
    have HD := Lib.hid (decM_known H1.out H2.out hl)
    have I0 := Lib.hid (fun (w3 : World) (gg : Nat) (b4 : Below W2.heap.size W2 w3) (hgp : 0 < l.length → w2.heap.size < gg ∧ gg < w3.heap.size) (hls : ∀ i (h : i < l.length), w3.cell? ⟨gg, i, none⟩ = some (fieldV w2.heap.size l[i])) =>
      (show WI w lo g w2.heap.size gg t tag l bs.length (if e3 = 0 then tkL (l.map (·.1)) b3 else none) 0 b3 e3 (zeroCells t tag) (zeroM t tag) w3 from
        ⟨i3.only (Below.onlyNew b4) (fun _ _ _ h => h), n2.only (Below.onlyNew b4) (fun h => h), r2.only (Below.onlyNew b4) (fun h => h), hls, hgp, kw.trans (Below.onlyNew b4) (fun _ _ h => h.elim), zero_at _ _ _ _ _, fun _ _ _ => rfl,
          fun h => by rw [if_pos h]; simp [fieldsOf, preL_nil], fun h => by rw [if_neg h], by omega⟩))
    have HS := Lib.hid hstd
    have HP := Lib.hid hpl
    have HN := Lib.hid hnd
    clear n2 kw r2 i3 H1 H2 hstd hpl hnd
    go_wp2_with (first
      | (refine build_struct 34 #[(0, .tmp 10), (1, .tmp 13)] (zeroCells t tag) rfl rfl (Tryz.builtMsg t tag) ?_)
      | (refine store_struct Tryz.msgSize w2.heap.size (zeroCells t tag) (.tmp 3) (.tmp 14) rfl rfl rfl rfl NW.out rfl rfl (zero_one t tag) ?_)
      | fail)
    refine (show Calls Tryz.prog 28 #[.pointer (some ⟨w2.heap.size, 0, none⟩)] ((w2.alloc (.cells (zeroCells 0 0) 34)).setRow w2.heap.size (zeroCells t tag)) (NamedStep W2 w2.heap.size _) from by rw [HW2.out]; exact C4.out).mono ?_
    rintro e w3 ⟨x, rfl, hx, b4⟩
    obtain ⟨A, c, rfl, hx⟩ := hx
    simp only [Option.getD_some, List.length_map] at hx
    obtain ⟨gg, hA, hgp, hls⟩ : ∃ gg, (0 < l.length → A = some ⟨gg, 0, none⟩) ∧ (0 < l.length → w2.heap.size < gg ∧ gg < w3.heap.size) ∧ ∀ i (h : i < l.length), w3.cell? ⟨gg, i, none⟩ = some (fieldV w2.heap.size l[i]) := by
      rcases Nat.eq_zero_or_pos l.length with h0 | h0
      · exact ⟨0, fun h => by omega, fun h => by omega, fun i h => by omega⟩
      · obtain ⟨gg, e, h1, h2, h3⟩ := hx h0
        exact ⟨gg, fun _ => e, fun _ => ⟨by omega, h2⟩, fun i hi => by rw [h3 i (by simpa using hi)]; simp⟩
    have J0 := Lib.hid (I0.out w3 gg b4 hgp hls)
    have HA := Lib.hid hA
    clear C4 b4 I0 HW2 hx hA hgp hls
    simp only [Option.isSome_some, Option.getD_some, List.length_map]
    go_wp2_with fail
    refine (must_yes 2 w3).mono ?_
    rintro e w' ⟨rfl, rfl⟩
    go_wp2_with fail
    go_loopw [23] (fun i wr => ∃ (j : Nat) (rest : List UInt8) (er : Int) (cs : Array Value) (m : Nat → F), j ≤ l.length ∧ i = .int .i64 j ∧ Hid (WI w lo g w2.heap.size gg t tag l bs.length (if e3 = 0 then tkL (l.map (·.1)) b3 else none) j rest er cs m wr)) (fun i _ => l.length - (intOf i).toNat)
    case atStart => exact ⟨0, b3, e3, _, _, Nat.zero_le _, rfl, J0⟩
    case round =>
      obtain ⟨j, rest, er, cs, m, hj, rfl, hrel⟩ := hrel
      clear J0
      by_cases hlt : j < l.length
      · have hAe := HA.out (by omega)
        subst hAe
        have hcell := hrel.out.lst j hlt
        have hsd := HS.out l[j] (List.getElem_mem hlt)
        have i0 : (0 : Int) ≤ (j : Int) := by omega
        have i1 : (j : Int) < (l.length : Int) := by omega
        have hpi := places_in l[j] (HP.out _ (List.getElem_mem hlt))
        have hfw := hrel.out.few
        have C := takef_any lo g w2.heap.size l[j].2 l[j].1 rest er cs wr hrel.out.inn hrel.out.msg hsd.1 (HT.out _ hrel.out.low) hgt (by omega) (by omega) (by rw [hrel.out.mg.size]; exact hpi)
        have hfe : fieldV w2.heap.size l[j] = .iface l[j].1.ptr (.pointer (some ⟨w2.heap.size, l[j].2, none⟩)) := rfl
        rw [hfe] at hcell
        have fin : Hid (∀ e w4, TkF wr lo g w2.heap.size l[j].2 l[j].1 rest er cs e w4 →
            (e = .panicked [{ v := .iface 35 (.int .i64 2), recovered := false }] ∧ WholeStep w g (decM bs) e w4) ∨
            (e = .returned (.tuple #[]) ∧ ∃ rest' er' cs' m', WI w lo g w2.heap.size gg t tag l bs.length (if e3 = 0 then tkL (l.map (·.1)) b3 else none) (j + 1) rest' er' cs' m' w4)) := by
          rintro e w4 (⟨he, k, hn⟩ | ⟨f, cs', bs', er', he, hf, hm, hs, ha, ho, i4, k4, hl4, hy, hn⟩)
          · refine .inl ⟨he, ?_⟩
            rw [HD.out, hrel.out.stop hlt hn]
            refine ⟨he, hrel.out.low.trans k (fun i hi h => ?_)⟩
            rcases h with h | h
            · exact h
            · omega
          · exact .inr ⟨he, bs', er', cs', _, hrel.out.step hlt hgl (by omega) HP.out HN.out hf hm hs ha ho i4 k4 hl4 hy hn⟩
        obtain ⟨ty, hty⟩ : ∃ ty, ty = l[j].1.ptr := ⟨_, rfl⟩
        obtain ⟨off, hoff⟩ : ∃ off, off = l[j].2 := ⟨_, rfl⟩
        rw [← hty] at C hcell
        rw [← hoff] at C hcell fin
        have C' := Lib.hid C
        clear hrel hsd hpi hfw hfe hty hoff C
        go_wp2_with fail
        refine C'.out.mono ?_
        intro e w4 hst
        rcases fin.out e w4 hst with ⟨rfl, hR⟩ | ⟨rfl, rest', er', cs', m', hR⟩
        · have R := Lib.hid hR
          clear hst fin C' hcell hR
          go_wp2
          exact ⟨rfl, R.out⟩
        · have R := Lib.hid hR
          clear hst fin C' hcell hR
          go_wp2
          go_roundw
          case rel => exact ⟨j + 1, rest', er', cs', m', by omega, by go_num, R⟩
          case measure => simp [intOf]; omega
      · have hj4 : j = l.length := by omega
        subst hj4
        have hinn := hrel.out.inn
        have C4 := Lib.hid (err_any lo g rest er wr hinn)
        have C5 := Lib.hid (left_any lo g rest er wr hinn)
        have i1 : ¬ (l.length : Int) < (l.length : Int) := by omega
        clear hinn
        by_cases hz : er = 0
        · subst hz
          by_cases hr : rest = []
          · subst hr
            obtain ⟨hd, hm0, hm1, hok⟩ := hrel.out.fin hl hlt1 hlt2
            have hms := hrel.out.msg
            have hrs := hrel.out.res
            have hsz36 := hrel.out.mg.size
            have hone := hrel.out.mg.one
            have R : Hid (∀ w', w' = wr.setRow w.heap.size cs → WholeStep w g (decM bs) (.returned (.agg cs)) w') := by
              rintro w' rfl
              rw [HD.out, hd]
              have ks : Only (fun i => i = w.heap.size) wr (wr.setRow w.heap.size cs) := (Only.refl (fun i => i = w.heap.size) wr).setRow (fun _ => rfl) cs
              have hsr := ks.size
              exact ⟨cs, m, l, rfl, ((hrel.out.mg.keep (ks.keeps (Nat.le_refl _) (fun i hi _ h => by omega))).wide (by omega) hsr), hm0, hm1, hl, rfl, hok, hrel.out.low.setRow (fun h => absurd h (Nat.lt_irrefl _)) cs⟩
            have HMS := Lib.hid hms
            have HRS := Lib.hid hrs
            have HONE := Lib.hid hone
            have HSZ := Lib.hid hsz36
            clear hrel hms hrs hone hsz36 hd hm0 hm1 hok HD HT HS HP HN HA
            go_wp2_with fail
            refine C4.out.mono ?_
            rintro e w' ⟨rfl, rfl⟩
            go_wp2_with fail
            refine C5.out.mono ?_
            rintro e w' ⟨rfl, rfl⟩
            clear C4 C5
            go_wp2_with fail
            refine (must_yes 2 wr).mono ?_
            rintro e w' ⟨rfl, rfl⟩
            go_wp2_with (first
              | (refine load_struct Tryz.underlying34 rfl Tryz.msgSize w2.heap.size cs (.tmp 3) rfl rfl rfl HMS.out HSZ.out ?_)
              | (refine store_struct Tryz.msgSize w.heap.size cs (.tmp 2) (.tmp 40) rfl rfl rfl rfl HRS.out rfl HSZ.out HONE.out ?_)
              | fail)
            refine bodyPost_ret (results_cell_row rfl _ _ w.heap.size 34 cs (0, 0) _ rfl (HRS.out.setRow cs) Tryz.underlying34 rfl (by rw [HSZ.out]; exact Tryz.msgSize)) rfl ?_
            exact R.out _ rfl
          · have hd0 : ((rest.length : Int) == 0) = false := by
              have : 0 < rest.length := List.length_pos_iff.2 hr
              simp
              omega
            have R : Hid (WholeStep w g (decM bs) (.panicked [{ v := .iface 35 (.int .i64 2), recovered := false }]) wr) := by
              have hy := hrel.out.yes rfl
              rw [List.take_length, List.drop_length] at hy
              rw [HD.out, hy]
              have : endOf t tag (preL (fieldsOf m l) (tkL (([] : List (K × Nat)).map (·.1)) rest)) = none := by simp [endOf, preL, tkL, hr]
              rw [this]
              exact ⟨rfl, hrel.out.low⟩
            clear hrel HD HT HS HP HN HA hr
            go_wp2_with fail
            refine C4.out.mono ?_
            rintro e w' ⟨rfl, rfl⟩
            go_wp2_with fail
            refine C5.out.mono ?_
            rintro e w' ⟨rfl, rfl⟩
            clear C4 C5
            go_wp2_with fail
            refine (must_no 2 wr).mono ?_
            rintro e w' ⟨rfl, rfl⟩
            go_wp2
            exact ⟨rfl, R.out⟩
        · have hd0 : (er == 0) = false := by simpa using hz
          have R : Hid (WholeStep w g (decM bs) (.panicked [{ v := .iface 35 (.int .i64 2), recovered := false }]) wr) := by
            rw [HD.out, hrel.out.no hz]
            exact ⟨rfl, hrel.out.low⟩
          clear hrel HD HT HS HP HN HA hz
          go_wp2_with fail
          refine C4.out.mono ?_
          rintro e w' ⟨rfl, rfl⟩
          clear C4 C5
          go_wp2_with fail
          refine (must_no 2 wr).mono ?_
          rintro e w' ⟨rfl, rfl⟩
          go_wp2
          exact ⟨rfl, R.out⟩
end Go.Proofs.YtepiifbleoimkaaGreatDoor
namespace Go.Proofs.YtepiifbleoimkaaGreatDoor
open Go.RowKit
set_option maxRecDepth 100000

/-- What is told of a message that was read: it lies in cs, of Type t and Tag tag, with these fields. -/
def MsgIs (w : World) (lo hi : Nat) (cs : Array Value) (t tag : Nat) (fs : List F) : Prop :=
  ∃ m l, MgAt w lo hi cs m ∧ m 0 = .num 1 t ∧ m 1 = .num 2 tag ∧ namedOf t = some l ∧ fieldsOf m l = fs ∧ ∀ p ∈ places, (m p.2).Ok ∧ (m p.2).Few
theorem MsgIs.keep {w w' : World} {lo hi : Nat} {cs : Array Value} {t tag : Nat} {fs : List F} (h : MsgIs w lo hi cs t tag fs) (hk : ∀ p : Addr, lo ≤ p.block → p.block < hi → w'.cell? p = w.cell? p) : MsgIs w' lo hi cs t tag fs := by
  obtain ⟨m, l, a, b⟩ := h
  exact ⟨m, l, a.keep hk, b⟩
theorem MsgIs.wide {w : World} {lo hi lo' hi' : Nat} {cs : Array Value} {t tag : Nat} {fs : List F} (h : MsgIs w lo hi cs t tag fs) (h1 : lo' ≤ lo) (h2 : hi ≤ hi') : MsgIs w lo' hi' cs t tag fs := by
  obtain ⟨m, l, a, b⟩ := h
  exact ⟨m, l, a.wide h1 h2, b⟩
theorem MsgIs.size {w : World} {lo hi : Nat} {cs : Array Value} {t tag : Nat} {fs : List F} (h : MsgIs w lo hi cs t tag fs) : cs.size = 36 ∧ cs.all (fun x => x.oneCell') = true := by
  obtain ⟨m, l, a, b⟩ := h
  exact ⟨a.size, a.one⟩
def Dec51Step (w : World) (sb : Nat) (r : Option (Nat × Nat × List F)) (e : Ending) (w' : World) : Prop :=
  match r with
  | none => e = .panicked [{ v := .iface 35 (.int .i64 2), recovered := false }] ∧ Below w.heap.size w w'
  | some (t, tag, fs) => ∃ cs, e = .returned (.tuple #[]) ∧ Has w' sb 34 cs ∧ MsgIs w' w.heap.size w'.heap.size cs t tag fs ∧ Only (fun i => i = sb) w w'

set_option maxHeartbeats 1000000 in
theorem decode51_any (bb sb lo hi : Nat) (v : Value) (bs : List UInt8) (w : World) (hbb : Has w bb 22 #[v]) (hv : SlIs w lo hi v bs) (hhi : hi ≤ w.heap.size) (hs : Has w sb 34 (zeroCells 0 0)) (hT : Tabs w) (hb : bs.length ≤ 100000) :
    Calls Tryz.prog 15 #[.pointer (some ⟨bb, 0, none⟩), .pointer (some ⟨sb, 0, none⟩)] w (Dec51Step w sb (decM bs)) := by
  have c0 := hbb.cell 0
  simp at c0
  have C := Lib.hid (of_any v bs lo hi w hv hhi (by omega))
  have hTl := hT.lt
  have hsl := hs.lt
  obtain ⟨A, c, rfl, _⟩ := id hv
  have HS := Lib.hid hs
  have HT := Lib.hid hT
  clear hbb hv hs hT
  go_enter Tryz.func15, Tryz.ntmps15
  go_wp2_with fail
  refine C.out.mono ?_
  rintro e w1 ⟨g, rfl, i1, b1⟩
  have hg1 := i1.lt
  have C2 := Lib.hid (whole_any w.heap.size g bs w1 i1 (HT.out.below b1) (by omega) hb)
  have B1 := Lib.hid b1
  clear C i1 b1 c0
  go_wp2_with fail
  refine C2.out.mono ?_
  intro e w2 st
  cases hd : decM bs with
  | none =>
    rw [hd] at st
    obtain ⟨rfl, k2⟩ := st
    have R : Hid (Dec51Step w sb none (.panicked [{ v := .iface 35 (.int .i64 2), recovered := false }]) w2) := ⟨rfl, B1.out.trans (k2.below B1.out.size (fun i hi h => by omega))⟩
    clear C2 k2 hd HS HT B1
    go_wp2
    exact ⟨rfl, R.out⟩
  | some p =>
    obtain ⟨t, tag, fs⟩ := p
    rw [hd] at st
    obtain ⟨cs, m, l, rfl, hm, h0, h1, hl, hf, hok, k2⟩ := st
    have B2 : Below w.heap.size w w2 := B1.out.trans (k2.below B1.out.size (fun i hi h => by omega))
    have hs1 := B1.out.size
    have hs2 := B2.size
    have s2 : Has w2 sb 34 (zeroCells 0 0) := HS.out.only (Below.onlyNew B2) (fun h => h)
    have S2 := Lib.hid s2
    have HO := Lib.hid hm.one
    have HZ := Lib.hid hm.size
    have R : Hid (Dec51Step w sb (decM bs) (.returned (.tuple #[])) (w2.setRow sb cs)) := by
      rw [hd]
      have ks : Only (fun i => i = sb) w2 (w2.setRow sb cs) := (Only.refl (fun i => i = sb) w2).setRow (fun _ => rfl) cs
      have hsr := ks.size
      exact ⟨cs, rfl, s2.setRow cs, ⟨m, l, (hm.keep (ks.keeps (Nat.le_refl _) (fun i hi _ h => by omega))).wide (by omega) hsr, h0, h1, hl, hf, hok⟩, ((Below.onlyNew B2).mono (fun _ _ h => h.elim)).trans ks (fun _ _ h => h)⟩
    clear C2 k2 hd HS HT B1 B2 hm h0 h1 hl hf hok s2
    go_wp2_with (first
      | (refine store_struct Tryz.msgSize sb cs (.tmp 1) (.tmp 4) rfl rfl rfl rfl S2.out rfl HZ.out HO.out ?_)
      | fail)
    go_end0
    exact R.out

theorem Tryz.enterDecode5 : ∀ args w, (callFunc 15 args).run Tryz.prog w = .ok (.enter 15 args) w := enters_of Tryz.func15 (by kernel_rfl) rfl
/-- A struct and one more result. -/
theorem results_cell_row1 {P : Program} {fn : Func} {p u1 : Tmp} {ty : TypeId} (h : fn.results = #[.cell p ty, .tmp u1]) (tmps : Array Value) (w : World) (g : Nat) (t : TypeId) (cs : Array Value) (fr : Nat × Nat) (d : TypeDesc)
    (hp : tmps.getD p undef = .pointer (some ⟨g, 0, none⟩)) (hg : w.heap[g]? = some (.cells cs t fr))
    (hu : P.underlying ty = some d) (hd : (match d with | .struct _ | .array _ _ => true | _ => false) = true) (hi : (P.info? ty).map (·.size) = some cs.size) :
    (results fn tmps).run P w = .ok (.tuple #[.agg cs, tmps.getD u1 undef]) w := by
  have hp' : tmps[p]?.getD undef = .pointer (some ⟨g, 0, none⟩) := by simpa using hp
  simp [results, h, hp', asAddr, run_loadVar_row w g t ty cs fr d hg hu hd hi, Result.andThen]

/-- What Decode answers. -/
def Dec5Step (w : World) (r : Option (Nat × Nat × List F)) (e : Ending) (w' : World) : Prop :=
  match r with
  | none => e = .returned (.tuple #[.agg (zeroCells 0 0), .int .i64 2]) ∧ Below w.heap.size w w'
  | some (t, tag, fs) => ∃ cs, e = .returned (.tuple #[.agg cs, .int .i64 0]) ∧ MsgIs w' w.heap.size w'.heap.size cs t tag fs ∧ Below w.heap.size w w'

set_option maxHeartbeats 2000000 in
theorem decode5_any (v : Value) (bs : List UInt8) (lo hi : Nat) (w : World) (hv : SlIs w lo hi v bs) (hhi : hi ≤ w.heap.size) (hb : bs.length ≤ 100000) (hT : Tabs w) :
    Calls Tryz.prog 5 #[v] w (Dec5Step w (decM bs)) := by
  obtain ⟨W, hW⟩ : ∃ W, W = ((w.alloc (.cells #[v] 22)).alloc (.cells (zeroCells 0 0) 34)).alloc (.cells (zeroCells 0 0) 34) := ⟨_, rfl⟩
  have k0 : Only (fun _ => False) w W := by rw [hW]; exact (((Only.refl _ w).alloc _).alloc _).alloc _
  have hB : Has W w.heap.size 22 #[v] := by rw [hW]; exact ((Has.new w _ _).alloc _).alloc _
  have hR : Has W (w.heap.size + 1) 34 (zeroCells 0 0) := by
    rw [hW]
    have := (Has.new (w.alloc (.cells #[v] 22)) 34 (zeroCells 0 0)).alloc (.cells (zeroCells 0 0) 34)
    simpa using this
  have hM : Has W (w.heap.size + 2) 34 (zeroCells 0 0) := by
    rw [hW]
    have := Has.new ((w.alloc (.cells #[v] 22)).alloc (.cells (zeroCells 0 0) 34)) 34 (zeroCells 0 0)
    simpa using this
  have sW : W.heap.size = w.heap.size + 3 := by rw [hW]; simp
  have ke : Only (fun _ => False) W (W.alloc errBox) := (Only.refl _ W).alloc _
  have se : (W.alloc errBox).heap.size = w.heap.size + 4 := by simp [sW]
  have C1 := decode51_any w.heap.size (w.heap.size + 2) lo hi v bs (W.alloc errBox) (hB.alloc _) ((hv.only k0 hhi (fun _ _ _ h => h)).only ke (by omega) (fun _ _ _ h => h)) (by omega) (hM.alloc _) ((hT.only k0 (fun h => h) (fun h => h)).only ke (fun h => h) (fun h => h)) hb
  have hE : Has (W.alloc errBox) W.heap.size 35 #[.int .i64 0] := Has.new _ _ _
  have kW : Only (fun _ => False) w (W.alloc errBox) := k0.alloc _
  obtain ⟨A, c, rfl, _⟩ := id hv
  cases hd : decM bs with
  | none =>
    rw [hd] at C1
    have C := Lib.hid (caught_panic 15 _ Tryz.enterDecode5 W 2 (fun w' => Below w.heap.size w w' ∧ Has w' (w.heap.size + 1) 34 (zeroCells 0 0) ∧ Has w' (w.heap.size + 2) 34 (zeroCells 0 0)) (C1.mono (by
      rintro e w' ⟨he, b⟩
      have k := Below.onlyNew b
      exact ⟨he, hE.only k (fun h => h), (kW.trans k (fun _ _ h => h)).below (Nat.le_refl _) (fun _ _ h => h), (hR.alloc _).only k (fun h => h), (hM.alloc _).only k (fun h => h)⟩)))
    clear C1 hE kW ke k0 hB hR hM hT hv hd
    go_enter Tryz.func5, Tryz.ntmps5
    go_wp2_with fail
    refine (show Calls Tryz.prog 14 _ (((w.alloc (.cells #[.slice A bs.length c] 22)).alloc (.cells (zeroCells 0 0) 34)).alloc (.cells (zeroCells 0 0) 34)) _ from by rw [← hW]; exact C.out).mono ?_
    rintro e w1 ⟨rfl, w2, h2, ⟨b1, r1, m1⟩, hw1⟩
    have b3 : Below w.heap.size w w1 := by rw [hw1]; exact b1.setCell (p := ⟨W.heap.size, 0, none⟩) (by simp; omega) (.int .i64 2)
    have R1 : Hid (Has w1 (w.heap.size + 1) 34 (zeroCells 0 0)) := by rw [hw1]; exact r1.far (by simp; omega) _
    have M1 : Hid (Has w1 (w.heap.size + 2) 34 (zeroCells 0 0)) := by rw [hw1]; exact m1.far (by simp; omega) _
    have B3 := Lib.hid b3
    clear C h2 b1 r1 m1 hw1 b3 hW sW se
    go_wp2_with (first
      | (refine load_struct Tryz.underlying34 rfl Tryz.msgSize (w.heap.size + 2) (zeroCells 0 0) (.tmp 4) rfl rfl rfl M1.out rfl ?_)
      | (refine store_struct Tryz.msgSize (w.heap.size + 1) (zeroCells 0 0) (.tmp 2) (.tmp 8) rfl rfl rfl rfl R1.out rfl rfl (zero_one 0 0) ?_)
      | fail)
    refine bodyPost_ret (results_cell_row1 rfl _ _ (w.heap.size + 1) 34 (zeroCells 0 0) (0, 0) _ rfl (R1.out.setRow _) Tryz.underlying34 rfl Tryz.msgSize) rfl ?_
    refine ⟨rfl, B3.out.trans (((Only.refl (fun i => i = w.heap.size + 1) w1).setRow (fun _ => rfl) _).below B3.out.size (fun i hi h => by omega))⟩
  | some p =>
    obtain ⟨t, tag, fs⟩ := p
    rw [hd] at C1
    have C := Lib.hid (caught_ok 15 _ Tryz.enterDecode5 W (fun w' => Below w.heap.size w w' ∧ Has w' (w.heap.size + 1) 34 (zeroCells 0 0) ∧ ∃ cs, Has w' (w.heap.size + 2) 34 cs ∧ MsgIs w' (w.heap.size + 4) w'.heap.size cs t tag fs) (C1.mono (by
      rintro e w' ⟨cs, he, hm, hi, k⟩
      rw [se] at hi
      exact ⟨he, hE.only k (by omega), ((kW.mono (fun _ _ h => h.elim)).trans k (fun _ _ h => h)).below (Nat.le_refl _) (fun i hi h => by omega), (hR.alloc _).only k (by omega), cs, hm, hi⟩)))
    clear C1 hE kW ke k0 hB hR hM hT hv hd
    go_enter Tryz.func5, Tryz.ntmps5
    go_wp2_with fail
    refine (show Calls Tryz.prog 14 _ (((w.alloc (.cells #[.slice A bs.length c] 22)).alloc (.cells (zeroCells 0 0) 34)).alloc (.cells (zeroCells 0 0) 34)) _ from by rw [← hW]; exact C.out).mono ?_
    rintro e w1 ⟨rfl, b1, r1, cs, m1, hi1⟩
    have R1 := Lib.hid r1
    have M1 := Lib.hid m1
    have B3 := Lib.hid b1
    have HZ := Lib.hid hi1.size.1
    have HO := Lib.hid hi1.size.2
    have HI := Lib.hid hi1
    clear C b1 r1 m1 hi1 hW sW se
    go_wp2_with (first
      | (refine load_struct Tryz.underlying34 rfl Tryz.msgSize (w.heap.size + 2) cs (.tmp 4) rfl rfl rfl M1.out HZ.out ?_)
      | (refine store_struct Tryz.msgSize (w.heap.size + 1) cs (.tmp 2) (.tmp 8) rfl rfl rfl rfl R1.out rfl HZ.out HO.out ?_)
      | fail)
    refine bodyPost_ret (results_cell_row1 rfl _ _ (w.heap.size + 1) 34 cs (0, 0) _ rfl (R1.out.setRow _) Tryz.underlying34 rfl (by rw [HZ.out]; exact Tryz.msgSize)) rfl ?_
    have ks : Only (fun i => i = w.heap.size + 1) w1 (w1.setRow (w.heap.size + 1) cs) := (Only.refl (fun i => i = w.heap.size + 1) w1).setRow (fun _ => rfl) cs
    exact ⟨cs, rfl, (HI.out.keep (ks.keeps (Nat.le_refl _) (fun i hi _ h => by omega))).wide (by omega) ks.size, B3.out.trans (ks.below B3.out.size (fun i hi h => by omega))⟩
end Go.Proofs.YtepiifbleoimkaaGreatDoor
