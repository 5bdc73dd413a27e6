/-
  The second reading's bare: a message, its texts left out.
-/
import Derived.Test.YtepiifbleoimkaaGreatDoorRefMsgI
import Derived.Deep.Cut
namespace Go.Proofs.YtepiifbleoimkaaGreatDoor
open Go.RowKit
set_option maxRecDepth 100000

def bareCells9 (cs : Array Value) : Array Value := (((((((((cs.setIfInBounds 3 (.string ⟨#[]⟩)).setIfInBounds 7 (.string ⟨#[]⟩)).setIfInBounds 8 (.string ⟨#[]⟩)).setIfInBounds 9 (.string ⟨#[]⟩)).setIfInBounds 19 (.string ⟨#[]⟩)).setIfInBounds 32 (.string ⟨#[]⟩)).setIfInBounds 33 (.string ⟨#[]⟩)).setIfInBounds 34 (.string ⟨#[]⟩)).setIfInBounds 35 (.string ⟨#[]⟩))
def bareCells (cs : Array Value) (x : Value) : Array Value := (bareCells9 cs).setIfInBounds 11 x
theorem bare_at {w : World} {lo hi : Nat} {cs : Array Value} {m : Nat → F} {x : Value} {L : List (List UInt8)} (h : RMgAt w lo hi cs m) (h11 : m 11 = .texts L) (hx : StrsAt w lo hi x (List.replicate L.length [])) : RMgAt w lo hi (bareCells cs x) (bareM m) := by
  have hs := h.size
  have out : ∀ i, i ≠ 3 → i ≠ 7 → i ≠ 8 → i ≠ 9 → i ≠ 19 → i ≠ 32 → i ≠ 33 → i ≠ 34 → i ≠ 35 → i ≠ 11 → (bareCells cs x)[i]? = cs[i]? := by
    intro i n3 n7 n8 n9 n19 n32 n33 n34 n35 n11
    unfold bareCells bareCells9
    rw [set_out n11, set_out n35, set_out n34, set_out n33, set_out n32, set_out n19, set_out n9, set_out n8, set_out n7, set_out n3]
  have in3 : (bareCells cs x)[3]? = some (.string ⟨#[]⟩) := by simp [bareCells, bareCells9, hs]
  have in7 : (bareCells cs x)[7]? = some (.string ⟨#[]⟩) := by simp [bareCells, bareCells9, hs]
  have in8 : (bareCells cs x)[8]? = some (.string ⟨#[]⟩) := by simp [bareCells, bareCells9, hs]
  have in9 : (bareCells cs x)[9]? = some (.string ⟨#[]⟩) := by simp [bareCells, bareCells9, hs]
  have in19 : (bareCells cs x)[19]? = some (.string ⟨#[]⟩) := by simp [bareCells, bareCells9, hs]
  have in32 : (bareCells cs x)[32]? = some (.string ⟨#[]⟩) := by simp [bareCells, bareCells9, hs]
  have in33 : (bareCells cs x)[33]? = some (.string ⟨#[]⟩) := by simp [bareCells, bareCells9, hs]
  have in34 : (bareCells cs x)[34]? = some (.string ⟨#[]⟩) := by simp [bareCells, bareCells9, hs]
  have in35 : (bareCells cs x)[35]? = some (.string ⟨#[]⟩) := by simp [bareCells, bareCells9, hs]
  have in11 : (bareCells cs x)[11]? = some x := by simp [bareCells, bareCells9, hs]
  refine ⟨by simp [bareCells, bareCells9, hs], fun p hp => by rw [show bareM m p.2 = bareF (m p.2) from rfl, bare_kind]; exact h.kind p hp, fun p hp => ?_⟩
  simp only [places, List.mem_cons, List.not_mem_nil, or_false] at hp
  rcases hp with rfl | rfl | rfl | rfl | rfl | rfl | rfl | rfl | rfl | rfl | rfl | rfl | rfl | rfl | rfl | rfl | rfl | rfl | rfl | rfl | rfl | rfl
  · obtain ⟨y, e⟩ := kind_num (h.kind (.num 1, 0) (by decide))
    have a := h.lies (.num 1, 0) (by decide)
    simp only at e a
    show RFAt _ _ _ _ 0 (bareF (m 0))
    rw [e] at a ⊢
    exact (out 0 (by decide) (by decide) (by decide) (by decide) (by decide) (by decide) (by decide) (by decide) (by decide) (by decide)).trans a
  · obtain ⟨y, e⟩ := kind_num (h.kind (.num 2, 1) (by decide))
    have a := h.lies (.num 2, 1) (by decide)
    simp only at e a
    show RFAt _ _ _ _ 1 (bareF (m 1))
    rw [e] at a ⊢
    exact (out 1 (by decide) (by decide) (by decide) (by decide) (by decide) (by decide) (by decide) (by decide) (by decide) (by decide)).trans a
  · obtain ⟨y, e⟩ := kind_num (h.kind (.num 4, 2) (by decide))
    have a := h.lies (.num 4, 2) (by decide)
    simp only at e a
    show RFAt _ _ _ _ 2 (bareF (m 2))
    rw [e] at a ⊢
    exact (out 2 (by decide) (by decide) (by decide) (by decide) (by decide) (by decide) (by decide) (by decide) (by decide) (by decide)).trans a
  · obtain ⟨y, e⟩ := kind_text (h.kind (.text, 3) (by decide))
    simp only at e
    show RFAt _ _ _ _ 3 (bareF (m 3))
    rw [e]
    exact in3
  · obtain ⟨y, e⟩ := kind_num (h.kind (.num 4, 4) (by decide))
    have a := h.lies (.num 4, 4) (by decide)
    simp only at e a
    show RFAt _ _ _ _ 4 (bareF (m 4))
    rw [e] at a ⊢
    exact (out 4 (by decide) (by decide) (by decide) (by decide) (by decide) (by decide) (by decide) (by decide) (by decide) (by decide)).trans a
  · obtain ⟨y, e⟩ := kind_num (h.kind (.num 4, 5) (by decide))
    have a := h.lies (.num 4, 5) (by decide)
    simp only at e a
    show RFAt _ _ _ _ 5 (bareF (m 5))
    rw [e] at a ⊢
    exact (out 5 (by decide) (by decide) (by decide) (by decide) (by decide) (by decide) (by decide) (by decide) (by decide) (by decide)).trans a
  · obtain ⟨y, e⟩ := kind_num (h.kind (.num 4, 6) (by decide))
    have a := h.lies (.num 4, 6) (by decide)
    simp only at e a
    show RFAt _ _ _ _ 6 (bareF (m 6))
    rw [e] at a ⊢
    exact (out 6 (by decide) (by decide) (by decide) (by decide) (by decide) (by decide) (by decide) (by decide) (by decide) (by decide)).trans a
  · obtain ⟨y, e⟩ := kind_text (h.kind (.text, 7) (by decide))
    simp only at e
    show RFAt _ _ _ _ 7 (bareF (m 7))
    rw [e]
    exact in7
  · obtain ⟨y, e⟩ := kind_text (h.kind (.text, 8) (by decide))
    simp only at e
    show RFAt _ _ _ _ 8 (bareF (m 8))
    rw [e]
    exact in8
  · obtain ⟨y, e⟩ := kind_text (h.kind (.text, 9) (by decide))
    simp only at e
    show RFAt _ _ _ _ 9 (bareF (m 9))
    rw [e]
    exact in9
  · obtain ⟨y, e⟩ := kind_num (h.kind (.num 2, 10) (by decide))
    have a := h.lies (.num 2, 10) (by decide)
    simp only at e a
    show RFAt _ _ _ _ 10 (bareF (m 10))
    rw [e] at a ⊢
    exact (out 10 (by decide) (by decide) (by decide) (by decide) (by decide) (by decide) (by decide) (by decide) (by decide) (by decide)).trans a
  · show RFAt _ _ _ _ 11 (bareF (m 11))
    rw [h11]
    exact ⟨x, in11, hx⟩
  · obtain ⟨y, e⟩ := kind_qids (h.kind (.qids, 12) (by decide))
    have a := h.lies (.qids, 12) (by decide)
    simp only at e a
    show RFAt _ _ _ _ 12 (bareF (m 12))
    rw [e] at a ⊢
    obtain ⟨v, a1, a2⟩ := a
    exact ⟨v, (out 12 (by decide) (by decide) (by decide) (by decide) (by decide) (by decide) (by decide) (by decide) (by decide) (by decide)).trans a1, a2⟩
  · obtain ⟨y, e⟩ := kind_qid (h.kind (.qid, 13) (by decide))
    have a := h.lies (.qid, 13) (by decide)
    simp only at e a
    show RFAt _ _ _ _ 13 (bareF (m 13))
    rw [e] at a ⊢
    exact ⟨(out 13 (by decide) (by decide) (by decide) (by decide) (by decide) (by decide) (by decide) (by decide) (by decide) (by decide)).trans a.1, (out 14 (by decide) (by decide) (by decide) (by decide) (by decide) (by decide) (by decide) (by decide) (by decide) (by decide)).trans a.2.1, (out 15 (by decide) (by decide) (by decide) (by decide) (by decide) (by decide) (by decide) (by decide) (by decide) (by decide)).trans a.2.2⟩
  · obtain ⟨y, e⟩ := kind_num (h.kind (.num 4, 16) (by decide))
    have a := h.lies (.num 4, 16) (by decide)
    simp only at e a
    show RFAt _ _ _ _ 16 (bareF (m 16))
    rw [e] at a ⊢
    exact (out 16 (by decide) (by decide) (by decide) (by decide) (by decide) (by decide) (by decide) (by decide) (by decide) (by decide)).trans a
  · obtain ⟨y, e⟩ := kind_num (h.kind (.num 1, 17) (by decide))
    have a := h.lies (.num 1, 17) (by decide)
    simp only at e a
    show RFAt _ _ _ _ 17 (bareF (m 17))
    rw [e] at a ⊢
    exact (out 17 (by decide) (by decide) (by decide) (by decide) (by decide) (by decide) (by decide) (by decide) (by decide) (by decide)).trans a
  · obtain ⟨y, e⟩ := kind_num (h.kind (.num 4, 18) (by decide))
    have a := h.lies (.num 4, 18) (by decide)
    simp only at e a
    show RFAt _ _ _ _ 18 (bareF (m 18))
    rw [e] at a ⊢
    exact (out 18 (by decide) (by decide) (by decide) (by decide) (by decide) (by decide) (by decide) (by decide) (by decide) (by decide)).trans a
  · obtain ⟨y, e⟩ := kind_text (h.kind (.text, 19) (by decide))
    simp only at e
    show RFAt _ _ _ _ 19 (bareF (m 19))
    rw [e]
    exact in19
  · obtain ⟨y, e⟩ := kind_num (h.kind (.num 8, 20) (by decide))
    have a := h.lies (.num 8, 20) (by decide)
    simp only at e a
    show RFAt _ _ _ _ 20 (bareF (m 20))
    rw [e] at a ⊢
    exact (out 20 (by decide) (by decide) (by decide) (by decide) (by decide) (by decide) (by decide) (by decide) (by decide) (by decide)).trans a
  · obtain ⟨y, e⟩ := kind_num (h.kind (.num 4, 21) (by decide))
    have a := h.lies (.num 4, 21) (by decide)
    simp only at e a
    show RFAt _ _ _ _ 21 (bareF (m 21))
    rw [e] at a ⊢
    exact (out 21 (by decide) (by decide) (by decide) (by decide) (by decide) (by decide) (by decide) (by decide) (by decide) (by decide)).trans a
  · obtain ⟨y, e⟩ := kind_data (h.kind (.data, 22) (by decide))
    have a := h.lies (.data, 22) (by decide)
    simp only at e a
    show RFAt _ _ _ _ 22 (bareF (m 22))
    rw [e] at a ⊢
    exact (out 22 (by decide) (by decide) (by decide) (by decide) (by decide) (by decide) (by decide) (by decide) (by decide) (by decide)).trans a
  · obtain ⟨y, e⟩ := kind_stat (h.kind (.stat, 23) (by decide))
    have a := h.lies (.stat, 23) (by decide)
    simp only at e a
    show RFAt _ _ _ _ 23 (bareF (m 23))
    rw [e] at a ⊢
    intro j hj
    match j, hj with
    | 0, _ => exact (out 23 (by decide) (by decide) (by decide) (by decide) (by decide) (by decide) (by decide) (by decide) (by decide) (by decide)).trans (a 0 (by decide))
    | 1, _ => exact (out 24 (by decide) (by decide) (by decide) (by decide) (by decide) (by decide) (by decide) (by decide) (by decide) (by decide)).trans (a 1 (by decide))
    | 2, _ => exact (out 25 (by decide) (by decide) (by decide) (by decide) (by decide) (by decide) (by decide) (by decide) (by decide) (by decide)).trans (a 2 (by decide))
    | 3, _ => exact (out 26 (by decide) (by decide) (by decide) (by decide) (by decide) (by decide) (by decide) (by decide) (by decide) (by decide)).trans (a 3 (by decide))
    | 4, _ => exact (out 27 (by decide) (by decide) (by decide) (by decide) (by decide) (by decide) (by decide) (by decide) (by decide) (by decide)).trans (a 4 (by decide))
    | 5, _ => exact (out 28 (by decide) (by decide) (by decide) (by decide) (by decide) (by decide) (by decide) (by decide) (by decide) (by decide)).trans (a 5 (by decide))
    | 6, _ => exact (out 29 (by decide) (by decide) (by decide) (by decide) (by decide) (by decide) (by decide) (by decide) (by decide) (by decide)).trans (a 6 (by decide))
    | 7, _ => exact (out 30 (by decide) (by decide) (by decide) (by decide) (by decide) (by decide) (by decide) (by decide) (by decide) (by decide)).trans (a 7 (by decide))
    | 8, _ => exact (out 31 (by decide) (by decide) (by decide) (by decide) (by decide) (by decide) (by decide) (by decide) (by decide) (by decide)).trans (a 8 (by decide))
    | 9, _ => exact in32
    | 10, _ => exact in33
    | 11, _ => exact in34
    | 12, _ => exact in35
/-- A message of the second reading that has nothing. -/
def RZ : Array Value := #[.int .u8 0, .int .u16 0, .int .u32 0, .string ⟨#[]⟩, .int .u32 0, .int .u32 0, .int .u32 0, .string ⟨#[]⟩, .string ⟨#[]⟩, .string ⟨#[]⟩, .int .u16 0, .slice none 0 0, .slice none 0 0, .int .u8 0, .int .u32 0, .int .u64 0, .int .u32 0, .int .u8 0, .int .u32 0, .string ⟨#[]⟩, .int .u64 0, .int .u32 0, .string ⟨#[]⟩, .int .u16 0, .int .u32 0, .int .u8 0, .int .u32 0, .int .u64 0, .int .u32 0, .int .u32 0, .int .u32 0, .int .u64 0, .string ⟨#[]⟩, .string ⟨#[]⟩, .string ⟨#[]⟩, .string ⟨#[]⟩]
theorem RFAt.wide {w : World} {lo hi lo' hi' : Nat} {cs : Array Value} {off : Nat} {f : F} (h : RFAt w lo hi cs off f) (h1 : lo' ≤ lo) (h2 : hi ≤ hi') : RFAt w lo' hi' cs off f := by
  cases f with
  | data b => exact h
  | num n x => exact FAt.wide (w := w) (f := .num n x) h h1 h2
  | text l => exact FAt.wide (w := w) (f := .text l) h h1 h2
  | texts L => exact FAt.wide (w := w) (f := .texts L) h h1 h2
  | qid q => exact FAt.wide (w := w) (f := .qid q) h h1 h2
  | qids Q => exact FAt.wide (w := w) (f := .qids Q) h h1 h2
  | stat s => exact FAt.wide (w := w) (f := .stat s) h h1 h2
theorem RMgAt.wide {w : World} {lo hi lo' hi' : Nat} {cs : Array Value} {m : Nat → F} (h : RMgAt w lo hi cs m) (h1 : lo' ≤ lo) (h2 : hi ≤ hi') : RMgAt w lo' hi' cs m :=
  ⟨h.size, h.kind, fun p hp => (h.lies p hp).wide h1 h2⟩
theorem RFAt.one {w : World} {lo hi : Nat} {cs : Array Value} {off : Nat} {f : F} (h : RFAt w lo hi cs off f) {j : Nat} (hj : j < f.kind.size) : ∃ v, cs[off + j]? = some v ∧ v.oneCell' = true := by
  cases f with
  | data b =>
    have : j = 0 := by have : j < 1 := hj; omega
    subst this
    exact ⟨_, h, rfl⟩
  | num n x => exact FAt.one (w := w) (lo := lo) (hi := hi) (f := .num n x) h hj
  | text l => exact FAt.one (w := w) (lo := lo) (hi := hi) (f := .text l) h hj
  | texts L => exact FAt.one (w := w) (lo := lo) (hi := hi) (f := .texts L) h hj
  | qid q => exact FAt.one (w := w) (lo := lo) (hi := hi) (f := .qid q) h hj
  | qids Q => exact FAt.one (w := w) (lo := lo) (hi := hi) (f := .qids Q) h hj
  | stat s => exact FAt.one (w := w) (lo := lo) (hi := hi) (f := .stat s) h hj
theorem RMgAt.one {w : World} {lo hi : Nat} {cs : Array Value} {m : Nat → F} (h : RMgAt w lo hi cs m) : cs.all (fun x => x.oneCell') = true := by
  rw [Array.all_eq_true]
  intro i hi
  obtain ⟨p, hp, j, hj, rfl⟩ := places_all i (by rw [← h.size]; exact hi)
  obtain ⟨v, hv, h1⟩ := (h.lies p hp).one (j := j) (by rw [h.kind p hp]; exact hj)
  have : cs[p.2 + j] = v := by
    have := hv
    rw [Array.getElem?_eq_getElem hi] at this
    injection this
  rw [this]
  exact h1
/-- What bare answers. -/
structure BareAns (w : World) (lo hi : Nat) (m : Nat → F) (cs : Array Value) (w' : World) : Prop where
  mg : RMgAt w' 0 w'.heap.size cs (bareM m)
  names : RFAt w' w.heap.size w'.heap.size cs 11 (bareM m 11)
  qids : RFAt w' lo hi cs 12 (bareM m 12)
  low : Below w.heap.size w w'
theorem rep_strs (j : Nat) : strsV (List.replicate (j + 1) []) = strsV (List.replicate j []) ++ [.string ⟨#[]⟩] := by
  rw [List.replicate_succ', strsV, List.map_append]
  rfl
theorem bare_ans {w W9 wr : World} {lo hi : Nat} {cs : Array Value} {m : Nat → F} {L : List (List UInt8)} {u : Value} (hm : RMgAt w lo hi cs m) (h11 : m 11 = .texts L) (hhi : hi ≤ w.heap.size) (k9 : Only (fun _ => False) w W9) (n9 : Has W9 w.heap.size 43 (bareCells9 cs)) (r9 : Has W9 (w.heap.size + 1) 43 RZ)
    (own : wr.ownsRow (w.heap.size + 2) 9 1 u L.length (strsV (List.replicate L.length []))) (low : Only (fun _ => False) W9 wr) :
    Has (wr.setCell ⟨w.heap.size, 11, none⟩ u) w.heap.size 43 (bareCells cs u) ∧ Has (wr.setCell ⟨w.heap.size, 11, none⟩ u) (w.heap.size + 1) 43 RZ ∧ (bareCells cs u).size = 36 ∧ (bareCells cs u).all (fun x => x.oneCell') = true ∧
      BareAns w lo hi m (bareCells cs u) ((wr.setCell ⟨w.heap.size, 11, none⟩ u).setRow (w.heap.size + 1) (bareCells cs u)) := by
  have n10 : Has (wr.setCell ⟨w.heap.size, 11, none⟩ u) w.heap.size 43 (bareCells cs u) := (n9.only low (fun h => h)).set 11 u
  have r10 : Has (wr.setCell ⟨w.heap.size, 11, none⟩ u) (w.heap.size + 1) 43 RZ := (r9.only low (fun h => h)).far (p := ⟨w.heap.size, 11, none⟩) (by simp) u
  have kk : Only (fun _ => False) w wr := k9.trans low (fun _ _ h => h)
  have kw : Only (fun _ => False) w ((wr.setCell ⟨w.heap.size, 11, none⟩ u).setRow (w.heap.size + 1) (bareCells cs u)) :=
    (kk.setCell (p := ⟨w.heap.size, 11, none⟩) (fun h => absurd h (Nat.lt_irrefl _)) u).setRow (fun h => by omega) _
  have hgt := r10.lt
  obtain ⟨W', hW'⟩ : ∃ W', W' = (wr.setCell ⟨w.heap.size, 11, none⟩ u).setRow (w.heap.size + 1) (bareCells cs u) := ⟨_, rfl⟩
  have ks : Only (fun i => i = w.heap.size ∨ i = w.heap.size + 1) wr W' := by
    rw [hW']
    exact ((Only.refl (fun i => i = w.heap.size ∨ i = w.heap.size + 1) wr).setCell (p := ⟨w.heap.size, 11, none⟩) (fun _ => .inl rfl) u).setRow (fun _ => .inr rfl) _
  rw [← hW'] at kw ⊢
  have own' : W'.ownsRow (w.heap.size + 2) 9 1 u (List.replicate L.length ([] : List UInt8)).length (strsV (List.replicate L.length [])) := by
    rw [List.length_replicate]
    exact owns_only own ks (fun i hi h => by have := (own.lt i hi).1; omega)
  have st := owns_strs own'
  have hsW := kw.size
  have hm' := hm.keep (kw.keeps hhi (fun _ _ _ h => h))
  have mg := bare_at (hm'.wide (Nat.zero_le _) (Nat.le_trans hhi hsW)) h11 (st.wide (Nat.zero_le _) (Nat.le_refl _))
  refine ⟨n10, r10, mg.size, mg.one, mg, ?_, ?_, kw.below (Nat.le_refl _) (fun _ _ h => h)⟩
  · show RFAt _ _ _ _ 11 (bareF (m 11))
    rw [h11]
    obtain ⟨v, hv, _⟩ : RFAt W' 0 W'.heap.size (bareCells cs u) 11 (.texts (List.replicate L.length [])) := by
      have := mg.lies (.texts, 11) (by decide)
      simp only [show bareM m 11 = .texts (List.replicate L.length []) from by show bareF (m 11) = _; rw [h11]; rfl] at this
      exact this
    have e : (bareCells cs u)[11]? = some u := set_in (by have := mg.size; simp only [bareCells, Array.size_setIfInBounds] at this; omega) u
    exact ⟨u, e, st.wide (by omega) (Nat.le_refl _)⟩
  · obtain ⟨Q, hQ⟩ := kind_qids (hm.kind (.qids, 12) (by decide))
    have a := hm'.lies (.qids, 12) (by decide)
    simp only at hQ a
    show RFAt _ _ _ _ 12 (bareF (m 12))
    rw [hQ] at a ⊢
    obtain ⟨v, a1, a2⟩ := a
    have b := mg.lies (.qids, 12) (by decide)
    simp only [show bareM m 12 = .qids Q from by show bareF (m 12) = _; rw [hQ]; rfl] at b
    have e : (bareCells cs u)[12]? = cs[12]? := by
      unfold bareCells bareCells9
      rw [set_out (by decide), set_out (by decide), set_out (by decide), set_out (by decide), set_out (by decide), set_out (by decide), set_out (by decide), set_out (by decide), set_out (by decide), set_out (by decide)]
    exact ⟨v, e.trans a1, a2⟩

set_option maxHeartbeats 1000000 in
theorem rbare_any (lo hi : Nat) (cs : Array Value) (m : Nat → F) (L : List (List UInt8)) (w : World) (hm : RMgAt w lo hi cs m) (h11 : m 11 = .texts L) (hL : L.length ≤ 1000) (hhi : hi ≤ w.heap.size) :
    Calls Tryz.prog 23 #[.agg cs] w (fun e w' => ∃ cs', e = .returned (.agg cs') ∧ BareAns w lo hi m cs' w') := by
  obtain ⟨W, hW⟩ : ∃ W, W = (w.alloc (.cells cs 43)).alloc (.cells #[.int .u8 0, .int .u16 0, .int .u32 0, .string ⟨#[]⟩, .int .u32 0, .int .u32 0, .int .u32 0, .string ⟨#[]⟩, .string ⟨#[]⟩, .string ⟨#[]⟩, .int .u16 0, .slice none 0 0, .slice none 0 0, .int .u8 0, .int .u32 0, .int .u64 0, .int .u32 0, .int .u8 0, .int .u32 0, .string ⟨#[]⟩, .int .u64 0, .int .u32 0, .string ⟨#[]⟩, .int .u16 0, .int .u32 0, .int .u8 0, .int .u32 0, .int .u64 0, .int .u32 0, .int .u32 0, .int .u32 0, .int .u64 0, .string ⟨#[]⟩, .string ⟨#[]⟩, .string ⟨#[]⟩, .string ⟨#[]⟩] 43) := ⟨_, rfl⟩
  have hsz := hm.size
  have a11 := hm.lies (.texts, 11) (by decide)
  simp only [h11] at a11
  obtain ⟨x, c11, hx⟩ := a11
  obtain ⟨A, c, hxe, _, _, _⟩ := id hx
  subst hxe
  have n0 : Has W w.heap.size 43 cs := by rw [hW]; exact (Has.new w _ _).alloc _
  have r0 : Has W (w.heap.size + 1) 43 RZ := by
    rw [hW]
    have := Has.new (w.alloc (.cells cs 43)) 43 #[.int .u8 0, .int .u16 0, .int .u32 0, .string ⟨#[]⟩, .int .u32 0, .int .u32 0, .int .u32 0, .string ⟨#[]⟩, .string ⟨#[]⟩, .string ⟨#[]⟩, .int .u16 0, .slice none 0 0, .slice none 0 0, .int .u8 0, .int .u32 0, .int .u64 0, .int .u32 0, .int .u8 0, .int .u32 0, .string ⟨#[]⟩, .int .u64 0, .int .u32 0, .string ⟨#[]⟩, .int .u16 0, .int .u32 0, .int .u8 0, .int .u32 0, .int .u64 0, .int .u32 0, .int .u32 0, .int .u32 0, .int .u64 0, .string ⟨#[]⟩, .string ⟨#[]⟩, .string ⟨#[]⟩, .string ⟨#[]⟩]
    show Has _ _ _ #[.int .u8 0, .int .u16 0, .int .u32 0, .string ⟨#[]⟩, .int .u32 0, .int .u32 0, .int .u32 0, .string ⟨#[]⟩, .string ⟨#[]⟩, .string ⟨#[]⟩, .int .u16 0, .slice none 0 0, .slice none 0 0, .int .u8 0, .int .u32 0, .int .u64 0, .int .u32 0, .int .u8 0, .int .u32 0, .string ⟨#[]⟩, .int .u64 0, .int .u32 0, .string ⟨#[]⟩, .int .u16 0, .int .u32 0, .int .u8 0, .int .u32 0, .int .u64 0, .int .u32 0, .int .u32 0, .int .u32 0, .int .u64 0, .string ⟨#[]⟩, .string ⟨#[]⟩, .string ⟨#[]⟩, .string ⟨#[]⟩]
    simpa using this
  have k0 : Only (fun _ => False) w W := by rw [hW]; exact ((Only.refl _ w).alloc _).alloc _
  have sW : W.heap.size = w.heap.size + 2 := by rw [hW]; simp
  have hne : w.heap.size + 1 ≠ w.heap.size := by omega
  obtain ⟨W9, hW9⟩ : ∃ W9, W9 = (((((((((W.setCell ⟨w.heap.size, 3, none⟩ (.string ⟨#[]⟩)).setCell ⟨w.heap.size, 7, none⟩ (.string ⟨#[]⟩)).setCell ⟨w.heap.size, 8, none⟩ (.string ⟨#[]⟩)).setCell ⟨w.heap.size, 9, none⟩ (.string ⟨#[]⟩)).setCell ⟨w.heap.size, 19, none⟩ (.string ⟨#[]⟩)).setCell ⟨w.heap.size, 32, none⟩ (.string ⟨#[]⟩)).setCell ⟨w.heap.size, 33, none⟩ (.string ⟨#[]⟩)).setCell ⟨w.heap.size, 34, none⟩ (.string ⟨#[]⟩)).setCell ⟨w.heap.size, 35, none⟩ (.string ⟨#[]⟩)) := ⟨_, rfl⟩
  have n9 : Has W9 w.heap.size 43 (bareCells9 cs) := by rw [hW9]; exact (((((((((n0.set 3 _).set 7 _).set 8 _).set 9 _).set 19 _).set 32 _).set 33 _).set 34 _).set 35 _)
  have r9 : Has W9 (w.heap.size + 1) 43 RZ := by rw [hW9]; exact (((((((((r0.far (p := ⟨w.heap.size, 3, none⟩) hne _).far (p := ⟨w.heap.size, 7, none⟩) hne _).far (p := ⟨w.heap.size, 8, none⟩) hne _).far (p := ⟨w.heap.size, 9, none⟩) hne _).far (p := ⟨w.heap.size, 19, none⟩) hne _).far (p := ⟨w.heap.size, 32, none⟩) hne _).far (p := ⟨w.heap.size, 33, none⟩) hne _).far (p := ⟨w.heap.size, 34, none⟩) hne _).far (p := ⟨w.heap.size, 35, none⟩) hne _)
  have k9 : Only (fun _ => False) w W9 := by rw [hW9]; exact (((((((((k0.setCell (p := ⟨w.heap.size, 3, none⟩) (fun h => absurd h (Nat.lt_irrefl _)) _).setCell (p := ⟨w.heap.size, 7, none⟩) (fun h => absurd h (Nat.lt_irrefl _)) _).setCell (p := ⟨w.heap.size, 8, none⟩) (fun h => absurd h (Nat.lt_irrefl _)) _).setCell (p := ⟨w.heap.size, 9, none⟩) (fun h => absurd h (Nat.lt_irrefl _)) _).setCell (p := ⟨w.heap.size, 19, none⟩) (fun h => absurd h (Nat.lt_irrefl _)) _).setCell (p := ⟨w.heap.size, 32, none⟩) (fun h => absurd h (Nat.lt_irrefl _)) _).setCell (p := ⟨w.heap.size, 33, none⟩) (fun h => absurd h (Nat.lt_irrefl _)) _).setCell (p := ⟨w.heap.size, 34, none⟩) (fun h => absurd h (Nat.lt_irrefl _)) _).setCell (p := ⟨w.heap.size, 35, none⟩) (fun h => absurd h (Nat.lt_irrefl _)) _)
  have s9 : W9.heap.size = w.heap.size + 2 := by rw [hW9]; simp [World.setCell, sW]
  obtain ⟨y3, e3⟩ : ∃ y, cs[3]? = some y := ⟨cs[3], by simp [hsz]⟩
  have d3 := (n0.cell 3).trans e3
  have f3 := n0.frozen 3
  obtain ⟨y7, e7⟩ : ∃ y, cs[7]? = some y := ⟨cs[7], by simp [hsz]⟩
  have d7 := (n0.cell 7).trans e7
  have f7 := n0.frozen 7
  obtain ⟨y8, e8⟩ : ∃ y, cs[8]? = some y := ⟨cs[8], by simp [hsz]⟩
  have d8 := (n0.cell 8).trans e8
  have f8 := n0.frozen 8
  obtain ⟨y9, e9⟩ : ∃ y, cs[9]? = some y := ⟨cs[9], by simp [hsz]⟩
  have d9 := (n0.cell 9).trans e9
  have f9 := n0.frozen 9
  obtain ⟨y19, e19⟩ : ∃ y, cs[19]? = some y := ⟨cs[19], by simp [hsz]⟩
  have d19 := (n0.cell 19).trans e19
  have f19 := n0.frozen 19
  obtain ⟨y32, e32⟩ : ∃ y, cs[32]? = some y := ⟨cs[32], by simp [hsz]⟩
  have d32 := (n0.cell 32).trans e32
  have f32 := n0.frozen 32
  obtain ⟨y33, e33⟩ : ∃ y, cs[33]? = some y := ⟨cs[33], by simp [hsz]⟩
  have d33 := (n0.cell 33).trans e33
  have f33 := n0.frozen 33
  obtain ⟨y34, e34⟩ : ∃ y, cs[34]? = some y := ⟨cs[34], by simp [hsz]⟩
  have d34 := (n0.cell 34).trans e34
  have f34 := n0.frozen 34
  obtain ⟨y35, e35⟩ : ∃ y, cs[35]? = some y := ⟨cs[35], by simp [hsz]⟩
  have d35 := (n0.cell 35).trans e35
  have f35 := n0.frozen 35
  have HW9 := Lib.hid hW9.symm
  have HW := Lib.hid hW.symm
  have HC : Hid (∀ wr, Only (fun _ => False) W9 wr → wr.cell? ⟨w.heap.size, 11, none⟩ = some (.slice A L.length c) ∧ wr.frozen? ⟨w.heap.size, 11, none⟩ = false) := Lib.hid (fun wr k => by
    have n := n9.only k (fun h => h)
    refine ⟨(n.cell 11).trans ?_, n.frozen 11⟩
    rw [← c11]
    unfold bareCells9
    rw [set_out (by decide), set_out (by decide), set_out (by decide), set_out (by decide), set_out (by decide), set_out (by decide), set_out (by decide), set_out (by decide), set_out (by decide)])
  have HB := Lib.hid (fun (wr : World) (u : Value) own low => bare_ans (wr := wr) (u := u) hm h11 hhi k9 n9 r9 own low)
  have I0 : Hid (W9.ownsRow (w.heap.size + 2) 9 1 (.slice none 0 0) 0 (strsV (List.replicate 0 [])) ∧ Only (fun _ => False) W9 W9) := ⟨World.ownsRow_nil _ _ _ _, Only.refl _ _⟩
  obtain ⟨i0', hi0, hz0, hz1, hz22⟩ := info_parts Tryz.infoString
  clear hm h11 hhi hx n0 r0 k0 sW hW hW9 n9 r9 k9 c11 hsz e3 e7 e8 e9 e19 e32 e33 e34 e35
  go_enter Tryz.func23, Tryz.ntmps23
  go_upto_region 1 with fail
  refine (show Code.wp _ _ _ _ ((w.alloc (.cells cs 43)).alloc (.cells #[.int .u8 0, .int .u16 0, .int .u32 0, .string ⟨#[]⟩, .int .u32 0, .int .u32 0, .int .u32 0, .string ⟨#[]⟩, .string ⟨#[]⟩, .string ⟨#[]⟩, .int .u16 0, .slice none 0 0, .slice none 0 0, .int .u8 0, .int .u32 0, .int .u64 0, .int .u32 0, .int .u8 0, .int .u32 0, .string ⟨#[]⟩, .int .u64 0, .int .u32 0, .string ⟨#[]⟩, .int .u16 0, .int .u32 0, .int .u8 0, .int .u32 0, .int .u64 0, .int .u32 0, .int .u32 0, .int .u32 0, .int .u64 0, .string ⟨#[]⟩, .string ⟨#[]⟩, .string ⟨#[]⟩, .string ⟨#[]⟩] 43)) from ?_)
  rw [HW.out]
  clear HW
  go_wp2_with fail
  rw [HW9.out]
  clear HW9 d3 f3 d7 f7 d8 f8 d9 f9 d19 f19 d32 f32 d33 f33 d34 f34 d35 f35
  go_loopw [3, 4] (fun u i wr => ∃ j : Nat, j ≤ L.length ∧ i = .int .i64 j ∧ Hid (wr.ownsRow (w.heap.size + 2) 9 1 u j (strsV (List.replicate j [])) ∧ Only (fun _ => False) W9 wr)) (fun _ i _ => L.length - (intOf i).toNat)
  case atStart => exact ⟨0, Nat.zero_le _, rfl, I0⟩
  case round =>
    obtain ⟨j, hj, rfl, hrel⟩ := hrel
    clear I0
    obtain ⟨d11, f11⟩ := HC.out _ hrel.out.2
    by_cases hlt : j < L.length
    · have i1 : (j : Int) < (L.length : Int) := by omega
      have hsz := hrel.out.2.size
      have hown := owns_only hrel.out.1 ((Only.refl (fun _ => False) wr).alloc (.cells #[.string ⟨#[]⟩] 9)) (fun _ _ h => h)
      have HN := Lib.hid hown
      have HF : Hid (∀ (v' : Value) (w3 : World), w3.ownsRow (w.heap.size + 2) 9 1 v' (j + 1) (strsV (List.replicate j []) ++ [.string ⟨#[]⟩]) → (wr.alloc (.cells #[.string ⟨#[]⟩] 9)).grownBy w3 u3.ownBlock → w3.ownsRow (w.heap.size + 2) 9 1 v' (j + 1) (strsV (List.replicate (j + 1) [])) ∧ Only (fun _ => False) W9 w3) := by
        intro v' w3 a b
        refine ⟨by rw [rep_strs]; exact a, ?_⟩
        have k3 : Only (fun i => some i = u3.ownBlock) wr w3 := ((Only.refl (fun i => some i = u3.ownBlock) wr).alloc _).trans (Only.of_grown b) (fun _ _ h => h)
        exact hrel.out.2.trans k3 (fun i hi h => by have := (hrel.out.1.lt i h.symm).1; omega)
      clear hrel hown HC HB
      go_wp2_with (at_builtin; go_must (refine wpList_append_lies _ rfl (.tmp 25) (.tmp 26) 26 rfl (w.heap.size + 2) 9 i0' _ 1 16 Tryz.underlying26 hi0 hz0 hz1 hz22 rfl (by omega) _ _ _ rfl HN.out ⟨wr.heap.size, 0, none⟩ 1 1 [.string ⟨#[]⟩] rfl rfl (World.news_of_block (cs := #[.string ⟨#[]⟩]) (t := 9) (fr := (0, 0)) (heap_alloc_new wr _)) (by simp [Value.oneCell']) (by omega) (by simp only [maxLen]; omega) (by omega) (by simp; omega) (wr.heap.size + 1) (by simp) ?_))
      intro gg cap w' h1 h2 _ _
      have R := Lib.hid (HF.out _ w' h1 h2)
      clear h1 h2 HF HN
      go_wp2
      go_roundw
      case rel => exact ⟨j + 1, by omega, by go_num, R⟩
      case measure => simp [intOf]; omega
    · have hj4 : j = L.length := by omega
      subst hj4
      obtain ⟨n10, r10, z10, o10, ans⟩ := HB.out wr u3 hrel.out.1 hrel.out.2
      obtain ⟨A3, c3, hu3⟩ : ∃ A3 c3, u3 = .slice A3 L.length c3 := by
        rcases hrel.out.1.2 with ⟨e, h0⟩ | ⟨g, cap, cur, e, _⟩
        · exact ⟨none, 0, by rw [e, h0]⟩
        · exact ⟨_, _, e⟩
      subst hu3
      have N10 := Lib.hid n10
      have R10 := Lib.hid r10
      have Z10 := Lib.hid z10
      have O10 := Lib.hid o10
      have ANS := Lib.hid ans
      clear hrel HC HB n10 r10 z10 o10 ans
      go_wp2_with (first
        | (refine load_struct Tryz.underlying43 rfl Tryz.refMsgSize w.heap.size _ (.tmp 1) rfl rfl rfl N10.out Z10.out ?_)
        | (refine store_struct Tryz.refMsgSize (w.heap.size + 1) _ (.tmp 2) (.tmp 30) rfl rfl rfl rfl R10.out rfl Z10.out O10.out ?_)
        | fail)
      refine bodyPost_ret (results_cell_row rfl _ _ (w.heap.size + 1) 43 _ (0, 0) _ rfl (R10.out.setRow _) Tryz.underlying43 rfl (by rw [Z10.out]; exact Tryz.refMsgSize)) rfl ?_
      exact ⟨_, rfl, ANS.out⟩
end Go.Proofs.YtepiifbleoimkaaGreatDoor
