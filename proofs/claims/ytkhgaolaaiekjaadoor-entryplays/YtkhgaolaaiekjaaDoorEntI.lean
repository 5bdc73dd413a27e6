/-
  Package entry, pure: what a play of acts leaves; what is found.
-/
import Derived.Test.YtkhgaolaaiekjaaDoorOpenEnt
namespace Go.Proofs.YtkhgaolaaiekjaaDoor
open Go.RowKit Go.Lib
set_option maxRecDepth 100000

/-- What an act leaves. -/
def stepL (l : List En) (a : A13) : List En :=
  if a.op = 1 then (if putEr l a.e = 0 then putE l a.e else l) else (if ∃ y ∈ l, y.n = a.e.n then cutE l a.e.n else l)
def playL (xs : List A13) : List En := xs.foldl stepL []
theorem playL_take (xs : List A13) (k : Nat) (h : k < xs.length) : playL (xs.take (k + 1)) = stepL (playL (xs.take k)) xs[k] := by
  unfold playL
  rw [List.take_succ_eq_append_getElem h, List.foldl_append]
  rfl
/-- A row as a play has it. -/
structure Row13 (l : List En) (k : Nat) : Prop where
  good : Good l
  u32 : U32s l
  len : l.length ≤ k
theorem cutE_len (l : List En) (n : List UInt8) : (cutE l n).length ≤ l.length := by
  unfold cutE
  rw [List.length_append, List.length_take, List.length_drop]
  omega
theorem Row13.step {l : List En} {k : Nat} (h : Row13 l k) (a : A13) (ha : a.e.i < 4294967296) : Row13 (stepL l a) (k + 1) := by
  unfold stepL
  split
  · split
    · rename_i hz
      refine ⟨good_put h.good hz, fun x hx => ?_, ?_⟩
      · rcases mem_put.1 hx with rfl | hx
        · exact ha
        · exact h.u32 x hx
      · rw [putE_length]
        have := h.len
        omega
    · exact ⟨h.good, h.u32, Nat.le_succ_of_le h.len⟩
  · split
    · refine ⟨good_cut h.good, fun x hx => h.u32 x (mem_cut hx), ?_⟩
      have := cutE_len l a.e.n
      have := h.len
      omega
    · exact ⟨h.good, h.u32, Nat.le_succ_of_le h.len⟩
theorem row_nil : Row13 [] 0 := ⟨good_nil, u32_nil, Nat.le_refl _⟩
/-- Ahead of its place every name is ahead; at it none is. -/
theorem pos_ahead {l : List En} {n : List UInt8} {k : Nat} (h : k < posE n l) (hk : k < l.length) : Ahd l[k].n n := by
  refine posE_ahead n l _ ?_
  rw [List.mem_take_iff_getElem]
  exact ⟨k, by omega, rfl⟩
theorem pos_stop {l : List En} {n : List UInt8} (hk : posE n l < l.length) : ¬ Ahd (l[posE n l]).n n := posE_at n l _ (List.getElem?_eq_getElem hk)
theorem there_pos {l : List En} {n : List UInt8} (h : Rise l) : (∃ y ∈ l, y.n = n) ↔ ∃ hk : posE n l < l.length, (l[posE n l]).n = n := by
  have h1 := h.there (n := n)
  unfold thereE at h1
  rw [h1]
  constructor
  · rintro ⟨y, hy, e⟩
    obtain ⟨hk, e2⟩ := List.getElem?_eq_some_iff.1 hy
    exact ⟨hk, by rw [e2]; exact e⟩
  · rintro ⟨hk, e⟩
    exact ⟨_, List.getElem?_eq_getElem hk, e⟩
theorem find_at {l : List En} {n : List UInt8} (h : Rise l) {k : Nat} (hk : k < l.length) (e : l[k].n = n) : (∃ y ∈ l, y.n = n) ∧ findI l n = l[k].i := by
  have ht : ∃ y ∈ l, y.n = n := ⟨l[k], List.getElem_mem hk, e⟩
  refine ⟨ht, ?_⟩
  obtain ⟨hp, ep⟩ := (there_pos h).1 ht
  unfold findI
  rw [if_pos ht, List.getElem?_eq_getElem hp]
  have := h.one (List.getElem_mem hp) (List.getElem_mem hk) (by rw [ep, e])
  rw [this]
  rfl
theorem find_none {l : List En} {n : List UInt8} (h : ¬ ∃ y ∈ l, y.n = n) : findI l n = 0 := if_neg h
end Go.Proofs.YtkhgaolaaiekjaaDoor
