/-
  Items as an argument of layer 1's statements: what is read of them; and that the two readings of layer 1 answer alike.
-/
import Derived.Test.YthfddmgphdklfaaRefRaw
import Derived.Test.YthfddmgphdklfaaLaw1Known
namespace Go.Proofs.Ythfddmgphdklfaa
open Go.RowKit

/-- An item as the memory has it. -/
structure It where
  is : Bool
  n : Int
  v : Int
  A : Option Addr
  c : Nat
  bs : List UInt8

/-- What memory holds of one item at an address. -/
structure ItemAt (w : World) (H : Nat) (p : Addr) (x : It) : Prop where
  c0 : w.cell? p = some (.bool x.is)
  c1 : w.cell? ⟨p.block, p.off + 1, none⟩ = some (.int .i64 x.n)
  c2 : w.cell? ⟨p.block, p.off + 2, none⟩ = some (.int .u64 x.v)
  c3 : w.cell? ⟨p.block, p.off + 3, none⟩ = some (.slice x.A x.bs.length x.c)
  v0 : 0 ≤ x.v
  v1 : x.v < 18446744073709551616
  l1 : x.bs.length ≤ x.c
  l2 : x.c ≤ maxLen
  rd : Rd w 0 H x.A x.bs

def ItemsAt (w : World) (H : Nat) (A : Option Addr) (xs : List It) : Prop :=
  0 < xs.length → ∃ ad, A = some ad ∧ ad.block < H ∧ ∀ j (hj : j < xs.length), ItemAt w H (ad.add (j * 4)) xs[j]

theorem ItemAt.below {w w' : World} {H : Nat} {p : Addr} {x : It} (h : ItemAt w H p x) (b : Below H w w') (hp : p.block < H) : ItemAt w' H p x :=
  ⟨(b.cell hp).trans h.c0, (b.cell (p := ⟨p.block, p.off + 1, none⟩) hp).trans h.c1, (b.cell (p := ⟨p.block, p.off + 2, none⟩) hp).trans h.c2, (b.cell (p := ⟨p.block, p.off + 3, none⟩) hp).trans h.c3, h.v0, h.v1, h.l1, h.l2,
    h.rd.keep fun _ _ hq => b.cell hq⟩

/-- The two readings agree. -/
def Agree (rest bs : List UInt8) (k : Nat) (er : Int) : Prop := k ≤ bs.length ∧ ((er = 0 ∧ rest = bs.drop k) ∨ (er ≠ 0 ∧ rest = []))

theorem agree_take (n : Int) (rest bs : List UInt8) (k : Nat) (er : Int) (h : Agree rest bs k er) :
    ∃ r rest' k' er', takeSt n rest er = (r, rest', er') ∧ refT n bs k er = (r, k', er') ∧ Agree rest' bs k' er' := by
  obtain ⟨hk, ⟨rfl, rfl⟩ | ⟨he, rfl⟩⟩ := h
  · have hl : (bs.drop k).length = bs.length - k := List.length_drop
    by_cases h1 : n < 1 ∨ 8 < n
    · exact ⟨0, [], k, 1, by rw [takeSt, if_neg (by simp), if_pos h1], by rw [refT, if_neg (by simp), if_pos h1], hk, .inr ⟨by omega, rfl⟩⟩
    · by_cases h2 : (bs.length : Int) - k < n
      · exact ⟨0, [], k, 4, by rw [takeSt, if_neg (by simp), if_neg h1, if_pos (by rw [hl]; omega)], by rw [refT, if_neg (by simp), if_neg h1, if_pos h2], hk, .inr ⟨by omega, rfl⟩⟩
      · exact ⟨_, _, _, 0, by rw [takeSt, if_neg (by simp), if_neg h1, if_neg (by rw [hl]; omega)], by rw [refT, if_neg (by simp), if_neg h1, if_neg h2], by omega, .inl ⟨rfl, by rw [List.drop_drop]⟩⟩
  · exact ⟨0, [], k, er, by rw [takeSt, if_pos he], by rw [refT, if_pos he], hk, .inr ⟨he, rfl⟩⟩

theorem agree_raw (n : Int) (rest bs : List UInt8) (k : Nat) (er : Int) (h : Agree rest bs k er) :
    ∃ r rest' k' er', rawSt n rest er = (r, rest', er') ∧ refR n bs k er = (r, k', er') ∧ Agree rest' bs k' er' := by
  obtain ⟨hk, ⟨rfl, rfl⟩ | ⟨he, rfl⟩⟩ := h
  · have hl : (bs.drop k).length = bs.length - k := List.length_drop
    by_cases h1 : n < 0
    · exact ⟨[], [], k, 1, by rw [rawSt, if_neg (by simp), if_pos h1], by rw [refR, if_neg (by simp), if_pos h1], hk, .inr ⟨by omega, rfl⟩⟩
    · by_cases h2 : (bs.length : Int) - k < n
      · exact ⟨[], [], k, 4, by rw [rawSt, if_neg (by simp), if_neg h1, if_pos (by rw [hl]; omega)], by rw [refR, if_neg (by simp), if_neg h1, if_pos h2], hk, .inr ⟨by omega, rfl⟩⟩
      · exact ⟨_, _, _, 0, by rw [rawSt, if_neg (by simp), if_neg h1, if_neg (by rw [hl]; omega)], by rw [refR, if_neg (by simp), if_neg h1, if_neg h2], by omega, .inl ⟨rfl, by rw [List.drop_drop]⟩⟩
  · exact ⟨[], [], k, er, by rw [rawSt, if_pos he], by rw [refR, if_pos he], hk, .inr ⟨he, rfl⟩⟩

theorem agree_left {rest bs : List UInt8} {k : Nat} {er : Int} (h : Agree rest bs k er) : (if er ≠ 0 then 0 else (bs.length : Int) - k) = (rest.length : Int) := by
  obtain ⟨hk, ⟨rfl, rfl⟩ | ⟨he, rfl⟩⟩ := h
  · rw [if_neg (by simp), List.length_drop]; omega
  · rw [if_pos he]; rfl
theorem agree_len {rest bs : List UInt8} {k : Nat} {er : Int} (h : Agree rest bs k er) : rest.length ≤ bs.length := by
  obtain ⟨hk, ⟨rfl, rfl⟩ | ⟨he, rfl⟩⟩ := h
  · rw [List.length_drop]; omega
  · simp
end Go.Proofs.Ythfddmgphdklfaa
