/-
  Rows of Booleans as values; a slice whose cells are these; nothing of the program is used here.
-/
import Derived.Test.YtkhgaolaaiekjaaDoorVals
import Derived.Laws.OwnMore
namespace Go.Proofs.YtkhgaolaaiekjaaDoor
open Go.RowKit

def bvs (l : List Bool) : List Value := l.map Value.bool
theorem bvs_length (l : List Bool) : (bvs l).length = l.length := by simp [bvs]
theorem bvs_get {l : List Bool} {i : Nat} (h : i < l.length) : (bvs l)[i]? = some (.bool l[i]) := by simp [bvs, h]
theorem bvs_one (l : List Bool) : ∀ u ∈ bvs l, u.oneCell' = true := by
  intro u hu
  obtain ⟨c, _, rfl⟩ := List.mem_map.1 hu
  rfl

/-- A slice of n elements whose cells are these; its block is one of E. -/
def RwIs (w : World) (E : Nat → Prop) (n : Nat) (x : Value) (us : List Value) : Prop :=
  ∃ A c, x = .slice A n c ∧ (0 < us.length → ∃ ad, A = some ad ∧ E ad.block ∧ ad.block < w.heap.size ∧ ∀ j u, us[j]? = some u → w.cell? (ad.add j) = some u)
section
variable {a b w : World} {S E F : Nat → Prop} {n size B : Nat} {e : TypeId} {x v : Value} {us : List Value}
theorem RwIs.only (h : RwIs a E n x us) (k : Only S a b) (hn : ∀ i, i < a.heap.size → E i → ¬ S i) : RwIs b E n x us := by
  obtain ⟨A, c, e, h3⟩ := h
  refine ⟨A, c, e, fun h0 => ?_⟩
  obtain ⟨ad, q1, q2, q3, q4⟩ := h3 h0
  refine ⟨ad, q1, q2, Nat.lt_of_lt_of_le q3 k.size, fun j u hu => ?_⟩
  exact (k.cell (by rw [addr_block]; exact q3) (by rw [addr_block]; exact hn _ q3 q2)).trans (q4 j u hu)
theorem RwIs.mono (h : RwIs w E n x us) (hs : ∀ i, i < w.heap.size → E i → F i) : RwIs w F n x us := by
  obtain ⟨A, c, e, h3⟩ := h
  refine ⟨A, c, e, fun h0 => ?_⟩
  obtain ⟨ad, q1, q2, q3, q4⟩ := h3 h0
  exact ⟨ad, q1, hs _ q3 q2, q3, q4⟩
theorem RwIs.drew (h : RwIs w E n x us) : RwIs w.drew E n x us := h
theorem RwIs.nil (w : World) (E : Nat → Prop) : RwIs w E 0 (.slice none 0 0) [] := ⟨none, 0, rfl, fun h => absurd h (by simp)⟩
theorem RwIs.of_own (h : w.ownsRow B e size v n us) : RwIs w (fun i => v.ownBlock = some i) n v us := by
  rcases id h.2 with ⟨rfl, h0⟩ | ⟨g, cap, cur, rfl, _, hg, _⟩
  · refine ⟨none, 0, by rw [h0], fun hn => ?_⟩
    have := h.1
    rw [h0, Nat.zero_mul] at this
    omega
  · exact ⟨_, cap, rfl, fun _ => ⟨_, rfl, rfl, (Array.getElem?_eq_some_iff.1 hg).1, h.cells (g := g) rfl⟩⟩
theorem owns_some (h : w.ownsRow B e size v n us) (hn : 0 < n) : ∃ g c, v = .slice (some ⟨g, 0, none⟩) n c ∧ n ≤ c ∧ c ≤ maxLen := by
  rcases id h.2 with ⟨rfl, h0⟩ | ⟨g, cap, cur, rfl, _, _, h1, h2, _⟩
  · omega
  · exact ⟨g, cap, rfl, h1, h2⟩
theorem owns_lt (h : w.ownsRow B e size v n us) {i : Nat} (hi : v.ownBlock = some i) : B ≤ i ∧ i < w.heap.size := h.lt i hi
end
end Go.Proofs.YtkhgaolaaiekjaaDoor
