/-
  Arguments opened: a list of bytes as it came in.
-/
import Derived.Test.YtkhgaolaaiekjaaDoorMem
import Derived.ProofKit
import Derived.OpenShut
import Derived.Deep.Slices
import Derived.Deep.Fields
namespace Go.Proofs.YtkhgaolaaiekjaaDoor
open Go.ChangeShapes Go.WideShapes Go.RowKit Go.Deep

section
variable {H : Type} {enc : TypeId × Value → H} {P : Program} {w : World} {base : Nat} {spare : Nat → Bool} {held : Bool}

/-- A byte out of a number that is one. -/
theorem b8_of {z : Int} (h : (Lit.int .u8 z).wf = true) : b8 (UInt8.ofNat z.toNat) = .int .u8 z := by
  have hb := bounds_u8 h
  unfold b8
  congr 1
  rw [UInt8.toNat_ofNat']
  omega

theorem open_bytes {t e : TypeId} {fuel : Nat} {cs : List Value} {x : DataW H × List MemPlace} (ht : P.underlying t = some (.slice e)) (he : P.underlying e = some (.int .u8)) (hc : P.cellsOf e = 1)
    (h : DataW.trod enc P w base spare held fuel t cs = some x) : ∃ A c bs, cs = [.slice A bs.length c] ∧ bs.length ≤ c ∧ c ≤ maxLen ∧ Rd w 0 w.heap.size A bs := by
  rcases open_ints ht he hc h with ⟨rfl, _⟩ | ⟨a, len, cap, zs, rfl, _, hl, hm, hz, _, hcell, hwf⟩
  · exact ⟨none, 0, [], rfl, Nat.le_refl _, by simp [maxLen], Rd.empty _ _ _ _⟩
  · have hlz : len ≤ zs.length := by rw [hz]; split <;> omega
    refine ⟨some a, cap, (zs.take len).map fun z => UInt8.ofNat z.toNat, ?_, ?_, hm, ?_⟩
    · simp [Nat.min_eq_left hlz]
    · simp; omega
    · intro hn
      have h0 : 0 < len := by simp [Nat.min_eq_left hlz] at hn; exact hn
      have hb := World.block_lt_of_cell? w (a.add 0) (hcell 0 (by omega))
      rw [addr_block] at hb
      refine ⟨a, rfl, Nat.zero_le _, hb, fun j u hu => ?_⟩
      have hj : j < len := by
        have := (List.getElem?_eq_some_iff.1 hu).1
        simp [b8s, Nat.min_eq_left hlz] at this
        exact this
      rw [hcell j (by omega), ← hu]
      have hjz : j < zs.length := by omega
      simp only [b8s, List.getElem?_map, List.getElem?_take, if_pos hj, List.getElem?_eq_getElem hjz, Option.map_some]
      rw [b8_of (hwf _ (List.getElem_mem hjz))]
      simp [List.getD, List.getElem?_eq_getElem hjz]
end
end Go.Proofs.YtkhgaolaaiekjaaDoor
