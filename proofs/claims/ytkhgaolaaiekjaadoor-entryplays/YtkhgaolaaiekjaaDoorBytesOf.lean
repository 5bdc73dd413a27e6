/-
  The bytes of a text, as a new row ('[]byte(s)').
-/
import Derived.Test.YtkhgaolaaiekjaaDoorNumA
import Derived.Test.YtkhgaolaaiekjaaDoorUtf
import Derived.Lib.AppendStr
namespace Go.Proofs.YtkhgaolaaiekjaaDoor
open Go.RowKit Go.Lib
set_option maxRecDepth 100000

/-- The bytes of a text, as a new row. -/
theorem bytes_of (l : List UInt8) (w : World) (hl : l.length ≤ maxLen) :
    ∃ A c w', (convert 9 25 (.string (strOf l))).run Tryd.prog w = .ok (.slice A l.length c) w' ∧ SlIs w' w.heap.size w'.heap.size (.slice A l.length c) l ∧ Below w.heap.size w w' := by
  have hr := run_bytes_of_string (P := Tryd.prog) w 9 25 5 (strOf l) Tryd.underlying9 Tryd.underlying25 Tryd.underlying5
  have hz : (strOf l).size = l.length := by simp [strOf, ByteArray.size]
  rw [hz] at hr
  have hge := grownCap_ge w l.length 0 5
  have hcm := grownCap_le_maxLen w l.length 0 5 hl
  generalize grownCap w l.length 0 5 = cap at hr hge hcm
  refine ⟨_, _, _, hr, ⟨_, _, rfl, hge, hcm, fun _ => ⟨_, rfl, Nat.le_refl _, ?_, ?_⟩⟩, ?_⟩
  · show w.heap.size < (w.drew.alloc _).heap.size
    rw [World.size_alloc]
    exact Nat.lt_succ_self _
  · intro j u hu
    have hj : j < l.length := by
      have := (List.getElem?_eq_some_iff.1 hu).1
      rwa [b8s_length] at this
    rw [b8s_get hj] at hu
    injection hu with hu
    subst hu
    have hb := bytesRow_at (strOf l) cap j (by show j < l.toArray.size; simpa using hj)
    have hc := World.cell?_alloc_mark w.drew (bytesRow (strOf l) cap) 5 ((bytesRow (strOf l) cap).size, (bytesRow (strOf l) cap).size + 1) j
    have e : ((⟨w.heap.size, 0, none⟩ : Addr).add j) = ⟨w.heap.size, j, none⟩ := by by_cases hj0 : j = 0 <;> simp [Addr.add, hj0]
    rw [e]
    refine hc.trans (hb.trans ?_)
    simp [strOf, b8]
  · exact (Below.refl w.heap.size w).drew.alloc (Nat.le_refl _) _

end Go.Proofs.YtkhgaolaaiekjaaDoor
