/-
  What the listed table of math/bits reads as is what the walks ask of memory; and one world in which it lies.
-/
import Derived.Test.YtaenobgpbphlfaaDoorLaw9Known
import Derived.Test.YtaenobgpbphlfaaDoorTie
import Derived.Test.YtaenobgpbphlfaaDoorCards
import Derived.ProofKit
import Derived.ChangeMaps5
import Derived.PinnedBridge
import Derived.Lay
import Derived.Lib.LaidTab
import Derived.SevenTiedAt
namespace Go.Proofs.YtaenobgpbphlfaaDoor
open Go.RowKit Go.Lib
set_option maxRecDepth 100000

def tzInts : List Int := deBruijn64tab.map Int.ofNat
def laid9 : List (String × DataW Unit) := Rows.mapPlaysRow.laid
/-- The table's name, as the row lists it. -/
def tzName : String := Rows.mapPlaysRow.named.headD Rows.mapPlaysRow.func
theorem laid9_eq : laid9 = [(tzName, tabData .u8 tzInts)] := by kernel_rfl
theorem tz_named : Tryd.prog.globalNamed tzName = some 0 := by kernel_rfl
theorem tz_of_laid {W : World} (h : laidMet Tryd.prog laid9 W) : Tz W := fun j hj => by
  rw [laid9_eq] at h
  have t := tabIs_of_head tz_named (by kernel_rfl) Tryd.underlying55 Tryd.underlying5 (by kernel_rfl) (by kernel_rfl) h
  have hl : tzInts.length = 64 := by decide
  have := t.cell tz_named j (by rw [hl]; exact hj)
  rw [this]
  have hd : j < deBruijn64tab.length := by simpa [tzInts] using (show j < tzInts.length by rw [hl]; exact hj)
  simp [tzInts, List.getD, List.getElem?_map, List.getElem?_eq_getElem hd]
theorem laid9_plain (W : World) : laidMetH Tryd.prog laid9 W = laidMet Tryd.prog laid9 W := MakeChecks.laidMetH_plain _ _ _ (by kernel_rfl)
theorem laid9_world (os : Os) (A : Array Value) : laidMetH Tryd.prog laid9 ((World.laidAll Tryd.prog os laid9).forCall (fun _ _ => 0) ⟨#[], A, []⟩).memory := by
  rw [laid9_plain]
  exact laidMet_laidAll _ (by kernel_rfl) (by kernel_rfl)
theorem Tryd.laidOut9 : laidOutB Tryd.prog = true := by kernel_rfl
theorem own9 : ownKnob Tryd.prog.godebug = none := by kernel_rfl
end Go.Proofs.YtaenobgpbphlfaaDoor
