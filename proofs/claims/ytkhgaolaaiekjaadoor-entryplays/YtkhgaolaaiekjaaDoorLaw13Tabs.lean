/-
  What the listed tables of the decoder read as is what the walks ask of memory; and one world in which they lie.
-/
import Derived.Test.YtkhgaolaaiekjaaDoorPackEntB
import Derived.Test.YtkhgaolaaiekjaaDoorTie
import Derived.Test.YtkhgaolaaiekjaaDoorCards
import Derived.ProofKit
import Derived.ChangeMaps5
import Derived.PinnedBridge
import Derived.Lay
import Derived.Lib.LaidU8
import Derived.SevenTiedAt
namespace Go.Proofs.YtkhgaolaaiekjaaDoor
open Go.RowKit Go.Shelf Go.Lib
set_option maxRecDepth 100000

theorem Tryd.u8x : U8Extra Tryd.prog Tryd.lays197_ren := ⟨by kernel_rfl, by kernel_rfl, by kernel_rfl, by kernel_rfl, by kernel_rfl, by kernel_rfl, by kernel_rfl⟩
theorem accept_eq : (Rows.laid_unicode_utf8_acceptRanges : DataW Unit) = acceptData := by kernel_rfl
theorem first_eq : Rows.laid_unicode_utf8_first = firstData := Pinned.utf8First_eq
def laid2 : List (String × DataW Unit) := Rows.entryBackRow.laid
theorem tabs_of_laid {W : World} (h : laidMet Tryd.prog laid2 W) : Tabs W :=
  utf8Tabs_of_reads { Tryd.lays197 with } Tryd.u8x (first_eq ▸ laidMet.reads h (.tail _ (.head _))) (accept_eq ▸ laidMet.reads h (.head _))
theorem laid_plain (W : World) : laidMetH Tryd.prog laid2 W = laidMet Tryd.prog laid2 W := MakeChecks.laidMetH_plain _ _ _ (by kernel_rfl)
theorem laid_world (os : Os) (A : Array Value) : laidMetH Tryd.prog laid2 ((World.laidAll Tryd.prog os laid2).forCall (fun _ _ => 0) ⟨#[], A, []⟩).memory := by
  rw [laid_plain]
  exact laidMet_laidAll _ (by kernel_rfl) (by kernel_rfl)
theorem Tryd.laidOut : laidOutB Tryd.prog = true := by kernel_rfl
theorem own2 : ownKnob Tryd.prog.godebug = none := by kernel_rfl
theorem strOf_data (s : ByteArray) : strOf s.data.toList = s := ByteArray.ext (by simp [strOf])
end Go.Proofs.YtkhgaolaaiekjaaDoor
