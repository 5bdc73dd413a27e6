/-
  DERIVED. GIVEN WITH THE SEED: THE CARDS: each row of YtaenobgpbphlfaaDoorRows.lean that lists a variable, with what it lists TIED to the program's text (the seventh form; the later family's looks); each row that meets fmt, with fmt's text TOLD by the authors' own Lean function (tested against real Go, not proved from fmt's source: count such statements apart). THE CARD IS WHAT COUNTS. Prove the row's statement (the work); the ties are given (YtaenobgpbphlfaaDoorTie.lean); close each card by the builder's one call (the guide's Derived/Test/ToyasCard.lean, 'card_holds'). Laid BY PROGRAM, IN A SANDBOX (cutbox-door.mjs). By AI agents, Wed Nov 11 2026. No macro, syntax, notation, axiom, sorry.
-/
import Derived.Test.YtaenobgpbphlfaaDoorRows
import GoSem.ClaimSeven
namespace Go.Proofs.YtaenobgpbphlfaaDoor
namespace Rows

/-- THE TIED CARD OF 'loggialaw9.MapPlays'. -/
def mapPlaysCard : Claim7 := { stood := { row := mapPlaysRow, standIns := [], harness := (true, "7a8c036d01fe4380ba0e2b9443fc8b75d7744764732ab2e98b0a4c871143237d"), looks := false }, kinds := [], alts := [], laidByText := true, laidKinds := [.data], laidTests := true, laidLooks := .later }
def MapPlaysCardSaid : Prop := Claim7.holds Tryd.pinned (.plain (OpenSpec.ofChange mapPlaysSpec)) mapPlaysCard

/-- THE TIED CARD OF 'loggialaw9.MapBytes'. -/
def mapBytesCard : Claim7 := { stood := { row := mapBytesRow, standIns := [], harness := (true, "7a8c036d01fe4380ba0e2b9443fc8b75d7744764732ab2e98b0a4c871143237d"), looks := false }, kinds := [], alts := [], laidByText := true, laidKinds := [.data], laidTests := true, laidLooks := .later }
def MapBytesCardSaid : Prop := Claim7.holds Tryd.pinned (.plain (OpenSpec.ofChange mapBytesSpec)) mapBytesCard

/-- THE TIED CARD OF 'loggialaw9.MapFull'. -/
def mapFullCard : Claim7 := { stood := { row := mapFullRow, standIns := [], harness := (true, "7a8c036d01fe4380ba0e2b9443fc8b75d7744764732ab2e98b0a4c871143237d"), looks := false }, kinds := [], alts := [], laidByText := true, laidKinds := [.data], laidTests := true, laidLooks := .later }
def MapFullCardSaid : Prop := Claim7.holds Tryd.pinned (.plain (OpenSpec.ofChange mapFullSpec)) mapFullCard

/-- THE SECOND FORM's CARD OF 'loggialaw9.MapPlays'. -/
def mapPlaysUptoCard : Claim7 := { stood := { row := mapPlaysUptoRow, standIns := [], harness := (true, "7a8c036d01fe4380ba0e2b9443fc8b75d7744764732ab2e98b0a4c871143237d"), looks := false }, kinds := [], alts := [], laidByText := true, laidKinds := [.data], laidTests := true, laidLooks := .later }
def MapPlaysUptoCardSaid : Prop := Claim7.holds Tryd.pinned (.plain (OpenSpec.upto mapPlaysSpec)) mapPlaysUptoCard

/-- THE SECOND FORM's CARD OF 'loggialaw9.MapBytes'. -/
def mapBytesUptoCard : Claim7 := { stood := { row := mapBytesUptoRow, standIns := [], harness := (true, "7a8c036d01fe4380ba0e2b9443fc8b75d7744764732ab2e98b0a4c871143237d"), looks := false }, kinds := [], alts := [], laidByText := true, laidKinds := [.data], laidTests := true, laidLooks := .later }
def MapBytesUptoCardSaid : Prop := Claim7.holds Tryd.pinned (.plain (OpenSpec.upto mapBytesSpec)) mapBytesUptoCard

/-- THE SECOND FORM's CARD OF 'loggialaw9.MapFull'. -/
def mapFullUptoCard : Claim7 := { stood := { row := mapFullUptoRow, standIns := [], harness := (true, "7a8c036d01fe4380ba0e2b9443fc8b75d7744764732ab2e98b0a4c871143237d"), looks := false }, kinds := [], alts := [], laidByText := true, laidKinds := [.data], laidTests := true, laidLooks := .later }
def MapFullUptoCardSaid : Prop := Claim7.holds Tryd.pinned (.plain (OpenSpec.upto mapFullSpec)) mapFullUptoCard
end Rows
end Go.Proofs.YtaenobgpbphlfaaDoor
