/-
  DERIVED. GIVEN WITH THE SEED: THE CARDS: each row of YtbfigbbenaoaeaaDoorRows.lean that lists a variable, with what it lists TIED to the program's text (the seventh form; the later family's looks); each row that meets fmt, with fmt's text TOLD by the authors' own Lean function (tested against real Go, not proved from fmt's source: count such statements apart). THE CARD IS WHAT COUNTS. Prove the row's statement (the work); the ties are given (YtbfigbbenaoaeaaDoorTie.lean); close each card by the builder's one call (the guide's Derived/Test/ToyasCard.lean, 'card_holds'). Laid BY PROGRAM, IN A SANDBOX (cutbox-door.mjs). By AI agents, Wed Nov 11 2026. No macro, syntax, notation, axiom, sorry.
-/
import Derived.Test.YtbfigbbenaoaeaaDoorRows
import GoSem.ClaimSeven
namespace Go.Proofs.YtbfigbbenaoaeaaDoor
namespace Rows

/-- THE TIED CARD OF 'loggialaw4.StatBack'. -/
def statBackCard : Claim7 := { stood := { row := statBackRow, standIns := [], harness := (true, "ceb63c5e7c0e01fb8b25ddcb9a6618d1fa721e22b34dc8a6982e4245ec7eb503"), looks := true }, kinds := [], alts := [], laidByText := true, laidKinds := [.data, .pinned], laidTests := true, laidLooks := .later }
def StatBackCardSaid : Prop := Claim7.holds Tryd.pinned (.plain (OpenSpec.ofChange statBackSpec)) statBackCard

/-- THE TIED CARD OF 'loggialaw4.StatBytes'. -/
def statBytesCard : Claim7 := { stood := { row := statBytesRow, standIns := [], harness := (true, "ceb63c5e7c0e01fb8b25ddcb9a6618d1fa721e22b34dc8a6982e4245ec7eb503"), looks := true }, kinds := [], alts := [], laidByText := true, laidKinds := [.data, .pinned], laidTests := true, laidLooks := .later }
def StatBytesCardSaid : Prop := Claim7.holds Tryd.pinned (.plain (OpenSpec.ofChange statBytesSpec)) statBytesCard

/-- THE TIED CARD OF 'loggialaw4.StatCut'. -/
def statCutCard : Claim7 := { stood := { row := statCutRow, standIns := [], harness := (true, "ceb63c5e7c0e01fb8b25ddcb9a6618d1fa721e22b34dc8a6982e4245ec7eb503"), looks := true }, kinds := [], alts := [], laidByText := true, laidKinds := [.data, .pinned], laidTests := true, laidLooks := .later }
def StatCutCardSaid : Prop := Claim7.holds Tryd.pinned (.plain (OpenSpec.ofChange statCutSpec)) statCutCard

/-- THE SECOND FORM's CARD OF 'loggialaw4.StatBack'. -/
def statBackUptoCard : Claim7 := { stood := { row := statBackUptoRow, standIns := [], harness := (true, "ceb63c5e7c0e01fb8b25ddcb9a6618d1fa721e22b34dc8a6982e4245ec7eb503"), looks := true }, kinds := [], alts := [], laidByText := true, laidKinds := [.data, .pinned], laidTests := true, laidLooks := .later }
def StatBackUptoCardSaid : Prop := Claim7.holds Tryd.pinned (.plain (OpenSpec.upto statBackSpec)) statBackUptoCard

/-- THE SECOND FORM's CARD OF 'loggialaw4.StatBytes'. -/
def statBytesUptoCard : Claim7 := { stood := { row := statBytesUptoRow, standIns := [], harness := (true, "ceb63c5e7c0e01fb8b25ddcb9a6618d1fa721e22b34dc8a6982e4245ec7eb503"), looks := true }, kinds := [], alts := [], laidByText := true, laidKinds := [.data, .pinned], laidTests := true, laidLooks := .later }
def StatBytesUptoCardSaid : Prop := Claim7.holds Tryd.pinned (.plain (OpenSpec.upto statBytesSpec)) statBytesUptoCard

/-- THE SECOND FORM's CARD OF 'loggialaw4.StatCut'. -/
def statCutUptoCard : Claim7 := { stood := { row := statCutUptoRow, standIns := [], harness := (true, "ceb63c5e7c0e01fb8b25ddcb9a6618d1fa721e22b34dc8a6982e4245ec7eb503"), looks := true }, kinds := [], alts := [], laidByText := true, laidKinds := [.data, .pinned], laidTests := true, laidLooks := .later }
def StatCutUptoCardSaid : Prop := Claim7.holds Tryd.pinned (.plain (OpenSpec.upto statCutSpec)) statCutUptoCard
end Rows
end Go.Proofs.YtbfigbbenaoaeaaDoor
