/-
  DERIVED. GIVEN WITH THE SEED: THE CARDS: each row of YthfddmgphdklfaaDoorRows.lean that lists a variable, with what it lists TIED to the program's text (the seventh form; the later family's looks); each row that meets fmt, with fmt's text TOLD by the authors' own Lean function (tested against real Go, not proved from fmt's source: count such statements apart). THE CARD IS WHAT COUNTS. Prove the row's statement (the work); the ties are given (YthfddmgphdklfaaDoorTie.lean); close each card by the builder's one call (the guide's Derived/Test/ToyasCard.lean, 'card_holds'). Laid BY PROGRAM, IN A SANDBOX (cutbox-door.mjs). By AI agents, Wed Nov 11 2026. No macro, syntax, notation, axiom, sorry.
-/
import Derived.Test.YthfddmgphdklfaaDoorRows
import GoSem.ClaimSeven
namespace Go.Proofs.YthfddmgphdklfaaDoor
namespace Rows

/-- THE TIED CARD OF 'loggialaw2.TextAny'. -/
def textAnyCard : Claim7 := { stood := { row := textAnyRow, standIns := [], harness := (true, "5520f84debd1bb5c8172aa283c80cad9fbf438d21123637d741fdbda0edd275d"), looks := true }, kinds := [], alts := [], laidByText := true, laidKinds := [.data, .pinned], laidTests := true, laidLooks := .later }
def TextAnyCardSaid : Prop := Claim7.holds Tryd.pinned (.plain (OpenSpec.ofChange textAnySpec)) textAnyCard

/-- THE TIED CARD OF 'loggialaw2.TextBack'. -/
def textBackCard : Claim7 := { stood := { row := textBackRow, standIns := [], harness := (true, "5520f84debd1bb5c8172aa283c80cad9fbf438d21123637d741fdbda0edd275d"), looks := true }, kinds := [], alts := [], laidByText := true, laidKinds := [.data, .pinned], laidTests := true, laidLooks := .later }
def TextBackCardSaid : Prop := Claim7.holds Tryd.pinned (.plain (OpenSpec.ofChange textBackSpec)) textBackCard

/-- THE TIED CARD OF 'loggialaw2.TextBytes'. -/
def textBytesCard : Claim7 := { stood := { row := textBytesRow, standIns := [], harness := (true, "5520f84debd1bb5c8172aa283c80cad9fbf438d21123637d741fdbda0edd275d"), looks := true }, kinds := [], alts := [], laidByText := true, laidKinds := [.data, .pinned], laidTests := true, laidLooks := .later }
def TextBytesCardSaid : Prop := Claim7.holds Tryd.pinned (.plain (OpenSpec.ofChange textBytesSpec)) textBytesCard

/-- THE TIED CARD OF 'loggialaw2.TextPairs'. -/
def textPairsCard : Claim7 := { stood := { row := textPairsRow, standIns := [], harness := (true, "5520f84debd1bb5c8172aa283c80cad9fbf438d21123637d741fdbda0edd275d"), looks := true }, kinds := [], alts := [], laidByText := true, laidKinds := [.data, .pinned], laidTests := true, laidLooks := .later }
def TextPairsCardSaid : Prop := Claim7.holds Tryd.pinned (.plain (OpenSpec.ofChange textPairsSpec)) textPairsCard

/-- THE SECOND FORM's CARD OF 'loggialaw2.TextAny'. -/
def textAnyUptoCard : Claim7 := { stood := { row := textAnyUptoRow, standIns := [], harness := (true, "5520f84debd1bb5c8172aa283c80cad9fbf438d21123637d741fdbda0edd275d"), looks := true }, kinds := [], alts := [], laidByText := true, laidKinds := [.data, .pinned], laidTests := true, laidLooks := .later }
def TextAnyUptoCardSaid : Prop := Claim7.holds Tryd.pinned (.plain (OpenSpec.upto textAnySpec)) textAnyUptoCard

/-- THE SECOND FORM's CARD OF 'loggialaw2.TextBack'. -/
def textBackUptoCard : Claim7 := { stood := { row := textBackUptoRow, standIns := [], harness := (true, "5520f84debd1bb5c8172aa283c80cad9fbf438d21123637d741fdbda0edd275d"), looks := true }, kinds := [], alts := [], laidByText := true, laidKinds := [.data, .pinned], laidTests := true, laidLooks := .later }
def TextBackUptoCardSaid : Prop := Claim7.holds Tryd.pinned (.plain (OpenSpec.upto textBackSpec)) textBackUptoCard

/-- THE SECOND FORM's CARD OF 'loggialaw2.TextBytes'. -/
def textBytesUptoCard : Claim7 := { stood := { row := textBytesUptoRow, standIns := [], harness := (true, "5520f84debd1bb5c8172aa283c80cad9fbf438d21123637d741fdbda0edd275d"), looks := true }, kinds := [], alts := [], laidByText := true, laidKinds := [.data, .pinned], laidTests := true, laidLooks := .later }
def TextBytesUptoCardSaid : Prop := Claim7.holds Tryd.pinned (.plain (OpenSpec.upto textBytesSpec)) textBytesUptoCard

/-- THE SECOND FORM's CARD OF 'loggialaw2.TextPairs'. -/
def textPairsUptoCard : Claim7 := { stood := { row := textPairsUptoRow, standIns := [], harness := (true, "5520f84debd1bb5c8172aa283c80cad9fbf438d21123637d741fdbda0edd275d"), looks := true }, kinds := [], alts := [], laidByText := true, laidKinds := [.data, .pinned], laidTests := true, laidLooks := .later }
def TextPairsUptoCardSaid : Prop := Claim7.holds Tryd.pinned (.plain (OpenSpec.upto textPairsSpec)) textPairsUptoCard
end Rows
end Go.Proofs.YthfddmgphdklfaaDoor
