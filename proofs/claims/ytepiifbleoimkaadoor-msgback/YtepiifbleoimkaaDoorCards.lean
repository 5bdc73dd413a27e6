/-
  DERIVED. GIVEN WITH THE SEED: THE CARDS: each row of YtepiifbleoimkaaDoorRows.lean that lists a variable, with what it lists TIED to the program's text (the seventh form; the later family's looks); each row that meets fmt, with fmt's text TOLD by the authors' own Lean function (tested against real Go, not proved from fmt's source: count such statements apart). THE CARD IS WHAT COUNTS. Prove the row's statement (the work); the ties are given (YtepiifbleoimkaaDoorTie.lean); close each card by the builder's one call (the guide's Derived/Test/ToyasCard.lean, 'card_holds'). Laid BY PROGRAM, IN A SANDBOX (cutbox-door.mjs). By AI agents, Wed Nov 11 2026. No macro, syntax, notation, axiom, sorry.
-/
import Derived.Test.YtepiifbleoimkaaDoorRows
import GoSem.ClaimSeven
namespace Go.Proofs.YtepiifbleoimkaaDoor
namespace Rows

/-- THE TIED CARD OF 'loggialaw5.MsgBack'. -/
def msgBackCard : Claim7 := { stood := { row := msgBackRow, standIns := [], harness := (true, "590375cfa8274b1d9b4ab44b26c9ed406b43a91c5c8903c611cee8e83f7e6a7c"), looks := true }, kinds := [], alts := [], laidByText := true, laidKinds := [.data, .pinned], laidTests := true, laidLooks := .later }
def MsgBackCardSaid : Prop := Claim7.holds Tryd.pinned (.plain (OpenSpec.ofChange msgBackSpec)) msgBackCard

/-- THE TIED CARD OF 'loggialaw5.MsgKinds'. -/
def msgKindsCard : Claim7 := { stood := { row := msgKindsRow, standIns := [], harness := (true, "590375cfa8274b1d9b4ab44b26c9ed406b43a91c5c8903c611cee8e83f7e6a7c"), looks := true }, kinds := [], alts := [], laidByText := true, laidKinds := [.data, .pinned], laidTests := true, laidLooks := .later }
def MsgKindsCardSaid : Prop := Claim7.holds Tryd.pinned (.plain (OpenSpec.ofChange msgKindsSpec)) msgKindsCard

/-- THE TIED CARD OF 'loggialaw5.MsgTwo'. -/
def msgTwoCard : Claim7 := { stood := { row := msgTwoRow, standIns := [], harness := (true, "590375cfa8274b1d9b4ab44b26c9ed406b43a91c5c8903c611cee8e83f7e6a7c"), looks := true }, kinds := [], alts := [], laidByText := true, laidKinds := [.data, .pinned], laidTests := true, laidLooks := .later }
def MsgTwoCardSaid : Prop := Claim7.holds Tryd.pinned (.plain (OpenSpec.ofChange msgTwoSpec)) msgTwoCard

/-- THE TIED CARD OF 'loggialaw5.MsgCuts'. -/
def msgCutsCard : Claim7 := { stood := { row := msgCutsRow, standIns := [], harness := (true, "590375cfa8274b1d9b4ab44b26c9ed406b43a91c5c8903c611cee8e83f7e6a7c"), looks := true }, kinds := [], alts := [], laidByText := true, laidKinds := [.data, .pinned], laidTests := true, laidLooks := .later }
def MsgCutsCardSaid : Prop := Claim7.holds Tryd.pinned (.plain (OpenSpec.ofChange msgCutsSpec)) msgCutsCard

/-- THE TIED CARD OF 'loggialaw5.MsgNames'. -/
def msgNamesCard : Claim7 := { stood := { row := msgNamesRow, standIns := [], harness := (true, "590375cfa8274b1d9b4ab44b26c9ed406b43a91c5c8903c611cee8e83f7e6a7c"), looks := true }, kinds := [], alts := [], laidByText := true, laidKinds := [.data, .pinned], laidTests := true, laidLooks := .later }
def MsgNamesCardSaid : Prop := Claim7.holds Tryd.pinned (.plain (OpenSpec.ofChange msgNamesSpec)) msgNamesCard

/-- THE SECOND FORM's CARD OF 'loggialaw5.MsgBack'. -/
def msgBackUptoCard : Claim7 := { stood := { row := msgBackUptoRow, standIns := [], harness := (true, "590375cfa8274b1d9b4ab44b26c9ed406b43a91c5c8903c611cee8e83f7e6a7c"), looks := true }, kinds := [], alts := [], laidByText := true, laidKinds := [.data, .pinned], laidTests := true, laidLooks := .later }
def MsgBackUptoCardSaid : Prop := Claim7.holds Tryd.pinned (.plain (OpenSpec.upto msgBackSpec)) msgBackUptoCard

/-- THE SECOND FORM's CARD OF 'loggialaw5.MsgKinds'. -/
def msgKindsUptoCard : Claim7 := { stood := { row := msgKindsUptoRow, standIns := [], harness := (true, "590375cfa8274b1d9b4ab44b26c9ed406b43a91c5c8903c611cee8e83f7e6a7c"), looks := true }, kinds := [], alts := [], laidByText := true, laidKinds := [.data, .pinned], laidTests := true, laidLooks := .later }
def MsgKindsUptoCardSaid : Prop := Claim7.holds Tryd.pinned (.plain (OpenSpec.upto msgKindsSpec)) msgKindsUptoCard

/-- THE SECOND FORM's CARD OF 'loggialaw5.MsgTwo'. -/
def msgTwoUptoCard : Claim7 := { stood := { row := msgTwoUptoRow, standIns := [], harness := (true, "590375cfa8274b1d9b4ab44b26c9ed406b43a91c5c8903c611cee8e83f7e6a7c"), looks := true }, kinds := [], alts := [], laidByText := true, laidKinds := [.data, .pinned], laidTests := true, laidLooks := .later }
def MsgTwoUptoCardSaid : Prop := Claim7.holds Tryd.pinned (.plain (OpenSpec.upto msgTwoSpec)) msgTwoUptoCard

/-- THE SECOND FORM's CARD OF 'loggialaw5.MsgCuts'. -/
def msgCutsUptoCard : Claim7 := { stood := { row := msgCutsUptoRow, standIns := [], harness := (true, "590375cfa8274b1d9b4ab44b26c9ed406b43a91c5c8903c611cee8e83f7e6a7c"), looks := true }, kinds := [], alts := [], laidByText := true, laidKinds := [.data, .pinned], laidTests := true, laidLooks := .later }
def MsgCutsUptoCardSaid : Prop := Claim7.holds Tryd.pinned (.plain (OpenSpec.upto msgCutsSpec)) msgCutsUptoCard

/-- THE SECOND FORM's CARD OF 'loggialaw5.MsgNames'. -/
def msgNamesUptoCard : Claim7 := { stood := { row := msgNamesUptoRow, standIns := [], harness := (true, "590375cfa8274b1d9b4ab44b26c9ed406b43a91c5c8903c611cee8e83f7e6a7c"), looks := true }, kinds := [], alts := [], laidByText := true, laidKinds := [.data, .pinned], laidTests := true, laidLooks := .later }
def MsgNamesUptoCardSaid : Prop := Claim7.holds Tryd.pinned (.plain (OpenSpec.upto msgNamesSpec)) msgNamesUptoCard
end Rows
end Go.Proofs.YtepiifbleoimkaaDoor
