/-
  DERIVED. GIVEN WITH THE SEED: THE CARDS: each row of YtepiifbleoimkaaGreatDoorRows.lean that lists a variable, with what it lists TIED to the program's text (the seventh form; the later family's looks); each row that meets fmt, with fmt's text TOLD by the authors' own Lean function (tested against real Go, not proved from fmt's source: count such statements apart). THE CARD IS WHAT COUNTS. Prove the row's statement (the work); the ties are given (YtepiifbleoimkaaGreatDoorTie.lean); close each card by the builder's one call (the guide's Derived/Test/ToyasCard.lean, 'card_holds'). Laid BY PROGRAM, IN A SANDBOX (cutbox-door.mjs). By AI agents, Wed Nov 11 2026. No macro, syntax, notation, axiom, sorry.
-/
import Derived.Test.YtepiifbleoimkaaGreatDoorRows
import GoSem.ClaimSeven
namespace Go.Proofs.YtepiifbleoimkaaGreatDoor
namespace Rows

/-- THE TIED CARD OF 'loggialaw5.MsgBytes'. -/
def msgBytesCard : Claim7 := { stood := { row := msgBytesRow, standIns := [], harness := (true, "1f5f0b3ca1ef2a9bcab1cdbc0fd56daf0b5c67d75021491fd84ddc4bcb782d6c"), looks := true }, kinds := [], alts := [], laidByText := true, laidKinds := [.data, .pinned], laidTests := true, laidLooks := .later }
def MsgBytesCardSaid : Prop := Claim7.holds Tryz.pinned (.plain (OpenSpec.ofChange msgBytesSpec)) msgBytesCard

/-- THE SECOND FORM's CARD OF 'loggialaw5.MsgBytes'. -/
def msgBytesUptoCard : Claim7 := { stood := { row := msgBytesUptoRow, standIns := [], harness := (true, "1f5f0b3ca1ef2a9bcab1cdbc0fd56daf0b5c67d75021491fd84ddc4bcb782d6c"), looks := true }, kinds := [], alts := [], laidByText := true, laidKinds := [.data, .pinned], laidTests := true, laidLooks := .later }
def MsgBytesUptoCardSaid : Prop := Claim7.holds Tryz.pinned (.plain (OpenSpec.upto msgBytesSpec)) msgBytesUptoCard
end Rows
end Go.Proofs.YtepiifbleoimkaaGreatDoor
