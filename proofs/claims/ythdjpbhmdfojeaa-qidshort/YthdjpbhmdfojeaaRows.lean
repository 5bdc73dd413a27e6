/-
  No cell of these rows narrows 'for every input' (looked for: loops, veiled, ifaces, maps, wideKeys, modest, calm, conditions, laid).
  DERIVED. THE GIVEN ROWS OF THIS SEAT. 3 by the template 'for every input the law returns true; each argument reads behind the call as it read before'; 0 by the template 'total and deterministic' (their statements: YthdjpbhmdfojeaaTotals.lean).
  GIVEN WITH THE SEED: the statements are not yours to turn. If you find one false, say at which input.
  Laid BY PROGRAM, IN A SANDBOX (cutbox-rows.mjs): the forced cells as the released guide's own fill.sh prints them over the translation b52239a08b7cf9ad… (all of the seat's roots in one cut). By AI agents, Wed Nov 11 2026. No macro, syntax, notation, axiom, sorry.
-/
import Derived.Test.YthdjpbhmdfojeaaChecked
import GoSem.Claim
import GoSem.ClaimJoined
import GoSem.ClaimMapViews
import Derived.JoinedTies
import Derived.KernelRfl
namespace Go.Proofs.Ythdjpbhmdfojeaa
/- THE CELL 'sum', in the pinned program and in every row, IS THE sha256 OF THE DUMP (.gsa) THAT YthdjpbhmdfojeaaProg.lean LOADS. Nothing in Lean hashes anything: it is a label: what it is worth is what the hold of that sum in a sandbox is worth. -/
noncomputable def Try.pinned : Pinned := { name := "ythdjpbhmdfojeaa", sum := "b52239a08b7cf9ad645596924a078d9d60d056755432d9f804f5347b4eaa7a18", checked := Try.checked }
namespace Rows
def none {H : Type} : Left H := { results := [], args := [] }

/-- 'loggialaw3.QidBack': WHATEVER THE INPUT: true; the input reads as it did. -/
def qidBackSpec : ChangeSpec := { name := "qidBack", fn := fun _ => fun
  | [d1, d2] => { results := [.lit (.bool true)], args := [d1, d2] }
  | _ => none }
def qidBackRow : OpenClaim := { program := "ythdjpbhmdfojeaa", sum := "b52239a08b7cf9ad645596924a078d9d60d056755432d9f804f5347b4eaa7a18", func := "loggia/loggialaw3.QidBack", spec := "qidBack", unfollowed := true, recurses := true, apart := false }
def QidBackSaid : Prop := qidBackRow.holds Try.pinned (OpenSpec.ofChange qidBackSpec)

/-- ITS FALSE NEIGHBOUR: 'it returns false'. Refute it at one input. -/
def qidBackWrong : ChangeSpec := { name := "qidBack", fn := fun _ => fun
  | [d1, d2] => { results := [.lit (.bool false)], args := [d1, d2] }
  | _ => none }
def QidBackWrongFalsely : Prop := qidBackRow.holds Try.pinned (OpenSpec.ofChange qidBackWrong)

/-- 'loggialaw3.QidShort': WHATEVER THE INPUT: true; the input reads as it did. -/
def qidShortSpec : ChangeSpec := { name := "qidShort", fn := fun _ => fun
  | [d1, d2] => { results := [.lit (.bool true)], args := [d1, d2] }
  | _ => none }
def qidShortRow : OpenClaim := { program := "ythdjpbhmdfojeaa", sum := "b52239a08b7cf9ad645596924a078d9d60d056755432d9f804f5347b4eaa7a18", func := "loggia/loggialaw3.QidShort", spec := "qidShort", unfollowed := true, recurses := true, apart := false }
def QidShortSaid : Prop := qidShortRow.holds Try.pinned (OpenSpec.ofChange qidShortSpec)

/-- ITS FALSE NEIGHBOUR: 'it returns false'. Refute it at one input. -/
def qidShortWrong : ChangeSpec := { name := "qidShort", fn := fun _ => fun
  | [d1, d2] => { results := [.lit (.bool false)], args := [d1, d2] }
  | _ => none }
def QidShortWrongFalsely : Prop := qidShortRow.holds Try.pinned (OpenSpec.ofChange qidShortWrong)

/-- 'loggialaw3.QidRow': WHATEVER THE INPUT: true; the input reads as it did. -/
def qidRowSpec : ChangeSpec := { name := "qidRow", fn := fun _ => fun
  | [d] => { results := [.lit (.bool true)], args := [d] }
  | _ => none }
def qidRowRow : OpenClaim := { program := "ythdjpbhmdfojeaa", sum := "b52239a08b7cf9ad645596924a078d9d60d056755432d9f804f5347b4eaa7a18", func := "loggia/loggialaw3.QidRow", spec := "qidRow", unfollowed := true, recurses := true, apart := false }
def QidRowSaid : Prop := qidRowRow.holds Try.pinned (OpenSpec.ofChange qidRowSpec)

/-- ITS FALSE NEIGHBOUR: 'it returns false'. Refute it at one input. -/
def qidRowWrong : ChangeSpec := { name := "qidRow", fn := fun _ => fun
  | [d] => { results := [.lit (.bool false)], args := [d] }
  | _ => none }
def QidRowWrongFalsely : Prop := qidRowRow.holds Try.pinned (OpenSpec.ofChange qidRowWrong)

/- THE SECOND FORM. 'bulk': how many values and letters a reading holds, each counted each time it is reached (what is shared counts as often as it is met; a slice's spare places count too). A statement '..UptoSaid' is the law's where the arguments, and the package variables that the reading takes, are together of bulk at most 1048576: NARROWER than '..Said'. Prove '..Said' where nothing that the law and all that it calls make is longer than what came in: it says more and counts as full. Else prove '..UptoSaid'. A law counts once. -/
mutual
def uptoBulk {H : Type} : DataW H → Nat
  | .lit (.string bytes) => bytes.length + 1
  | .lit _ => 1
  | .nil => 1
  | .ptr d => uptoBulk d + 1
  | .slice elems spare => uptoBulkAll elems + uptoBulkAll spare + 1
  | .agg parts => uptoBulkAll parts + 1
  | .iface _ d => uptoBulk d + 1
  | .map entries => uptoBulkEntries entries + 1
  | .held _ => 1
def uptoBulkAll {H : Type} : List (DataW H) → Nat
  | [] => 0
  | d :: r => uptoBulk d + uptoBulkAll r
def uptoBulkEntries {H : Type} : List (Lit × DataW H) → Nat
  | [] => 0
  | x :: r => uptoBulkEntry x + uptoBulkEntries r
def uptoBulkEntry {H : Type} : Lit × DataW H → Nat
  | (.string bytes, d) => bytes.length + uptoBulk d + 1
  | (_, d) => uptoBulk d + 1
 end
def uptoSmall : (H : Type) → List (DataW H) → Bool := fun _ ds => decide (uptoBulkAll ds ≤ 1048576)
def OpenSpec.upto (s : _root_.Go.ChangeSpec) : _root_.Go.OpenSpec := { _root_.Go.OpenSpec.ofChange s with cond := some uptoSmall }

/-- 'loggialaw3.QidBack', WHERE WHAT IT READS IS OF BULK AT MOST 1048576: true; the input reads as it did. -/
def qidBackUptoRow : OpenClaim := { program := "ythdjpbhmdfojeaa", sum := "b52239a08b7cf9ad645596924a078d9d60d056755432d9f804f5347b4eaa7a18", func := "loggia/loggialaw3.QidBack", spec := "qidBack", unfollowed := true, recurses := true, apart := false, narrowed := true }
def QidBackUptoSaid : Prop := qidBackUptoRow.holds Try.pinned (OpenSpec.upto qidBackSpec)

/-- 'loggialaw3.QidShort', WHERE WHAT IT READS IS OF BULK AT MOST 1048576: true; the input reads as it did. -/
def qidShortUptoRow : OpenClaim := { program := "ythdjpbhmdfojeaa", sum := "b52239a08b7cf9ad645596924a078d9d60d056755432d9f804f5347b4eaa7a18", func := "loggia/loggialaw3.QidShort", spec := "qidShort", unfollowed := true, recurses := true, apart := false, narrowed := true }
def QidShortUptoSaid : Prop := qidShortUptoRow.holds Try.pinned (OpenSpec.upto qidShortSpec)

/-- 'loggialaw3.QidRow', WHERE WHAT IT READS IS OF BULK AT MOST 1048576: true; the input reads as it did. -/
def qidRowUptoRow : OpenClaim := { program := "ythdjpbhmdfojeaa", sum := "b52239a08b7cf9ad645596924a078d9d60d056755432d9f804f5347b4eaa7a18", func := "loggia/loggialaw3.QidRow", spec := "qidRow", unfollowed := true, recurses := true, apart := false, narrowed := true }
def QidRowUptoSaid : Prop := qidRowUptoRow.holds Try.pinned (OpenSpec.upto qidRowSpec)

end Rows
end Go.Proofs.Ythdjpbhmdfojeaa
