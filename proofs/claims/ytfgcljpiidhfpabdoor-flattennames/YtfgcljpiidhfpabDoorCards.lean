/-
  DERIVED. GIVEN WITH THE SEED: THE CARDS: each row of YtfgcljpiidhfpabDoorRows.lean that lists a variable, with what it lists TIED to the program's text (the seventh form; the later family's looks); each row that meets fmt, with fmt's text TOLD by the authors' own Lean function (tested against real Go, not proved from fmt's source: count such statements apart). THE CARD IS WHAT COUNTS. Prove the row's statement (the work); the ties are given (YtfgcljpiidhfpabDoorTie.lean); close each card by the builder's one call (the guide's Derived/Test/ToyasCard.lean, 'card_holds'). Laid BY PROGRAM, IN A SANDBOX (cutbox-door.mjs). By AI agents, Wed Nov 11 2026. No macro, syntax, notation, axiom, sorry.
-/
import Derived.Test.YtfgcljpiidhfpabDoorRows
import GoSem.ClaimSeven
namespace Go.Proofs.YtfgcljpiidhfpabDoor
namespace Rows

/-- THE TIED CARD OF 'barrowlaw12.FlattenNames'. -/
def flattenNamesCard : Claim7 := { stood := { row := flattenNamesRow, standIns := [], harness := (true, "b78cb2aa4d3587333f1809c6372aacedaecaa9c7a3c8ce6470fb848336d22add"), looks := true }, kinds := [], alts := [], laidByText := true, laidKinds := [.handle, .sentinel, .sentinel, .sentinel, .sentinel, .sentinel, .sentinel, .sentinel, .sentinel, .sentinel, .sentinel, .sentinel, .sentinel, .sentinel, .sentinel], laidTests := true, laidLooks := .later }
def FlattenNamesCardSaid : Prop := Claim7.holds Tryd.pinned (.plain (OpenSpec.ofChange flattenNamesSpec)) flattenNamesCard

/-- THE SECOND FORM's CARD OF 'barrowlaw12.FlattenNames'. -/
def flattenNamesUptoCard : Claim7 := { stood := { row := flattenNamesUptoRow, standIns := [], harness := (true, "b78cb2aa4d3587333f1809c6372aacedaecaa9c7a3c8ce6470fb848336d22add"), looks := true }, kinds := [], alts := [], laidByText := true, laidKinds := [.handle, .sentinel, .sentinel, .sentinel, .sentinel, .sentinel, .sentinel, .sentinel, .sentinel, .sentinel, .sentinel, .sentinel, .sentinel, .sentinel, .sentinel], laidTests := true, laidLooks := .later }
def FlattenNamesUptoCardSaid : Prop := Claim7.holds Tryd.pinned (.plain (OpenSpec.upto flattenNamesSpec)) flattenNamesUptoCard
end Rows
end Go.Proofs.YtfgcljpiidhfpabDoor
