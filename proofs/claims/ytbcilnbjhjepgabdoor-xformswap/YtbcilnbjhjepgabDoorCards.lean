/-
  DERIVED. GIVEN WITH THE SEED: THE CARDS: each row of YtbcilnbjhjepgabDoorRows.lean that lists a variable, with what it lists TIED to the program's text (the seventh form; the later family's looks); each row that meets fmt, with fmt's text TOLD by the authors' own Lean function (tested against real Go, not proved from fmt's source: count such statements apart). THE CARD IS WHAT COUNTS. Prove the row's statement (the work); the ties are given (YtbcilnbjhjepgabDoorTie.lean); close each card by the builder's one call (the guide's Derived/Test/ToyasCard.lean, 'card_holds'). Laid BY PROGRAM, IN A SANDBOX (cutbox-door.mjs). By AI agents, Wed Nov 11 2026. No macro, syntax, notation, axiom, sorry.
-/
import Derived.Test.YtbcilnbjhjepgabDoorRows
import GoSem.ClaimSeven
namespace Go.Proofs.YtbcilnbjhjepgabDoor
namespace Rows

/-- THE TIED CARD OF 'barrowlaw07.XformBack'. -/
def xformBackCard : Claim7 := { stood := { row := xformBackRow, standIns := [], harness := (true, "db62e70d75fcb3c6f8003148f53809f628d84cc0cb4a6145b9726b1e5a3071b8"), looks := false }, kinds := [], alts := [], laidByText := true, laidKinds := [.sentinel, .sentinel, .sentinel, .sentinel], laidTests := true, laidLooks := .later }
def XformBackCardSaid : Prop := Claim7.holds Tryd.pinned (.plain (OpenSpec.ofChange xformBackSpec)) xformBackCard

/-- THE TIED CARD OF 'barrowlaw07.XformSwap'. -/
def xformSwapCard : Claim7 := { stood := { row := xformSwapRow, standIns := [], harness := (true, "db62e70d75fcb3c6f8003148f53809f628d84cc0cb4a6145b9726b1e5a3071b8"), looks := false }, kinds := [], alts := [], laidByText := true, laidKinds := [.sentinel, .sentinel, .sentinel, .sentinel], laidTests := true, laidLooks := .later }
def XformSwapCardSaid : Prop := Claim7.holds Tryd.pinned (.plain (OpenSpec.ofChange xformSwapSpec)) xformSwapCard

/-- THE TIED CARD OF 'barrowlaw07.XformCross'. -/
def xformCrossCard : Claim7 := { stood := { row := xformCrossRow, standIns := [], harness := (true, "db62e70d75fcb3c6f8003148f53809f628d84cc0cb4a6145b9726b1e5a3071b8"), looks := false }, kinds := [], alts := [], laidByText := true, laidKinds := [.sentinel, .sentinel, .sentinel, .sentinel], laidTests := true, laidLooks := .later }
def XformCrossCardSaid : Prop := Claim7.holds Tryd.pinned (.plain (OpenSpec.ofChange xformCrossSpec)) xformCrossCard

/-- THE TIED CARD OF 'barrowlaw07.XformLists'. -/
def xformListsCard : Claim7 := { stood := { row := xformListsRow, standIns := [], harness := (true, "db62e70d75fcb3c6f8003148f53809f628d84cc0cb4a6145b9726b1e5a3071b8"), looks := false }, kinds := [], alts := [], laidByText := true, laidKinds := [.sentinel, .sentinel, .sentinel, .sentinel], laidTests := true, laidLooks := .later }
def XformListsCardSaid : Prop := Claim7.holds Tryd.pinned (.plain (OpenSpec.ofChange xformListsSpec)) xformListsCard

/-- THE TIED CARD OF 'barrowlaw07.XformInverse'. -/
def xformInverseCard : Claim7 := { stood := { row := xformInverseRow, standIns := [], harness := (true, "db62e70d75fcb3c6f8003148f53809f628d84cc0cb4a6145b9726b1e5a3071b8"), looks := false }, kinds := [], alts := [], laidByText := true, laidKinds := [.sentinel, .sentinel, .sentinel, .sentinel], laidTests := true, laidLooks := .later }
def XformInverseCardSaid : Prop := Claim7.holds Tryd.pinned (.plain (OpenSpec.ofChange xformInverseSpec)) xformInverseCard

/-- THE TIED CARD OF 'barrowlaw07.XformNames'. -/
def xformNamesCard : Claim7 := { stood := { row := xformNamesRow, standIns := [], harness := (true, "db62e70d75fcb3c6f8003148f53809f628d84cc0cb4a6145b9726b1e5a3071b8"), looks := false }, kinds := [], alts := [], laidByText := true, laidKinds := [.sentinel, .sentinel, .sentinel, .sentinel], laidTests := true, laidLooks := .later }
def XformNamesCardSaid : Prop := Claim7.holds Tryd.pinned (.plain (OpenSpec.ofChange xformNamesSpec)) xformNamesCard

/-- THE SECOND FORM's CARD OF 'barrowlaw07.XformBack'. -/
def xformBackUptoCard : Claim7 := { stood := { row := xformBackUptoRow, standIns := [], harness := (true, "db62e70d75fcb3c6f8003148f53809f628d84cc0cb4a6145b9726b1e5a3071b8"), looks := false }, kinds := [], alts := [], laidByText := true, laidKinds := [.sentinel, .sentinel, .sentinel, .sentinel], laidTests := true, laidLooks := .later }
def XformBackUptoCardSaid : Prop := Claim7.holds Tryd.pinned (.plain (OpenSpec.upto xformBackSpec)) xformBackUptoCard

/-- THE SECOND FORM's CARD OF 'barrowlaw07.XformSwap'. -/
def xformSwapUptoCard : Claim7 := { stood := { row := xformSwapUptoRow, standIns := [], harness := (true, "db62e70d75fcb3c6f8003148f53809f628d84cc0cb4a6145b9726b1e5a3071b8"), looks := false }, kinds := [], alts := [], laidByText := true, laidKinds := [.sentinel, .sentinel, .sentinel, .sentinel], laidTests := true, laidLooks := .later }
def XformSwapUptoCardSaid : Prop := Claim7.holds Tryd.pinned (.plain (OpenSpec.upto xformSwapSpec)) xformSwapUptoCard

/-- THE SECOND FORM's CARD OF 'barrowlaw07.XformCross'. -/
def xformCrossUptoCard : Claim7 := { stood := { row := xformCrossUptoRow, standIns := [], harness := (true, "db62e70d75fcb3c6f8003148f53809f628d84cc0cb4a6145b9726b1e5a3071b8"), looks := false }, kinds := [], alts := [], laidByText := true, laidKinds := [.sentinel, .sentinel, .sentinel, .sentinel], laidTests := true, laidLooks := .later }
def XformCrossUptoCardSaid : Prop := Claim7.holds Tryd.pinned (.plain (OpenSpec.upto xformCrossSpec)) xformCrossUptoCard

/-- THE SECOND FORM's CARD OF 'barrowlaw07.XformLists'. -/
def xformListsUptoCard : Claim7 := { stood := { row := xformListsUptoRow, standIns := [], harness := (true, "db62e70d75fcb3c6f8003148f53809f628d84cc0cb4a6145b9726b1e5a3071b8"), looks := false }, kinds := [], alts := [], laidByText := true, laidKinds := [.sentinel, .sentinel, .sentinel, .sentinel], laidTests := true, laidLooks := .later }
def XformListsUptoCardSaid : Prop := Claim7.holds Tryd.pinned (.plain (OpenSpec.upto xformListsSpec)) xformListsUptoCard

/-- THE SECOND FORM's CARD OF 'barrowlaw07.XformInverse'. -/
def xformInverseUptoCard : Claim7 := { stood := { row := xformInverseUptoRow, standIns := [], harness := (true, "db62e70d75fcb3c6f8003148f53809f628d84cc0cb4a6145b9726b1e5a3071b8"), looks := false }, kinds := [], alts := [], laidByText := true, laidKinds := [.sentinel, .sentinel, .sentinel, .sentinel], laidTests := true, laidLooks := .later }
def XformInverseUptoCardSaid : Prop := Claim7.holds Tryd.pinned (.plain (OpenSpec.upto xformInverseSpec)) xformInverseUptoCard

/-- THE SECOND FORM's CARD OF 'barrowlaw07.XformNames'. -/
def xformNamesUptoCard : Claim7 := { stood := { row := xformNamesUptoRow, standIns := [], harness := (true, "db62e70d75fcb3c6f8003148f53809f628d84cc0cb4a6145b9726b1e5a3071b8"), looks := false }, kinds := [], alts := [], laidByText := true, laidKinds := [.sentinel, .sentinel, .sentinel, .sentinel], laidTests := true, laidLooks := .later }
def XformNamesUptoCardSaid : Prop := Claim7.holds Tryd.pinned (.plain (OpenSpec.upto xformNamesSpec)) xformNamesUptoCard
end Rows
end Go.Proofs.YtbcilnbjhjepgabDoor
