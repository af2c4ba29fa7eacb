/-
  DERIVED. GIVEN WITH THE SEED: THE CARDS: each row of YtjalehlmldlooaaGreatDoorRows.lean that lists a variable, with what it lists TIED to the program's text (the seventh form; the later family's looks); each row that meets fmt, with fmt's text TOLD by the authors' own Lean function (tested against real Go, not proved from fmt's source: count such statements apart). THE CARD IS WHAT COUNTS. Prove the row's statement (the work); the ties are given (YtjalehlmldlooaaGreatDoorTie.lean); close each card by the builder's one call (the guide's Derived/Test/ToyasCard.lean, 'card_holds'). Laid BY PROGRAM, IN A SANDBOX (cutbox-door.mjs). By AI agents, Wed Nov 11 2026. No macro, syntax, notation, axiom, sorry.
-/
import Derived.Test.YtjalehlmldlooaaGreatDoorRows
import GoSem.ClaimSeven
namespace Go.Proofs.YtjalehlmldlooaaGreatDoor
namespace Rows

/-- THE TIED CARD OF 'barrowlaw07.XformApply'. -/
def xformApplyCard : Claim7 := { stood := { row := xformApplyRow, standIns := [], harness := (true, "f7bb592a270fe07ead7374d5aab9b82ea18196482bec9212f62e8a0ca0f5bef8"), looks := true }, kinds := [], alts := [], laidByText := true, laidKinds := [.handle, .sentinel, .sentinel, .sentinel, .sentinel, .sentinel, .sentinel, .sentinel, .sentinel, .sentinel, .sentinel, .sentinel, .sentinel, .sentinel, .sentinel], laidTests := true, laidLooks := .later }
def XformApplyCardSaid : Prop := Claim7.holds Tryz.pinned (.plain (OpenSpec.ofChange xformApplySpec)) xformApplyCard

/-- THE SECOND FORM's CARD OF 'barrowlaw07.XformApply'. -/
def xformApplyUptoCard : Claim7 := { stood := { row := xformApplyUptoRow, standIns := [], harness := (true, "f7bb592a270fe07ead7374d5aab9b82ea18196482bec9212f62e8a0ca0f5bef8"), looks := true }, kinds := [], alts := [], laidByText := true, laidKinds := [.handle, .sentinel, .sentinel, .sentinel, .sentinel, .sentinel, .sentinel, .sentinel, .sentinel, .sentinel, .sentinel, .sentinel, .sentinel, .sentinel, .sentinel], laidTests := true, laidLooks := .later }
def XformApplyUptoCardSaid : Prop := Claim7.holds Tryz.pinned (.plain (OpenSpec.upto xformApplySpec)) xformApplyUptoCard
end Rows
end Go.Proofs.YtjalehlmldlooaaGreatDoor
