/-
  DERIVED. GIVEN WITH THE SEED: THE CARDS: each row of YtckbihcijpploabDoorRows.lean that lists a variable, with what it lists TIED to the program's text (the seventh form; the later family's looks); each row that meets fmt, with fmt's text TOLD by the authors' own Lean function (tested against real Go, not proved from fmt's source: count such statements apart). THE CARD IS WHAT COUNTS. Prove the row's statement (the work); the ties are given (YtckbihcijpploabDoorTie.lean); close each card by the builder's one call (the guide's Derived/Test/ToyasCard.lean, 'card_holds'). Laid BY PROGRAM, IN A SANDBOX (cutbox-door.mjs). By AI agents, Wed Nov 11 2026. No macro, syntax, notation, axiom, sorry.
-/
import Derived.Test.YtckbihcijpploabDoorRows
import GoSem.ClaimSeven
namespace Go.Proofs.YtckbihcijpploabDoor
namespace Rows

/-- THE TIED CARD OF 'barrowlaw15.DiffRoom'. -/
def diffRoomCard : Claim7 := { stood := { row := diffRoomRow, standIns := [], harness := (true, "cdc046c428054b6539b6f07fe9cb8b3015809bfb4008e3f1ce1e59a1faf72e69"), looks := true }, kinds := [], alts := [], laidByText := true, laidKinds := [.data, .handle, .sentinel, .sentinel, .sentinel, .sentinel, .sentinel, .sentinel, .sentinel, .sentinel, .sentinel, .sentinel, .sentinel, .sentinel, .sentinel, .sentinel, .pinned], laidTests := true, laidLooks := .later }
def DiffRoomCardSaid : Prop := Claim7.holds Tryd.pinned (.plain (OpenSpec.ofChange diffRoomSpec)) diffRoomCard

/-- THE SECOND FORM's CARD OF 'barrowlaw15.DiffRoom'. -/
def diffRoomUptoCard : Claim7 := { stood := { row := diffRoomUptoRow, standIns := [], harness := (true, "cdc046c428054b6539b6f07fe9cb8b3015809bfb4008e3f1ce1e59a1faf72e69"), looks := true }, kinds := [], alts := [], laidByText := true, laidKinds := [.data, .handle, .sentinel, .sentinel, .sentinel, .sentinel, .sentinel, .sentinel, .sentinel, .sentinel, .sentinel, .sentinel, .sentinel, .sentinel, .sentinel, .sentinel, .pinned], laidTests := true, laidLooks := .later }
def DiffRoomUptoCardSaid : Prop := Claim7.holds Tryd.pinned (.plain (OpenSpec.upto diffRoomSpec)) diffRoomUptoCard
end Rows
end Go.Proofs.YtckbihcijpploabDoor
