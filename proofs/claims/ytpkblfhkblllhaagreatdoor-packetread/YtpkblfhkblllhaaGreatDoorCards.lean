/-
  DERIVED. GIVEN WITH THE SEED: THE CARDS: each row of YtpkblfhkblllhaaGreatDoorRows.lean that lists a variable, with what it lists TIED to the program's text (the seventh form; the later family's looks); each row that meets fmt, with fmt's text TOLD by the authors' own Lean function (tested against real Go, not proved from fmt's source: count such statements apart). THE CARD IS WHAT COUNTS. Prove the row's statement (the work); the ties are given (YtpkblfhkblllhaaGreatDoorTie.lean); close each card by the builder's one call (the guide's Derived/Test/ToyasCard.lean, 'card_holds'). Laid BY PROGRAM, IN A SANDBOX (cutbox-door.mjs). By AI agents, Wed Nov 11 2026. No macro, syntax, notation, axiom, sorry.
-/
import Derived.Test.YtpkblfhkblllhaaGreatDoorRows
import GoSem.ClaimSeven
namespace Go.Proofs.YtpkblfhkblllhaaGreatDoor
namespace Rows

/-- THE TIED CARD OF 'barrowlaw09.PacketRead'. -/
def packetReadCard : Claim7 := { stood := { row := packetReadRow, standIns := [], harness := (true, "d72af7bff59076b22e5b15dca65eb1eb4ee56c57fc8dedb15104d81e95226103"), looks := true }, kinds := [], alts := [], laidByText := true, laidKinds := [.handle, .sentinel, .sentinel, .sentinel, .sentinel, .sentinel, .sentinel, .sentinel, .sentinel, .sentinel, .sentinel, .sentinel, .sentinel, .sentinel, .sentinel], laidTests := true, laidLooks := .later }
def PacketReadCardSaid : Prop := Claim7.holds Tryz.pinned (.plain (OpenSpec.ofChange packetReadSpec)) packetReadCard

/-- THE SECOND FORM's CARD OF 'barrowlaw09.PacketRead'. -/
def packetReadUptoCard : Claim7 := { stood := { row := packetReadUptoRow, standIns := [], harness := (true, "d72af7bff59076b22e5b15dca65eb1eb4ee56c57fc8dedb15104d81e95226103"), looks := true }, kinds := [], alts := [], laidByText := true, laidKinds := [.handle, .sentinel, .sentinel, .sentinel, .sentinel, .sentinel, .sentinel, .sentinel, .sentinel, .sentinel, .sentinel, .sentinel, .sentinel, .sentinel, .sentinel], laidTests := true, laidLooks := .later }
def PacketReadUptoCardSaid : Prop := Claim7.holds Tryz.pinned (.plain (OpenSpec.upto packetReadSpec)) packetReadUptoCard
end Rows
end Go.Proofs.YtpkblfhkblllhaaGreatDoor
