/-
  DERIVED. GIVEN WITH THE SEED: THE CARDS: each row of YtildmcmjpmidgaaDoorRows.lean that lists a variable, with what it lists TIED to the program's text (the seventh form; the later family's looks); each row that meets fmt, with fmt's text TOLD by the authors' own Lean function (tested against real Go, not proved from fmt's source: count such statements apart). THE CARD IS WHAT COUNTS. Prove the row's statement (the work); the ties are given (YtildmcmjpmidgaaDoorTie.lean); close each card by the builder's one call (the guide's Derived/Test/ToyasCard.lean, 'card_holds'). Laid BY PROGRAM, IN A SANDBOX (cutbox-door.mjs). By AI agents, Wed Nov 11 2026. No macro, syntax, notation, axiom, sorry.
-/
import Derived.Test.YtildmcmjpmidgaaDoorRows
import GoSem.ClaimSeven
namespace Go.Proofs.YtildmcmjpmidgaaDoor
namespace Rows

/-- THE TIED CARD OF 'barrowlaw09.PacketBack'. -/
def packetBackCard : Claim7 := { stood := { row := packetBackRow, standIns := [], harness := (true, "b3770d20eeb8cf7d4abca768a17c0665cbd2d70cf33838ea9a1b4fa0ac83afb8"), looks := true }, kinds := [], alts := [], laidByText := true, laidKinds := [.sentinel, .sentinel, .sentinel, .sentinel], laidTests := true, laidLooks := .later }
def PacketBackCardSaid : Prop := Claim7.holds Tryd.pinned (.plain (OpenSpec.ofChange packetBackSpec)) packetBackCard

/-- THE TIED CARD OF 'barrowlaw09.PacketOne'. -/
def packetOneCard : Claim7 := { stood := { row := packetOneRow, standIns := [], harness := (true, "b3770d20eeb8cf7d4abca768a17c0665cbd2d70cf33838ea9a1b4fa0ac83afb8"), looks := true }, kinds := [], alts := [], laidByText := true, laidKinds := [.sentinel, .sentinel, .sentinel, .sentinel], laidTests := true, laidLooks := .later }
def PacketOneCardSaid : Prop := Claim7.holds Tryd.pinned (.plain (OpenSpec.ofChange packetOneSpec)) packetOneCard

/-- THE TIED CARD OF 'barrowlaw09.PacketUnlike'. -/
def packetUnlikeCard : Claim7 := { stood := { row := packetUnlikeRow, standIns := [], harness := (true, "b3770d20eeb8cf7d4abca768a17c0665cbd2d70cf33838ea9a1b4fa0ac83afb8"), looks := true }, kinds := [], alts := [], laidByText := true, laidKinds := [.sentinel, .sentinel, .sentinel, .sentinel], laidTests := true, laidLooks := .later }
def PacketUnlikeCardSaid : Prop := Claim7.holds Tryd.pinned (.plain (OpenSpec.ofChange packetUnlikeSpec)) packetUnlikeCard

/-- THE TIED CARD OF 'barrowlaw09.PacketNames'. -/
def packetNamesCard : Claim7 := { stood := { row := packetNamesRow, standIns := [], harness := (true, "b3770d20eeb8cf7d4abca768a17c0665cbd2d70cf33838ea9a1b4fa0ac83afb8"), looks := true }, kinds := [], alts := [], laidByText := true, laidKinds := [.sentinel, .sentinel, .sentinel, .sentinel], laidTests := true, laidLooks := .later }
def PacketNamesCardSaid : Prop := Claim7.holds Tryd.pinned (.plain (OpenSpec.ofChange packetNamesSpec)) packetNamesCard

/-- THE SECOND FORM's CARD OF 'barrowlaw09.PacketBack'. -/
def packetBackUptoCard : Claim7 := { stood := { row := packetBackUptoRow, standIns := [], harness := (true, "b3770d20eeb8cf7d4abca768a17c0665cbd2d70cf33838ea9a1b4fa0ac83afb8"), looks := true }, kinds := [], alts := [], laidByText := true, laidKinds := [.sentinel, .sentinel, .sentinel, .sentinel], laidTests := true, laidLooks := .later }
def PacketBackUptoCardSaid : Prop := Claim7.holds Tryd.pinned (.plain (OpenSpec.upto packetBackSpec)) packetBackUptoCard

/-- THE SECOND FORM's CARD OF 'barrowlaw09.PacketOne'. -/
def packetOneUptoCard : Claim7 := { stood := { row := packetOneUptoRow, standIns := [], harness := (true, "b3770d20eeb8cf7d4abca768a17c0665cbd2d70cf33838ea9a1b4fa0ac83afb8"), looks := true }, kinds := [], alts := [], laidByText := true, laidKinds := [.sentinel, .sentinel, .sentinel, .sentinel], laidTests := true, laidLooks := .later }
def PacketOneUptoCardSaid : Prop := Claim7.holds Tryd.pinned (.plain (OpenSpec.upto packetOneSpec)) packetOneUptoCard

/-- THE SECOND FORM's CARD OF 'barrowlaw09.PacketUnlike'. -/
def packetUnlikeUptoCard : Claim7 := { stood := { row := packetUnlikeUptoRow, standIns := [], harness := (true, "b3770d20eeb8cf7d4abca768a17c0665cbd2d70cf33838ea9a1b4fa0ac83afb8"), looks := true }, kinds := [], alts := [], laidByText := true, laidKinds := [.sentinel, .sentinel, .sentinel, .sentinel], laidTests := true, laidLooks := .later }
def PacketUnlikeUptoCardSaid : Prop := Claim7.holds Tryd.pinned (.plain (OpenSpec.upto packetUnlikeSpec)) packetUnlikeUptoCard

/-- THE SECOND FORM's CARD OF 'barrowlaw09.PacketNames'. -/
def packetNamesUptoCard : Claim7 := { stood := { row := packetNamesUptoRow, standIns := [], harness := (true, "b3770d20eeb8cf7d4abca768a17c0665cbd2d70cf33838ea9a1b4fa0ac83afb8"), looks := true }, kinds := [], alts := [], laidByText := true, laidKinds := [.sentinel, .sentinel, .sentinel, .sentinel], laidTests := true, laidLooks := .later }
def PacketNamesUptoCardSaid : Prop := Claim7.holds Tryd.pinned (.plain (OpenSpec.upto packetNamesSpec)) packetNamesUptoCard
end Rows
end Go.Proofs.YtildmcmjpmidgaaDoor
