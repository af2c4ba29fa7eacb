/-
  DERIVED. GIVEN WITH THE SEED: THE CARDS: each row of YtbcilnbjhjepgaaDoorRows.lean that lists a variable, with what it lists TIED to the program's text (the seventh form; the later family's looks); each row that meets fmt, with fmt's text TOLD by the authors' own Lean function (tested against real Go, not proved from fmt's source: count such statements apart). THE CARD IS WHAT COUNTS. Prove the row's statement (the work); the ties are given (YtbcilnbjhjepgaaDoorTie.lean); close each card by the builder's one call (the guide's Derived/Test/ToyasCard.lean, 'card_holds'). Laid BY PROGRAM, IN A SANDBOX (cutbox-door.mjs). By AI agents, Wed Nov 11 2026. No macro, syntax, notation, axiom, sorry.
-/
import Derived.Test.YtbcilnbjhjepgaaDoorRows
import GoSem.ClaimSeven
namespace Go.Proofs.YtbcilnbjhjepgaaDoor
namespace Rows

/-- THE TIED CARD OF 'barrowlaw07.XformT'. -/
def xformTCard : Claim7 := { stood := { row := xformTRow, standIns := [], harness := (true, "e8bcc466a87bf56b5d7a807fb61cf2123c1fb779c3b539cfb806b95e208d251a"), looks := false }, kinds := [], alts := [], laidByText := true, laidKinds := [.sentinel, .sentinel, .sentinel, .sentinel], laidTests := true, laidLooks := .later }
def XformTCardSaid : Prop := Claim7.holds Tryd.pinned (.plain (OpenSpec.ofChange xformTSpec)) xformTCard

/-- THE TIED CARD OF 'barrowlaw07.XformRight'. -/
def xformRightCard : Claim7 := { stood := { row := xformRightRow, standIns := [], harness := (true, "e8bcc466a87bf56b5d7a807fb61cf2123c1fb779c3b539cfb806b95e208d251a"), looks := false }, kinds := [], alts := [], laidByText := true, laidKinds := [.sentinel, .sentinel, .sentinel, .sentinel], laidTests := true, laidLooks := .later }
def XformRightCardSaid : Prop := Claim7.holds Tryd.pinned (.plain (OpenSpec.ofChange xformRightSpec)) xformRightCard

/-- THE TIED CARD OF 'barrowlaw07.XformTwo'. -/
def xformTwoCard : Claim7 := { stood := { row := xformTwoRow, standIns := [], harness := (true, "e8bcc466a87bf56b5d7a807fb61cf2123c1fb779c3b539cfb806b95e208d251a"), looks := false }, kinds := [], alts := [], laidByText := true, laidKinds := [.sentinel, .sentinel, .sentinel, .sentinel], laidTests := true, laidLooks := .later }
def XformTwoCardSaid : Prop := Claim7.holds Tryd.pinned (.plain (OpenSpec.ofChange xformTwoSpec)) xformTwoCard

/-- THE TIED CARD OF 'barrowlaw07.XformThree'. -/
def xformThreeCard : Claim7 := { stood := { row := xformThreeRow, standIns := [], harness := (true, "e8bcc466a87bf56b5d7a807fb61cf2123c1fb779c3b539cfb806b95e208d251a"), looks := false }, kinds := [], alts := [], laidByText := true, laidKinds := [.sentinel, .sentinel, .sentinel, .sentinel], laidTests := true, laidLooks := .later }
def XformThreeCardSaid : Prop := Claim7.holds Tryd.pinned (.plain (OpenSpec.ofChange xformThreeSpec)) xformThreeCard

/-- THE SECOND FORM's CARD OF 'barrowlaw07.XformT'. -/
def xformTUptoCard : Claim7 := { stood := { row := xformTUptoRow, standIns := [], harness := (true, "e8bcc466a87bf56b5d7a807fb61cf2123c1fb779c3b539cfb806b95e208d251a"), looks := false }, kinds := [], alts := [], laidByText := true, laidKinds := [.sentinel, .sentinel, .sentinel, .sentinel], laidTests := true, laidLooks := .later }
def XformTUptoCardSaid : Prop := Claim7.holds Tryd.pinned (.plain (OpenSpec.upto xformTSpec)) xformTUptoCard

/-- THE SECOND FORM's CARD OF 'barrowlaw07.XformRight'. -/
def xformRightUptoCard : Claim7 := { stood := { row := xformRightUptoRow, standIns := [], harness := (true, "e8bcc466a87bf56b5d7a807fb61cf2123c1fb779c3b539cfb806b95e208d251a"), looks := false }, kinds := [], alts := [], laidByText := true, laidKinds := [.sentinel, .sentinel, .sentinel, .sentinel], laidTests := true, laidLooks := .later }
def XformRightUptoCardSaid : Prop := Claim7.holds Tryd.pinned (.plain (OpenSpec.upto xformRightSpec)) xformRightUptoCard

/-- THE SECOND FORM's CARD OF 'barrowlaw07.XformTwo'. -/
def xformTwoUptoCard : Claim7 := { stood := { row := xformTwoUptoRow, standIns := [], harness := (true, "e8bcc466a87bf56b5d7a807fb61cf2123c1fb779c3b539cfb806b95e208d251a"), looks := false }, kinds := [], alts := [], laidByText := true, laidKinds := [.sentinel, .sentinel, .sentinel, .sentinel], laidTests := true, laidLooks := .later }
def XformTwoUptoCardSaid : Prop := Claim7.holds Tryd.pinned (.plain (OpenSpec.upto xformTwoSpec)) xformTwoUptoCard

/-- THE SECOND FORM's CARD OF 'barrowlaw07.XformThree'. -/
def xformThreeUptoCard : Claim7 := { stood := { row := xformThreeUptoRow, standIns := [], harness := (true, "e8bcc466a87bf56b5d7a807fb61cf2123c1fb779c3b539cfb806b95e208d251a"), looks := false }, kinds := [], alts := [], laidByText := true, laidKinds := [.sentinel, .sentinel, .sentinel, .sentinel], laidTests := true, laidLooks := .later }
def XformThreeUptoCardSaid : Prop := Claim7.holds Tryd.pinned (.plain (OpenSpec.upto xformThreeSpec)) xformThreeUptoCard
end Rows
end Go.Proofs.YtbcilnbjhjepgaaDoor
