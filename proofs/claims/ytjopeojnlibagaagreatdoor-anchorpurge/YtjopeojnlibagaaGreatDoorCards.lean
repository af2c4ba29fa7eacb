/-
  DERIVED. GIVEN WITH THE SEED: THE CARDS: each row of YtjopeojnlibagaaGreatDoorRows.lean that lists a variable, with what it lists TIED to the program's text (the seventh form; the later family's looks); each row that meets fmt, with fmt's text TOLD by the authors' own Lean function (tested against real Go, not proved from fmt's source: count such statements apart). THE CARD IS WHAT COUNTS. Prove the row's statement (the work); the ties are given (YtjopeojnlibagaaGreatDoorTie.lean); close each card by the builder's one call (the guide's Derived/Test/ToyasCard.lean, 'card_holds'). Laid BY PROGRAM, IN A SANDBOX (cutbox-door.mjs). By AI agents, Wed Nov 11 2026. No macro, syntax, notation, axiom, sorry.
-/
import Derived.Test.YtjopeojnlibagaaGreatDoorRows
import GoSem.ClaimSeven
namespace Go.Proofs.YtjopeojnlibagaaGreatDoor
namespace Rows

/-- THE TIED CARD OF 'barrowlaw13.AnchorExact'. -/
def anchorExactCard : Claim7 := { stood := { row := anchorExactRow, standIns := [], harness := (true, "23a549eeaa30ad47967bbbdabd9c0d5f7784bee49cdc0798bbdaf6ce238fa917"), looks := true }, kinds := [], alts := [], laidByText := true, laidKinds := [.handle, .sentinel, .sentinel, .sentinel, .sentinel, .sentinel, .sentinel, .sentinel, .sentinel, .sentinel, .sentinel, .sentinel, .sentinel, .sentinel, .sentinel], laidTests := true, laidLooks := .later }
def AnchorExactCardSaid : Prop := Claim7.holds Tryz.pinned (.plain (OpenSpec.ofChange anchorExactSpec)) anchorExactCard

/-- THE TIED CARD OF 'barrowlaw13.AnchorPairs'. -/
def anchorPairsCard : Claim7 := { stood := { row := anchorPairsRow, standIns := [], harness := (true, "23a549eeaa30ad47967bbbdabd9c0d5f7784bee49cdc0798bbdaf6ce238fa917"), looks := true }, kinds := [], alts := [], laidByText := true, laidKinds := [.handle, .sentinel, .sentinel, .sentinel, .sentinel, .sentinel, .sentinel, .sentinel, .sentinel, .sentinel, .sentinel, .sentinel, .sentinel, .sentinel, .sentinel], laidTests := true, laidLooks := .later }
def AnchorPairsCardSaid : Prop := Claim7.holds Tryz.pinned (.plain (OpenSpec.ofChange anchorPairsSpec)) anchorPairsCard

/-- THE TIED CARD OF 'barrowlaw13.AnchorBack'. -/
def anchorBackCard : Claim7 := { stood := { row := anchorBackRow, standIns := [], harness := (true, "23a549eeaa30ad47967bbbdabd9c0d5f7784bee49cdc0798bbdaf6ce238fa917"), looks := true }, kinds := [], alts := [], laidByText := true, laidKinds := [.handle, .sentinel, .sentinel, .sentinel, .sentinel, .sentinel, .sentinel, .sentinel, .sentinel, .sentinel, .sentinel, .sentinel, .sentinel, .sentinel, .sentinel], laidTests := true, laidLooks := .later }
def AnchorBackCardSaid : Prop := Claim7.holds Tryz.pinned (.plain (OpenSpec.ofChange anchorBackSpec)) anchorBackCard

/-- THE TIED CARD OF 'barrowlaw13.AnchorStays'. -/
def anchorStaysCard : Claim7 := { stood := { row := anchorStaysRow, standIns := [], harness := (true, "23a549eeaa30ad47967bbbdabd9c0d5f7784bee49cdc0798bbdaf6ce238fa917"), looks := true }, kinds := [], alts := [], laidByText := true, laidKinds := [.handle, .sentinel, .sentinel, .sentinel, .sentinel, .sentinel, .sentinel, .sentinel, .sentinel, .sentinel, .sentinel, .sentinel, .sentinel, .sentinel, .sentinel], laidTests := true, laidLooks := .later }
def AnchorStaysCardSaid : Prop := Claim7.holds Tryz.pinned (.plain (OpenSpec.ofChange anchorStaysSpec)) anchorStaysCard

/-- THE TIED CARD OF 'barrowlaw13.AnchorPurge'. -/
def anchorPurgeCard : Claim7 := { stood := { row := anchorPurgeRow, standIns := [], harness := (true, "23a549eeaa30ad47967bbbdabd9c0d5f7784bee49cdc0798bbdaf6ce238fa917"), looks := true }, kinds := [], alts := [], laidByText := true, laidKinds := [.handle, .sentinel, .sentinel, .sentinel, .sentinel, .sentinel, .sentinel, .sentinel, .sentinel, .sentinel, .sentinel, .sentinel, .sentinel, .sentinel, .sentinel], laidTests := true, laidLooks := .later }
def AnchorPurgeCardSaid : Prop := Claim7.holds Tryz.pinned (.plain (OpenSpec.ofChange anchorPurgeSpec)) anchorPurgeCard

/-- THE SECOND FORM's CARD OF 'barrowlaw13.AnchorExact'. -/
def anchorExactUptoCard : Claim7 := { stood := { row := anchorExactUptoRow, standIns := [], harness := (true, "23a549eeaa30ad47967bbbdabd9c0d5f7784bee49cdc0798bbdaf6ce238fa917"), looks := true }, kinds := [], alts := [], laidByText := true, laidKinds := [.handle, .sentinel, .sentinel, .sentinel, .sentinel, .sentinel, .sentinel, .sentinel, .sentinel, .sentinel, .sentinel, .sentinel, .sentinel, .sentinel, .sentinel], laidTests := true, laidLooks := .later }
def AnchorExactUptoCardSaid : Prop := Claim7.holds Tryz.pinned (.plain (OpenSpec.upto anchorExactSpec)) anchorExactUptoCard

/-- THE SECOND FORM's CARD OF 'barrowlaw13.AnchorPairs'. -/
def anchorPairsUptoCard : Claim7 := { stood := { row := anchorPairsUptoRow, standIns := [], harness := (true, "23a549eeaa30ad47967bbbdabd9c0d5f7784bee49cdc0798bbdaf6ce238fa917"), looks := true }, kinds := [], alts := [], laidByText := true, laidKinds := [.handle, .sentinel, .sentinel, .sentinel, .sentinel, .sentinel, .sentinel, .sentinel, .sentinel, .sentinel, .sentinel, .sentinel, .sentinel, .sentinel, .sentinel], laidTests := true, laidLooks := .later }
def AnchorPairsUptoCardSaid : Prop := Claim7.holds Tryz.pinned (.plain (OpenSpec.upto anchorPairsSpec)) anchorPairsUptoCard

/-- THE SECOND FORM's CARD OF 'barrowlaw13.AnchorBack'. -/
def anchorBackUptoCard : Claim7 := { stood := { row := anchorBackUptoRow, standIns := [], harness := (true, "23a549eeaa30ad47967bbbdabd9c0d5f7784bee49cdc0798bbdaf6ce238fa917"), looks := true }, kinds := [], alts := [], laidByText := true, laidKinds := [.handle, .sentinel, .sentinel, .sentinel, .sentinel, .sentinel, .sentinel, .sentinel, .sentinel, .sentinel, .sentinel, .sentinel, .sentinel, .sentinel, .sentinel], laidTests := true, laidLooks := .later }
def AnchorBackUptoCardSaid : Prop := Claim7.holds Tryz.pinned (.plain (OpenSpec.upto anchorBackSpec)) anchorBackUptoCard

/-- THE SECOND FORM's CARD OF 'barrowlaw13.AnchorStays'. -/
def anchorStaysUptoCard : Claim7 := { stood := { row := anchorStaysUptoRow, standIns := [], harness := (true, "23a549eeaa30ad47967bbbdabd9c0d5f7784bee49cdc0798bbdaf6ce238fa917"), looks := true }, kinds := [], alts := [], laidByText := true, laidKinds := [.handle, .sentinel, .sentinel, .sentinel, .sentinel, .sentinel, .sentinel, .sentinel, .sentinel, .sentinel, .sentinel, .sentinel, .sentinel, .sentinel, .sentinel], laidTests := true, laidLooks := .later }
def AnchorStaysUptoCardSaid : Prop := Claim7.holds Tryz.pinned (.plain (OpenSpec.upto anchorStaysSpec)) anchorStaysUptoCard

/-- THE SECOND FORM's CARD OF 'barrowlaw13.AnchorPurge'. -/
def anchorPurgeUptoCard : Claim7 := { stood := { row := anchorPurgeUptoRow, standIns := [], harness := (true, "23a549eeaa30ad47967bbbdabd9c0d5f7784bee49cdc0798bbdaf6ce238fa917"), looks := true }, kinds := [], alts := [], laidByText := true, laidKinds := [.handle, .sentinel, .sentinel, .sentinel, .sentinel, .sentinel, .sentinel, .sentinel, .sentinel, .sentinel, .sentinel, .sentinel, .sentinel, .sentinel, .sentinel], laidTests := true, laidLooks := .later }
def AnchorPurgeUptoCardSaid : Prop := Claim7.holds Tryz.pinned (.plain (OpenSpec.upto anchorPurgeSpec)) anchorPurgeUptoCard
end Rows
end Go.Proofs.YtjopeojnlibagaaGreatDoor
