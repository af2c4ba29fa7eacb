/-
  DERIVED. GIVEN WITH THE SEED: THE CARDS: each row of YtkiloceaelmcfaaDoorRows.lean that lists a variable, with what it lists TIED to the program's text (the seventh form; the later family's looks); each row that meets fmt, with fmt's text TOLD by the authors' own Lean function (tested against real Go, not proved from fmt's source: count such statements apart). THE CARD IS WHAT COUNTS. Prove the row's statement (the work); the ties are given (YtkiloceaelmcfaaDoorTie.lean); close each card by the builder's one call (the guide's Derived/Test/ToyasCard.lean, 'card_holds'). Laid BY PROGRAM, IN A SANDBOX (cutbox-door.mjs). By AI agents, Wed Nov 11 2026. No macro, syntax, notation, axiom, sorry.
-/
import Derived.Test.YtkiloceaelmcfaaDoorRows
import GoSem.ClaimSeven
namespace Go.Proofs.YtkiloceaelmcfaaDoor
namespace Rows

/-- THE TIED CARD OF 'barrowlaw15.DiffApply'. -/
def diffApplyCard : Claim7 := { stood := { row := diffApplyRow, standIns := [], harness := (true, "366bec558d04edf6f74ed9f3313949cf07ac4253063f92c878cd337de5b651d7"), looks := true }, kinds := [], alts := [], laidByText := true, laidKinds := [.data, .handle, .sentinel, .sentinel, .sentinel, .sentinel, .sentinel, .sentinel, .sentinel, .sentinel, .sentinel, .sentinel, .sentinel, .sentinel, .sentinel, .sentinel, .pinned], laidTests := true, laidLooks := .later }
def DiffApplyCardSaid : Prop := Claim7.holds Tryd.pinned (.plain (OpenSpec.ofChange diffApplySpec)) diffApplyCard

/-- THE TIED CARD OF 'barrowlaw15.DiffShortest'. -/
def diffShortestCard : Claim7 := { stood := { row := diffShortestRow, standIns := [], harness := (true, "366bec558d04edf6f74ed9f3313949cf07ac4253063f92c878cd337de5b651d7"), looks := true }, kinds := [], alts := [], laidByText := true, laidKinds := [.data, .sentinel, .sentinel, .sentinel, .pinned], laidTests := true, laidLooks := .later }
def DiffShortestCardSaid : Prop := Claim7.holds Tryd.pinned (.plain (OpenSpec.ofChange diffShortestSpec)) diffShortestCard

/-- THE TIED CARD OF 'barrowlaw15.DiffBack'. -/
def diffBackCard : Claim7 := { stood := { row := diffBackRow, standIns := [], harness := (true, "366bec558d04edf6f74ed9f3313949cf07ac4253063f92c878cd337de5b651d7"), looks := true }, kinds := [], alts := [], laidByText := true, laidKinds := [.data, .sentinel, .sentinel, .sentinel, .pinned], laidTests := true, laidLooks := .later }
def DiffBackCardSaid : Prop := Claim7.holds Tryd.pinned (.plain (OpenSpec.ofChange diffBackSpec)) diffBackCard

/-- THE SECOND FORM's CARD OF 'barrowlaw15.DiffApply'. -/
def diffApplyUptoCard : Claim7 := { stood := { row := diffApplyUptoRow, standIns := [], harness := (true, "366bec558d04edf6f74ed9f3313949cf07ac4253063f92c878cd337de5b651d7"), looks := true }, kinds := [], alts := [], laidByText := true, laidKinds := [.data, .handle, .sentinel, .sentinel, .sentinel, .sentinel, .sentinel, .sentinel, .sentinel, .sentinel, .sentinel, .sentinel, .sentinel, .sentinel, .sentinel, .sentinel, .pinned], laidTests := true, laidLooks := .later }
def DiffApplyUptoCardSaid : Prop := Claim7.holds Tryd.pinned (.plain (OpenSpec.upto diffApplySpec)) diffApplyUptoCard

/-- THE SECOND FORM's CARD OF 'barrowlaw15.DiffShortest'. -/
def diffShortestUptoCard : Claim7 := { stood := { row := diffShortestUptoRow, standIns := [], harness := (true, "366bec558d04edf6f74ed9f3313949cf07ac4253063f92c878cd337de5b651d7"), looks := true }, kinds := [], alts := [], laidByText := true, laidKinds := [.data, .sentinel, .sentinel, .sentinel, .pinned], laidTests := true, laidLooks := .later }
def DiffShortestUptoCardSaid : Prop := Claim7.holds Tryd.pinned (.plain (OpenSpec.upto diffShortestSpec)) diffShortestUptoCard

/-- THE SECOND FORM's CARD OF 'barrowlaw15.DiffBack'. -/
def diffBackUptoCard : Claim7 := { stood := { row := diffBackUptoRow, standIns := [], harness := (true, "366bec558d04edf6f74ed9f3313949cf07ac4253063f92c878cd337de5b651d7"), looks := true }, kinds := [], alts := [], laidByText := true, laidKinds := [.data, .sentinel, .sentinel, .sentinel, .pinned], laidTests := true, laidLooks := .later }
def DiffBackUptoCardSaid : Prop := Claim7.holds Tryd.pinned (.plain (OpenSpec.upto diffBackSpec)) diffBackUptoCard
end Rows
end Go.Proofs.YtkiloceaelmcfaaDoor
