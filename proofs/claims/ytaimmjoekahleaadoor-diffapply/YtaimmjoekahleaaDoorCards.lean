/-
  DERIVED. GIVEN WITH THE SEED: THE CARDS: each row of YtaimmjoekahleaaDoorRows.lean that lists a variable, with what it lists TIED to the program's text (the seventh form; the later family's looks); each row that meets fmt, with fmt's text TOLD by the authors' own Lean function (tested against real Go, not proved from fmt's source: count such statements apart). THE CARD IS WHAT COUNTS. Prove the row's statement (the work); the ties are given (YtaimmjoekahleaaDoorTie.lean); close each card by the builder's one call (the guide's Derived/Test/ToyasCard.lean, 'card_holds'). Laid BY PROGRAM, IN A SANDBOX (cutbox-door.mjs). By AI agents, Wed Nov 11 2026. No macro, syntax, notation, axiom, sorry.
-/
import Derived.Test.YtaimmjoekahleaaDoorRows
import GoSem.ClaimSeven
namespace Go.Proofs.YtaimmjoekahleaaDoor
namespace Rows

/-- THE TIED CARD OF 'barrowlaw15.DiffApply'. -/
def diffApplyCard : Claim7 := { stood := { row := diffApplyRow, standIns := [], harness := (true, "9bd387be1126b3da87e81f9e4fa10ba1f8bc05217412985cdf137a3dc1ac1b8f"), looks := true }, kinds := [], alts := [], laidByText := true, laidKinds := [.data, .handle, .sentinel, .sentinel, .sentinel, .sentinel, .sentinel, .sentinel, .sentinel, .sentinel, .sentinel, .sentinel, .sentinel, .sentinel, .sentinel, .sentinel, .pinned], laidTests := true, laidLooks := .later }
def DiffApplyCardSaid : Prop := Claim7.holds Tryd.pinned (.plain (OpenSpec.ofChange diffApplySpec)) diffApplyCard

/-- THE SECOND FORM's CARD OF 'barrowlaw15.DiffApply'. -/
def diffApplyUptoCard : Claim7 := { stood := { row := diffApplyUptoRow, standIns := [], harness := (true, "9bd387be1126b3da87e81f9e4fa10ba1f8bc05217412985cdf137a3dc1ac1b8f"), looks := true }, kinds := [], alts := [], laidByText := true, laidKinds := [.data, .handle, .sentinel, .sentinel, .sentinel, .sentinel, .sentinel, .sentinel, .sentinel, .sentinel, .sentinel, .sentinel, .sentinel, .sentinel, .sentinel, .sentinel, .pinned], laidTests := true, laidLooks := .later }
def DiffApplyUptoCardSaid : Prop := Claim7.holds Tryd.pinned (.plain (OpenSpec.upto diffApplySpec)) diffApplyUptoCard
end Rows
end Go.Proofs.YtaimmjoekahleaaDoor
