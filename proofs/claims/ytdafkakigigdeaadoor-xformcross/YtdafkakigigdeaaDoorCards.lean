/-
  DERIVED. GIVEN WITH THE SEED: THE CARDS: each row of YtdafkakigigdeaaDoorRows.lean that lists a variable, with what it lists TIED to the program's text (the seventh form; the later family's looks); each row that meets fmt, with fmt's text TOLD by the authors' own Lean function (tested against real Go, not proved from fmt's source: count such statements apart). THE CARD IS WHAT COUNTS. Prove the row's statement (the work); the ties are given (YtdafkakigigdeaaDoorTie.lean); close each card by the builder's one call (the guide's Derived/Test/ToyasCard.lean, 'card_holds'). Laid BY PROGRAM, IN A SANDBOX (cutbox-door.mjs). By AI agents, Wed Nov 11 2026. No macro, syntax, notation, axiom, sorry.
-/
import Derived.Test.YtdafkakigigdeaaDoorRows
import GoSem.ClaimSeven
namespace Go.Proofs.YtdafkakigigdeaaDoor
namespace Rows

/-- THE TIED CARD OF 'barrowlaw07.XformCross'. -/
def xformCrossCard : Claim7 := { stood := { row := xformCrossRow, standIns := [], harness := (true, "34a23bce87c3d35f3ce67318032222b1aebe61e0caa8359ec878a4796b7f2888"), looks := false }, kinds := [], alts := [], laidByText := true, laidKinds := [.sentinel, .sentinel, .sentinel, .sentinel], laidTests := true, laidLooks := .later }
def XformCrossCardSaid : Prop := Claim7.holds Tryd.pinned (.plain (OpenSpec.ofChange xformCrossSpec)) xformCrossCard

/-- THE TIED CARD OF 'barrowlaw07.XformLists'. -/
def xformListsCard : Claim7 := { stood := { row := xformListsRow, standIns := [], harness := (true, "34a23bce87c3d35f3ce67318032222b1aebe61e0caa8359ec878a4796b7f2888"), looks := false }, kinds := [], alts := [], laidByText := true, laidKinds := [.sentinel, .sentinel, .sentinel, .sentinel], laidTests := true, laidLooks := .later }
def XformListsCardSaid : Prop := Claim7.holds Tryd.pinned (.plain (OpenSpec.ofChange xformListsSpec)) xformListsCard

/-- THE TIED CARD OF 'barrowlaw07.XformInverse'. -/
def xformInverseCard : Claim7 := { stood := { row := xformInverseRow, standIns := [], harness := (true, "34a23bce87c3d35f3ce67318032222b1aebe61e0caa8359ec878a4796b7f2888"), looks := false }, kinds := [], alts := [], laidByText := true, laidKinds := [.sentinel, .sentinel, .sentinel, .sentinel], laidTests := true, laidLooks := .later }
def XformInverseCardSaid : Prop := Claim7.holds Tryd.pinned (.plain (OpenSpec.ofChange xformInverseSpec)) xformInverseCard

/-- THE SECOND FORM's CARD OF 'barrowlaw07.XformCross'. -/
def xformCrossUptoCard : Claim7 := { stood := { row := xformCrossUptoRow, standIns := [], harness := (true, "34a23bce87c3d35f3ce67318032222b1aebe61e0caa8359ec878a4796b7f2888"), looks := false }, kinds := [], alts := [], laidByText := true, laidKinds := [.sentinel, .sentinel, .sentinel, .sentinel], laidTests := true, laidLooks := .later }
def XformCrossUptoCardSaid : Prop := Claim7.holds Tryd.pinned (.plain (OpenSpec.upto xformCrossSpec)) xformCrossUptoCard

/-- THE SECOND FORM's CARD OF 'barrowlaw07.XformLists'. -/
def xformListsUptoCard : Claim7 := { stood := { row := xformListsUptoRow, standIns := [], harness := (true, "34a23bce87c3d35f3ce67318032222b1aebe61e0caa8359ec878a4796b7f2888"), looks := false }, kinds := [], alts := [], laidByText := true, laidKinds := [.sentinel, .sentinel, .sentinel, .sentinel], laidTests := true, laidLooks := .later }
def XformListsUptoCardSaid : Prop := Claim7.holds Tryd.pinned (.plain (OpenSpec.upto xformListsSpec)) xformListsUptoCard

/-- THE SECOND FORM's CARD OF 'barrowlaw07.XformInverse'. -/
def xformInverseUptoCard : Claim7 := { stood := { row := xformInverseUptoRow, standIns := [], harness := (true, "34a23bce87c3d35f3ce67318032222b1aebe61e0caa8359ec878a4796b7f2888"), looks := false }, kinds := [], alts := [], laidByText := true, laidKinds := [.sentinel, .sentinel, .sentinel, .sentinel], laidTests := true, laidLooks := .later }
def XformInverseUptoCardSaid : Prop := Claim7.holds Tryd.pinned (.plain (OpenSpec.upto xformInverseSpec)) xformInverseUptoCard
end Rows
end Go.Proofs.YtdafkakigigdeaaDoor
