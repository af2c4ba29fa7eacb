/-
  DERIVED. GIVEN WITH THE SEED: THE CARDS: each row of YtdojjhhnciaegaaDoorRows.lean that lists a variable, with what it lists TIED to the program's text (the seventh form; the later family's looks); each row that meets fmt, with fmt's text TOLD by the authors' own Lean function (tested against real Go, not proved from fmt's source: count such statements apart). THE CARD IS WHAT COUNTS. Prove the row's statement (the work); the ties are given (YtdojjhhnciaegaaDoorTie.lean); close each card by the builder's one call (the guide's Derived/Test/ToyasCard.lean, 'card_holds'). Laid BY PROGRAM, IN A SANDBOX (cutbox-door.mjs). By AI agents, Wed Nov 11 2026. No macro, syntax, notation, axiom, sorry.
-/
import Derived.Test.YtdojjhhnciaegaaDoorRows
import GoSem.ClaimSeven
namespace Go.Proofs.YtdojjhhnciaegaaDoor
namespace Rows

/-- THE TIED CARD OF 'barrowlaw10.BagExact'. -/
def bagExactCard : Claim7 := { stood := { row := bagExactRow, standIns := [], harness := (true, "e74e906648cf9f0242cad0625158701b62cd32c022227a703e21477249908431"), looks := true }, kinds := [], alts := [], laidByText := true, laidKinds := [.handle, .sentinel, .sentinel, .sentinel, .sentinel, .sentinel, .sentinel, .sentinel, .sentinel, .sentinel, .sentinel, .sentinel, .sentinel, .sentinel, .sentinel], laidTests := true, laidLooks := .later }
def BagExactCardSaid : Prop := Claim7.holds Tryd.pinned (.plain (OpenSpec.ofChange bagExactSpec)) bagExactCard

/-- THE TIED CARD OF 'barrowlaw10.BagLoads'. -/
def bagLoadsCard : Claim7 := { stood := { row := bagLoadsRow, standIns := [], harness := (true, "e74e906648cf9f0242cad0625158701b62cd32c022227a703e21477249908431"), looks := true }, kinds := [], alts := [], laidByText := true, laidKinds := [.handle, .sentinel, .sentinel, .sentinel, .sentinel, .sentinel, .sentinel, .sentinel, .sentinel, .sentinel, .sentinel, .sentinel, .sentinel, .sentinel, .sentinel], laidTests := true, laidLooks := .later }
def BagLoadsCardSaid : Prop := Claim7.holds Tryd.pinned (.plain (OpenSpec.ofChange bagLoadsSpec)) bagLoadsCard

/-- THE SECOND FORM's CARD OF 'barrowlaw10.BagExact'. -/
def bagExactUptoCard : Claim7 := { stood := { row := bagExactUptoRow, standIns := [], harness := (true, "e74e906648cf9f0242cad0625158701b62cd32c022227a703e21477249908431"), looks := true }, kinds := [], alts := [], laidByText := true, laidKinds := [.handle, .sentinel, .sentinel, .sentinel, .sentinel, .sentinel, .sentinel, .sentinel, .sentinel, .sentinel, .sentinel, .sentinel, .sentinel, .sentinel, .sentinel], laidTests := true, laidLooks := .later }
def BagExactUptoCardSaid : Prop := Claim7.holds Tryd.pinned (.plain (OpenSpec.upto bagExactSpec)) bagExactUptoCard

/-- THE SECOND FORM's CARD OF 'barrowlaw10.BagLoads'. -/
def bagLoadsUptoCard : Claim7 := { stood := { row := bagLoadsUptoRow, standIns := [], harness := (true, "e74e906648cf9f0242cad0625158701b62cd32c022227a703e21477249908431"), looks := true }, kinds := [], alts := [], laidByText := true, laidKinds := [.handle, .sentinel, .sentinel, .sentinel, .sentinel, .sentinel, .sentinel, .sentinel, .sentinel, .sentinel, .sentinel, .sentinel, .sentinel, .sentinel, .sentinel], laidTests := true, laidLooks := .later }
def BagLoadsUptoCardSaid : Prop := Claim7.holds Tryd.pinned (.plain (OpenSpec.upto bagLoadsSpec)) bagLoadsUptoCard
end Rows
end Go.Proofs.YtdojjhhnciaegaaDoor
