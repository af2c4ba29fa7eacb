/-
  DERIVED. GIVEN WITH THE SEED: THE CARDS: each row of YtlgdaaofpjpobaaDoorRows.lean that lists a variable, with what it lists TIED to the program's text (the seventh form; the later family's looks); each row that meets fmt, with fmt's text TOLD by the authors' own Lean function (tested against real Go, not proved from fmt's source: count such statements apart). THE CARD IS WHAT COUNTS. Prove the row's statement (the work); the ties are given (YtlgdaaofpjpobaaDoorTie.lean); close each card by the builder's one call (the guide's Derived/Test/ToyasCard.lean, 'card_holds'). Laid BY PROGRAM, IN A SANDBOX (cutbox-door.mjs). By AI agents, Wed Nov 11 2026. No macro, syntax, notation, axiom, sorry.
-/
import Derived.Test.YtlgdaaofpjpobaaDoorRows
import GoSem.ClaimSeven
namespace Go.Proofs.YtlgdaaofpjpobaaDoor
namespace Rows

/-- THE TIED CARD OF 'barrowlaw11.CausalExact'. -/
def causalExactCard : Claim7 := { stood := { row := causalExactRow, standIns := [], harness := (true, "8ed333bec440b05336bb075b34e01df17ce9e281fbc97f845605ed285ebafe92"), looks := true }, kinds := [], alts := [], laidByText := true, laidKinds := [.handle, .sentinel, .sentinel, .sentinel, .sentinel, .sentinel, .sentinel, .sentinel, .sentinel, .sentinel, .sentinel, .sentinel, .sentinel, .sentinel, .sentinel], laidTests := true, laidLooks := .later }
def CausalExactCardSaid : Prop := Claim7.holds Tryd.pinned (.plain (OpenSpec.ofChange causalExactSpec)) causalExactCard

/-- THE SECOND FORM's CARD OF 'barrowlaw11.CausalExact'. -/
def causalExactUptoCard : Claim7 := { stood := { row := causalExactUptoRow, standIns := [], harness := (true, "8ed333bec440b05336bb075b34e01df17ce9e281fbc97f845605ed285ebafe92"), looks := true }, kinds := [], alts := [], laidByText := true, laidKinds := [.handle, .sentinel, .sentinel, .sentinel, .sentinel, .sentinel, .sentinel, .sentinel, .sentinel, .sentinel, .sentinel, .sentinel, .sentinel, .sentinel, .sentinel], laidTests := true, laidLooks := .later }
def CausalExactUptoCardSaid : Prop := Claim7.holds Tryd.pinned (.plain (OpenSpec.upto causalExactSpec)) causalExactUptoCard
end Rows
end Go.Proofs.YtlgdaaofpjpobaaDoor
