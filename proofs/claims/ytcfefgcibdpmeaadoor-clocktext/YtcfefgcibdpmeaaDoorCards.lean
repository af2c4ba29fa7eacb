/-
  DERIVED. GIVEN WITH THE SEED: THE CARDS: each row of YtcfefgcibdpmeaaDoorRows.lean that lists a variable, with what it lists TIED to the program's text (the seventh form; the later family's looks); each row that meets fmt, with fmt's text TOLD by the authors' own Lean function (tested against real Go, not proved from fmt's source: count such statements apart). THE CARD IS WHAT COUNTS. Prove the row's statement (the work); the ties are given (YtcfefgcibdpmeaaDoorTie.lean); close each card by the builder's one call (the guide's Derived/Test/ToyasCard.lean, 'card_holds'). Laid BY PROGRAM, IN A SANDBOX (cutbox-door.mjs). By AI agents, Wed Nov 11 2026. No macro, syntax, notation, axiom, sorry.
-/
import Derived.Test.YtcfefgcibdpmeaaDoorRows
import GoSem.ClaimSeven
namespace Go.Proofs.YtcfefgcibdpmeaaDoor
namespace Rows

/-- THE TIED CARD OF 'barrowlaw03.ClockText'. -/
def clockTextCard : Claim7 := { stood := { row := clockTextRow, standIns := [], harness := (true, "7e888962771cdf246c8d476af2535880778bbf1723695bf101701cb0cf2bef45"), looks := true }, kinds := [], alts := [], laidByText := true, laidKinds := [.data, .data, .data, .sentinel, .sentinel], laidTests := true, laidLooks := .later }
def ClockTextCardSaid : Prop := Claim7.holds Tryd.pinned (.plain (OpenSpec.ofChange clockTextSpec)) clockTextCard

/-- THE TIED CARD OF 'barrowlaw03.ClockParse'. -/
def clockParseCard : Claim7 := { stood := { row := clockParseRow, standIns := [], harness := (true, "7e888962771cdf246c8d476af2535880778bbf1723695bf101701cb0cf2bef45"), looks := true }, kinds := [], alts := [], laidByText := true, laidKinds := [.data, .data, .data, .handle, .sentinel, .sentinel, .sentinel, .sentinel, .sentinel, .sentinel, .sentinel, .sentinel, .sentinel, .sentinel, .sentinel, .sentinel, .sentinel, .sentinel], laidTests := true, laidLooks := .later }
def ClockParseCardSaid : Prop := Claim7.holds Tryd.pinned (.plain (OpenSpec.ofChange clockParseSpec)) clockParseCard

/-- THE TIED CARD OF 'barrowlaw04.TreeRange'. -/
def treeRangeCard : Claim7 := { stood := { row := treeRangeRow, standIns := [], harness := (true, "7e888962771cdf246c8d476af2535880778bbf1723695bf101701cb0cf2bef45"), looks := true }, kinds := [], alts := [], laidByText := true, laidKinds := [.sentinel, .sentinel], laidTests := true, laidLooks := .later }
def TreeRangeCardSaid : Prop := Claim7.holds Tryd.pinned (.plain (OpenSpec.ofChange treeRangeSpec)) treeRangeCard

/-- THE SECOND FORM's CARD OF 'barrowlaw03.ClockText'. -/
def clockTextUptoCard : Claim7 := { stood := { row := clockTextUptoRow, standIns := [], harness := (true, "7e888962771cdf246c8d476af2535880778bbf1723695bf101701cb0cf2bef45"), looks := true }, kinds := [], alts := [], laidByText := true, laidKinds := [.data, .data, .data, .sentinel, .sentinel], laidTests := true, laidLooks := .later }
def ClockTextUptoCardSaid : Prop := Claim7.holds Tryd.pinned (.plain (OpenSpec.upto clockTextSpec)) clockTextUptoCard

/-- THE SECOND FORM's CARD OF 'barrowlaw03.ClockParse'. -/
def clockParseUptoCard : Claim7 := { stood := { row := clockParseUptoRow, standIns := [], harness := (true, "7e888962771cdf246c8d476af2535880778bbf1723695bf101701cb0cf2bef45"), looks := true }, kinds := [], alts := [], laidByText := true, laidKinds := [.data, .data, .data, .handle, .sentinel, .sentinel, .sentinel, .sentinel, .sentinel, .sentinel, .sentinel, .sentinel, .sentinel, .sentinel, .sentinel, .sentinel, .sentinel, .sentinel], laidTests := true, laidLooks := .later }
def ClockParseUptoCardSaid : Prop := Claim7.holds Tryd.pinned (.plain (OpenSpec.upto clockParseSpec)) clockParseUptoCard

/-- THE SECOND FORM's CARD OF 'barrowlaw04.TreeRange'. -/
def treeRangeUptoCard : Claim7 := { stood := { row := treeRangeUptoRow, standIns := [], harness := (true, "7e888962771cdf246c8d476af2535880778bbf1723695bf101701cb0cf2bef45"), looks := true }, kinds := [], alts := [], laidByText := true, laidKinds := [.sentinel, .sentinel], laidTests := true, laidLooks := .later }
def TreeRangeUptoCardSaid : Prop := Claim7.holds Tryd.pinned (.plain (OpenSpec.upto treeRangeSpec)) treeRangeUptoCard
end Rows
end Go.Proofs.YtcfefgcibdpmeaaDoor
