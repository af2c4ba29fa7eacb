/-
  NARROWER THAN 'FOR EVERY INPUT', by the rows' own cells (each row's printed sentence says how): XformCross: laid · XformLists: laid · XformInverse: laid.
  DERIVED. THE GIVEN ROWS OF THIS SEAT. 3 by the template 'for every input the law returns true; each argument reads behind the call as it read before'; 0 by the template 'total and deterministic' (their statements: YtdafkakigigdeaaDoorTotals.lean).
  GIVEN WITH THE SEED: the statements are not yours to turn. If you find one false, say at which input.
  Laid BY PROGRAM, IN A SANDBOX (cutbox-rows.mjs): the forced cells as the released guide's own fill.sh prints them over the translation 7c0a2085ed2025c4… (all of the seat's roots in one cut). By AI agents, Wed Nov 11 2026. No macro, syntax, notation, axiom, sorry.
-/
import Derived.Test.YtdafkakigigdeaaDoorChecked
import GoSem.Claim
import GoSem.ClaimJoined
import GoSem.ClaimMapViews
import Derived.JoinedTies
import Derived.KernelRfl
namespace Go.Proofs.YtdafkakigigdeaaDoor
/- THE CELL 'sum', in the pinned program and in every row, IS THE sha256 OF THE DUMP (.gsa) THAT YtdafkakigigdeaaDoorProg.lean LOADS. Nothing in Lean hashes anything: it is a label: what it is worth is what the hold of that sum in a sandbox is worth. -/
noncomputable def Tryd.pinned : Pinned := { name := "ytdafkakigigdeaadoor", sum := "7c0a2085ed2025c4f99b9f138e9a0e0be4135fab214e650299ba6172efbb1511", checked := Tryd.checked }
namespace Rows
def none {H : Type} : Left H := { results := [], args := [] }

/- WHAT THE LISTED PACKAGE-LEVEL VARIABLES READ AS WHEN THE CALL BEGINS. Each datum BY PROGRAM (the guide's laid-datum.mjs) off the statement by which the dump's own 'gosem.cut.vars' lays the variable. In a bare row this is a premise. The card (YtdafkakigigdeaaDoorCards.lean) ties it to the program's text. -/
def laid_barrow_api_ErrArg {H : Type} : DataW H := .iface "*errors.errorString" (.ptr (.agg [.lit (.string [98, 97, 100, 32, 97, 114, 103, 117, 109, 101, 110, 116])]))
def laid_barrow_api_ErrRange {H : Type} : DataW H := .iface "*errors.errorString" (.ptr (.agg [.lit (.string [111, 117, 116, 32, 111, 102, 32, 114, 97, 110, 103, 101])]))
def laid_barrow_api_ErrText {H : Type} : DataW H := .iface "*errors.errorString" (.ptr (.agg [.lit (.string [98, 97, 100, 32, 116, 101, 120, 116])]))
def laid_barrow_api_ErrTwice {H : Type} : DataW H := .iface "*errors.errorString" (.ptr (.agg [.lit (.string [116, 104, 101, 114, 101, 32, 97, 108, 114, 101, 97, 100, 121])]))

/-- 'barrowlaw07.XformCross': WHATEVER THE INPUT: true; the input reads as it did. -/
def xformCrossSpec : ChangeSpec := { name := "xformCross", fn := fun _ => fun
  | [d] => { results := [.lit (.bool true)], args := [d] }
  | _ => none }
def xformCrossRow : OpenClaim := { program := "ytdafkakigigdeaadoor", sum := "7c0a2085ed2025c4f99b9f138e9a0e0be4135fab214e650299ba6172efbb1511", func := "barrow/barrowlaw07.XformCross", spec := "xformCross", unfollowed := true, recurses := true, named := ["barrow/api.ErrArg", "barrow/api.ErrText", "barrow/api.ErrTwice", "barrow/api.ErrRange"], plainKeys := false, apart := false, laid := [("barrow/api.ErrArg", laid_barrow_api_ErrArg), ("barrow/api.ErrRange", laid_barrow_api_ErrRange), ("barrow/api.ErrText", laid_barrow_api_ErrText), ("barrow/api.ErrTwice", laid_barrow_api_ErrTwice)] }
def XformCrossSaid : Prop := xformCrossRow.holds Tryd.pinned (OpenSpec.ofChange xformCrossSpec)

/-- ITS FALSE NEIGHBOUR: 'it returns false'. Refute it at one input. -/
def xformCrossWrong : ChangeSpec := { name := "xformCross", fn := fun _ => fun
  | [d] => { results := [.lit (.bool false)], args := [d] }
  | _ => none }
def XformCrossWrongFalsely : Prop := xformCrossRow.holds Tryd.pinned (OpenSpec.ofChange xformCrossWrong)

/-- 'barrowlaw07.XformLists': WHATEVER THE INPUT: true; the input reads as it did. -/
def xformListsSpec : ChangeSpec := { name := "xformLists", fn := fun _ => fun
  | [d1, d2] => { results := [.lit (.bool true)], args := [d1, d2] }
  | _ => none }
def xformListsRow : OpenClaim := { program := "ytdafkakigigdeaadoor", sum := "7c0a2085ed2025c4f99b9f138e9a0e0be4135fab214e650299ba6172efbb1511", func := "barrow/barrowlaw07.XformLists", spec := "xformLists", unfollowed := true, recurses := true, named := ["barrow/api.ErrArg", "barrow/api.ErrText", "barrow/api.ErrTwice", "barrow/api.ErrRange"], plainKeys := false, apart := false, laid := [("barrow/api.ErrArg", laid_barrow_api_ErrArg), ("barrow/api.ErrRange", laid_barrow_api_ErrRange), ("barrow/api.ErrText", laid_barrow_api_ErrText), ("barrow/api.ErrTwice", laid_barrow_api_ErrTwice)] }
def XformListsSaid : Prop := xformListsRow.holds Tryd.pinned (OpenSpec.ofChange xformListsSpec)

/-- ITS FALSE NEIGHBOUR: 'it returns false'. Refute it at one input. -/
def xformListsWrong : ChangeSpec := { name := "xformLists", fn := fun _ => fun
  | [d1, d2] => { results := [.lit (.bool false)], args := [d1, d2] }
  | _ => none }
def XformListsWrongFalsely : Prop := xformListsRow.holds Tryd.pinned (OpenSpec.ofChange xformListsWrong)

/-- 'barrowlaw07.XformInverse': WHATEVER THE INPUT: true; the input reads as it did. -/
def xformInverseSpec : ChangeSpec := { name := "xformInverse", fn := fun _ => fun
  | [d1, d2] => { results := [.lit (.bool true)], args := [d1, d2] }
  | _ => none }
def xformInverseRow : OpenClaim := { program := "ytdafkakigigdeaadoor", sum := "7c0a2085ed2025c4f99b9f138e9a0e0be4135fab214e650299ba6172efbb1511", func := "barrow/barrowlaw07.XformInverse", spec := "xformInverse", inPlace := ["internal/abi.NoEscape"], unfollowed := true, recurses := true, named := ["barrow/api.ErrArg", "barrow/api.ErrText", "barrow/api.ErrTwice", "barrow/api.ErrRange"], plainKeys := false, apart := false, laid := [("barrow/api.ErrArg", laid_barrow_api_ErrArg), ("barrow/api.ErrRange", laid_barrow_api_ErrRange), ("barrow/api.ErrText", laid_barrow_api_ErrText), ("barrow/api.ErrTwice", laid_barrow_api_ErrTwice)] }
def XformInverseSaid : Prop := xformInverseRow.holds Tryd.pinned (OpenSpec.ofChange xformInverseSpec)

/-- ITS FALSE NEIGHBOUR: 'it returns false'. Refute it at one input. -/
def xformInverseWrong : ChangeSpec := { name := "xformInverse", fn := fun _ => fun
  | [d1, d2] => { results := [.lit (.bool false)], args := [d1, d2] }
  | _ => none }
def XformInverseWrongFalsely : Prop := xformInverseRow.holds Tryd.pinned (OpenSpec.ofChange xformInverseWrong)

/- THE SECOND FORM. 'bulk': how many values and letters a reading holds, each counted each time it is reached (what is shared counts as often as it is met; a slice's spare places count too). A statement '..UptoSaid' is the law's where the arguments, and the package variables that the reading takes, are together of bulk at most 1048576: NARROWER than '..Said'. Prove '..Said' where nothing that the law and all that it calls make is longer than what came in: it says more and counts as full. Else prove '..UptoSaid'. A law counts once. -/
mutual
def uptoBulk {H : Type} : DataW H → Nat
  | .lit (.string bytes) => bytes.length + 1
  | .lit _ => 1
  | .nil => 1
  | .ptr d => uptoBulk d + 1
  | .slice elems spare => uptoBulkAll elems + uptoBulkAll spare + 1
  | .agg parts => uptoBulkAll parts + 1
  | .iface _ d => uptoBulk d + 1
  | .map entries => uptoBulkEntries entries + 1
  | .held _ => 1
def uptoBulkAll {H : Type} : List (DataW H) → Nat
  | [] => 0
  | d :: r => uptoBulk d + uptoBulkAll r
def uptoBulkEntries {H : Type} : List (Lit × DataW H) → Nat
  | [] => 0
  | x :: r => uptoBulkEntry x + uptoBulkEntries r
def uptoBulkEntry {H : Type} : Lit × DataW H → Nat
  | (.string bytes, d) => bytes.length + uptoBulk d + 1
  | (_, d) => uptoBulk d + 1
 end
def uptoSmall : (H : Type) → List (DataW H) → Bool := fun _ ds => decide (uptoBulkAll ds ≤ 1048576)
def OpenSpec.upto (s : _root_.Go.ChangeSpec) : _root_.Go.OpenSpec := { _root_.Go.OpenSpec.ofChange s with cond := some uptoSmall }

/-- 'barrowlaw07.XformCross', WHERE WHAT IT READS IS OF BULK AT MOST 1048576: true; the input reads as it did. -/
def xformCrossUptoRow : OpenClaim := { program := "ytdafkakigigdeaadoor", sum := "7c0a2085ed2025c4f99b9f138e9a0e0be4135fab214e650299ba6172efbb1511", func := "barrow/barrowlaw07.XformCross", spec := "xformCross", unfollowed := true, recurses := true, named := ["barrow/api.ErrArg", "barrow/api.ErrText", "barrow/api.ErrTwice", "barrow/api.ErrRange"], plainKeys := false, apart := false, laid := [("barrow/api.ErrArg", laid_barrow_api_ErrArg), ("barrow/api.ErrRange", laid_barrow_api_ErrRange), ("barrow/api.ErrText", laid_barrow_api_ErrText), ("barrow/api.ErrTwice", laid_barrow_api_ErrTwice)], narrowed := true }
def XformCrossUptoSaid : Prop := xformCrossUptoRow.holds Tryd.pinned (OpenSpec.upto xformCrossSpec)

/-- 'barrowlaw07.XformLists', WHERE WHAT IT READS IS OF BULK AT MOST 1048576: true; the input reads as it did. -/
def xformListsUptoRow : OpenClaim := { program := "ytdafkakigigdeaadoor", sum := "7c0a2085ed2025c4f99b9f138e9a0e0be4135fab214e650299ba6172efbb1511", func := "barrow/barrowlaw07.XformLists", spec := "xformLists", unfollowed := true, recurses := true, named := ["barrow/api.ErrArg", "barrow/api.ErrText", "barrow/api.ErrTwice", "barrow/api.ErrRange"], plainKeys := false, apart := false, laid := [("barrow/api.ErrArg", laid_barrow_api_ErrArg), ("barrow/api.ErrRange", laid_barrow_api_ErrRange), ("barrow/api.ErrText", laid_barrow_api_ErrText), ("barrow/api.ErrTwice", laid_barrow_api_ErrTwice)], narrowed := true }
def XformListsUptoSaid : Prop := xformListsUptoRow.holds Tryd.pinned (OpenSpec.upto xformListsSpec)

/-- 'barrowlaw07.XformInverse', WHERE WHAT IT READS IS OF BULK AT MOST 1048576: true; the input reads as it did. -/
def xformInverseUptoRow : OpenClaim := { program := "ytdafkakigigdeaadoor", sum := "7c0a2085ed2025c4f99b9f138e9a0e0be4135fab214e650299ba6172efbb1511", func := "barrow/barrowlaw07.XformInverse", spec := "xformInverse", inPlace := ["internal/abi.NoEscape"], unfollowed := true, recurses := true, named := ["barrow/api.ErrArg", "barrow/api.ErrText", "barrow/api.ErrTwice", "barrow/api.ErrRange"], plainKeys := false, apart := false, laid := [("barrow/api.ErrArg", laid_barrow_api_ErrArg), ("barrow/api.ErrRange", laid_barrow_api_ErrRange), ("barrow/api.ErrText", laid_barrow_api_ErrText), ("barrow/api.ErrTwice", laid_barrow_api_ErrTwice)], narrowed := true }
def XformInverseUptoSaid : Prop := xformInverseUptoRow.holds Tryd.pinned (OpenSpec.upto xformInverseSpec)

end Rows
end Go.Proofs.YtdafkakigigdeaaDoor
