/-
  NARROWER THAN 'FOR EVERY INPUT', by the rows' own cells (each row's printed sentence says how): XformT: laid · XformRight: laid · XformTwo: laid · XformThree: laid.
  DERIVED. THE GIVEN ROWS OF THIS SEAT. 4 by the template 'for every input the law returns true; each argument reads behind the call as it read before'; 0 by the template 'total and deterministic' (their statements: YtbcilnbjhjepgaaDoorTotals.lean).
  GIVEN WITH THE SEED: the statements are not yours to turn. If you find one false, say at which input.
  Laid BY PROGRAM, IN A SANDBOX (cutbox-rows.mjs): the forced cells as the released guide's own fill.sh prints them over the translation bf1ed96a486dad4c… (all of the seat's roots in one cut). By AI agents, Wed Nov 11 2026. No macro, syntax, notation, axiom, sorry.
-/
import Derived.Test.YtbcilnbjhjepgaaDoorChecked
import GoSem.Claim
import GoSem.ClaimJoined
import GoSem.ClaimMapViews
import Derived.JoinedTies
import Derived.KernelRfl
namespace Go.Proofs.YtbcilnbjhjepgaaDoor
/- THE CELL 'sum', in the pinned program and in every row, IS THE sha256 OF THE DUMP (.gsa) THAT YtbcilnbjhjepgaaDoorProg.lean LOADS. Nothing in Lean hashes anything: it is a label: what it is worth is what the hold of that sum in a sandbox is worth. -/
noncomputable def Tryd.pinned : Pinned := { name := "ytbcilnbjhjepgaadoor", sum := "bf1ed96a486dad4c02cd7f5e74dae186ada7b52797e892002d408edeedc2cf65", checked := Tryd.checked }
namespace Rows
def none {H : Type} : Left H := { results := [], args := [] }

/- WHAT THE LISTED PACKAGE-LEVEL VARIABLES READ AS WHEN THE CALL BEGINS. Each datum BY PROGRAM (the guide's laid-datum.mjs) off the statement by which the dump's own 'gosem.cut.vars' lays the variable. In a bare row this is a premise. The card (YtbcilnbjhjepgaaDoorCards.lean) ties it to the program's text. -/
def laid_barrow_api_ErrArg {H : Type} : DataW H := .iface "*errors.errorString" (.ptr (.agg [.lit (.string [98, 97, 100, 32, 97, 114, 103, 117, 109, 101, 110, 116])]))
def laid_barrow_api_ErrRange {H : Type} : DataW H := .iface "*errors.errorString" (.ptr (.agg [.lit (.string [111, 117, 116, 32, 111, 102, 32, 114, 97, 110, 103, 101])]))
def laid_barrow_api_ErrText {H : Type} : DataW H := .iface "*errors.errorString" (.ptr (.agg [.lit (.string [98, 97, 100, 32, 116, 101, 120, 116])]))
def laid_barrow_api_ErrTwice {H : Type} : DataW H := .iface "*errors.errorString" (.ptr (.agg [.lit (.string [116, 104, 101, 114, 101, 32, 97, 108, 114, 101, 97, 100, 121])]))

/-- 'barrowlaw07.XformT': WHATEVER THE INPUT: true; the input reads as it did. -/
def xformTSpec : ChangeSpec := { name := "xformT", fn := fun _ => fun
  | [d1, d2] => { results := [.lit (.bool true)], args := [d1, d2] }
  | _ => none }
def xformTRow : OpenClaim := { program := "ytbcilnbjhjepgaadoor", sum := "bf1ed96a486dad4c02cd7f5e74dae186ada7b52797e892002d408edeedc2cf65", func := "barrow/barrowlaw07.XformT", spec := "xformT", unfollowed := true, recurses := true, named := ["barrow/api.ErrArg", "barrow/api.ErrText", "barrow/api.ErrTwice", "barrow/api.ErrRange"], plainKeys := false, apart := false, laid := [("barrow/api.ErrArg", laid_barrow_api_ErrArg), ("barrow/api.ErrRange", laid_barrow_api_ErrRange), ("barrow/api.ErrText", laid_barrow_api_ErrText), ("barrow/api.ErrTwice", laid_barrow_api_ErrTwice)] }
def XformTSaid : Prop := xformTRow.holds Tryd.pinned (OpenSpec.ofChange xformTSpec)

/-- ITS FALSE NEIGHBOUR: 'it returns false'. Refute it at one input. -/
def xformTWrong : ChangeSpec := { name := "xformT", fn := fun _ => fun
  | [d1, d2] => { results := [.lit (.bool false)], args := [d1, d2] }
  | _ => none }
def XformTWrongFalsely : Prop := xformTRow.holds Tryd.pinned (OpenSpec.ofChange xformTWrong)

/-- 'barrowlaw07.XformRight': WHATEVER THE INPUT: true; the input reads as it did. -/
def xformRightSpec : ChangeSpec := { name := "xformRight", fn := fun _ => fun
  | [d1, d2] => { results := [.lit (.bool true)], args := [d1, d2] }
  | _ => none }
def xformRightRow : OpenClaim := { program := "ytbcilnbjhjepgaadoor", sum := "bf1ed96a486dad4c02cd7f5e74dae186ada7b52797e892002d408edeedc2cf65", func := "barrow/barrowlaw07.XformRight", spec := "xformRight", unfollowed := true, recurses := true, named := ["barrow/api.ErrArg", "barrow/api.ErrText", "barrow/api.ErrTwice", "barrow/api.ErrRange"], plainKeys := false, apart := false, laid := [("barrow/api.ErrArg", laid_barrow_api_ErrArg), ("barrow/api.ErrRange", laid_barrow_api_ErrRange), ("barrow/api.ErrText", laid_barrow_api_ErrText), ("barrow/api.ErrTwice", laid_barrow_api_ErrTwice)] }
def XformRightSaid : Prop := xformRightRow.holds Tryd.pinned (OpenSpec.ofChange xformRightSpec)

/-- ITS FALSE NEIGHBOUR: 'it returns false'. Refute it at one input. -/
def xformRightWrong : ChangeSpec := { name := "xformRight", fn := fun _ => fun
  | [d1, d2] => { results := [.lit (.bool false)], args := [d1, d2] }
  | _ => none }
def XformRightWrongFalsely : Prop := xformRightRow.holds Tryd.pinned (OpenSpec.ofChange xformRightWrong)

/-- 'barrowlaw07.XformTwo': WHATEVER THE INPUT: true; the input reads as it did. -/
def xformTwoSpec : ChangeSpec := { name := "xformTwo", fn := fun _ => fun
  | [d] => { results := [.lit (.bool true)], args := [d] }
  | _ => none }
def xformTwoRow : OpenClaim := { program := "ytbcilnbjhjepgaadoor", sum := "bf1ed96a486dad4c02cd7f5e74dae186ada7b52797e892002d408edeedc2cf65", func := "barrow/barrowlaw07.XformTwo", spec := "xformTwo", unfollowed := true, recurses := true, named := ["barrow/api.ErrArg", "barrow/api.ErrText", "barrow/api.ErrTwice", "barrow/api.ErrRange"], plainKeys := false, apart := false, laid := [("barrow/api.ErrArg", laid_barrow_api_ErrArg), ("barrow/api.ErrRange", laid_barrow_api_ErrRange), ("barrow/api.ErrText", laid_barrow_api_ErrText), ("barrow/api.ErrTwice", laid_barrow_api_ErrTwice)] }
def XformTwoSaid : Prop := xformTwoRow.holds Tryd.pinned (OpenSpec.ofChange xformTwoSpec)

/-- ITS FALSE NEIGHBOUR: 'it returns false'. Refute it at one input. -/
def xformTwoWrong : ChangeSpec := { name := "xformTwo", fn := fun _ => fun
  | [d] => { results := [.lit (.bool false)], args := [d] }
  | _ => none }
def XformTwoWrongFalsely : Prop := xformTwoRow.holds Tryd.pinned (OpenSpec.ofChange xformTwoWrong)

/-- 'barrowlaw07.XformThree': WHATEVER THE INPUT: true; the input reads as it did. -/
def xformThreeSpec : ChangeSpec := { name := "xformThree", fn := fun _ => fun
  | [d] => { results := [.lit (.bool true)], args := [d] }
  | _ => none }
def xformThreeRow : OpenClaim := { program := "ytbcilnbjhjepgaadoor", sum := "bf1ed96a486dad4c02cd7f5e74dae186ada7b52797e892002d408edeedc2cf65", func := "barrow/barrowlaw07.XformThree", spec := "xformThree", unfollowed := true, recurses := true, named := ["barrow/api.ErrArg", "barrow/api.ErrText", "barrow/api.ErrTwice", "barrow/api.ErrRange"], plainKeys := false, apart := false, laid := [("barrow/api.ErrArg", laid_barrow_api_ErrArg), ("barrow/api.ErrRange", laid_barrow_api_ErrRange), ("barrow/api.ErrText", laid_barrow_api_ErrText), ("barrow/api.ErrTwice", laid_barrow_api_ErrTwice)] }
def XformThreeSaid : Prop := xformThreeRow.holds Tryd.pinned (OpenSpec.ofChange xformThreeSpec)

/-- ITS FALSE NEIGHBOUR: 'it returns false'. Refute it at one input. -/
def xformThreeWrong : ChangeSpec := { name := "xformThree", fn := fun _ => fun
  | [d] => { results := [.lit (.bool false)], args := [d] }
  | _ => none }
def XformThreeWrongFalsely : Prop := xformThreeRow.holds Tryd.pinned (OpenSpec.ofChange xformThreeWrong)

/- THE SECOND FORM. 'bulk': how many values and letters a reading holds, each counted each time it is reached (what is shared counts as often as it is met; a slice's spare places count too). A statement '..UptoSaid' is the law's where the arguments, and the package variables that the reading takes, are together of bulk at most 1048576: NARROWER than '..Said'. Prove '..Said' where nothing that the law and all that it calls make is longer than what came in: it says more and counts as full. Else prove '..UptoSaid'. A law counts once. -/
mutual
def uptoBulk {H : Type} : DataW H → Nat
  | .lit (.string bytes) => bytes.length + 1
  | .lit _ => 1
  | .nil => 1
  | .ptr d => uptoBulk d + 1
  | .slice elems spare => uptoBulkAll elems + uptoBulkAll spare + 1
  | .agg parts => uptoBulkAll parts + 1
  | .iface _ d => uptoBulk d + 1
  | .map entries => uptoBulkEntries entries + 1
  | .held _ => 1
def uptoBulkAll {H : Type} : List (DataW H) → Nat
  | [] => 0
  | d :: r => uptoBulk d + uptoBulkAll r
def uptoBulkEntries {H : Type} : List (Lit × DataW H) → Nat
  | [] => 0
  | x :: r => uptoBulkEntry x + uptoBulkEntries r
def uptoBulkEntry {H : Type} : Lit × DataW H → Nat
  | (.string bytes, d) => bytes.length + uptoBulk d + 1
  | (_, d) => uptoBulk d + 1
 end
def uptoSmall : (H : Type) → List (DataW H) → Bool := fun _ ds => decide (uptoBulkAll ds ≤ 1048576)
def OpenSpec.upto (s : _root_.Go.ChangeSpec) : _root_.Go.OpenSpec := { _root_.Go.OpenSpec.ofChange s with cond := some uptoSmall }

/-- 'barrowlaw07.XformT', WHERE WHAT IT READS IS OF BULK AT MOST 1048576: true; the input reads as it did. -/
def xformTUptoRow : OpenClaim := { program := "ytbcilnbjhjepgaadoor", sum := "bf1ed96a486dad4c02cd7f5e74dae186ada7b52797e892002d408edeedc2cf65", func := "barrow/barrowlaw07.XformT", spec := "xformT", unfollowed := true, recurses := true, named := ["barrow/api.ErrArg", "barrow/api.ErrText", "barrow/api.ErrTwice", "barrow/api.ErrRange"], plainKeys := false, apart := false, laid := [("barrow/api.ErrArg", laid_barrow_api_ErrArg), ("barrow/api.ErrRange", laid_barrow_api_ErrRange), ("barrow/api.ErrText", laid_barrow_api_ErrText), ("barrow/api.ErrTwice", laid_barrow_api_ErrTwice)], narrowed := true }
def XformTUptoSaid : Prop := xformTUptoRow.holds Tryd.pinned (OpenSpec.upto xformTSpec)

/-- 'barrowlaw07.XformRight', WHERE WHAT IT READS IS OF BULK AT MOST 1048576: true; the input reads as it did. -/
def xformRightUptoRow : OpenClaim := { program := "ytbcilnbjhjepgaadoor", sum := "bf1ed96a486dad4c02cd7f5e74dae186ada7b52797e892002d408edeedc2cf65", func := "barrow/barrowlaw07.XformRight", spec := "xformRight", unfollowed := true, recurses := true, named := ["barrow/api.ErrArg", "barrow/api.ErrText", "barrow/api.ErrTwice", "barrow/api.ErrRange"], plainKeys := false, apart := false, laid := [("barrow/api.ErrArg", laid_barrow_api_ErrArg), ("barrow/api.ErrRange", laid_barrow_api_ErrRange), ("barrow/api.ErrText", laid_barrow_api_ErrText), ("barrow/api.ErrTwice", laid_barrow_api_ErrTwice)], narrowed := true }
def XformRightUptoSaid : Prop := xformRightUptoRow.holds Tryd.pinned (OpenSpec.upto xformRightSpec)

/-- 'barrowlaw07.XformTwo', WHERE WHAT IT READS IS OF BULK AT MOST 1048576: true; the input reads as it did. -/
def xformTwoUptoRow : OpenClaim := { program := "ytbcilnbjhjepgaadoor", sum := "bf1ed96a486dad4c02cd7f5e74dae186ada7b52797e892002d408edeedc2cf65", func := "barrow/barrowlaw07.XformTwo", spec := "xformTwo", unfollowed := true, recurses := true, named := ["barrow/api.ErrArg", "barrow/api.ErrText", "barrow/api.ErrTwice", "barrow/api.ErrRange"], plainKeys := false, apart := false, laid := [("barrow/api.ErrArg", laid_barrow_api_ErrArg), ("barrow/api.ErrRange", laid_barrow_api_ErrRange), ("barrow/api.ErrText", laid_barrow_api_ErrText), ("barrow/api.ErrTwice", laid_barrow_api_ErrTwice)], narrowed := true }
def XformTwoUptoSaid : Prop := xformTwoUptoRow.holds Tryd.pinned (OpenSpec.upto xformTwoSpec)

/-- 'barrowlaw07.XformThree', WHERE WHAT IT READS IS OF BULK AT MOST 1048576: true; the input reads as it did. -/
def xformThreeUptoRow : OpenClaim := { program := "ytbcilnbjhjepgaadoor", sum := "bf1ed96a486dad4c02cd7f5e74dae186ada7b52797e892002d408edeedc2cf65", func := "barrow/barrowlaw07.XformThree", spec := "xformThree", unfollowed := true, recurses := true, named := ["barrow/api.ErrArg", "barrow/api.ErrText", "barrow/api.ErrTwice", "barrow/api.ErrRange"], plainKeys := false, apart := false, laid := [("barrow/api.ErrArg", laid_barrow_api_ErrArg), ("barrow/api.ErrRange", laid_barrow_api_ErrRange), ("barrow/api.ErrText", laid_barrow_api_ErrText), ("barrow/api.ErrTwice", laid_barrow_api_ErrTwice)], narrowed := true }
def XformThreeUptoSaid : Prop := xformThreeUptoRow.holds Tryd.pinned (OpenSpec.upto xformThreeSpec)

end Rows
end Go.Proofs.YtbcilnbjhjepgaaDoor
