
/-
  barrowkeep.Refused, where nothing is refused.
-/
import Derived.Test.YtjopeojnlibagaaGreatDoorTrSay
namespace Go.Proofs.YtjopeojnlibagaaGreatDoor
open Go.RowKit
set_option maxRecDepth 100000

/-- No error, and no refusal. -/
theorem refused_none (a a' : Option Addr) (n c n' c' : Nat) (w : World) :
    Calls Tryz.prog 11 #[.nilIface, .agg (nov 0 a n c a' n' c')] w fun e w' => e = .returned (.bool true) ∧ Below w.heap.size w w' := by
  unfold nov
  go_enter Tryz.func11, Tryz.ntmps11
  go_wp2
  go_ret
  exact ⟨rfl, below_one _ _⟩

end Go.Proofs.YtjopeojnlibagaaGreatDoor
