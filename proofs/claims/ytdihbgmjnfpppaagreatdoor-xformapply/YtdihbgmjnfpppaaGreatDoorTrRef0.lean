
/-
  barrowkeep.Refused, where nothing is refused.
-/
import Derived.Test.YtdihbgmjnfpppaaGreatDoorTrSay
namespace Go.Proofs.YtdihbgmjnfpppaaGreatDoor
open Go.RowKit
set_option maxRecDepth 100000

/-- No error, and no refusal. -/
theorem refused_none (a a' : Option Addr) (n c n' c' : Nat) (w : World) :
    Calls Tryz.prog 8 #[.nilIface, .agg (nov 0 a n c a' n' c')] w fun e w' => e = .returned (.bool true) ∧ Below w.heap.size w w' := by
  unfold nov
  go_enter Tryz.func8, Tryz.ntmps8
  go_wp2
  go_ret
  exact ⟨rfl, below_one _ _⟩

end Go.Proofs.YtdihbgmjnfpppaaGreatDoor
