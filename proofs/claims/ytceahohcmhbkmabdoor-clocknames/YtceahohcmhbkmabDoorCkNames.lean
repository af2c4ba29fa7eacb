/-
  barrowlaw03.ClockNames answers true.
-/
import Derived.Test.YtceahohcmhbkmabDoorCkTick
namespace Go.Proofs.YtceahohcmhbkmabDoor
open Go.RowKit
set_option maxRecDepth 100000

theorem namesC_ok (w : World) : Calls Tryd.prog 5 #[] w fun e w' => e = .returned (.bool true) ∧ Below w.heap.size w w' := by
  go_enter Tryd.func5, Tryd.ntmps5
  go_wp2_with (go_at_call 9; refine (wakesC_ok _).mono ?_; rintro e w1 ⟨rfl, hb1⟩)
  go_ret
  exact ⟨rfl, hb1⟩
end Go.Proofs.YtceahohcmhbkmabDoor
