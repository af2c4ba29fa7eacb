
/-
  barrowlaw07.XformNames.
-/
import Derived.Test.YtbcilnbjhjepgabDoorXf7
namespace Go.Proofs.YtbcilnbjhjepgabDoor
open Go.RowKit
set_option maxRecDepth 100000

set_option maxHeartbeats 400000 in
theorem xformNames_all (w : World) : Calls Tryd.prog 8 #[] w fun r w' => r = .returned (.bool true) ∧ Below w.heap.size w w' := by
  have HW := hid_of' wakes7_ok
  go_enter Tryd.func8, Tryd.ntmps8
  go_wp2_with (go_at_call 13; refine (HW.out _).mono ?_; rintro r w9 ⟨rfl, hb9⟩)
  go_ret
  exact ⟨rfl, hb9⟩
end Go.Proofs.YtbcilnbjhjepgabDoor
