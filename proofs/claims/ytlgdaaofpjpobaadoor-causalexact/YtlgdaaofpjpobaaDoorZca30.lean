
/-
  The document's One; barrowlaw11.alike.
-/
import Derived.Test.YtlgdaaofpjpobaaDoorZca29
namespace Go.Proofs.YtlgdaaofpjpobaaDoor
open Go.RowKit Go.Maps
set_option maxRecDepth 100000

set_option maxHeartbeats 1000000 in
theorem one_is (x y : Ac) (w : World) : Calls Tryd.prog 51 #[.agg (acv x), .agg (acv y)] w fun e w' => e = .returned (.bool (oneB x y)) ∧ Below w.heap.size w w' := by
  have r1 := acv_rep x
  have r2 := acv_num x
  have r3 := acv_rep y
  have r4 := acv_num y
  unfold oneB
  cases h1 : (x.rep == y.rep)
  · go_enter Tryd.func51, Tryd.ntmps51
    go_wp2
    go_ret
    exact ⟨rfl, below_two _ _ _⟩
  · cases h2 : (x.num == y.num)
    · go_enter Tryd.func51, Tryd.ntmps51
      go_wp2
      go_ret
      exact ⟨rfl, below_two _ _ _⟩
    · go_enter Tryd.func51, Tryd.ntmps51
      go_wp2
      go_ret
      exact ⟨rfl, below_two _ _ _⟩
theorem one_v {x y : Ac} {b : Bool} (hb : oneB x y = b) (w : World) : Calls Tryd.prog 51 #[.agg (acv x), .agg (acv y)] w fun e w' => e = .returned (.bool b) ∧ Below w.heap.size w w' := hb ▸ one_is x y w
end Go.Proofs.YtlgdaaofpjpobaaDoor
