
/-
  barrowlaw15.DiffMetric holds of any three texts.
-/
import Derived.Test.YtaimmjoekahleaaDoorZa31
namespace Go.Proofs.YtaimmjoekahleaaDoor
open Go.RowKit Go.Extern.Stop Go.Stop Go.Extern
set_option maxRecDepth 100000

theorem clip_b (s : ByteArray) (hs : s.size ≤ 9223372036854775807) (w : World) : Calls Tryd.prog 4 #[.string s] w fun e w' => e = .returned (.string (clB s)) ∧ Below w.heap.size w w' := by
  refine (clip_is s hs w).mono ?_
  rintro e w' ⟨h1, rfl⟩
  exact ⟨h1, Below.refl _ _⟩
/-- How many characters; -1: it is no UTF-8. -/
def lenI (s : ByteArray) : Int := if Lib.validD s.data.toList = true then ((rn s.data.toList).length : Int) else -1
theorem lenI_ok {s : ByteArray} (h : Lib.validD s.data.toList = true) : ¬ lenI s < 0 := by
  unfold lenI
  rw [if_pos h]
  omega
theorem lenI_no {s : ByteArray} (h : Lib.validD s.data.toList = false) : lenI s < 0 := by
  unfold lenI
  rw [if_neg (by rw [h]; decide)]
  omega
end Go.Proofs.YtaimmjoekahleaaDoor
