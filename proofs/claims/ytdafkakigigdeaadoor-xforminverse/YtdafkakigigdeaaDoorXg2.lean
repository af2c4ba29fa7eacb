
/-
  Right, Valid and Inverse, of the program and of the document: barrowlaw07.XformRight.
-/
import Derived.Test.YtdafkakigigdeaaDoorXg1
namespace Go.Proofs.YtdafkakigigdeaaDoor
open Go.RowKit
set_option maxRecDepth 100000

/-- What undoes an operation. -/
def invO (o : Xo) : Xo × Bool := if o.k = 1 then (⟨2, o.p, 0, o.r⟩, true) else if o.k = 3 then (⟨2, o.p, 0, o.r⟩, true) else if o.k = 2 then (⟨3, o.p, 0, o.r⟩, true) else (⟨0, 0, 0, 0⟩, false)
theorem results_o2 {fn : Func} {p u : Tmp} {tmps : Array Value} {w : World} {g : Nat} {e : Xo} (h : fn.results = #[.cell p 37, .tmp u]) (hp : tmps.getD p undef = .pointer (some ⟨g, 0, none⟩)) (hg : RowAt g (ov e) 37 w) :
    (results fn tmps).run Tryd.prog w = .ok (.tuple #[.agg (ov e), tmps.getD u undef]) w := by
  have hp' : tmps[p]?.getD undef = .pointer (some ⟨g, 0, none⟩) := by simpa using hp
  simp [results, h, hp', asAddr, run_loadVar_row w g _ _ _ _ _ hg Tryd.underlying37 rfl (o_size e)]
end Go.Proofs.YtdafkakigigdeaaDoor
