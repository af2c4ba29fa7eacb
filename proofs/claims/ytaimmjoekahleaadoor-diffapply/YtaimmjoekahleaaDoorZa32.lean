
/-
  barrowref15.read.
-/
import Derived.Test.YtaimmjoekahleaaDoorZa31
namespace Go.Proofs.YtaimmjoekahleaaDoor
open Go.RowKit Go.Extern.Stop Go.Stop Go.Extern
set_option maxRecDepth 100000

theorem results_ttNo {fn : Func} {s t u : Tmp} {tmps : Array Value} {w : World} {g' : Nat} {cs : Array Value} (h : fn.results = #[.tmp s, .tmp t, .cell u 34]) (hu : tmps.getD u undef = .pointer (some ⟨g', 0, none⟩)) (hg' : RowAt g' cs 34 w) (hs : cs.size = 3) :
    (results fn tmps).run Tryd.prog w = .ok (.tuple #[tmps.getD s undef, tmps.getD t undef, .agg cs]) w := by
  have hu' : tmps[u]?.getD undef = .pointer (some ⟨g', 0, none⟩) := by simpa using hu
  have hi : (Tryd.prog.info? 34).map (·.size) = some cs.size := by rw [hs]; exact no_size
  simp [results, h, hu', asAddr, run_loadVar_row w g' _ _ _ _ _ hg' Tryd.underlying34 rfl hi]
end Go.Proofs.YtaimmjoekahleaaDoor
