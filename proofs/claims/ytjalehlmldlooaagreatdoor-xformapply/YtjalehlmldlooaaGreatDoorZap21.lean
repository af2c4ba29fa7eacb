
/-
  tree.weightBefore, (*tree.Tree).Before; (*tree.Tree).FindLine.
-/
import Derived.Test.YtjalehlmldlooaaGreatDoorZap10
import Derived.Test.YtjalehlmldlooaaGreatDoorZap19
namespace Go.Proofs.YtjalehlmldlooaaGreatDoor
open Go.RowKit
set_option maxRecDepth 100000

theorem results_w2 {fn : Func} {p u : Tmp} {tmps : Array Value} {w : World} {g : Nat} {x y : Int} (h : fn.results = #[.cell p 123, .tmp u]) (hp : tmps.getD p undef = .pointer (some ⟨g, 0, none⟩)) (hg : RowAt g #[.int .i64 x, .int .i64 y] 123 w) :
    (results fn tmps).run Tryz.prog w = .ok (.tuple #[wv x y, tmps.getD u undef]) w := by
  have hp' : tmps[p]?.getD undef = .pointer (some ⟨g, 0, none⟩) := by simpa using hp
  simp [results, h, hp', asAddr, wv, run_loadVar_row w g _ _ _ _ _ hg Tryz.underlying123 rfl w_size]
theorem field_line (x y : Int) (w : World) : (Instr.field 123 (.agg #[.int .i64 x, .int .i64 y]) 1).run Tryz.prog w = .ok (.int .i64 y) w := by kernel_rfl
end Go.Proofs.YtjalehlmldlooaaGreatDoor
