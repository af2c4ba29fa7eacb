
/-
  clock.isReplica, clock.Tick where it ticks.
-/
import Derived.Test.YtfgcljpiidhfpaaDoorCkCov
namespace Go.Proofs.YtfgcljpiidhfpaaDoor
open Go.RowKit
set_option maxRecDepth 100000

theorem results_ck2 {fn : Func} {p u : Tmp} {tmps : Array Value} {w : World} {g : Nat} {x : List Int} (h : fn.results = #[.cell p 42, .tmp u]) (hp : tmps.getD p undef = .pointer (some ⟨g, 0, none⟩)) (hg : CkAt g x w) :
    (results fn tmps).run Tryd.prog w = .ok (.tuple #[.agg (cv x), tmps.getD u undef]) w := by
  have hp' : tmps[p]?.getD undef = .pointer (some ⟨g, 0, none⟩) := by simpa using hp
  simp [results, h, hp', asAddr, run_loadVar_row w g _ _ _ _ _ hg.1 Tryd.underlying42 rfl hg.size]

/-- The numbers that an int can hold. -/
def fitsI (x : Int) : Prop := -9223372036854775808 ≤ x ∧ x ≤ 9223372036854775807

/-- The bytes of the law's own example. -/
def wk31 : List Int := [3, 1, 0, 0, 0, 0, 0, 0]
def wk32 : List Int := [3, 2, 0, 0, 0, 0, 0, 0]
def wk4 : List Int := [4, 0, 0, 0, 0, 0, 0, 0]
theorem wk_cov : cov wk32 wk31 = true := by decide
theorem wk_cmp : cmp wk32 wk4 = 3 := by decide
theorem wk_tick : wk31.set 1 (en wk31 1 + 1) = wk32 := by decide
theorem build31 : (#[.int .i64 3, .int .i64 1, .int .i64 0, .int .i64 0, .int .i64 0, .int .i64 0, .int .i64 0, .int .i64 0] : Array Value) = cv wk31 := rfl
theorem build32 : (#[.int .i64 3, .int .i64 2, .int .i64 0, .int .i64 0, .int .i64 0, .int .i64 0, .int .i64 0, .int .i64 0] : Array Value) = cv wk32 := rfl
theorem build4 : (#[.int .i64 4, .int .i64 0, .int .i64 0, .int .i64 0, .int .i64 0, .int .i64 0, .int .i64 0, .int .i64 0] : Array Value) = cv wk4 := rfl
end Go.Proofs.YtfgcljpiidhfpaaDoor
