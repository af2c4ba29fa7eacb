
/-
  barrowkeep: mark, Elements, LendElements.
-/
import Derived.Test.YtdihbgmjnfpppaaGreatDoorTrEq
import Derived.Test.YtdihbgmjnfpppaaGreatDoorTrKp
namespace Go.Proofs.YtdihbgmjnfpppaaGreatDoor
open Go.RowKit
set_option maxRecDepth 100000

/-- A mark. -/
def mk (k : Int) : El := ⟨-9, 0, k, 109, 0⟩
def marks : List El := [mk 0, mk 1, mk 2, mk 3]
theorem results_e1 {fn : Func} {p : Tmp} {tmps : Array Value} {w : World} {g : Nat} {e : El} (h : fn.results = #[.cell p 49]) (hp : tmps.getD p undef = .pointer (some ⟨g, 0, none⟩)) (hg : RowAt g (ev e) 49 w) :
    (results fn tmps).run Tryz.prog w = .ok (.agg (ev e)) w := by
  have hp' : tmps[p]?.getD undef = .pointer (some ⟨g, 0, none⟩) := by simpa using hp
  simp [results, h, hp', asAddr, run_loadVar_row w g _ _ _ _ _ hg Tryz.underlying49 rfl (e_size e)]
theorem marks_next (l : List El) (k : Nat) (hk : k < 4) : (l ++ marks.take k) ++ [mk (k : Int)] = l ++ marks.take (k + 1) := by
  rw [List.append_assoc]
  congr 1
  match k, hk with
  | 0, _ => rfl
  | 1, _ => rfl
  | 2, _ => rfl
  | 3, _ => rfl
end Go.Proofs.YtdihbgmjnfpppaaGreatDoor
