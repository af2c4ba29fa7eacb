
/-
  The two reasons that a row lists.
-/
import Derived.Test.YtfgcljpiidhfpaaDoorOpen
import Derived.Test.YtfgcljpiidhfpaaDoorFl10
namespace Go.Proofs.YtfgcljpiidhfpaaDoor
open Go.ChangeShapes Go.WideShapes Go.ChangeAt Go.RowKit Go.Extern.Stop Go.Stop Go.Extern
set_option maxRecDepth 100000

def names2 : List (String × List UInt8) := [("barrow/api.ErrArg", (txt 0).data.toList), ("barrow/api.ErrBusy", (txt 10).data.toList)]
/-- What the condition gives the walks. -/
theorem lz_of {W : World} (hl : laidMet Tryd.prog (names2.map fun x => (x.1, sent x.2)) W) : ∃ ad, Lz ad W := by
  obtain ⟨ps, hv, _, hrows⟩ := hl
  obtain ⟨ads, hlen, _, hall⟩ := sents_of names2 ps hv hrows (fun x hx => by
    simp only [names2, List.mem_cons, List.not_mem_nil, or_false] at hx
    rcases hx with rfl | rfl
    · exact ⟨_, gl0, gt0⟩
    · exact ⟨_, gl10, gt10⟩)
  obtain ⟨a1, _, w1, _⟩ := hall 1 _ rfl
  have c1 : W.cell? ⟨1, 0, none⟩ = some (.iface 166 (.pointer (some a1))) := by simpa using World.var?_cell gl10 w1 0
  exact ⟨fun _ => a1, c1⟩
end Go.Proofs.YtfgcljpiidhfpaaDoor
