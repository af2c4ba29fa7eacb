
/-
  The one reason that a row lists.
-/
import Derived.Test.YtgkbgojgpomcdaaDoorOpen
import Derived.Test.YtgkbgojgpomcdaaDoorUn8
namespace Go.Proofs.YtgkbgojgpomcdaaDoor
open Go.ChangeShapes Go.WideShapes Go.ChangeAt Go.RowKit Go.Extern.Stop Go.Stop Go.Extern
set_option maxRecDepth 100000

def names1 : List (String × List UInt8) := [("barrow/api.ErrNone", (txt 11).data.toList)]
/-- What the condition gives the walks. -/
theorem ln_of {W : World} (hl : laidMet Tryd.prog (names1.map fun x => (x.1, sent x.2)) W) : ∃ ad, Ln ad W := by
  obtain ⟨ps, hv, _, hrows⟩ := hl
  obtain ⟨ads, hlen, _, hall⟩ := sents_of names1 ps hv hrows (fun x hx => by
    simp only [names1, List.mem_cons, List.not_mem_nil, or_false] at hx
    subst hx
    exact ⟨_, gl11, gt11⟩)
  obtain ⟨a0, _, w0, _⟩ := hall 0 _ rfl
  have c0 : W.cell? ⟨2, 0, none⟩ = some (.iface 156 (.pointer (some a0))) := by simpa using World.var?_cell gl11 w0 0
  exact ⟨fun _ => a0, c0⟩
end Go.Proofs.YtgkbgojgpomcdaaDoor
