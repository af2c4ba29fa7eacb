
/-
  The three reasons that a row lists.
-/
import Derived.Test.YtbjbihgfkcnmbaaDoorOpen
import Derived.Test.YtbjbihgfkcnmbaaDoorBg1
namespace Go.Proofs.YtbjbihgfkcnmbaaDoor
open Go.ChangeShapes Go.WideShapes Go.ChangeAt Go.RowKit Go.Extern.Stop Go.Stop Go.Extern
set_option maxRecDepth 100000

def names3 : List (String × List UInt8) := [("barrow/api.ErrArg", (txt 0).data.toList), ("barrow/api.ErrRange", (txt 1).data.toList), ("barrow/api.ErrRoom", (txt 12).data.toList)]
/-- What the condition gives the walks. -/
theorem lb_of {W : World} (hl : laidMet Tryd.prog (names3.map fun x => (x.1, sent x.2)) W) : ∃ ad, Lb ad W := by
  obtain ⟨ps, hv, _, hrows⟩ := hl
  obtain ⟨ads, hlen, _, hall⟩ := sents_of names3 ps hv hrows (fun x hx => by
    simp only [names3, List.mem_cons, List.not_mem_nil, or_false] at hx
    rcases hx with rfl | rfl | rfl
    · exact ⟨_, gl0, gt0⟩
    · exact ⟨_, gl1, gt1⟩
    · exact ⟨_, gl12, gt12⟩)
  obtain ⟨a0, _, w0, _⟩ := hall 0 _ rfl
  obtain ⟨a1, _, w1, _⟩ := hall 1 _ rfl
  obtain ⟨a2, _, w2, _⟩ := hall 2 _ rfl
  have c0 : W.cell? ⟨0, 0, none⟩ = some (.iface 156 (.pointer (some a0))) := by simpa using World.var?_cell gl0 w0 0
  have c1 : W.cell? ⟨3, 0, none⟩ = some (.iface 156 (.pointer (some a1))) := by simpa using World.var?_cell gl1 w1 0
  have c2 : W.cell? ⟨2, 0, none⟩ = some (.iface 156 (.pointer (some a2))) := by simpa using World.var?_cell gl12 w2 0
  refine ⟨fun k => if k = 0 then a0 else if k = 1 then a1 else a2, fun k hk => ?_⟩
  rcases hk with rfl | rfl | rfl
  · exact c0
  · exact c1
  · exact c2
end Go.Proofs.YtbjbihgfkcnmbaaDoor
