
/-
  What the listed variables give the walks of edits: the tables of utf8, three reasons.
-/
import Derived.Test.YtkiloceaelmcfaaDoorDfLd
import Derived.Test.YtkiloceaelmcfaaDoorEc2
namespace Go.Proofs.YtkiloceaelmcfaaDoor
open Go.ChangeShapes Go.WideShapes Go.ChangeAt Go.RowKit Go.Extern.Stop Go.Stop Go.Extern
set_option maxRecDepth 100000

theorem env_of3 {W : World} (h : laidMet Tryd.prog (("unicode/utf8.acceptRanges", Rows.laid_unicode_utf8_acceptRanges) :: ((names3.map fun x => (x.1, sent x.2)) ++ [("unicode/utf8.first", Rows.laid_unicode_utf8_first)])) W) : ∃ ad, Env3 ad W := by
  have hu := u8_of h (by simp) (by simp)
  obtain ⟨ps, hv, _, hrows⟩ := laidMet_pre h.tail
  obtain ⟨ads, hlen, _, hall⟩ := sents_of names3 ps hv hrows (fun x hx => by
    simp only [names3, List.mem_cons, List.not_mem_nil, or_false] at hx
    rcases hx with rfl | rfl | rfl
    · exact ⟨_, gl1, gt1⟩
    · exact ⟨_, gl2, gt2⟩
    · exact ⟨_, gl12, gt12⟩)
  obtain ⟨a0, _, w0, _⟩ := hall 0 _ rfl
  obtain ⟨a1, _, w1, _⟩ := hall 1 _ rfl
  obtain ⟨a2, _, w2, _⟩ := hall 2 _ rfl
  have c0 : W.cell? ⟨4, 0, none⟩ = some (.iface 156 (.pointer (some a0))) := by simpa using World.var?_cell gl1 w0 0
  have c1 : W.cell? ⟨0, 0, none⟩ = some (.iface 156 (.pointer (some a1))) := by simpa using World.var?_cell gl2 w1 0
  have c2 : W.cell? ⟨1, 0, none⟩ = some (.iface 156 (.pointer (some a2))) := by simpa using World.var?_cell gl12 w2 0
  exact ⟨fun k => if k = 1 then a0 else if k = 2 then a1 else a2, ⟨hu, c1, c2⟩, c0⟩
end Go.Proofs.YtkiloceaelmcfaaDoor
