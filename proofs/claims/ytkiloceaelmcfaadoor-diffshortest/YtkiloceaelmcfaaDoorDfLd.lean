
/-
  What the listed variables give the walks: the tables of utf8, two or three reasons.
-/
import Derived.Test.YtkiloceaelmcfaaDoorOpen
import Derived.Test.YtkiloceaelmcfaaDoorRows
import Derived.Test.YtkiloceaelmcfaaDoorDm4
import Derived.Lib.LaidU8T
import Derived.PinnedBridge
namespace Go.Proofs.YtkiloceaelmcfaaDoor
open Go.ChangeShapes Go.WideShapes Go.ChangeAt Go.RowKit Go.Extern.Stop Go.Stop Go.Extern
set_option maxRecDepth 100000

theorem LaidVars_pre {P : Program} {w : World} : ∀ {l r : List (String × DataW Unit)} {ps : List MemPlace}, DataW.LaidVars P w (l ++ r) ps → ∃ p1 p2, DataW.LaidVars P w l p1 ∧ ps = p1 ++ p2
  | [], r, ps, h => ⟨[], ps, rfl, rfl⟩
  | x :: l, r, ps, h => by
    obtain ⟨g, t, cs, f, p, q, h1, h2, h3, h4, hq, e⟩ := h
    obtain ⟨p1, p2, a, b⟩ := LaidVars_pre hq
    exact ⟨_, p2, ⟨g, t, cs, f, p, p1, h1, h2, h3, h4, a, rfl⟩, by rw [e, b]; simp [List.append_assoc]⟩
theorem laidMet_pre {P : Program} {w : World} {l r : List (String × DataW Unit)} (h : laidMet P (l ++ r) w) : laidMet P l w := by
  obtain ⟨ps, h1, h2, h3⟩ := h
  obtain ⟨p1, p2, a, rfl⟩ := LaidVars_pre h1
  exact ⟨p1, a, (List.nodup_append.1 h2).1, fun b off hm => h3 b off (List.mem_append_left _ hm)⟩
theorem u8_extra : Go.Proofs.U8Extra Tryd.prog Tryd.lays196_ren := {
  n3 := by kernel_rfl
  n4 := by kernel_rfl
  y3 := by kernel_rfl
  y4 := by kernel_rfl
  c5 := by kernel_rfl
  c119 := by kernel_rfl
  c138 := by kernel_rfl }
theorem u8_of {W : World} {l : List (String × DataW Unit)} (h : laidMet Tryd.prog l W) (h1 : ("unicode/utf8.first", Rows.laid_unicode_utf8_first) ∈ l) (h2 : ("unicode/utf8.acceptRanges", Rows.laid_unicode_utf8_acceptRanges) ∈ l) : U8 W := by
  refine Go.Proofs.utf8Tabs_of_readsT (.of196 Tryd.lays196) u8_extra ?_ ?_
  · have := Go.Lib.laidMet.reads h h1
    rwa [show Rows.laid_unicode_utf8_first = Go.Lib.firstData from Pinned.utf8First_eq] at this
  · exact Go.Lib.laidMet.reads h h2
def names2 : List (String × List UInt8) := [("barrow/api.ErrText", (txt 2).data.toList), ("barrow/api.ErrRoom", (txt 12).data.toList)]
def names3 : List (String × List UInt8) := [("barrow/api.ErrRange", (txt 1).data.toList), ("barrow/api.ErrText", (txt 2).data.toList), ("barrow/api.ErrRoom", (txt 12).data.toList)]
theorem env_of2 {W : World} (h : laidMet Tryd.prog (("unicode/utf8.acceptRanges", Rows.laid_unicode_utf8_acceptRanges) :: ((names2.map fun x => (x.1, sent x.2)) ++ [("unicode/utf8.first", Rows.laid_unicode_utf8_first)])) W) : ∃ ad, Env ad W := by
  have hu := u8_of h (by simp) (by simp)
  obtain ⟨ps, hv, _, hrows⟩ := laidMet_pre h.tail
  obtain ⟨ads, hlen, _, hall⟩ := sents_of names2 ps hv hrows (fun x hx => by
    simp only [names2, List.mem_cons, List.not_mem_nil, or_false] at hx
    rcases hx with rfl | rfl
    · exact ⟨_, gl2, gt2⟩
    · exact ⟨_, gl12, gt12⟩)
  obtain ⟨a0, _, w0, _⟩ := hall 0 _ rfl
  obtain ⟨a1, _, w1, _⟩ := hall 1 _ rfl
  have c0 : W.cell? ⟨0, 0, none⟩ = some (.iface 156 (.pointer (some a0))) := by simpa using World.var?_cell gl2 w0 0
  have c1 : W.cell? ⟨1, 0, none⟩ = some (.iface 156 (.pointer (some a1))) := by simpa using World.var?_cell gl12 w1 0
  exact ⟨fun k => if k = 2 then a0 else a1, hu, c0, c1⟩
end Go.Proofs.YtkiloceaelmcfaaDoor
