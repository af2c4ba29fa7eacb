
/-
  A Rows that came in.
-/
import Derived.Test.YtdafkakigigdeaaDoorXop3
import Derived.Test.YtdafkakigigdeaaDoorXcM
namespace Go.Proofs.YtdafkakigigdeaaDoor
open Go.ChangeShapes Go.WideShapes Go.ChangeAt Go.RowKit Go.Deep
set_option maxRecDepth 100000

theorem cellsRows7 : Tryd.prog.cellsOf 25 = 4 := by kernel_rfl
theorem cellsSlO7 : Tryd.prog.cellsOf 23 = 1 := by kernel_rfl
section
variable {H : Type} {enc : TypeId × Value → H} {W : World} {base : Nat}
theorem open_rows7 {v : Value} {d : DataW H} {p : List MemPlace} (hval : Value.okWide Tryd.prog W .any base 25 v) (h : DataW.Trod enc Tryd.prog W 0 (fun _ => true) true 25 v d p) :
    ∃ u a b, ∃ l : List El, ∃ la lb : List Xo, ∃ n : Int, v = .agg (rwv u a b n) ∧ SlE W u l ∧ (∀ e ∈ l, e.In) ∧ l.length ≤ 9223372036854775807 ∧ SlO W a la ∧ (∀ o ∈ la, o.In) ∧ la.length ≤ 9223372036854775807 ∧ SlO W b lb ∧ (∀ o ∈ lb, o.In) ∧ lb.length ≤ 9223372036854775807 ∧ In64 n := by
  obtain ⟨cs, rfl, hsz⟩ := okWide_struct Tryd.underlying25 hval
  obtain ⟨fuel, hf⟩ := h
  obtain ⟨xs, k, _, _, hl, hlen, hfs⟩ := DataW.trod_struct Tryd.underlying25 hf
  rw [cellsRows7] at hl
  have hcs : (Value.agg cs).cells.toList = cs.toList := rfl
  rw [hcs] at hl hfs
  obtain ⟨c0⟩ := cs
  clear hsz hval hcs hf
  match c0, hl, xs, hlen, hfs with
  | [x0, x1, x2, x3], _, [y0, y1, y2, y3], _, hfs =>
      have g0 := hfs 0 _ rfl
      have g1 := hfs 1 _ rfl
      have g2 := hfs 2 _ rfl
      have g3 := hfs 3 _ rfl
      simp only [List.getElem?_cons_zero, List.getElem?_cons_succ] at g0 g1 g2 g3
      obtain ⟨u, l, e0, h1, h2, h3⟩ := open_elsB g0
      obtain ⟨a, la, e1, h4, h5, h6⟩ := open_opsC g1
      obtain ⟨b, lb, e2, h7, h8, h9⟩ := open_opsC g2
      obtain ⟨n, en, _, wn⟩ := DataW.trod_int Tryd.underlying3 g3
      refine ⟨u, a, b, l, la, lb, n, ?_, h1, h2, h3, h4, h5, h6, h7, h8, h9, wf_64 wn⟩
      simp at e0 e1 e2 en
      rw [cellsSlE7] at e0
      rw [cellsSlO7] at e1 e2
      rw [cellsInt] at en
      simp at e0 e1 e2 en
      subst e0 e1 e2 en
      rfl
end
end Go.Proofs.YtdafkakigigdeaaDoor
