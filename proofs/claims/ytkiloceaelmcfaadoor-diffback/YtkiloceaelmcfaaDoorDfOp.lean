
/-
  Some texts and edits that came in: from the argument as the form reads it to what the walks use.
-/
import Derived.Test.YtkiloceaelmcfaaDoorRows
import Derived.Test.YtkiloceaelmcfaaDoorTrBase
import Derived.ProofKit
import Derived.Deep.Slices
import Derived.Deep.Strs
import Derived.Lib.SmallJoins
import Derived.OpenShut
import Derived.Carry
namespace Go.Proofs.YtkiloceaelmcfaaDoor
open Go.ChangeShapes Go.WideShapes Go.ChangeAt Go.RowKit Go.Deep
set_option maxRecDepth 100000

section
variable {H : Type} {enc : TypeId × Value → H} {W : World} {base : Nat}
theorem cellsTx : Tryd.prog.cellsOf 24 = 4 := by kernel_rfl
theorem cellsSt : Tryd.prog.cellsOf 9 = 1 := by kernel_rfl
theorem cellsEs : Tryd.prog.cellsOf 22 = 1 := by kernel_rfl
theorem open_txs {v : Value} {d : DataW H} {p : List MemPlace} (hval : Value.okWide Tryd.prog W .any base 24 v) (h : DataW.Trod enc Tryd.prog W 0 (fun _ => true) true 24 v d p) :
    ∃ (a b c : ByteArray) (l : Value), v = .agg #[.string a, .string b, .string c, l] ∧ a.size ≤ maxLen ∧ b.size ≤ maxLen ∧ c.size ≤ maxLen ∧ l.oneCell' = true := by
  obtain ⟨cs, rfl, hsz⟩ := okWide_struct Tryd.underlying24 hval
  obtain ⟨fuel, hf⟩ := h
  obtain ⟨y0, y1, y2, y3, k, _, hl, g0, g1, g2, g3⟩ := Go.Joins.trod_struct4 Tryd.underlying24 hf
  rw [cellsTx] at hl
  have hcs : (Value.agg cs).cells.toList = cs.toList := rfl
  rw [hcs] at hl g0 g1 g2 g3
  obtain ⟨cs⟩ := cs
  clear hsz hval hcs hf
  match cs, hl with
  | [x0, x1, x2, x3], _ =>
    simp only [cellsSt, cellsEs] at g0 g1 g2 g3
    obtain ⟨k0, e0, _, wf0⟩ := DataW.trod_string Tryd.underlying9 g0
    obtain ⟨k1, e1, _, wf1⟩ := DataW.trod_string Tryd.underlying9 g1
    obtain ⟨k2, e2, _, wf2⟩ := DataW.trod_string Tryd.underlying9 g2
    simp at e0 e1 e2 g3
    subst e0 e1 e2
    refine ⟨k0, k1, k2, x3, rfl, wf0, wf1, wf2, ?_⟩
    rcases open_slice Tryd.underlying22 g3 with ⟨hcs, hx⟩ | ⟨a, len', cap', m, n, D, Pl, hcs, _⟩
    · simp at hcs
      subst hcs
      rfl
    · simp at hcs
      subst hcs
      rfl
end
end Go.Proofs.YtkiloceaelmcfaaDoor
