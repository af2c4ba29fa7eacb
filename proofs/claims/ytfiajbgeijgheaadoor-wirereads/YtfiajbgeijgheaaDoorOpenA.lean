
/-
  From the arguments as the form reads them to what the walks use.
-/
import Derived.Test.YtfiajbgeijgheaaDoorRows
import Derived.Test.YtfiajbgeijgheaaDoorStay
import Derived.Test.YtfiajbgeijgheaaDoorOpenB
import Derived.ProofKit
import Derived.Deep.Slices
import Derived.Deep.Strs
import Derived.OpenShut
import Derived.Carry
namespace Go.Proofs.YtfiajbgeijgheaaDoor
open Go.ChangeShapes Go.WideShapes Go.ChangeAt Go.RowKit Go.Deep
set_option maxRecDepth 100000

section
variable {H : Type} {enc : TypeId × Value → H} {W : World} {base : Nat}

instance : Inhabited Cl := ⟨⟨0, 0, 0⟩⟩
theorem cellsC : Tryd.prog.cellsOf 59 = 3 := by kernel_rfl
theorem cellsI : Tryd.prog.cellsOf 3 = 1 := by kernel_rfl

/-- Calls that came in. -/
theorem open_calls {v : Value} {d : DataW H} {p : List MemPlace} (hval : Value.okWide Tryd.prog W .any base 49 v) (h : DataW.Trod enc Tryd.prog W 0 (fun _ => true) true 49 v d p) :
    ∃ cl : List Cl, SlC W v cl := by
  obtain ⟨a1, len, cap, rfl⟩ := okWide_slice Tryd.underlying49 hval
  obtain ⟨fuel, hf⟩ := h
  rcases open_slice Tryd.underlying49 hf with ⟨hcs, hx⟩ | ⟨a, len', cap', m, n, D, Pl, hcs, _, hl, hm, hmm, hx, hcell⟩
  · simp [Value.cells] at hcs
    obtain ⟨rfl, rfl, rfl⟩ := hcs
    exact ⟨[], .inl ⟨rfl, _, _, rfl⟩⟩
  · simp [Value.cells] at hcs
    obtain ⟨rfl, rfl, rfl⟩ := hcs
    simp only [if_true] at hmm
    subst hmm
    have each : ∀ i, i < len → ∃ x : Cl, (-9223372036854775808 ≤ x.least ∧ x.least ≤ 9223372036854775807) ∧ W.cell? (a.add (i * 3)) = some (.int .i64 x.kind) ∧ W.cell? (a.add (i * 3 + 1)) = some (.int .i64 x.least) ∧ W.cell? (a.add (i * 3 + 2)) = some (.int .i64 x.most) := by
      intro i hi
      obtain ⟨cs', h1, h2⟩ := hcell i (by omega)
      rw [cellsC] at h1
      obtain ⟨_, hlen, hc⟩ := World.cells?_some h1
      obtain ⟨y0, y1, y2, k, _, _, g0, g1, g2⟩ := trod_struct3 Tryd.underlying59 h2
      match cs', hlen with
      | [x0, x1, x2], _ =>
        simp only [cellsI] at g0 g1 g2
        obtain ⟨k0, e0, _, _⟩ := DataW.trod_int Tryd.underlying3 g0
        obtain ⟨k1, e1, _, wf1⟩ := DataW.trod_int Tryd.underlying3 g1
        obtain ⟨k2, e2, _, _⟩ := DataW.trod_int Tryd.underlying3 g2
        simp at e0 e1 e2
        subst e0 e1 e2
        have f0 := hc 0 (by omega)
        have f1 := hc 1 (by omega)
        have f2 := hc 2 (by omega)
        rw [add_add] at f0 f1 f2
        exact ⟨⟨k0, k1, k2⟩, bounds_i64 wf1, by simpa using f0, by simpa using f1, by simpa using f2⟩
    obtain ⟨f, hf⟩ := choose_lt (α := Cl) each
    refine ⟨(List.range len).map f, ?_⟩
    by_cases h0 : len = 0
    · subst h0
      exact .inl ⟨by simp, _, _, rfl⟩
    · obtain ⟨ab, ao, spot⟩ := a
      have hspot : spot = none := by simpa [Addr.add] using World.cell?_spot (hf 0 (by omega)).2.1
      subst hspot
      refine .inr ⟨ab, ao, _, by rw [List.length_map, List.length_range], ?_, fun i x hi => ?_⟩
      · have := World.block_lt_of_cell? _ _ (hf 0 (by omega)).2.1
        simpa [Addr.add] using this
      · have hil : i < len := by have := (List.getElem?_eq_some_iff.1 hi).1; simpa using this
        have hx : f i = x := by
          simp only [List.getElem?_map, List.getElem?_range hil, Option.map_some, Option.some.injEq] at hi
          exact hi
        have := hf i hil
        rw [hx] at this
        simpa [Addr.add_lit, Nat.add_assoc] using this
end
end Go.Proofs.YtfiajbgeijgheaaDoor
