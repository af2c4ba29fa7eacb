
/-
  Calls that came in.
-/
import Derived.Test.YtlkcjbmdeimocaaDoorCa28
import Derived.Test.YtlkcjbmdeimocaaDoorCaOp
namespace Go.Proofs.YtlkcjbmdeimocaaDoor
open Go.ChangeShapes Go.WideShapes Go.ChangeAt Go.RowKit Go.Deep
set_option maxRecDepth 100000

section
variable {H : Type} {enc : TypeId × Value → H} {W : World} {base : Nat}
theorem cellsCop : Tryd.prog.cellsOf 50 = 22 := by kernel_rfl
/-- The cells of a call. -/
theorem open_copF {cs : List Value} {fuel bs : Nat} {sp : Nat → Bool} {hd : Bool} {x : DataW H × List MemPlace} (hlen : cs.length = 22) (h : DataW.trod enc Tryd.prog W bs sp hd fuel 50 cs = some x) : ∃ y : Cop, cs.toArray = y.cells ∧ y.Fit := by
  obtain ⟨y0, y1, y2, k, _, _, g0, g1, g2⟩ := trod_struct3 Tryd.underlying50 h
  simp only [cellsAct, cellsInt, cellsCk] at g0 g1 g2
  obtain ⟨i0, e0, _, wf0⟩ := DataW.trod_int Tryd.underlying3 g0
  obtain ⟨ck, e1, hck⟩ := open_cells8 g1
  obtain ⟨a, e2, ha⟩ := open_actF (by simp [hlen]) g2
  match cs, hlen with
  | [x0, x1, x2, x3, x4, x5, x6, x7, x8, x9, x10, x11, x12, x13, x14, x15, x16, x17, x18, x19, x20, x21], _ =>
    refine ⟨(i0, ck, a), ?_, bounds_i64 wf0, hck, ha⟩
    simp at e0 e1 e2
    subst e0
    show _ = ocv i0 ck a
    unfold ocv
    rw [← e2]
    simp [cv, ← e1]

/-- Calls that came in. -/
theorem open_copsF {v : Value} {d : DataW H} {p : List MemPlace} (hval : Value.okWide Tryd.prog W .any base 22 v) (h : DataW.Trod enc Tryd.prog W 0 (fun _ => true) true 22 v d p) :
    ∃ l : List Cop, SlO W v l ∧ ∀ x ∈ l, x.Fit := by
  obtain ⟨a1, len, cap, rfl⟩ := okWide_slice Tryd.underlying22 hval
  obtain ⟨fuel, hf⟩ := h
  rcases open_slice Tryd.underlying22 hf with ⟨hcs, hx⟩ | ⟨a, len', cap', m, n, D, Pl, hcs, _, hl, hm, hmm, hx, hcell⟩
  · simp [Value.cells] at hcs
    obtain ⟨rfl, rfl, rfl⟩ := hcs
    exact ⟨[], .inl ⟨rfl, _, _, rfl⟩, (fun x h => by cases h)⟩
  · simp [Value.cells] at hcs
    obtain ⟨rfl, rfl, rfl⟩ := hcs
    simp only [if_true] at hmm
    subst hmm
    have each : ∀ i, i < len → ∃ x : Cop, x.Fit ∧ ∀ j v, x.cells[j]? = some v → W.cell? (a.add (i * 22 + j)) = some v := by
      intro i hi
      obtain ⟨cs', h1, h2⟩ := hcell i (by omega)
      rw [cellsCop] at h1
      obtain ⟨_, hlen, hc⟩ := World.cells?_some h1
      obtain ⟨x, ex, hx⟩ := open_copF hlen h2
      refine ⟨x, hx, fun j v hv => ?_⟩
      rw [← ex] at hv
      have hj : j < 22 := by
        have := (Array.getElem?_eq_some_iff.1 hv).1
        simpa [hlen] using this
      have := hc j hj
      rw [add_add] at this
      rw [this]
      simpa using hv
    obtain ⟨f, hf⟩ := choose_lt (α := Cop) each
    have hfull : ∀ x ∈ (List.range len).map f, x.Fit := fun x hx => by
      obtain ⟨i, hi, rfl⟩ := List.mem_map.1 hx
      exact (hf i (List.mem_range.1 hi)).1
    refine ⟨(List.range len).map f, ?_, hfull⟩
    by_cases h0 : len = 0
    · subst h0
      exact .inl ⟨by simp, _, _, rfl⟩
    · obtain ⟨ab, ao, spot⟩ := a
      have c0 := (hf 0 (by omega)).2 0 _ (ocv_do _ _ _)
      have hspot : spot = none := by simpa [Addr.add] using World.cell?_spot c0
      subst hspot
      have hblk : ab < W.heap.size := by
        have := World.block_lt_of_cell? _ _ c0
        simpa [Addr.add] using this
      refine .inr ⟨ab, ao, _, by rw [List.length_map, List.length_range], fun i x hi => ?_⟩
      have hil : i < len := by have := (List.getElem?_eq_some_iff.1 hi).1; simpa using this
      have hx : f i = x := by
        simp only [List.getElem?_map, List.getElem?_range hil, Option.map_some, Option.some.injEq] at hi
        exact hi
      have := hf i hil
      rw [hx] at this
      refine ⟨hblk, fun j v hv => ?_⟩
      have h3 := this.2 j v hv
      rw [Addr.add_lit] at h3
      rw [Nat.add_assoc]; exact h3
end
end Go.Proofs.YtlkcjbmdeimocaaDoor
