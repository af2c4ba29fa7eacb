
/-
  Acts that came in, with their replicas and their row's room. Calls that came in.
-/
import Derived.Test.YtlgdaaofpjpobaaDoorZca15
import Derived.Deep.Strs
import Derived.Lib.SmallJoins
import Derived.Test.YtlgdaaofpjpobaaDoorZca52
namespace Go.Proofs.YtlgdaaofpjpobaaDoor
open Go.ChangeShapes Go.WideShapes Go.ChangeAt Go.RowKit Go.Deep
set_option maxRecDepth 100000

section
variable {H : Type} {enc : TypeId × Value → H} {W : World} {base : Nat}
theorem cellsAct : Tryd.prog.cellsOf 48 = 13 := by kernel_rfl
theorem cellsOp : Tryd.prog.cellsOf 46 = 4 := by kernel_rfl
theorem cellsI32 : Tryd.prog.cellsOf 21 = 1 := by kernel_rfl

theorem acv_kind (x : Ac) : (acv x)[0]? = some (.int .i64 x.kind) := by
  unfold acv; rw [Array.getElem?_append_left (by simp)]; rfl
/-- The cells of an Act. -/
theorem open_actF {cs : List Value} {fuel bs : Nat} {sp : Nat → Bool} {hd : Bool} {x : DataW H × List MemPlace} (hlen : cs.length = 13) (h : DataW.trod enc Tryd.prog W bs sp hd fuel 48 cs = some x) : ∃ a : Ac, cs.toArray = acv a ∧ a.Full := by
  obtain ⟨y0, y1, y2, k, _, _, g0, g1, g2⟩ := trod_struct3 Tryd.underlying48 h
  simp only [cellsOp, cellsInt, cellsCk] at g0 g1 g2
  obtain ⟨z0, z1, z2, z3, k', _, _, f0, f1, f2, f3⟩ := Go.Joins.trod_struct4 Tryd.underlying46 g0
  simp only [cellsInt, cellsI32] at f0 f1 f2 f3
  obtain ⟨i0, e0, _, _⟩ := DataW.trod_int Tryd.underlying3 f0
  obtain ⟨i1, e1, _, _⟩ := DataW.trod_int Tryd.underlying3 f1
  obtain ⟨i2, e2, _, _⟩ := DataW.trod_int Tryd.underlying21 f2
  obtain ⟨i3, e3, _, wf3⟩ := DataW.trod_int Tryd.underlying3 f3
  obtain ⟨i4, e4, _, wf4⟩ := DataW.trod_int Tryd.underlying3 g1
  obtain ⟨ck, e5, hck⟩ := open_cells8 g2
  match cs, hlen with
  | [x0, x1, x2, x3, x4, x5, x6, x7, x8, x9, x10, x11, x12], _ =>
    refine ⟨⟨i0, i1, i2, i3, i4, ck⟩, ?_, ⟨hck, bounds_i64 wf4⟩, bounds_i64 wf3⟩
    simp at e0 e1 e2 e3 e4 e5
    subst e0 e1 e2 e3 e4
    simp [acv, cv, ← e5]

/-- Acts that came in. -/
theorem open_actsF {v : Value} {d : DataW H} {p : List MemPlace} (hval : Value.okWide Tryd.prog W .any base 37 v) (h : DataW.Trod enc Tryd.prog W 0 (fun _ => true) true 37 v d p) :
    ∃ l : List Ac, SlC W v l ∧ (∀ x ∈ l, x.Full) ∧ ∀ a n c, v = .slice a n c → n ≤ c := by
  obtain ⟨a1, len, cap, rfl⟩ := okWide_slice Tryd.underlying37 hval
  obtain ⟨fuel, hf⟩ := h
  rcases open_slice Tryd.underlying37 hf with ⟨hcs, hx⟩ | ⟨a, len', cap', m, n, D, Pl, hcs, _, hl, hm, hmm, hx, hcell⟩
  · simp [Value.cells] at hcs
    obtain ⟨rfl, rfl, rfl⟩ := hcs
    exact ⟨[], .inl ⟨rfl, _, _, rfl⟩, (fun x h => by cases h), fun a n c e => by cases e; exact Nat.zero_le _⟩
  · simp [Value.cells] at hcs
    obtain ⟨rfl, rfl, rfl⟩ := hcs
    simp only [if_true] at hmm
    subst hmm
    have each : ∀ i, i < len → ∃ x : Ac, x.Full ∧ ∀ j v, (acv x)[j]? = some v → W.cell? (a.add (i * 13 + j)) = some v := by
      intro i hi
      obtain ⟨cs', h1, h2⟩ := hcell i (by omega)
      rw [cellsAct] at h1
      obtain ⟨_, hlen, hc⟩ := World.cells?_some h1
      obtain ⟨x, ex, hx⟩ := open_actF hlen h2
      refine ⟨x, hx, fun j v hv => ?_⟩
      rw [← ex] at hv
      have hj : j < 13 := by
        have := (Array.getElem?_eq_some_iff.1 hv).1
        simpa [hlen] using this
      have := hc j hj
      rw [add_add] at this
      rw [this]
      simpa using hv
    obtain ⟨f, hf⟩ := choose_lt (α := Ac) each
    have hfull : ∀ x ∈ (List.range len).map f, x.Full := fun x hx => by
      obtain ⟨i, hi, rfl⟩ := List.mem_map.1 hx
      exact (hf i (List.mem_range.1 hi)).1
    refine ⟨(List.range len).map f, ?_, hfull, fun a n c e => by cases e; exact hl⟩
    by_cases h0 : len = 0
    · subst h0
      exact .inl ⟨by simp, _, _, rfl⟩
    · obtain ⟨ab, ao, spot⟩ := a
      have c0 := (hf 0 (by omega)).2 0 _ (acv_kind _)
      have hspot : spot = none := by simpa [Addr.add] using World.cell?_spot c0
      subst hspot
      have hblk : ab < W.heap.size := by
        have := World.block_lt_of_cell? _ _ c0
        simpa [Addr.add] using this
      refine (slC_of_slA (.inr ⟨ab, ao, _, by rw [List.length_map, List.length_range], by simpa using (by omega : len ≤ maxLen), fun i x hi => ?_⟩)).1
      have hil : i < len := by have := (List.getElem?_eq_some_iff.1 hi).1; simpa using this
      have hx : f i = x := by
        simp only [List.getElem?_map, List.getElem?_range hil, Option.map_some, Option.some.injEq] at hi
        exact hi
      have := hf i hil
      rw [hx] at this
      refine ⟨this.1.1, hblk, fun j v hv => ?_⟩
      have h3 := this.2 j v hv
      rw [Addr.add_lit] at h3
      rw [Nat.add_assoc]; exact h3
end
end Go.Proofs.YtlgdaaofpjpobaaDoor
namespace Go.Proofs.YtlgdaaofpjpobaaDoor
open Go.ChangeShapes Go.WideShapes Go.ChangeAt Go.RowKit Go.Deep
set_option maxRecDepth 100000

section
variable {H : Type} {enc : TypeId × Value → H} {W : World} {base : Nat}
theorem cellsCop : Tryd.prog.cellsOf 50 = 22 := by kernel_rfl
/-- The cells of a call. -/
theorem open_copF {cs : List Value} {fuel bs : Nat} {sp : Nat → Bool} {hd : Bool} {x : DataW H × List MemPlace} (hlen : cs.length = 22) (h : DataW.trod enc Tryd.prog W bs sp hd fuel 50 cs = some x) : ∃ y : Cop, cs.toArray = y.cells ∧ y.Fit := by
  obtain ⟨y0, y1, y2, k, _, _, g0, g1, g2⟩ := trod_struct3 Tryd.underlying50 h
  simp only [cellsAct, cellsInt, cellsCk] at g0 g1 g2
  obtain ⟨i0, e0, _, wf0⟩ := DataW.trod_int Tryd.underlying3 g0
  obtain ⟨ck, e1, hck⟩ := open_cells8 g1
  obtain ⟨a, e2, ha⟩ := open_actF (by simp [hlen]) g2
  match cs, hlen with
  | [x0, x1, x2, x3, x4, x5, x6, x7, x8, x9, x10, x11, x12, x13, x14, x15, x16, x17, x18, x19, x20, x21], _ =>
    refine ⟨(i0, ck, a), ?_, bounds_i64 wf0, hck, ha⟩
    simp at e0 e1 e2
    subst e0
    show _ = ocv i0 ck a
    unfold ocv
    rw [← e2]
    simp [cv, ← e1]

/-- Calls that came in. -/
theorem open_copsF {v : Value} {d : DataW H} {p : List MemPlace} (hval : Value.okWide Tryd.prog W .any base 22 v) (h : DataW.Trod enc Tryd.prog W 0 (fun _ => true) true 22 v d p) :
    ∃ l : List Cop, SlO W v l ∧ ∀ x ∈ l, x.Fit := by
  obtain ⟨a1, len, cap, rfl⟩ := okWide_slice Tryd.underlying22 hval
  obtain ⟨fuel, hf⟩ := h
  rcases open_slice Tryd.underlying22 hf with ⟨hcs, hx⟩ | ⟨a, len', cap', m, n, D, Pl, hcs, _, hl, hm, hmm, hx, hcell⟩
  · simp [Value.cells] at hcs
    obtain ⟨rfl, rfl, rfl⟩ := hcs
    exact ⟨[], .inl ⟨rfl, _, _, rfl⟩, (fun x h => by cases h)⟩
  · simp [Value.cells] at hcs
    obtain ⟨rfl, rfl, rfl⟩ := hcs
    simp only [if_true] at hmm
    subst hmm
    have each : ∀ i, i < len → ∃ x : Cop, x.Fit ∧ ∀ j v, x.cells[j]? = some v → W.cell? (a.add (i * 22 + j)) = some v := by
      intro i hi
      obtain ⟨cs', h1, h2⟩ := hcell i (by omega)
      rw [cellsCop] at h1
      obtain ⟨_, hlen, hc⟩ := World.cells?_some h1
      obtain ⟨x, ex, hx⟩ := open_copF hlen h2
      refine ⟨x, hx, fun j v hv => ?_⟩
      rw [← ex] at hv
      have hj : j < 22 := by
        have := (Array.getElem?_eq_some_iff.1 hv).1
        simpa [hlen] using this
      have := hc j hj
      rw [add_add] at this
      rw [this]
      simpa using hv
    obtain ⟨f, hf⟩ := choose_lt (α := Cop) each
    have hfull : ∀ x ∈ (List.range len).map f, x.Fit := fun x hx => by
      obtain ⟨i, hi, rfl⟩ := List.mem_map.1 hx
      exact (hf i (List.mem_range.1 hi)).1
    refine ⟨(List.range len).map f, ?_, hfull⟩
    by_cases h0 : len = 0
    · subst h0
      exact .inl ⟨by simp, _, _, rfl⟩
    · obtain ⟨ab, ao, spot⟩ := a
      have c0 := (hf 0 (by omega)).2 0 _ (ocv_do _ _ _)
      have hspot : spot = none := by simpa [Addr.add] using World.cell?_spot c0
      subst hspot
      have hblk : ab < W.heap.size := by
        have := World.block_lt_of_cell? _ _ c0
        simpa [Addr.add] using this
      refine .inr ⟨ab, ao, _, by rw [List.length_map, List.length_range], fun i x hi => ?_⟩
      have hil : i < len := by have := (List.getElem?_eq_some_iff.1 hi).1; simpa using this
      have hx : f i = x := by
        simp only [List.getElem?_map, List.getElem?_range hil, Option.map_some, Option.some.injEq] at hi
        exact hi
      have := hf i hil
      rw [hx] at this
      refine ⟨hblk, fun j v hv => ?_⟩
      have h3 := this.2 j v hv
      rw [Addr.add_lit] at h3
      rw [Nat.add_assoc]; exact h3
end
end Go.Proofs.YtlgdaaofpjpobaaDoor
