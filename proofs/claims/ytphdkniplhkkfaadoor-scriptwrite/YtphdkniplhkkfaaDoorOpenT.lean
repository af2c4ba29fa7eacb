
/-
  Steps that came in.
-/
import Derived.Test.YtphdkniplhkkfaaDoorRows
import Derived.Test.YtphdkniplhkkfaaDoorSq7
import Derived.ProofKit
import Derived.Deep.Slices
import Derived.Deep.Strs
import Derived.Lib.SmallJoins
import Derived.OpenShut
import Derived.Carry
namespace Go.Proofs.YtphdkniplhkkfaaDoor
open Go.ChangeShapes Go.WideShapes Go.ChangeAt Go.RowKit Go.Deep
set_option maxRecDepth 100000

instance : Inhabited Stp := ⟨⟨0, 0, 0, 0, .empty⟩⟩
theorem cellsSt : Tryd.prog.cellsOf 9 = 1 := by kernel_rfl
theorem cellsIntD : Tryd.prog.cellsOf 3 = 1 := by kernel_rfl
theorem cellsEd : Tryd.prog.cellsOf 30 = 5 := by kernel_rfl
section
variable {H : Type} {enc : TypeId × Value → H} {W : World} {base : Nat}
theorem trod5 {P : Program} {t : TypeId} {f0 f1 f2 f3 f4 : Field} {fuel bs : Nat} {sp : Nat → Bool} {hd : Bool} {cs : List Value} {x : DataW H × List MemPlace} (ht : P.underlying t = some (.struct #[f0, f1, f2, f3, f4])) (h : DataW.trod enc P W bs sp hd fuel t cs = some x) :
    ∃ y0 y1 y2 y3 y4 n, DataW.trod enc P W bs sp hd n f0.type ((cs.drop f0.offset).take (P.cellsOf f0.type)) = some y0 ∧
      DataW.trod enc P W bs sp hd n f1.type ((cs.drop f1.offset).take (P.cellsOf f1.type)) = some y1 ∧ DataW.trod enc P W bs sp hd n f2.type ((cs.drop f2.offset).take (P.cellsOf f2.type)) = some y2 ∧
      DataW.trod enc P W bs sp hd n f3.type ((cs.drop f3.offset).take (P.cellsOf f3.type)) = some y3 ∧ DataW.trod enc P W bs sp hd n f4.type ((cs.drop f4.offset).take (P.cellsOf f4.type)) = some y4 := by
  obtain ⟨xs, n, _, rfl, hl, hlen, hf⟩ := DataW.trod_struct ht h
  match xs, hlen with
  | [y0, y1, y2, y3, y4], _ => exact ⟨y0, y1, y2, y3, y4, n, by simpa using hf 0 f0 rfl, by simpa using hf 1 f1 rfl, by simpa using hf 2 f2 rfl, by simpa using hf 3 f3 rfl, by simpa using hf 4 f4 rfl⟩
/-- The cells of a step. -/
theorem open_ed {cs : List Value} {fuel bs : Nat} {sp : Nat → Bool} {hd : Bool} {x : DataW H × List MemPlace} (hlen : cs.length = 5) (h : DataW.trod enc Tryd.prog W bs sp hd fuel 30 cs = some x) : ∃ a : Stp, cs.toArray = stE a ∧ a.t.size ≤ maxLen := by
  obtain ⟨z0, z1, z2, z3, z4, k', f0, f1, f2, f3, f4⟩ := trod5 Tryd.underlying30 h
  simp only [cellsIntD, cellsSt] at f0 f1 f2 f3 f4
  obtain ⟨i0, e0, _, _⟩ := DataW.trod_int Tryd.underlying3 f0
  obtain ⟨i1, e1, _, _⟩ := DataW.trod_int Tryd.underlying3 f1
  obtain ⟨i2, e2, _, _⟩ := DataW.trod_int Tryd.underlying3 f2
  obtain ⟨i3, e3, _, _⟩ := DataW.trod_int Tryd.underlying3 f3
  obtain ⟨i4, e4, _, wf4⟩ := DataW.trod_string Tryd.underlying9 f4
  match cs, hlen with
  | [x0, x1, x2, x3, x4], _ =>
    refine ⟨⟨i0, i1, i2, i3, i4⟩, ?_, wf4⟩
    simp at e0 e1 e2 e3 e4
    subst e0 e1 e2 e3 e4
    rfl
theorem open_eds {cs : List Value} {fuel bs : Nat} {hd : Bool} {x : DataW H × List MemPlace} (hf : DataW.trod enc Tryd.prog W bs (fun _ => true) hd fuel 22 cs = some x) :
    ∃ (v : Value) (l : List Stp), cs = [v] ∧ SlT W v l ∧ ∀ e ∈ l, e.t.size ≤ maxLen := by
  rcases open_slice Tryd.underlying22 hf with ⟨hcs, hx⟩ | ⟨a, len1, cap, m, n, D, Pl, hcs, _, hl, hm, hmm, hx, hcell⟩
  · exact ⟨_, [], hcs, .inl ⟨rfl, _, _, rfl⟩, fun e he => by simp at he⟩
  · simp only [if_true] at hmm
    subst hmm
    have each : ∀ i, i < len1 → ∃ x : Stp, x.t.size ≤ maxLen ∧ ∀ j v, (stE x)[j]? = some v → W.cell? (a.add (i * 5 + j)) = some v := by
      intro i hi
      obtain ⟨cs', h1, h2⟩ := hcell i (by omega)
      rw [cellsEd] at h1
      obtain ⟨_, hlen, hc⟩ := World.cells?_some h1
      obtain ⟨x, ex, wx⟩ := open_ed hlen h2
      refine ⟨x, wx, fun j v hv => ?_⟩
      rw [← ex] at hv
      have hj : j < 5 := by
        have := (Array.getElem?_eq_some_iff.1 hv).1
        simpa [hlen] using this
      have := hc j hj
      rw [add_add] at this
      rw [this]
      simpa using hv
    obtain ⟨f, hf⟩ := choose_lt (α := Stp) each
    refine ⟨_, (List.range len1).map f, hcs, ?_, fun e he => ?_⟩
    · by_cases h0 : len1 = 0
      · subst h0
        exact .inl ⟨by simp, _, _, rfl⟩
      · obtain ⟨ab, ao, spot⟩ := a
        have c0 := (hf 0 (by omega)).2 0 _ (show (stE (f 0))[0]? = some (.int .i64 (f 0).k) from rfl)
        have hspot : spot = none := by simpa [Addr.add] using World.cell?_spot c0
        subst hspot
        have hblk : ab < W.heap.size := by
          have := World.block_lt_of_cell? _ _ c0
          simpa [Addr.add] using this
        refine .inr ⟨ab, ao, _, by rw [List.length_map, List.length_range], fun i x hx => ⟨hblk, fun j v hv => ?_⟩⟩
        have hi : i < len1 := by
          have := (List.getElem?_eq_some_iff.1 hx).1
          simpa using this
        have hfx : f i = x := by
          rw [List.getElem?_map, List.getElem?_range hi] at hx
          simpa using hx
        subst hfx
        have := (hf i hi).2 j v hv
        rw [Addr.add_lit, ← Nat.add_assoc] at this
        exact this
    · obtain ⟨i, hi, rfl⟩ := List.mem_map.1 he
      exact (hf i (List.mem_range.1 hi)).1
theorem open_steps {v : Value} {d : DataW H} {p : List MemPlace} (hval : Value.okWide Tryd.prog W .any base 22 v) (h : DataW.Trod enc Tryd.prog W 0 (fun _ => true) true 22 v d p) :
    ∃ l : List Stp, SlT W v l ∧ ∀ e ∈ l, e.t.size ≤ maxLen := by
  obtain ⟨a1, len, cap, rfl⟩ := okWide_slice Tryd.underlying22 hval
  obtain ⟨fuel, hf⟩ := h
  obtain ⟨v', l, hcs, hl, hz⟩ := open_eds hf
  simp [Value.cells] at hcs
  subst hcs
  exact ⟨l, hl, hz⟩
end
end Go.Proofs.YtphdkniplhkkfaaDoor
