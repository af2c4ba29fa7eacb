
/-
  Items that came in, with the reach of their texts.
-/
import Derived.Test.YthabeapgkaggmaaDoorOpenI
import Derived.SizedLaws
namespace Go.Proofs.YthabeapgkaggmaaDoor
open Go.ChangeShapes Go.WideShapes Go.ChangeAt Go.RowKit Go.Deep
set_option maxRecDepth 100000

section
variable {H : Type} {enc : TypeId × Value → H} {W : World} {base : Nat}
theorem mem_weightsAll {P : Program} {e : TypeId} : ∀ {l : List (DataW H)} {d : DataW H}, d ∈ l → ∀ n ∈ d.weights P e, n ∈ DataW.weightsAll P e l
  | a :: l, d, hd, n, hn => by
    simp only [DataW.weightsAll, List.mem_append]
    rcases List.mem_cons.1 hd with rfl | h
    · exact .inl hn
    · exact .inr (mem_weightsAll h n hn)
/-- Items that came in, their texts within the reach. -/
theorem open_itemsW {v : Value} {d : DataW H} {p : List MemPlace} (hval : Value.okWide Tryd.prog W .any base 22 v) (h : DataW.Trod enc Tryd.prog W 0 (fun _ => true) true 22 v d p) (hz : ∀ n ∈ d.weights Tryd.prog 22, n ≤ 140737488351232) :
    ∃ l : List Itm, SlI W v l ∧ ∀ x ∈ l, x.s.size ≤ 140737488351232 := by
  obtain ⟨a1, len, cap, rfl⟩ := okWide_slice Tryd.underlying22 hval
  obtain ⟨fuel, hf⟩ := h
  rcases open_slice Tryd.underlying22 hf with ⟨hcs, hx⟩ | ⟨a, len', cap', m, n, D, Pl, hcs, _, hl, hm, hmm, hx, hcell⟩
  · simp [Value.cells] at hcs
    obtain ⟨rfl, rfl, rfl⟩ := hcs
    exact ⟨[], .inl ⟨rfl, _, _, rfl⟩, fun x h => by cases h⟩
  · simp [Value.cells] at hcs
    obtain ⟨rfl, rfl, rfl⟩ := hcs
    simp only [if_true] at hmm
    subst hmm
    have hd : d = .slice ((List.range len).map D) ((List.range (m - len)).map fun j => D (len + j)) := by
      have := congrArg Prod.fst hx
      exact this
    have each : ∀ i, i < len → ∃ x : Itm, (x.Fit ∧ x.s.size ≤ 140737488351232) ∧ W.cell? (a.add (i * 4)) = some (.int .i64 x.kind) ∧ W.cell? (a.add (i * 4 + 1)) = some (.int .i64 x.n) ∧ W.cell? (a.add (i * 4 + 2)) = some (.string x.s) ∧ W.cell? (a.add (i * 4 + 3)) = some (.int .u8 (x.b.toNat : Int)) := by
      intro i hi
      obtain ⟨cs', h1, h2⟩ := hcell i (by omega)
      rw [cellsIt] at h1
      obtain ⟨_, hlen, hc⟩ := World.cells?_some h1
      obtain ⟨y0, y1, y2, y3, k, hD, _, g0, g1, g2, g3⟩ := Go.Joins.trod_struct4 Tryd.underlying29 h2
      have hw2 : ∀ n ∈ y2.1.weights Tryd.prog 9, n ≤ 140737488351232 := fun n hn => by
        refine hz n ?_
        rw [hd]
        simp only [DataW.weights, Tryd.underlying22]
        refine List.mem_cons.2 (.inr (List.mem_append_left _ (mem_weightsAll (d := D i) (List.mem_map.2 ⟨i, List.mem_range.2 hi, rfl⟩) n ?_)))
        have hDi : D i = .agg [y0.1, y1.1, y2.1, y3.1] := congrArg Prod.fst hD
        rw [hDi]
        simp only [DataW.weights, Tryd.underlying29]
        exact DataW.weights_mem_each (j := 2) (t := 9) rfl rfl n hn
      match cs', hlen with
      | [x0, x1, x2, x3], _ =>
        simp only [cellsInt, cellsStr, cellsB] at g0 g1 g2 g3
        obtain ⟨k0, e0, _, wf0⟩ := DataW.trod_int Tryd.underlying3 g0
        obtain ⟨k1, e1, _, wf1⟩ := DataW.trod_int Tryd.underlying3 g1
        obtain ⟨k2, e2, ex2, wf2⟩ := DataW.trod_string Tryd.underlying9 g2
        have hs2 : k2.size ≤ 140737488351232 := by
          have := hw2 k2.data.toList.length (by rw [ex2]; simp [DataW.weights])
          rwa [Array.length_toList] at this
        obtain ⟨k3, e3, _, wf3⟩ := DataW.trod_int Tryd.underlying5 g3
        simp at e0 e1 e2 e3
        subst e0 e1 e2 e3
        have f0 := hc 0 (by omega)
        have f1 := hc 1 (by omega)
        have f2 := hc 2 (by omega)
        have f3 := hc 3 (by omega)
        rw [add_add] at f0 f1 f2 f3
        exact ⟨⟨k0, k1, k2, UInt8.ofNat k3.toNat⟩, ⟨⟨bounds_i64 wf0, bounds_i64 wf1, wf2⟩, hs2⟩, by simpa using f0, by simpa using f1, by simpa using f2, by rw [byte_of wf3]; simpa using f3⟩
    obtain ⟨f, hf⟩ := choose_lt (α := Itm) each
    refine ⟨(List.range len).map f, ?_, fun x hxm => by
      obtain ⟨i, hi, rfl⟩ := List.mem_map.1 hxm
      exact (hf i (List.mem_range.1 hi)).1.2⟩
    by_cases h0 : len = 0
    · subst h0
      exact .inl ⟨by simp, _, _, rfl⟩
    · obtain ⟨ab, ao, spot⟩ := a
      have hspot : spot = none := by simpa [Addr.add] using World.cell?_spot (hf 0 (by omega)).2.1
      subst hspot
      refine .inr ⟨ab, ao, _, by rw [List.length_map, List.length_range], ?_, fun i x hi => ?_⟩
      · have := World.block_lt_of_cell? _ _ (hf 0 (by omega)).2.1
        simpa [Addr.add] using this
      · have hil : i < len := by have := (List.getElem?_eq_some_iff.1 hi).1; simpa using this
        have hx : f i = x := by
          simp only [List.getElem?_map, List.getElem?_range hil, Option.map_some, Option.some.injEq] at hi
          exact hi
        have := hf i hil
        rw [hx] at this
        exact ⟨this.1.1, by simpa [ItAt, Addr.add_lit, Nat.add_assoc] using this.2⟩
end
end Go.Proofs.YthabeapgkaggmaaDoor
