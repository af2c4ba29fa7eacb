
/-
  Parcels and a call that came in: from the argument as the form reads it to what the walks use.
-/
import Derived.Test.YtbjbihgfkcnmbaaDoorBgOp
import Derived.Test.YtbjbihgfkcnmbaaDoorBg10
import Derived.SizedLaws
namespace Go.Proofs.YtbjbihgfkcnmbaaDoor
open Go.ChangeShapes Go.WideShapes Go.ChangeAt Go.RowKit Go.Deep
set_option maxRecDepth 100000

instance : Inhabited (Pc × Pl) := ⟨⟨⟨0, 0, 0, .slice none 0 0⟩, ⟨0, 0, 0, []⟩⟩⟩
theorem cellsPcB : Tryd.prog.cellsOf 56 = 4 := by kernel_rfl
theorem bytesB : Tryd.prog.bytesOf 5 = 1 := by kernel_rfl
section
variable {H : Type} {enc : TypeId × Value → H} {W : World} {base : Nat}
theorem mem_weightsAll {P : Program} {e : TypeId} : ∀ {l : List (DataW H)} {d : DataW H}, d ∈ l → ∀ n ∈ d.weights P e, n ∈ DataW.weightsAll P e l
  | a :: l, d, hd, n, hn => by
    simp only [DataW.weightsAll, List.mem_append]
    rcases List.mem_cons.1 hd with rfl | h
    · exact .inl hn
    · exact .inr (mem_weightsAll h n hn)
/-- Bytes that came in, by their one cell, within the reach. -/
theorem open_bsW {cs : List Value} {fuel : Nat} {x : DataW H × List MemPlace} (hf : DataW.trod enc Tryd.prog W 0 (fun _ => true) true fuel 41 cs = some x) (hz : ∀ n ∈ x.1.weights Tryd.prog 41, n ≤ 140737488351232) :
    ∃ v, ∃ bs : List UInt8, cs = [v] ∧ SlB W v bs ∧ bs.length ≤ 140737488351232 := by
  obtain ⟨v, bs, hcs, hs, _⟩ := open_bsC hf
  refine ⟨v, bs, hcs, hs, ?_⟩
  obtain ⟨a0, c0, hv⟩ := hs.form
  rcases open_ints Tryd.underlying41 Tryd.underlying5 cellsB hf with ⟨hcs', hx⟩ | ⟨a, len, cap, zs, hcs', _, hl, hm, hz', hx, hcell, hwz⟩
  · rw [hcs, hv] at hcs'
    have := (Value.slice.inj (List.cons.inj hcs').1).2.1
    omega
  · rw [hcs, hv] at hcs'
    have hbl := (Value.slice.inj (List.cons.inj hcs').1).2.1
    simp only [if_true] at hz'
    have h1 := hz ((len + (zs.drop len).length) * Tryd.prog.bytesOf 5) (by
      rw [hx]
      simp only [DataW.weights, Tryd.underlying41]
      refine List.mem_cons.2 (.inl ?_)
      congr 1
      simp [lits]
      omega)
    rw [bytesB, Nat.mul_one] at h1
    omega
/-- Parcels that came in. -/
theorem open_psB {v : Value} {d : DataW H} {p : List MemPlace} (hval : Value.okWide Tryd.prog W .any base 45 v) (h : DataW.Trod enc Tryd.prog W 0 (fun _ => true) true 45 v d p) (hz : ∀ n ∈ d.weights Tryd.prog 45, n ≤ 140737488351232) :
    ∃ l : List Pl, SlQ W v l ∧ ∀ a n c, v = .slice a n c → n ≤ c := by
  obtain ⟨a1, len, cap, rfl⟩ := okWide_slice Tryd.underlying45 hval
  obtain ⟨fuel, hf⟩ := h
  rcases open_slice Tryd.underlying45 hf with ⟨hcs, hx⟩ | ⟨a, len', cap', m, n, D, Pl_, hcs, _, hl, hm, hmm, hx, hcell⟩
  · simp [Value.cells] at hcs
    obtain ⟨rfl, rfl, rfl⟩ := hcs
    exact ⟨[], .inl ⟨rfl, _, _, rfl⟩, fun a n c e => by cases e; omega⟩
  · simp [Value.cells] at hcs
    obtain ⟨rfl, rfl, rfl⟩ := hcs
    simp only [if_true] at hmm
    subst hmm
    have hd : d = .slice ((List.range len).map D) ((List.range (m - len)).map fun j => D (len + j)) := by
      have := congrArg Prod.fst hx
      exact this
    have each : ∀ i, i < len → ∃ x : Pc × Pl, PcR x.1 x.2 W ∧ x.2.bs.length ≤ 140737488351232 ∧ ∀ j v, (pcv x.1)[j]? = some v → W.cell? (a.add (i * 4 + j)) = some v := by
      intro i hi
      obtain ⟨cs', h1, h2⟩ := hcell i (by omega)
      rw [cellsPcB] at h1
      obtain ⟨_, hlen, hc⟩ := World.cells?_some h1
      obtain ⟨y0, y1, y2, y3, k, hD, _, g0, g1, g2, g3⟩ := Go.Joins.trod_struct4 Tryd.underlying56 h2
      have hw3 : ∀ n ∈ y3.1.weights Tryd.prog 41, n ≤ 140737488351232 := fun n hn => by
        refine hz n ?_
        rw [hd]
        simp only [DataW.weights, Tryd.underlying45]
        refine List.mem_cons.2 (.inr (List.mem_append_left _ (mem_weightsAll (d := D i) (List.mem_map.2 ⟨i, List.mem_range.2 hi, rfl⟩) n ?_)))
        have hDi : D i = .agg [y0.1, y1.1, y2.1, y3.1] := congrArg Prod.fst hD
        rw [hDi]
        simp only [DataW.weights, Tryd.underlying56]
        exact DataW.weights_mem_each (j := 3) (t := 41) rfl rfl n hn
      match cs', hlen with
      | [x0, x1, x2, x3], _ =>
        simp only [cellsIntB, cellsBsB] at g0 g1 g2 g3
        obtain ⟨k0, e0, _, wf0⟩ := DataW.trod_int Tryd.underlying3 g0
        obtain ⟨k1, e1, _, wf1⟩ := DataW.trod_int Tryd.underlying3 g1
        obtain ⟨k2, e2, _, wf2⟩ := DataW.trod_int Tryd.underlying3 g2
        obtain ⟨k3, l3, e3, s3, c3⟩ := open_bsW g3 hw3
        simp at e0 e1 e2 e3
        subst e0 e1 e2 e3
        refine ⟨(⟨k0, k1, k2, x3⟩, ⟨k0, k1, k2, l3⟩), ⟨rfl, rfl, rfl, s3⟩, c3, fun j v hv => ?_⟩
        have hj : j < 4 := by
          have := (Array.getElem?_eq_some_iff.1 hv).1
          simpa [pcv] using this
        have := hc j hj
        rw [add_add] at this
        rw [this]
        simpa [pcv] using hv
    obtain ⟨f, hf⟩ := choose_lt (α := Pc × Pl) each
    refine ⟨(List.range len).map fun i => (f i).2, ?_, fun a n c e => by cases e; omega⟩
    by_cases h0 : len = 0
    · subst h0
      exact .inl ⟨by simp, _, _, rfl⟩
    · obtain ⟨ab, ao, spot⟩ := a
      have c0 := (hf 0 (by omega)).2.2 0 _ (show (pcv (f 0).1)[0]? = some (.int .i64 (f 0).1.s) from rfl)
      have hspot : spot = none := by simpa [Addr.add] using World.cell?_spot c0
      subst hspot
      have hblk : ab < W.heap.size := by
        have := World.block_lt_of_cell? _ _ c0
        simpa [Addr.add] using this
      refine .inr ⟨ab, ao, _, (List.range len).map fun i => (f i).1, by rw [List.length_map, List.length_range], by simp, fun i x y hi hy => ?_⟩
      have hil : i < len := by have := (List.getElem?_eq_some_iff.1 hi).1; simpa using this
      have hx : (f i).1 = x := by
        simp only [List.getElem?_map, List.getElem?_range hil, Option.map_some, Option.some.injEq] at hi
        exact hi
      have hy : (f i).2 = y := by
        simp only [List.getElem?_map, List.getElem?_range hil, Option.map_some, Option.some.injEq] at hy
        exact hy
      have := hf i hil
      rw [hx, hy] at this
      refine ⟨this.1, this.2.1, hblk, fun j v hv => ?_⟩
      have h3 := this.2.2 j v hv
      rw [Addr.add_lit] at h3
      rw [Nat.add_assoc]; exact h3
/-- A call that came in. -/
theorem open_obV {v : Value} {d : DataW H} {p : List MemPlace} (hval : Value.okWide Tryd.prog W .any base 43 v) (h : DataW.Trod enc Tryd.prog W 0 (fun _ => true) true 43 v d p) :
    ∃ x : Opb, v = .agg (ocb x) ∧ x.Ok W := by
  obtain ⟨cs, rfl, hsz⟩ := okWide_struct Tryd.underlying43 hval
  obtain ⟨fuel, hf⟩ := h
  obtain ⟨y0, y1, y2, y3, k, _, hl, g0, g1, g2, g3⟩ := Go.Joins.trod_struct4 Tryd.underlying43 hf
  rw [cellsObB] at hl
  have hcs : (Value.agg cs).cells.toList = cs.toList := rfl
  rw [hcs] at hl g0 g1 g2 g3
  obtain ⟨cs⟩ := cs
  clear hsz hval hcs hf
  match cs, hl with
  | [x0, x1, x2, x3], _ =>
    simp only [cellsIntB, cellsBsB] at g0 g1 g2 g3
    obtain ⟨k0, e0, _, wf0⟩ := DataW.trod_int Tryd.underlying3 g0
    obtain ⟨k1, e1, _, wf1⟩ := DataW.trod_int Tryd.underlying3 g1
    obtain ⟨k2, e2, _, wf2⟩ := DataW.trod_int Tryd.underlying3 g2
    obtain ⟨k3, l3, e3, s3, c3⟩ := open_bsC g3
    simp at e0 e1 e2 e3
    subst e0 e1 e2 e3
    exact ⟨⟨k0, k1, k2, x3, l3⟩, rfl, wf_i64 wf0, wf_i64 wf1, wf_i64 wf2, s3, c3⟩
end
end Go.Proofs.YtbjbihgfkcnmbaaDoor
