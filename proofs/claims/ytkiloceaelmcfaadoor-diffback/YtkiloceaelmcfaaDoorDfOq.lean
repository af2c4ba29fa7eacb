
/-
  Some texts and edits that came in, the edits too.
-/
import Derived.Test.YtkiloceaelmcfaaDoorRows
import Derived.Test.YtkiloceaelmcfaaDoorEd2
import Derived.Test.YtkiloceaelmcfaaDoorDfOp
import Derived.ProofKit
import Derived.Deep.Slices
import Derived.Deep.Strs
import Derived.Lib.SmallJoins
import Derived.OpenShut
import Derived.Carry
namespace Go.Proofs.YtkiloceaelmcfaaDoor
open Go.ChangeShapes Go.WideShapes Go.ChangeAt Go.RowKit Go.Deep
set_option maxRecDepth 100000

instance : Inhabited Edt := ⟨⟨0, 0, .empty⟩⟩
theorem cellsIntD : Tryd.prog.cellsOf 3 = 1 := by kernel_rfl
theorem cellsEd : Tryd.prog.cellsOf 51 = 3 := by kernel_rfl
section
variable {H : Type} {enc : TypeId × Value → H} {W : World} {base : Nat}
/-- The cells of an edit. -/
theorem open_ed {cs : List Value} {fuel bs : Nat} {sp : Nat → Bool} {hd : Bool} {x : DataW H × List MemPlace} (hlen : cs.length = 3) (h : DataW.trod enc Tryd.prog W bs sp hd fuel 51 cs = some x) : ∃ a : Edt, cs.toArray = edv a ∧ a.ins.size ≤ maxLen := by
  obtain ⟨z0, z1, z2, k', _, _, f0, f1, f2⟩ := trod_struct3 Tryd.underlying51 h
  simp only [cellsIntD, cellsSt] at f0 f1 f2
  obtain ⟨i0, e0, _, _⟩ := DataW.trod_int Tryd.underlying3 f0
  obtain ⟨i1, e1, _, _⟩ := DataW.trod_int Tryd.underlying3 f1
  obtain ⟨i2, e2, _, wf2⟩ := DataW.trod_string Tryd.underlying9 f2
  match cs, hlen with
  | [x0, x1, x2], _ =>
    refine ⟨⟨i0, i1, i2⟩, ?_, wf2⟩
    simp at e0 e1 e2
    subst e0 e1 e2
    rfl
theorem open_eds {cs : List Value} {fuel bs : Nat} {hd : Bool} {x : DataW H × List MemPlace} (hf : DataW.trod enc Tryd.prog W bs (fun _ => true) hd fuel 22 cs = some x) :
    ∃ (v : Value) (l : List Edt), cs = [v] ∧ SlT W v l ∧ ∀ e ∈ l, e.ins.size ≤ maxLen := by
  rcases open_slice Tryd.underlying22 hf with ⟨hcs, hx⟩ | ⟨a, len1, cap, m, n, D, Pl, hcs, _, hl, hm, hmm, hx, hcell⟩
  · exact ⟨_, [], hcs, .inl ⟨rfl, _, _, rfl⟩, fun e he => by simp at he⟩
  · simp only [if_true] at hmm
    subst hmm
    have each : ∀ i, i < len1 → ∃ x : Edt, x.ins.size ≤ maxLen ∧ ∀ j v, (edv x)[j]? = some v → W.cell? (a.add (i * 3 + j)) = some v := by
      intro i hi
      obtain ⟨cs', h1, h2⟩ := hcell i (by omega)
      rw [cellsEd] at h1
      obtain ⟨_, hlen, hc⟩ := World.cells?_some h1
      obtain ⟨x, ex, wx⟩ := open_ed hlen h2
      refine ⟨x, wx, fun j v hv => ?_⟩
      rw [← ex] at hv
      have hj : j < 3 := by
        have := (Array.getElem?_eq_some_iff.1 hv).1
        simpa [hlen] using this
      have := hc j hj
      rw [add_add] at this
      rw [this]
      simpa using hv
    obtain ⟨f, hf⟩ := choose_lt (α := Edt) each
    refine ⟨_, (List.range len1).map f, hcs, ?_, fun e he => ?_⟩
    · by_cases h0 : len1 = 0
      · subst h0
        exact .inl ⟨by simp, _, _, rfl⟩
      · obtain ⟨ab, ao, spot⟩ := a
        have c0 := (hf 0 (by omega)).2 0 _ (show (edv (f 0))[0]? = some (.int .i64 (f 0).at') from rfl)
        have hspot : spot = none := by simpa [Addr.add] using World.cell?_spot c0
        subst hspot
        have hblk : ab < W.heap.size := by
          have := World.block_lt_of_cell? _ _ c0
          simpa [Addr.add] using this
        refine .inr ⟨ab, ao, _, by rw [List.length_map, List.length_range], fun i x hx => ⟨hblk, fun j v hv => ?_⟩⟩
        have hi : i < len1 := by
          have := (List.getElem?_eq_some_iff.1 hx).1
          simpa using this
        have hfx : f i = x := by
          rw [List.getElem?_map, List.getElem?_range hi] at hx
          simpa using hx
        subst hfx
        have := (hf i hi).2 j v hv
        rw [Addr.add_lit, ← Nat.add_assoc] at this
        exact this
    · obtain ⟨i, hi, rfl⟩ := List.mem_map.1 he
      exact (hf i (List.mem_range.1 hi)).1
theorem open_txl {v : Value} {d : DataW H} {p : List MemPlace} (hval : Value.okWide Tryd.prog W .any base 24 v) (h : DataW.Trod enc Tryd.prog W 0 (fun _ => true) true 24 v d p) :
    ∃ (a b c : ByteArray) (lv : Value) (l : List Edt), v = .agg #[.string a, .string b, .string c, lv] ∧ a.size ≤ maxLen ∧ SlT W lv l ∧ ∀ e ∈ l, e.ins.size ≤ maxLen := by
  obtain ⟨cs, rfl, hsz⟩ := okWide_struct Tryd.underlying24 hval
  obtain ⟨fuel, hf⟩ := h
  obtain ⟨y0, y1, y2, y3, k, _, hl, g0, g1, g2, g3⟩ := Go.Joins.trod_struct4 Tryd.underlying24 hf
  rw [cellsTx] at hl
  have hcs : (Value.agg cs).cells.toList = cs.toList := rfl
  rw [hcs] at hl g0 g1 g2 g3
  obtain ⟨cs⟩ := cs
  clear hsz hval hcs hf
  match cs, hl with
  | [x0, x1, x2, x3], _ =>
    simp only [cellsSt, cellsEs] at g0 g1 g2 g3
    obtain ⟨k0, e0, _, wf0⟩ := DataW.trod_string Tryd.underlying9 g0
    obtain ⟨k1, e1, _, _⟩ := DataW.trod_string Tryd.underlying9 g1
    obtain ⟨k2, e2, _, _⟩ := DataW.trod_string Tryd.underlying9 g2
    obtain ⟨lv, l, e3, hs, hz⟩ := open_eds g3
    simp at e0 e1 e2 e3
    subst e0 e1 e2 e3
    exact ⟨k0, k1, k2, x3, l, rfl, wf0, hs, hz⟩
end
end Go.Proofs.YtkiloceaelmcfaaDoor
