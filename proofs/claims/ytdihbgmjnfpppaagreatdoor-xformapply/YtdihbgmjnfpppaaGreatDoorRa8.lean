
/-
  Elements, operations and IDs that came in.
-/
import Derived.Test.YtdihbgmjnfpppaaGreatDoorRa7
import Derived.Test.YtdihbgmjnfpppaaGreatDoorMbo
import Derived.Test.YtdihbgmjnfpppaaGreatDoorXop
namespace Go.Proofs.YtdihbgmjnfpppaaGreatDoor
open Go.ChangeShapes Go.WideShapes Go.ChangeAt Go.RowKit Go.Deep
set_option maxRecDepth 100000

instance : Inhabited Idn := ⟨⟨0, 0, 0⟩⟩
theorem cellsJ : Tryz.prog.cellsOf 32 = 3 := by kernel_rfl
section
variable {H : Type} {enc : TypeId × Value → H} {W : World} {base : Nat}
/-- The cells of an ID, with its bounds. -/
theorem open_idx {cs : List Value} {fuel bs : Nat} {sp : Nat → Bool} {hd : Bool} {x : DataW H × List MemPlace} (hlen : cs.length = 3) (h : DataW.trod enc Tryz.prog W bs sp hd fuel 32 cs = some x) : ∃ a : Idn, cs.toArray = idc a.a a.b a.c ∧ a.In := by
  obtain ⟨z0, z1, z2, k', _, _, f0, f1, f2⟩ := trod_struct3 Tryz.underlying32 h
  simp only [cellsInt] at f0 f1 f2
  obtain ⟨i0, e0, _, w0⟩ := DataW.trod_int Tryz.underlying3 f0
  obtain ⟨i1, e1, _, w1⟩ := DataW.trod_int Tryz.underlying3 f1
  obtain ⟨i2, e2, _, w2⟩ := DataW.trod_int Tryz.underlying3 f2
  match cs, hlen with
  | [x0, x1, x2], _ =>
    refine ⟨⟨i0, i1, i2⟩, ?_, ⟨wf_64 w0, wf_64 w1, wf_64 w2⟩⟩
    simp at e0 e1 e2
    subst e0 e1 e2
    rfl
/-- A row of IDs that came in. -/
theorem open_idsJ {v : Value} {d : DataW H} {p : List MemPlace} (hval : Value.okWide Tryz.prog W .any base 24 v) (h : DataW.Trod enc Tryz.prog W 0 (fun _ => true) true 24 v d p) :
    ∃ l : List Idn, SlJ W v l ∧ (∀ x ∈ l, x.In) ∧ ∀ a n c, v = .slice a n c → n ≤ c := by
  obtain ⟨a1, len1, cap1, rfl⟩ := okWide_slice Tryz.underlying24 hval
  obtain ⟨fuel, hf⟩ := h
  rcases open_slice Tryz.underlying24 hf with ⟨hcs, hx⟩ | ⟨a, len, cap, m, n, D, Pl, hcs, _, hl, hm, hmm, hx, hcell⟩
  · simp [Value.cells] at hcs
    obtain ⟨rfl, rfl, rfl⟩ := hcs
    exact ⟨[], .inl ⟨rfl, _, _, rfl⟩, fun o ho => by simp at ho, fun a n c e => by cases e; omega⟩
  · simp [Value.cells] at hcs
    obtain ⟨rfl, rfl, rfl⟩ := hcs
    simp only [if_true] at hmm
    subst hmm
    have each : ∀ i, i < len1 → ∃ x : Idn, (∀ j v, (idc x.a x.b x.c)[j]? = some v → W.cell? (a.add (i * 3 + j)) = some v) ∧ x.In := by
      intro i hi
      obtain ⟨cs', h1, h2⟩ := hcell i (by omega)
      rw [cellsJ] at h1
      obtain ⟨_, hlen, hc⟩ := World.cells?_some h1
      obtain ⟨x, ex, hin⟩ := open_idx hlen h2
      refine ⟨x, fun j v hv => ?_, hin⟩
      rw [← ex] at hv
      have hj : j < 3 := by
        have := (Array.getElem?_eq_some_iff.1 hv).1
        simpa [hlen] using this
      have := hc j hj
      rw [add_add] at this
      rw [this]
      simpa using hv
    obtain ⟨f, hf⟩ := choose_lt (α := Idn) each
    refine ⟨(List.range len1).map f, ?_, fun o ho => ?_, fun a n c e => by cases e; exact hl⟩
    · by_cases h0 : len1 = 0
      · subst h0
        exact .inl ⟨by simp, _, _, rfl⟩
      · obtain ⟨ab, ao, spot⟩ := a
        have c0 := (hf 0 (by omega)).1 0 _ (show (idc (f 0).a (f 0).b (f 0).c)[0]? = some (.int .i64 (f 0).a) from rfl)
        have hspot : spot = none := by simpa [Addr.add] using World.cell?_spot c0
        subst hspot
        have hblk : ab < W.heap.size := by
          have := World.block_lt_of_cell? _ _ c0
          simpa [Addr.add] using this
        refine .inr ⟨ab, ao, _, by rw [List.length_map, List.length_range], fun i x hx => ⟨hblk, fun j v hv => ?_⟩⟩
        have hi : i < len1 := by
          have := (List.getElem?_eq_some_iff.1 hx).1
          simpa using this
        have hfx : f i = x := by
          rw [List.getElem?_map, List.getElem?_range hi] at hx
          simpa using hx
        have := (hf i hi).1 j v (by rw [hfx]; exact hv)
        rw [Addr.add_lit] at this
        rw [Nat.add_assoc]; exact this
    · obtain ⟨i, hi, rfl⟩ := List.mem_map.1 ho
      exact (hf i (List.mem_range.1 hi)).2
end
end Go.Proofs.YtdihbgmjnfpppaaGreatDoor
