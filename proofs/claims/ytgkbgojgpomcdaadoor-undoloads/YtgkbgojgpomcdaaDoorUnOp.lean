
/-
  Changes that came in.
-/
import Derived.Test.YtgkbgojgpomcdaaDoorRows
import Derived.Test.YtgkbgojgpomcdaaDoorUn0
import Derived.ProofKit
import Derived.Deep.Slices
import Derived.Deep.Strs
import Derived.OpenShut
import Derived.Carry
namespace Go.Proofs.YtgkbgojgpomcdaaDoor
open Go.ChangeShapes Go.WideShapes Go.ChangeAt Go.RowKit Go.Deep
set_option maxRecDepth 100000

instance : Inhabited Xg := ⟨⟨0, 0, 0, 0⟩⟩
theorem cellsInt : Tryd.prog.cellsOf 3 = 1 := by kernel_rfl
theorem cellsG : Tryd.prog.cellsOf 66 = 4 := by kernel_rfl
theorem cellsID : Tryd.prog.cellsOf 64 = 3 := by kernel_rfl
section
variable {H : Type} {enc : TypeId × Value → H} {W : World} {base : Nat}
/-- The cells of a change. -/
theorem open_g {cs : List Value} {fuel bs : Nat} {sp : Nat → Bool} {hd : Bool} {x : DataW H × List MemPlace} (hlen : cs.length = 4) (h : DataW.trod enc Tryd.prog W bs sp hd fuel 66 cs = some x) : ∃ a : Xg, cs.toArray = xgv a := by
  obtain ⟨y0, y1, k, _, _, g0, g1⟩ := trod_struct2 Tryd.underlying66 h
  simp only [cellsID, cellsInt] at g0 g1
  obtain ⟨z0, z1, z2, k', _, _, f0, f1, f2⟩ := trod_struct3 Tryd.underlying64 g1
  simp only [cellsInt] at f0 f1 f2
  obtain ⟨i3, e3, _, _⟩ := DataW.trod_int Tryd.underlying3 g0
  obtain ⟨i0, e0, _, _⟩ := DataW.trod_int Tryd.underlying3 f0
  obtain ⟨i1, e1, _, _⟩ := DataW.trod_int Tryd.underlying3 f1
  obtain ⟨i2, e2, _, _⟩ := DataW.trod_int Tryd.underlying3 f2
  match cs, hlen with
  | [x0, x1, x2, x3], _ =>
    refine ⟨⟨i3, i0, i1, i2⟩, ?_⟩
    simp at e0 e1 e2 e3
    subst e0 e1 e2 e3
    rfl
theorem open_gsT {a1 : Option Addr} {len1 cap1 fuel bs : Nat} {hd : Bool} {x : DataW H × List MemPlace} (hf : DataW.trod enc Tryd.prog W bs (fun _ => true) hd fuel 33 (Value.slice a1 len1 cap1).cells.toList = some x) :
    ∃ l : List Xg, SlD W (.slice a1 len1 cap1) l ∧ len1 ≤ cap1 := by
  rcases open_slice Tryd.underlying33 hf with ⟨hcs, hx⟩ | ⟨a, len, cap, m, n, D, Pl, hcs, _, hl, hm, hmm, hx, hcell⟩
  · simp [Value.cells] at hcs
    obtain ⟨rfl, rfl, rfl⟩ := hcs
    exact ⟨[], .inl ⟨rfl, _, _, rfl⟩, Nat.le_refl _⟩
  · simp [Value.cells] at hcs
    obtain ⟨rfl, rfl, rfl⟩ := hcs
    simp only [if_true] at hmm
    subst hmm
    have each : ∀ i, i < len1 → ∃ x : Xg, ∀ j v, (xgv x)[j]? = some v → W.cell? (a.add (i * 4 + j)) = some v := by
      intro i hi
      obtain ⟨cs', h1, h2⟩ := hcell i (by omega)
      rw [cellsG] at h1
      obtain ⟨_, hlen, hc⟩ := World.cells?_some h1
      obtain ⟨x, ex⟩ := open_g hlen h2
      refine ⟨x, fun j v hv => ?_⟩
      rw [← ex] at hv
      have hj : j < 4 := by
        have := (Array.getElem?_eq_some_iff.1 hv).1
        simpa [hlen] using this
      have := hc j hj
      rw [add_add] at this
      rw [this]
      simpa using hv
    obtain ⟨f, hf⟩ := choose_lt (α := Xg) each
    refine ⟨(List.range len1).map f, ?_, hl⟩
    by_cases h0 : len1 = 0
    · subst h0
      exact .inl ⟨by simp, _, _, rfl⟩
    · obtain ⟨ab, ao, spot⟩ := a
      have c0 := hf 0 (by omega) 0 _ (show (xgv (f 0))[0]? = some (.int .i64 (f 0).k) from rfl)
      have hspot : spot = none := by simpa [Addr.add] using World.cell?_spot c0
      subst hspot
      have hblk : ab < W.heap.size := by
        have := World.block_lt_of_cell? _ _ c0
        simpa [Addr.add] using this
      refine .inr ⟨ab, ao, _, by rw [List.length_map, List.length_range], fun i x hx => ⟨hblk, fun j v hv => ?_⟩⟩
      have hi : i < len1 := by
        have := (List.getElem?_eq_some_iff.1 hx).1
        simpa using this
      have hfx : f i = x := by
        rw [List.getElem?_map, List.getElem?_range hi] at hx
        simpa using hx
      have := hf i hi j v (by rw [hfx]; exact hv)
      rw [Addr.add_lit] at this
      rw [Nat.add_assoc]; exact this
/-- A row of changes that came in. -/
theorem open_gs {v : Value} {d : DataW H} {p : List MemPlace} (hval : Value.okWide Tryd.prog W .any base 33 v) (h : DataW.Trod enc Tryd.prog W 0 (fun _ => true) true 33 v d p) :
    ∃ l : List Xg, SlD W v l ∧ ∀ a n c, v = .slice a n c → n ≤ c := by
  obtain ⟨a1, len1, cap1, rfl⟩ := okWide_slice Tryd.underlying33 hval
  obtain ⟨fuel, hf⟩ := h
  obtain ⟨l, h1, h2⟩ := open_gsT hf
  exact ⟨l, h1, fun a n c e => by cases e; exact h2⟩
end
end Go.Proofs.YtgkbgojgpomcdaaDoor
