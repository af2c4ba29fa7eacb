
/-
  From the arguments as the form reads them to what the walks use: clocks and ints.
-/
import Derived.Test.YtfgcljpiidhfpaaDoorRows
import Derived.Test.YtfgcljpiidhfpaaDoorCkTick
import Derived.ProofKit
import Derived.Deep.Slices
import Derived.OpenShut
import Derived.Carry
import Derived.LaidHandle
import Derived.LaidMore
namespace Go.Proofs.YtfgcljpiidhfpaaDoor
open Go.ChangeShapes Go.WideShapes Go.ChangeAt Go.RowKit Go.Deep
set_option maxRecDepth 100000

theorem cellsInt : Tryd.prog.cellsOf 3 = 1 := by kernel_rfl
theorem cellsCk : Tryd.prog.cellsOf 42 = 8 := by kernel_rfl
theorem okWide_array {P : Program} {w : World} {r : Reach} {base : Nat} {t : TypeId} {v : Value} {n : Nat} {e : TypeId} (ht : P.underlying t = some (.array n e)) (h : Value.okWide P w r base t v) : ∃ cs, v = .agg cs ∧ cs.size = P.cellsOf t := by
  simp only [Value.okWide, ht] at h
  obtain ⟨cs, h1, h2, _⟩ := h
  exact ⟨cs, h1, h2⟩

/-- A clock whose entries are ints. -/
def Ck (a : List Int) : Prop := a.length = 8 ∧ ∀ k, k < 8 → fitsI (en a k)

section
variable {H : Type} {enc : TypeId × Value → H} {W : World} {base : Nat}
theorem open_cells8 {cs : List Value} {fuel bs : Nat} {sp : Nat → Bool} {hd : Bool} {x : DataW H × List MemPlace} (h : DataW.trod enc Tryd.prog W bs sp hd fuel 42 cs = some x) : ∃ a : List Int, cs = a.map (Value.int .i64) ∧ Ck a := by
  obtain ⟨xs, m, _, _, hlen, hxl, hi⟩ := DataW.trod_array Tryd.underlying42 h
  rw [cellsCk] at hlen
  have each : ∀ i, i < 8 → ∃ z : Int, cs[i]? = some (.int .i64 z) ∧ fitsI z := by
    intro i h8
    have h1 := hi i h8
    rw [cellsInt, Nat.mul_one, List.getElem?_eq_getElem (show i < xs.length by omega)] at h1
    obtain ⟨z, e0, _, wf⟩ := DataW.trod_int Tryd.underlying3 h1
    refine ⟨z, ?_, bounds_i64 wf⟩
    have h2 : ((cs.drop i).take 1)[0]? = cs[i]? := by simp
    rw [← h2, e0]; rfl
  obtain ⟨f, hf⟩ := choose_lt (α := Int) each
  refine ⟨(List.range 8).map f, ?_, by simp, fun k hk => ?_⟩
  · apply List.ext_getElem?
    intro i
    by_cases h8 : i < 8
    · rw [(hf i h8).1]; simp [h8]
    · rw [List.getElem?_eq_none (by omega), List.getElem?_eq_none (by simp; omega)]
  · have : en ((List.range 8).map f) k = f k := by simp [en, List.getD, hk]
    rw [this]; exact (hf k hk).2
/-- A clock that came in. -/
theorem open_ck {v : Value} {d : DataW H} {p : List MemPlace} (hval : Value.okWide Tryd.prog W .any base 42 v) (h : DataW.Trod enc Tryd.prog W 0 (fun _ => true) true 42 v d p) :
    ∃ a : List Int, v = .agg (cv a) ∧ Ck a := by
  obtain ⟨cs, rfl, _⟩ := okWide_array Tryd.underlying42 hval
  obtain ⟨fuel, hf⟩ := h
  obtain ⟨a, ha, hc⟩ := open_cells8 hf
  refine ⟨a, ?_, hc⟩
  simp only [Value.cells] at ha
  rw [cv, ← ha]
/-- An int that came in. -/
theorem open_i {v : Value} {d : DataW H} {p : List MemPlace} (h : DataW.Trod enc Tryd.prog W 0 (fun _ => true) true 3 v d p) (hval : Value.okWide Tryd.prog W .any base 3 v) : ∃ n : Int, v = .int .i64 n ∧ fitsI n := by
  obtain ⟨n, rfl⟩ := okWide_int Tryd.underlying3 hval
  obtain ⟨fuel, hf⟩ := h
  obtain ⟨z, e0, _, wf⟩ := DataW.trod_int Tryd.underlying3 hf
  simp [Value.cells] at e0
  subst e0
  exact ⟨_, rfl, bounds_i64 wf⟩
end
end Go.Proofs.YtfgcljpiidhfpaaDoor
