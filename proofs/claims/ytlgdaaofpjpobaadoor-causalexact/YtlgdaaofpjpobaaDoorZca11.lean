
/-
  From the arguments as the form reads them to what the walks use: clocks and ints. barrowlaw03.ClockReady answers true.
-/
import Derived.Test.YtlgdaaofpjpobaaDoorRows
import Derived.Test.YtlgdaaofpjpobaaDoorZca09
import Derived.ProofKit
import Derived.Deep.Slices
import Derived.OpenShut
import Derived.Carry
import Derived.LaidHandle
import Derived.LaidMore
import Derived.Test.YtlgdaaofpjpobaaDoorZca10
namespace Go.Proofs.YtlgdaaofpjpobaaDoor
open Go.ChangeShapes Go.WideShapes Go.ChangeAt Go.RowKit Go.Deep
set_option maxRecDepth 100000

theorem cellsInt : Tryd.prog.cellsOf 3 = 1 := by kernel_rfl
theorem cellsCk : Tryd.prog.cellsOf 44 = 8 := by kernel_rfl
theorem okWide_array {P : Program} {w : World} {r : Reach} {base : Nat} {t : TypeId} {v : Value} {n : Nat} {e : TypeId} (ht : P.underlying t = some (.array n e)) (h : Value.okWide P w r base t v) : ∃ cs, v = .agg cs ∧ cs.size = P.cellsOf t := by
  simp only [Value.okWide, ht] at h
  obtain ⟨cs, h1, h2, _⟩ := h
  exact ⟨cs, h1, h2⟩

/-- A clock whose entries are ints. -/
def Ck (a : List Int) : Prop := a.length = 8 ∧ ∀ k, k < 8 → fitsI (en a k)

section
variable {H : Type} {enc : TypeId × Value → H} {W : World} {base : Nat}
theorem open_cells8 {cs : List Value} {fuel bs : Nat} {sp : Nat → Bool} {hd : Bool} {x : DataW H × List MemPlace} (h : DataW.trod enc Tryd.prog W bs sp hd fuel 44 cs = some x) : ∃ a : List Int, cs = a.map (Value.int .i64) ∧ Ck a := by
  obtain ⟨xs, m, _, _, hlen, hxl, hi⟩ := DataW.trod_array Tryd.underlying44 h
  rw [cellsCk] at hlen
  have each : ∀ i, i < 8 → ∃ z : Int, cs[i]? = some (.int .i64 z) ∧ fitsI z := by
    intro i h8
    have h1 := hi i h8
    rw [cellsInt, Nat.mul_one, List.getElem?_eq_getElem (show i < xs.length by omega)] at h1
    obtain ⟨z, e0, _, wf⟩ := DataW.trod_int Tryd.underlying3 h1
    refine ⟨z, ?_, bounds_i64 wf⟩
    have h2 : ((cs.drop i).take 1)[0]? = cs[i]? := by simp
    rw [← h2, e0]; rfl
  obtain ⟨f, hf⟩ := choose_lt (α := Int) each
  refine ⟨(List.range 8).map f, ?_, by simp, fun k hk => ?_⟩
  · apply List.ext_getElem?
    intro i
    by_cases h8 : i < 8
    · rw [(hf i h8).1]; simp [h8]
    · rw [List.getElem?_eq_none (by omega), List.getElem?_eq_none (by simp; omega)]
  · have : en ((List.range 8).map f) k = f k := by simp [en, List.getD, hk]
    rw [this]; exact (hf k hk).2
/-- A clock that came in. -/
theorem open_ck {v : Value} {d : DataW H} {p : List MemPlace} (hval : Value.okWide Tryd.prog W .any base 44 v) (h : DataW.Trod enc Tryd.prog W 0 (fun _ => true) true 44 v d p) :
    ∃ a : List Int, v = .agg (cv a) ∧ Ck a := by
  obtain ⟨cs, rfl, _⟩ := okWide_array Tryd.underlying44 hval
  obtain ⟨fuel, hf⟩ := h
  obtain ⟨a, ha, hc⟩ := open_cells8 hf
  refine ⟨a, ?_, hc⟩
  simp only [Value.cells] at ha
  rw [cv, ← ha]
/-- An int that came in. -/
theorem open_i {v : Value} {d : DataW H} {p : List MemPlace} (h : DataW.Trod enc Tryd.prog W 0 (fun _ => true) true 3 v d p) (hval : Value.okWide Tryd.prog W .any base 3 v) : ∃ n : Int, v = .int .i64 n ∧ fitsI n := by
  obtain ⟨n, rfl⟩ := okWide_int Tryd.underlying3 hval
  obtain ⟨fuel, hf⟩ := h
  obtain ⟨z, e0, _, wf⟩ := DataW.trod_int Tryd.underlying3 hf
  simp [Value.cells] at e0
  subst e0
  exact ⟨_, rfl, bounds_i64 wf⟩
end
end Go.Proofs.YtlgdaaofpjpobaaDoor
namespace Go.Proofs.YtlgdaaofpjpobaaDoor
open Go.RowKit
set_option maxRecDepth 100000

/-- What every Act that came in keeps to. -/
def Ac.Fit (x : Ac) : Prop := Ck x.ck ∧ fitsI x.num
/-- A list of Acts in memory. -/
def SlA (w : World) (v : Value) (l : List Ac) : Prop :=
  (l = [] ∧ ∃ a c, v = .slice a 0 c) ∨ ∃ g o c, v = .slice (some ⟨g, o, none⟩) l.length c ∧ l.length ≤ maxLen ∧ ∀ i x, l[i]? = some x → x.Fit ∧ CsIn g (o + i * 13) (acv x) w

theorem ac_size {x : Ac} (h : x.ck.length = 8) : (Tryd.prog.info? 48).map (·.size) = some (acv x).size := by
  rw [acv_size x h]; kernel_rfl
theorem ready_is {h : List Int} {x : Ac} {v : Bool} (hv : rdyC h x = v) (w : World) (ha : h.length = 8) (hx : x.Fit) :
    Calls Tryd.prog 35 #[.agg (cv h), .agg (acv x)] w fun e w' => e = .returned (.bool v) ∧ Below w.heap.size w w' := hv ▸ ready_any h x w ha hx.1.1 hx.2.1 hx.2.2
theorem refReady_is {h : List Int} {x : Ac} {v : Bool} (hv : rdyC h x = v) (w : World) (ha : Ck h) (hx : x.Fit) :
    Calls Tryd.prog 40 #[.agg (cv h), .agg (acv x)] w fun e w' => e = .returned (.bool v) ∧ Below w.heap.size w w' := hv ▸ refReady_any h x w ha.1 hx.1.1 hx.2.1 hx.2.2 ha.2
theorem has_is {a : List Int} {r n : Int} {v : Bool} (hv : hasC a r n = v) (w : World) (ha : a.length = 8) :
    Calls Tryd.prog 47 #[.agg (cv a), .int .i64 r, .int .i64 n] w fun e w' => e = .returned (.bool v) ∧ Below w.heap.size w w' := hv ▸ has_any a r n w ha
theorem rdyC_true {h : List Int} {x : Ac} (hv : rdyC h x = true) : (0 ≤ x.rep ∧ x.rep < 8 ∧ 1 ≤ x.num ∧ en h x.rep.toNat = x.num - 1 ∧ en x.ck x.rep.toNat = x.num - 1) ∧ cov h x.ck = true := by
  unfold rdyC at hv
  rw [Bool.and_eq_true] at hv
  exact ⟨of_decide_eq_true hv.1, hv.2⟩
theorem Ck.set {h : List Int} (hh : Ck h) (r : Nat) {v : Int} (hv : fitsI v) : Ck (h.set r v) := by
  refine ⟨by simpa using hh.1, fun k hk => ?_⟩
  by_cases hr : r < h.length
  · rw [getD_set _ _ _ _ hr]
    split
    · exact hv
    · exact hh.2 k hk
  · rw [List.set_eq_of_length_le (by omega)]; exact hh.2 k hk
theorem cov_set {h c : List Int} {r : Nat} {v : Int} (hl : h.length = 8) (hr : r < 8) (hv : en h r ≤ v) (hc : cov h c = true) : cov (h.set r v) c = true := by
  rw [cov_iff] at hc ⊢
  intro k hk
  rw [getD_set _ _ _ _ (by omega)]
  have := hc k hk
  split
  · rename_i e; subst e; omega
  · exact this

end Go.Proofs.YtlgdaaofpjpobaaDoor
