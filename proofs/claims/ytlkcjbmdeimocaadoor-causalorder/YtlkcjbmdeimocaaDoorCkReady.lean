
/-
  barrowlaw03.ClockReady answers true.
-/
import Derived.Test.YtlkcjbmdeimocaaDoorCkAct
import Derived.Test.YtlkcjbmdeimocaaDoorCkOpen
namespace Go.Proofs.YtlkcjbmdeimocaaDoor
open Go.RowKit
set_option maxRecDepth 100000

/-- What every Act that came in keeps to. -/
def Ac.Fit (x : Ac) : Prop := Ck x.ck ∧ fitsI x.num
/-- A list of Acts in memory. -/
def SlA (w : World) (v : Value) (l : List Ac) : Prop :=
  (l = [] ∧ ∃ a c, v = .slice a 0 c) ∨ ∃ g o c, v = .slice (some ⟨g, o, none⟩) l.length c ∧ l.length ≤ maxLen ∧ ∀ i x, l[i]? = some x → x.Fit ∧ CsIn g (o + i * 13) (acv x) w

theorem ac_size {x : Ac} (h : x.ck.length = 8) : (Tryd.prog.info? 48).map (·.size) = some (acv x).size := by
  rw [acv_size x h]; kernel_rfl
theorem ready_is {h : List Int} {x : Ac} {v : Bool} (hv : rdyC h x = v) (w : World) (ha : h.length = 8) (hx : x.Fit) :
    Calls Tryd.prog 52 #[.agg (cv h), .agg (acv x)] w fun e w' => e = .returned (.bool v) ∧ Below w.heap.size w w' := hv ▸ ready_any h x w ha hx.1.1 hx.2.1 hx.2.2
theorem refReady_is {h : List Int} {x : Ac} {v : Bool} (hv : rdyC h x = v) (w : World) (ha : Ck h) (hx : x.Fit) :
    Calls Tryd.prog 24 #[.agg (cv h), .agg (acv x)] w fun e w' => e = .returned (.bool v) ∧ Below w.heap.size w w' := hv ▸ refReady_any h x w ha.1 hx.1.1 hx.2.1 hx.2.2 ha.2
theorem has_is {a : List Int} {r n : Int} {v : Bool} (hv : hasC a r n = v) (w : World) (ha : a.length = 8) :
    Calls Tryd.prog 62 #[.agg (cv a), .int .i64 r, .int .i64 n] w fun e w' => e = .returned (.bool v) ∧ Below w.heap.size w w' := hv ▸ has_any a r n w ha
theorem rdyC_true {h : List Int} {x : Ac} (hv : rdyC h x = true) : (0 ≤ x.rep ∧ x.rep < 8 ∧ 1 ≤ x.num ∧ en h x.rep.toNat = x.num - 1 ∧ en x.ck x.rep.toNat = x.num - 1) ∧ cov h x.ck = true := by
  unfold rdyC at hv
  rw [Bool.and_eq_true] at hv
  exact ⟨of_decide_eq_true hv.1, hv.2⟩
theorem Ck.set {h : List Int} (hh : Ck h) (r : Nat) {v : Int} (hv : fitsI v) : Ck (h.set r v) := by
  refine ⟨by simpa using hh.1, fun k hk => ?_⟩
  by_cases hr : r < h.length
  · rw [getD_set _ _ _ _ hr]
    split
    · exact hv
    · exact hh.2 k hk
  · rw [List.set_eq_of_length_le (by omega)]; exact hh.2 k hk
theorem cov_set {h c : List Int} {r : Nat} {v : Int} (hl : h.length = 8) (hr : r < 8) (hv : en h r ≤ v) (hc : cov h c = true) : cov (h.set r v) c = true := by
  rw [cov_iff] at hc ⊢
  intro k hk
  rw [getD_set _ _ _ _ (by omega)]
  have := hc k hk
  split
  · rename_i e; subst e; omega
  · exact this

end Go.Proofs.YtlkcjbmdeimocaaDoor
