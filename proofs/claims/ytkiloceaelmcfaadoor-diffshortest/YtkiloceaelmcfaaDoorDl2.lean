
/-
  barrowlaw15.DiffMetric holds of any three texts.
-/
import Derived.Test.YtkiloceaelmcfaaDoorDl1
namespace Go.Proofs.YtkiloceaelmcfaaDoor
open Go.RowKit Go.Extern.Stop Go.Stop Go.Extern
set_option maxRecDepth 100000

theorem clip_b (s : ByteArray) (hs : s.size ≤ 9223372036854775807) (w : World) : Calls Tryd.prog 6 #[.string s] w fun e w' => e = .returned (.string (clB s)) ∧ Below w.heap.size w w' := by
  refine (clip_is s hs w).mono ?_
  rintro e w' ⟨h1, rfl⟩
  exact ⟨h1, Below.refl _ _⟩
/-- How many characters; -1: it is no UTF-8. -/
def lenI (s : ByteArray) : Int := if Lib.validD s.data.toList = true then ((rn s.data.toList).length : Int) else -1
theorem length_is (w : World) (s : ByteArray) (hs : s.size ≤ 1000000000) : Calls Tryd.prog 15 #[.string s] w fun e w' => e = .returned (.int .i64 (lenI s)) ∧ Below w.heap.size w w' := by
  unfold lenI
  cases hv : Lib.validD s.data.toList
  · have HR := hid_of' (runes_no w s hs hv)
    rw [if_neg (by decide)]
    go_enter Tryd.func15, Tryd.ntmps15
    go_wp2_with (go_at_call 27; (with_reducible refine HR.out.mono ?_); rintro e w1 ⟨rfl, b1⟩)
    go_ret
    exact ⟨rfl, b1⟩
  · have HR := hid_of' (runes_ok w s hs hv)
    rw [if_pos rfl]
    go_enter Tryd.func15, Tryd.ntmps15
    generalize rn s.data.toList = xs at HR ⊢
    go_wp2_with (go_at_call 27; (with_reducible refine HR.out.mono ?_); rintro e w1 ⟨v, rfl, h1, _, b1⟩; obtain ⟨o1, c1, e1, _⟩ := h1.form; subst e1; clear h1)
    go_ret
    exact ⟨rfl, b1⟩
theorem lenI_ok {s : ByteArray} (h : Lib.validD s.data.toList = true) : ¬ lenI s < 0 := by
  unfold lenI
  rw [if_pos h]
  omega
theorem lenI_no {s : ByteArray} (h : Lib.validD s.data.toList = false) : lenI s < 0 := by
  unfold lenI
  rw [if_neg (by rw [h]; decide)]
  omega
end Go.Proofs.YtkiloceaelmcfaaDoor
