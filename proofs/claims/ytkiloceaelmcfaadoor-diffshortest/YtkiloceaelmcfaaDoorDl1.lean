
/-
  barrowlaw15.DiffCommon holds of any two texts.
-/
import Derived.Test.YtkiloceaelmcfaaDoorDm8
import Derived.Test.YtkiloceaelmcfaaDoorDp1
namespace Go.Proofs.YtkiloceaelmcfaaDoor
open Go.RowKit Go.Extern.Stop Go.Stop Go.Extern
set_option maxRecDepth 100000

theorem runes_ok (w : World) (s : ByteArray) (hs : s.size ≤ 1000000000) (hv : Lib.validD s.data.toList = true) :
    Calls Tryd.prog 27 #[.string s] w fun e w' => ∃ v, e = .returned (.tuple #[v, .bool true]) ∧ RwR v (rn s.data.toList) w' ∧ (∀ k, v.ownBlock = some k → w.heap.size ≤ k) ∧ Below w.heap.size w w' := by
  refine (runes_is w s hs).mono ?_
  rintro e w' ⟨⟨v, _, h1, h2, h3⟩ | ⟨h, _⟩, hb⟩
  · exact ⟨v, h1, h2, h3, hb⟩
  · rw [hv] at h
    cases h
theorem runes_no (w : World) (s : ByteArray) (hs : s.size ≤ 1000000000) (hv : Lib.validD s.data.toList = false) :
    Calls Tryd.prog 27 #[.string s] w fun e w' => e = .returned (.tuple #[.slice none 0 0, .bool false]) ∧ Below w.heap.size w w' := by
  refine (runes_is w s hs).mono ?_
  rintro e w' ⟨⟨v, h, _⟩ | ⟨_, h⟩, hb⟩
  · rw [hv] at h
    cases h
  · exact ⟨h, hb⟩
theorem chW_bad {a b : ByteArray} (h : Lib.validD a.data.toList = false ∨ Lib.validD b.data.toList = false) : ∃ i k, chW a b = some (i, k) := by
  unfold chW
  cases hv : Lib.validD a.data.toList
  · exact ⟨_, _, if_pos rfl⟩
  · rw [if_neg (by decide)]
    rcases h with h | h
    · rw [hv] at h; cases h
    · exact ⟨_, _, if_pos h⟩
theorem small70 {s : ByteArray} (h : s.size ≤ 120) : s.size ≤ 70368744177664 := by omega
theorem small9 {s : ByteArray} (h : s.size ≤ 120) : s.size ≤ 1000000000 := by omega
end Go.Proofs.YtkiloceaelmcfaaDoor
