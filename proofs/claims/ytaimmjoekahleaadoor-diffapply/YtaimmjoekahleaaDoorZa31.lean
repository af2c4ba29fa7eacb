
/-
  barrowlaw15.DiffCommon holds of any two texts. The document's refusal, and an error held against it.
-/
import Derived.Test.YtaimmjoekahleaaDoorZa29
import Derived.Test.YtaimmjoekahleaaDoorZa30
import Derived.Test.YtaimmjoekahleaaDoorZa24
namespace Go.Proofs.YtaimmjoekahleaaDoor
open Go.RowKit Go.Extern.Stop Go.Stop Go.Extern
set_option maxRecDepth 100000

theorem runes_ok (w : World) (s : ByteArray) (hs : s.size ≤ 1000000000) (hv : Lib.validD s.data.toList = true) :
    Calls Tryd.prog 28 #[.string s] w fun e w' => ∃ v, e = .returned (.tuple #[v, .bool true]) ∧ RwR v (rn s.data.toList) w' ∧ (∀ k, v.ownBlock = some k → w.heap.size ≤ k) ∧ Below w.heap.size w w' := by
  refine (runes_is w s hs).mono ?_
  rintro e w' ⟨⟨v, _, h1, h2, h3⟩ | ⟨h, _⟩, hb⟩
  · exact ⟨v, h1, h2, h3, hb⟩
  · rw [hv] at h
    cases h
theorem runes_no (w : World) (s : ByteArray) (hs : s.size ≤ 1000000000) (hv : Lib.validD s.data.toList = false) :
    Calls Tryd.prog 28 #[.string s] w fun e w' => e = .returned (.tuple #[.slice none 0 0, .bool false]) ∧ Below w.heap.size w w' := by
  refine (runes_is w s hs).mono ?_
  rintro e w' ⟨⟨v, h, _⟩ | ⟨_, h⟩, hb⟩
  · rw [hv] at h
    cases h
  · exact ⟨h, hb⟩
theorem chW_bad {a b : ByteArray} (h : Lib.validD a.data.toList = false ∨ Lib.validD b.data.toList = false) : ∃ i k, chW a b = some (i, k) := by
  unfold chW
  cases hv : Lib.validD a.data.toList
  · exact ⟨_, _, if_pos rfl⟩
  · rw [if_neg (by decide)]
    rcases h with h | h
    · rw [hv] at h; cases h
    · exact ⟨_, _, if_pos h⟩
theorem small70 {s : ByteArray} (h : s.size ≤ 120) : s.size ≤ 70368744177664 := by omega
theorem small9 {s : ByteArray} (h : s.size ≤ 120) : s.size ≤ 1000000000 := by omega
end Go.Proofs.YtaimmjoekahleaaDoor
namespace Go.Proofs.YtaimmjoekahleaaDoor
open Go.RowKit Go.Extern.Stop Go.Stop Go.Extern
set_option maxRecDepth 100000

/-- The document's refusal. -/
def NoR (M : Nat) (o : Rf) (v : Value) (w : World) : Prop := match o with
  | none => v = .agg (nov 0 none 0 0 none 0 0)
  | some (c, a, k) => ∃ g g', v = .agg (nov ((k : Int) + 1) (some ⟨g', 0, none⟩) 1 1 (some ⟨g, 0, none⟩) 1 1) ∧ M ≤ g ∧ M ≤ g' ∧ CsIn g' 0 #[.string bD, .string c, .int .i64 (place a)] w ∧ CsIn g 0 #[.int .i64 ((k : Int) + 1)] w
theorem NoR.later {M : Nat} {o : Rf} {v : Value} {w w' : World} (h : NoR M o v w) (hb : Below w.heap.size w w') : NoR M o v w' := by
  match o, h with
  | none, h => exact h
  | some (_, _, _), ⟨g, g', h1, h2, h3, h4, h5⟩ => exact ⟨g, g', h1, h2, h3, h4.later hb, h5.later hb⟩
/-- An error held against the document's refusal of the same. -/
theorem refused_is {ad : Nat → Addr} {M M' : Nat} {o : Rf} {v u : Value} {w : World} (L : Laid ad w) (h : ErrR ad M o v w) (h' : NoR M' o u w) :
    Calls Tryd.prog 8 #[v, u] w fun e w' => e = .returned (.bool true) ∧ Below w.heap.size w w' := by
  match o, h, h' with
  | none, h, h' => rw [h, h']; exact refused_none _ _ _ _ _ _ _
  | some (c, a, k), ⟨b, h1, _, h3, h4⟩, ⟨g, g', e1, _, _, e4, e5⟩ => rw [h1, e1]; exact refused_some L h4 h3 e4 e5
theorem say_is (c : ByteArray) (i : Int) (k : Nat) (w : World) :
    Calls Tryd.prog 29 #[.string bD, .string c, .int .i64 i, .int .i64 ((k : Int) + 1)] w fun e w' => ∃ v, e = .returned v ∧ NoR w.heap.size (some (c, i, k)) v w' ∧ Below w.heap.size w w' :=
  (say_any bD c i ((k : Int) + 1) w (by rw [beq_eq_false_iff_ne]; omega)).mono fun _ _ ⟨g, g', h1, h2, h3, h4, h5, h6⟩ => ⟨_, h1, ⟨g, g', rfl, h3, h2, h4, h5⟩, h6⟩
/-- All the reasons give the two. -/
theorem Laid.env {ad : Nat → Addr} {w : World} (L : Laid ad w) (h : U8 w) : Env ad w := ⟨h, L.var 2 (by omega), L.var 12 (by omega)⟩
end Go.Proofs.YtaimmjoekahleaaDoor
