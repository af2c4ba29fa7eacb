
/-
  What tree.replaced makes of a row of leaves.
-/
import Derived.Test.YtdihbgmjnfpppaaGreatDoorTrSpl
namespace Go.Proofs.YtdihbgmjnfpppaaGreatDoor
open Go.RowKit
set_option maxRecDepth 100000

/-- The leaves, with l in the place of c elements from i on, all of them of one leaf. -/
def Nd.rp : Nd → Nat → Nat → List El → List (List El)
  | .leaf _ _ _ _ m, i, c, l => [m.take i ++ (l ++ m.drop (i + c))]
  | .inner _ x y, i, c, l => if i < x.els.length then x.rp i c l ++ y.leaves else x.leaves ++ y.rp (i - x.els.length) c l
/-- The c elements from i on are of one leaf. -/
def Nd.fits : Nd → Nat → Nat → Prop
  | .leaf _ _ _ _ m, i, c => i + c ≤ m.length
  | .inner _ x y, i, c => if i < x.els.length then x.fits i c else y.fits (i - x.els.length) c
theorem Nd.fits_le : ∀ {t : Nd} {i c : Nat}, t.fits i c → i + c ≤ t.els.length
  | .leaf _ _ _ _ m, i, c, h => h
  | .inner _ x y, i, c, h => by
    simp only [Nd.fits] at h
    simp only [Nd.els, List.length_append]
    split at h
    · have := Nd.fits_le h; omega
    · have := Nd.fits_le h; omega
theorem Nd.fits_zero : ∀ {t : Nd} {i : Nat}, i ≤ t.els.length → t.fits i 0
  | .leaf _ _ _ _ m, i, h => h
  | .inner _ x y, i, h => by
    simp only [Nd.els, List.length_append] at h
    simp only [Nd.fits]
    split
    · exact Nd.fits_zero (by omega)
    · exact Nd.fits_zero (by omega)
theorem Nd.fits_one : ∀ {t : Nd} {i : Nat}, i < t.els.length → t.fits i 1
  | .leaf _ _ _ _ m, i, h => h
  | .inner _ x y, i, h => by
    simp only [Nd.els, List.length_append] at h
    simp only [Nd.fits]
    split
    · exact Nd.fits_one (by omega)
    · exact Nd.fits_one (by omega)
theorem Nd.rp_els : ∀ {t : Nd} {i c : Nat} (l : List El), t.fits i c → (t.rp i c l).flatten = t.els.take i ++ (l ++ t.els.drop (i + c))
  | .leaf _ _ _ _ m, i, c, l, h => by simp [Nd.rp, Nd.els]
  | .inner _ x y, i, c, l, h => by
    simp only [Nd.fits] at h
    simp only [Nd.rp, Nd.els]
    split at h
    · rename_i hlt
      have hle := Nd.fits_le h
      rw [if_pos hlt, List.flatten_append, Nd.rp_els l h, ← Nd.els_flat, List.take_append_of_le_length (by omega), List.drop_append_of_le_length hle]
      simp only [List.append_assoc]
    · rename_i hlt
      rw [if_neg hlt, List.flatten_append, Nd.rp_els l h, ← Nd.els_flat, List.take_append, List.take_of_length_le (show x.els.length ≤ i by omega), List.drop_append, List.drop_eq_nil_of_le (show x.els.length ≤ i + c by omega), show i - x.els.length + c = i + c - x.els.length by omega]
      simp only [List.append_assoc, List.nil_append]
/-- The leaf in which a place lies, among the others. -/
theorem Nd.rp_lv : ∀ (t : Nd) (i c : Nat) (l : List El), t.fits i c → ∃ A m B j g o_ cc, t.leaves = A ++ m :: B ∧ t.rp i c l = A ++ (m.take j ++ (l ++ m.drop (j + c))) :: B ∧ j + c ≤ m.length ∧ t.leafAt i = (.slice (some ⟨g, o_, none⟩) m.length cc, j)
  | .leaf _ g o_ cc m, i, c, l, h => ⟨[], m, [], i, g, o_, cc, rfl, rfl, h, rfl⟩
  | .inner _ x y, i, c, l, h => by
    simp only [Nd.fits] at h
    simp only [Nd.rp, Nd.leaves, Nd.leafAt]
    split at h
    · rename_i hlt
      obtain ⟨A, m, B, j, g, o_, cc, h1, h2, h3, h4⟩ := Nd.rp_lv x i c l h
      exact ⟨A, m, B ++ y.leaves, j, g, o_, cc, by rw [h1, List.append_assoc, List.cons_append], by rw [if_pos hlt, h2, List.append_assoc, List.cons_append], h3, by rw [if_pos hlt, h4]⟩
    · rename_i hlt
      obtain ⟨A, m, B, j, g, o_, cc, h1, h2, h3, h4⟩ := Nd.rp_lv y (i - x.els.length) c l h
      exact ⟨x.leaves ++ A, m, B, j, g, o_, cc, by rw [h1, List.append_assoc], by rw [if_neg hlt, h2, List.append_assoc], h3, by rw [if_neg hlt, h4]⟩
theorem LOk.rp {ch : Nat} {A B : List (List El)} {m m' : List El} (h : LOk ch (A ++ m :: B)) (h1 : m.length ≤ m'.length) (h2 : m'.length ≤ ch) : LOk ch (A ++ m' :: B) := by
  obtain ⟨a1, ⟨b1, b2, b3⟩, c1⟩ := LOk.app.1 h
  refine LOk.app.2 ⟨a1, ⟨h2, fun b hb => ?_, b3⟩, fun a b ha hb => ?_⟩
  · have := b2 b hb; omega
  · simp only [List.head?_cons, Option.some.injEq] at hb
    have := c1 a m ha rfl
    subst hb
    omega
/-- A tree of these leaves. -/
def LTree (R : Rows) (ls : List (List El)) (v : Value) (w : World) : Prop := ∃ t : Nd, v = .pointer (some ⟨t.blk, 0, none⟩) ∧ t.At R w ∧ t.Full ∧ t.leaves = ls
theorem LTree.later {R : Rows} {ls : List (List El)} {v : Value} {w w' : World} (h : LTree R ls v w) (hb : Below w.heap.size w w') : LTree R ls v w' := by
  obtain ⟨t, h1, h2, h3⟩ := h
  exact ⟨t, h1, h2.later hb, h3⟩
theorem LTree.o {R : Rows} {ls : List (List El)} {v : Value} {w : World} (h : LTree R ls v w) : OTree R ls v w := .inr h
end Go.Proofs.YtdihbgmjnfpppaaGreatDoor
