
/-
  What two rows have in common stands in both: no program, plain lists; barrowlaw15.within.
-/
import Derived.Test.YtkiloceaelmcfaaDoorDm9
namespace Go.Proofs.YtkiloceaelmcfaaDoor
open Go.RowKit Go.Extern.Stop Go.Stop Go.Extern
set_option maxRecDepth 100000

theorem getD_some {x : List Int} {p : Nat} {a : Int} (h : x[p]? = some a) : x.getD p 0 = a := by
  rw [List.getD, h]
  rfl
theorem sub_drop {x : List Int} {i p : Nat} {a : Int} {z : List Int} (hi : i ≤ p) (h : x[p]? = some a) (hz : z.Sublist (x.drop (p + 1))) : (a :: z).Sublist (x.drop i) := by
  have h1 : x.drop p = a :: x.drop (p + 1) := dropc h
  have h2 : (x.drop p).Sublist (x.drop i) := by
    have : x.drop p = (x.drop i).drop (p - i) := by rw [List.drop_drop, show i + (p - i) = p by omega]
    rw [this]
    exact List.drop_sublist ..
  refine List.Sublist.trans ?_ h2
  rw [h1]
  exact hz.cons_cons a
theorem Kc.subs {x y : List Int} : ∀ {l : List (Nat × Nat)} {i j : Nat}, Kc x y i j l → (l.map fun p => x.getD p.1 0).Sublist (x.drop i) ∧ (l.map fun p => x.getD p.1 0).Sublist (y.drop j)
  | [], _, _, _ => ⟨List.nil_sublist _, List.nil_sublist _⟩
  | (p, q) :: l, i, j, ⟨h1, h2, ⟨a, h3, h4⟩, h5⟩ => by
    obtain ⟨s1, s2⟩ := Kc.subs h5
    rw [List.map_cons, getD_some h3]
    exact ⟨sub_drop h1 h3 s1, sub_drop h2 h4 s2⟩
theorem cm_sub (x y : List Int) : (cm x y).Sublist x ∧ (cm x y).Sublist y := by
  have := (kp_kc0 x y).subs
  rwa [List.drop_zero, List.drop_zero] at this
theorem cm_self_go (x : List Int) : ∀ (n i : Nat), (x.drop i).length ≤ n → (kp i i (x.drop i) (x.drop i)).map (fun p => x.getD p.1 0) = x.drop i
  | 0, i, h => by
    have : x.drop i = [] := List.eq_nil_of_length_eq_zero (by omega)
    rw [this, kp_nil]
    rfl
  | n + 1, i, h => by
    cases hx : x.drop i with
    | nil => rw [kp_nil]; rfl
    | cons a r =>
      obtain ⟨x1, x2, x3⟩ := drop_cons hx
      rw [kp_same, List.map_cons, getD_some x1, ← x2, cm_self_go x n (i + 1) (by rw [List.length_drop] at h ⊢; omega)]
theorem cm_self (x : List Int) : cm x x = x := by
  have := cm_self_go x _ 0 (Nat.le_refl _)
  rwa [List.drop_zero] at this
theorem sub_same {a : Int} {z x : List Int} (h : (a :: z).Sublist (a :: x)) : z.Sublist x := by
  cases h with
  | cons _ h => exact (List.sublist_cons_self a z).trans h
  | cons_cons _ h => exact h
theorem sub_other {a b : Int} {z x : List Int} (h : (a :: z).Sublist (b :: x)) (hn : ¬ b = a) : (a :: z).Sublist x := by
  cases h with
  | cons _ h => exact h
  | cons_cons _ h => exact absurd rfl hn

end Go.Proofs.YtkiloceaelmcfaaDoor
