
/-
  barrowkeep.IntactElements: what was lent is as it was; then it is written over.
-/
import Derived.Test.YtdihbgmjnfpppaaGreatDoorTrKeep
import Derived.Deep.MidRow
namespace Go.Proofs.YtdihbgmjnfpppaaGreatDoor
open Go.RowKit
set_option maxRecDepth 100000

theorem Kp.cells {b : Nat} : ∀ (vs : List Value) (o_ : Nat) (w : World), Kp b w (w.setCells b o_ vs)
  | [], _, _w => Kp.of (Below.refl _ _)
  | v :: r, o_, _w => (Kp.cell b o_ v).trans (Kp.cells r (o_ + 1) _)
/-- A block of so many cells. -/
def RowN (b n : Nat) (w : World) : Prop := ∃ cs, RowAt b cs 49 w ∧ cs.size = n
theorem RowN.later {b n : Nat} {w w' : World} (h : RowN b n w) (hb : Below w.heap.size w w') : RowN b n w' := by
  obtain ⟨cs, h1, h2⟩ := h
  exact ⟨cs, h1.later hb, h2⟩
theorem RowN.cells {b n : Nat} : ∀ (vs : List Value) (o_ : Nat) (w : World), RowN b n w → RowN b n (w.setCells b o_ vs)
  | [], _, _, h => h
  | v :: r, o_, w, ⟨cs, h1, h2⟩ => RowN.cells r (o_ + 1) _ ⟨cs.setIfInBounds o_ v, heap_setCell_at h1 o_ v, by simpa using h2⟩
theorem RowN.there {b n : Nat} {w : World} (h : RowN b n w) (o_ k : Nat) (hk : o_ + k ≤ n) : w.there b o_ k := fun j hj => by
  obtain ⟨cs, h1, h2⟩ := h
  refine ⟨?_, Lib.frozen_of_heap h1 _⟩
  rw [h1.cell, Array.getElem?_eq_getElem (by omega)]
  rfl
theorem wpL_storeM {ops : Array Oper} {rest : List Oper} {o : Oper} {A : Act} {w : World} {Q : Exit → Act → World → Prop} (hgd : o.guard = none) (x y : Operand) (ho : o.op = .store 49 x y) {g off : Nat} (hx : A.eval x = .pointer (some ⟨g, off, none⟩)) {e : El} (hy : A.eval y = .agg (ev e)) (ht : w.there g off 5)
    (k : wpList Tryz.prog ops Q rest (A.put o.dst undef) (w.setCells g off (ev e).toList)) : wpList Tryz.prog ops Q (o :: rest) A w :=
  wpList_store_mid hgd _ x y ho g off (ev e) hx hy ht (e_size e) (by simp [ev, Value.oneCell']) k
theorem mk_at (l : List El) (k : Nat) (hk : k < 4) : (l ++ marks)[l.length + k]? = some (mk (k : Int)) := by
  rw [List.getElem?_append_right (by omega), show l.length + k - l.length = k by omega]
  match k, hk with
  | 0, _ => rfl
  | 1, _ => rfl
  | 2, _ => rfl
  | 3, _ => rfl
end Go.Proofs.YtdihbgmjnfpppaaGreatDoor
