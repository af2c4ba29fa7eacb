
/-
  (*tree.Tree).Find; barrowlaw04.begun, wakes.
-/
import Derived.Test.YtdihbgmjnfpppaaGreatDoorTrPass
namespace Go.Proofs.YtdihbgmjnfpppaaGreatDoor
open Go.RowKit
set_option maxRecDepth 100000

theorem field_live (x y : Int) (w : World) : (Instr.field 123 (.agg #[.int .i64 x, .int .i64 y]) 0).run Tryz.prog w = .ok (.int .i64 x) w := by kernel_rfl
theorem CsIn.otherP {b off : Nat} {cs : Array Value} {w : World} (h : CsIn b off cs w) (a : Addr) (v : Value) (hn : ¬ b = a.block) : CsIn b off cs (w.setCell a v) :=
  ⟨by simpa using h.1, fun j u hu => by rw [World.cell?_of_block (a := ⟨b, off + j, none⟩) (Below.heap_setCell _ _ _ _ hn)]; exact h.2 j u hu⟩
theorem RowAt.otherP {b : Nat} {cs : Array Value} {t : TypeId} {w : World} (h : RowAt b cs t w) (a : Addr) (v : Value) (hn : ¬ b = a.block) : RowAt b cs t (w.setCell a v) := by unfold RowAt at *; rw [Below.heap_setCell _ _ _ _ hn]; exact h
/-- A tree's nodes and leaves lie in no block of two cells. -/
theorem Nd.At.put {R : Rows} {b : Nat} {c0 c1 : Value} {ty : TypeId} (v : Value) : ∀ {t : Nd} {w : World}, t.At R w → t.Full → RowAt b #[c0, c1] ty w → t.At R (w.setCell ⟨b, 1, none⟩ v)
  | .leaf b' g o_ c l, w, h, hf, hr => by
    have n1 : ¬ b' = b := fun e => by
      have := h.1
      unfold RowAt at this hr
      rw [e, hr] at this
      simp [ndc] at this
    have n2 : ¬ g = b := fun e => by
      obtain ⟨x, l', rfl⟩ := List.exists_cons_of_ne_nil hf
      have h4 := (h.2.1 0 x rfl).2 4 _ rfl
      rw [e, hr.cell] at h4
      rw [show (#[c0, c1] : Array Value)[o_ + 0 * 5 + 4]? = none from Array.getElem?_eq_none (by simp)] at h4
      cases h4
    exact ⟨h.1.otherP _ _ n1, fun i e he => (h.2.1 i e he).otherP _ _ n2, h.2.2.1, h.2.2.2.1, h.2.2.2.2.1, by simpa using h.2.2.2.2.2⟩
  | .inner b' x y, w, h, hf, hr => by
    have n1 : ¬ b' = b := fun e => by
      have := h.1
      unfold RowAt at this hr
      rw [e, hr] at this
      simp [ndc] at this
    exact ⟨h.1.otherP _ _ n1, Nd.At.put v h.2.1 hf.1 hr, Nd.At.put v h.2.2 hf.2 hr⟩
theorem heap_setCell_at {w : World} {b : Nat} {cs : Array Value} {t : TypeId} (h : w.heap[b]? = some (.cells cs t (0, 0))) (i : Nat) (v : Value) : (w.setCell ⟨b, i, none⟩ v).heap[b]? = some (.cells (cs.setIfInBounds i v) t (0, 0)) := by
  simp [World.setCell, Array.getElem?_modify, h]
theorem RowAt.putCell {b : Nat} {c0 c1 : Value} {ty : TypeId} {w : World} (h : RowAt b #[c0, c1] ty w) (v : Value) : RowAt b #[c0, v] ty (w.setCell ⟨b, 1, none⟩ v) := by
  have := heap_setCell_at h 1 v
  exact this

def ea : El := ⟨0, 0, 0, 97, 0⟩
def eb : El := ⟨0, 0, 0, 98, 1⟩
def ec : El := ⟨0, 0, 0, 99, 0⟩
theorem sl_new (w : World) (l : List El) (n c : Nat) (hn : l.length = n) : SlE (w.alloc (.cells (ecells l).toArray 49)) (.slice (some ⟨w.heap.size, 0, none⟩) n c) l := by
  subst hn
  have hr := row_new w (ecells l).toArray 49
  exact .inr ⟨w.heap.size, 0, c, rfl, els_of_cells hr.lt fun j u hu => by rw [Nat.zero_add, hr.cell]; simpa using hu⟩
end Go.Proofs.YtdihbgmjnfpppaaGreatDoor
