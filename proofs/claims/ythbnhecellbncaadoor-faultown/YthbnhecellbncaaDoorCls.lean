/-
  A region that draws its order and whose callees make memory, each answer the same in every world that has grown out of the first: walked once.
-/
import Derived.Test.YthbnhecellbncaaDoorWakes
import Derived.BigQuiet
namespace Go.Proofs.YthbnhecellbncaaDoor
open Go.RowKit Go.Extern.Stop Go.Stop Go.Extern
set_option maxRecDepth 100000

/-- A world that has grown out of w: nothing of what was there has turned. -/
structure Wld (w : World) where
  wd : World
  below : Below w.heap.size w wd
/-- The world itself. -/
def wOf {w : World} (s : Wld w) : World := s.wd
instance (w : World) : Nonempty (Wld w) := ⟨⟨w, Below.refl _ _⟩⟩
theorem wOf_below {w : World} (s : Wld w) : Below w.heap.size w (wOf s) := s.below

theorem wp_region_cls {P : Program} {id : Nat} {Q : Exit → Act → World → Prop} {a : Act} {w : World} {l : List Oper} (hm : P.follows .mixedOrders = true) (hB : Region.lexB .any l.toArray = true)
    (h : wpQuiet P l.toArray (fun w' => ∃ n : Wld w, w' = wOf n) (fun a' => ∀ w', (∃ n : Wld w, w' = wOf n) → Q .normal a' w') l a) : (Code.region id l.toArray true).wp P Q a w :=
  wp_region_quiet (C := fun w' => ∃ n : Wld w, w' = wOf n) hm hB ⟨⟨w.drew, (Below.refl _ _).drew⟩, rfl⟩ (by simpa using h)

theorem cls_of {P : Program} {w : World} {s : Wld w} {f : FuncId} {args : Array Value} {v : Value} (h : Calls P f args (wOf s) fun e w' => e = .returned v ∧ Below (wOf s).heap.size (wOf s) w') :
    Calls P f args (wOf s) fun e w'' => e = .returned v ∧ ∃ m : Wld w, w'' = wOf m :=
  h.mono fun _ w' ⟨he, hb⟩ => ⟨he, ⟨w', bgo s.below hb⟩, rfl⟩
theorem cls_of_same {P : Program} {w : World} {s : Wld w} {f : FuncId} {args : Array Value} {v : Value} (h : Calls P f args (wOf s) fun e w' => e = .returned v ∧ w' = wOf s) :
    Calls P f args (wOf s) fun e w'' => e = .returned v ∧ ∃ m : Wld w, w'' = wOf m :=
  h.mono fun _ _ ⟨he, hb⟩ => ⟨he, s, hb⟩
end Go.Proofs.YthbnhecellbncaaDoor
