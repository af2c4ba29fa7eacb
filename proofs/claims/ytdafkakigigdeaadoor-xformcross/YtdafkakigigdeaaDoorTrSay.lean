
/-
  barrowref01.Say: a refusal as the document has it.
-/
import Derived.Test.YtdafkakigigdeaaDoorTrBase
namespace Go.Proofs.YtdafkakigigdeaaDoor
open Go.RowKit
set_option maxRecDepth 100000

/-- The place as a refusal tells it. -/
def place (at_ : Int) : Int := if at_ < 0 then -1 else at_

/-- A refusal's cells. -/
def nov (code : Int) (a : Option Addr) (n c : Nat) (a' : Option Addr) (n' c' : Nat) : Array Value := #[.int .i64 code, .slice a n c, .slice a' n' c']
theorem RowAt.other {b : Nat} {cs : Array Value} {t : TypeId} {w : World} (h : RowAt b cs t w) (g : Nat) (c : Array Value) (hn : ¬ b = g) : RowAt b cs t (w.setRow g c) := (setRow_other w g b c hn).trans h
theorem RowAt.put {b : Nat} {cs : Array Value} {t : TypeId} {w : World} (h : RowAt b cs t w) (c : Array Value) : RowAt b c t (w.setRow b c) := setRow_heap w b _ _ _ _ h
theorem CsIn.other {b off : Nat} {cs : Array Value} {w : World} (h : CsIn b off cs w) (g : Nat) (c : Array Value) (hn : ¬ b = g) : CsIn b off cs (w.setRow g c) := ⟨by simpa using h.1, fun j v hv => by rw [cell_setRow_other _ _ _ _ (by simpa using hn)]; exact h.2 j v hv⟩
end Go.Proofs.YtdafkakigigdeaaDoor
