
/-
  Moves that came in.
-/
import Derived.Test.YtfgcljpiidhfpaaDoorFlOp
namespace Go.Proofs.YtfgcljpiidhfpaaDoor
open Go.ChangeShapes Go.WideShapes Go.ChangeAt Go.RowKit Go.Deep
set_option maxRecDepth 100000

theorem cellsMove : Tryd.prog.cellsOf 97 = 4 := by kernel_rfl
section
variable {H : Type} {enc : TypeId × Value → H} {W : World} {base : Nat}
theorem pw_move {cs : List Value} {fuel bs : Nat} {sp : Nat → Bool} {hd : Bool} {x : DataW H × List MemPlace} (hl : cs.length = 4) (h : DataW.trod enc Tryd.prog W bs sp hd fuel 97 cs = some x) : Pw cs := by
  obtain ⟨z0, z1, z2, z3, k', _, _, f0, f1, f2, f3⟩ := Go.Joins.trod_struct4 Tryd.underlying97 h
  simp only [cellsInt] at f0 f1 f2 f3
  have := Pw.at (o := 0) (pw_int f0) (Pw.at (pw_int f1) (Pw.at (pw_int f2) (Pw.last (by rw [hl]) (pw_int f3))))
  simpa using this
theorem open_moves {v : Value} {d : DataW H} {p : List MemPlace} (hval : Value.okWide Tryd.prog W .any base 62 v) (h : DataW.Trod enc Tryd.prog W 0 (fun _ => true) true 62 v d p) :
    ∃ L : List (List Int), SlN 4 W v L ∧ ∀ x ∈ L, x.length = 4 ∧ ∀ z ∈ x, fitsI z := by
  obtain ⟨L, hL, hx, _⟩ := open_slN Tryd.underlying62 cellsMove (by decide) (fun hl h => pw_move hl h) hval h
  exact ⟨L, hL, hx⟩
end
end Go.Proofs.YtfgcljpiidhfpaaDoor
