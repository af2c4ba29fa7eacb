
/-
  barrowlaw11.CausalDelivers answers true.
-/
import Derived.Test.YtlgdaaofpjpobaaDoorZca31
namespace Go.Proofs.YtlgdaaofpjpobaaDoor
open Go.RowKit Go.Maps
set_option maxRecDepth 100000

theorem first_ready {row : List Ac} {c : List Int} (h : ∃ (j : Nat) (y : Ac), row[j]? = some y ∧ rdyC c y = true) : ∃ (j : Nat) (y : Ac), row[j]? = some y ∧ rdyC c y = true ∧ ∀ (j' : Nat) (z : Ac), j' < j → row[j']? = some z → rdyC c z = false := by
  obtain ⟨j, hj⟩ := h
  induction j using Nat.strongRecOn with
  | _ j ih =>
    obtain ⟨y, hy, hr⟩ := hj
    by_cases hm : ∃ j', j' < j ∧ ∃ z, row[j']? = some z ∧ rdyC c z = true
    · obtain ⟨j', hlt, hz⟩ := hm
      exact ih j' hlt hz
    · refine ⟨j, y, hy, hr, fun j' z hlt hz => ?_⟩
      cases hh : rdyC c z with
      | false => rfl
      | true => exact absurd ⟨j', hlt, z, hz, hh⟩ hm
theorem DvW.box {w Wb : World} {B kb Nb : Nat} {L : List Ac} {rl : Value} {h c : List Int} {v : Value} {nn : Nat} {m : Int} {row : List Ac} {wr : World} (D : DvW w Wb B kb Nb L rl h c v nn m row wr) {xb : Nat} {cs : Array Value} (hx : RowAt xb cs 48 wr) (hv : ¬ v.ownBlock = some xb) (hrl : ∀ k, rl.ownBlock = some k → k < xb) (hw : w.heap.size < xb) (ds : Array Value) : DvW w Wb B kb Nb L rl h c v nn m row (wr.setRow xb ds) := by
  have hc : Ch (fun k => k = xb) wr (wr.setRow xb ds) := Ch.row (S := fun k => k = xb) (Ch.refl _ wr) (.inl rfl) ds
  have hx' : wr.heap[xb]? = some (.cells cs 48 (0, 0)) := hx
  refine ⟨D.ib.ch hc ?_ (D.ib.map.ne hx') (fun k hk e => hv (e ▸ hk)), ⟨hc.heap D.now.1 (fun e => ?_), D.now.2⟩, ⟨hc.heap D.have'.1 (by omega), D.have'.2⟩, D.lrow.ch hc (fun k hk e => by have := hrl k hk; omega), D.vnew, below_row D.below (Nat.le_of_lt hw) _, Nat.le_trans D.size hc.size⟩
  · intro e
    have := D.ib.lies
    unfold RowAt at this
    rw [e, hx'] at this
    simp at this
  · have := D.now.1
    rw [e, hx'] at this
    simp at this
theorem offR_rng (c : List Int) (m : Int) (row : List Ac) (x : Ac) : 1 ≤ (offR c m row x).1 ∧ (offR c m row x).1 ≤ 5 := by
  unfold offR
  repeat' split
  all_goals simp
end Go.Proofs.YtlgdaaofpjpobaaDoor
