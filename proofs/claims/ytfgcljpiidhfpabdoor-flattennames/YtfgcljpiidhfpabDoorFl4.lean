
/-
  The document's Verdict; Stage of both.
-/
import Derived.Test.YtfgcljpiidhfpabDoorFl3
namespace Go.Proofs.YtfgcljpiidhfpabDoor
open Go.RowKit
set_option maxRecDepth 100000

theorem verdI_no {r : Rnd} {m : Int} {n : Nat} (h1 : ¬ m < 1) (hn : min m 8 = (n : Int)) {k : Nat} (hk : k < n) (he : en r.vot k = 2) : verdI r m = 2 := by
  unfold verdI verdR
  rw [if_neg h1, hn, Int.toNat_natCast, if_pos]
  exact List.any_eq_true.2 ⟨k, List.mem_range.2 hk, by simpa using he⟩
theorem verdI_end {r : Rnd} {m : Int} {n : Nat} (h1 : ¬ m < 1) (hn : min m 8 = (n : Int)) (h2 : ∀ k, k < n → ¬ en r.vot k = 2) : verdI r m = if ((List.range n).all fun i => en r.vot i == 1) then 1 else 0 := by
  unfold verdI verdR
  rw [if_neg h1, hn, Int.toNat_natCast, if_neg]
  intro q
  obtain ⟨k, hk, he⟩ := List.any_eq_true.1 q
  exact h2 k (List.mem_range.1 hk) (by simpa using he)
theorem all_range_succ (p : Nat → Bool) (k : Nat) : (List.range (k + 1)).all p = ((List.range k).all p && p k) := by
  rw [List.range_succ, List.all_append]; simp
/-- A vote of any number. -/
def votI (r : Rnd) (i : Int) : Int := if 0 ≤ i ∧ i < 8 then en r.vot i.toNat else 0
/-- Stage. -/
def stgR (m t : Rnd) (n i : Int) : Int := if n < m.num then 0 else if m.num = n ∧ m.dec ≠ 0 then 0 else if m.num < n then 3 else if t.num = n ∧ votI t i = 0 then 2 else 1
theorem stgR_in (m t : Rnd) (n i : Int) : 0 ≤ stgR m t n i ∧ stgR m t n i ≤ 3 := by unfold stgR; repeat' split <;> first | decide | skip
theorem stgR_dec {m : Rnd} {n : Int} (h : m.num = n) (hd : m.dec ≠ 0) (t : Rnd) (i : Int) : stgR m t n i = 0 := by unfold stgR; rw [if_neg (by omega), if_pos ⟨h, hd⟩]
theorem two_boxes (w : World) (a b : Array Value) (t : TypeId) :
    RowAt w.heap.size a t ((w.alloc (.cells a t)).alloc (.cells b t)) ∧ RowAt (w.heap.size + 1) b t ((w.alloc (.cells a t)).alloc (.cells b t)) ∧ Below w.heap.size w ((w.alloc (.cells a t)).alloc (.cells b t)) := by
  have h1 := RowAt.news (w.alloc (.cells a t)) b t
  simp only [World.size_alloc] at h1
  exact ⟨(RowAt.news w a t).al _, h1, bgo (below_one w _) (below_one _ _)⟩
end Go.Proofs.YtfgcljpiidhfpabDoor
