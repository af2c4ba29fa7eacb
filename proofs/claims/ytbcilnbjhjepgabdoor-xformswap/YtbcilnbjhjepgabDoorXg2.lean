
/-
  Right, Valid and Inverse, of the program and of the document: barrowlaw07.XformRight.
-/
import Derived.Test.YtbcilnbjhjepgabDoorXg1
namespace Go.Proofs.YtbcilnbjhjepgabDoor
open Go.RowKit
set_option maxRecDepth 100000

set_option maxHeartbeats 1000000 in
theorem refRight7_any (o : Xo) (w : World) : Calls Tryd.prog 9 #[.agg (ov o)] w fun r w' => r = .returned (.bool (rightO o)) ∧ Below w.heap.size w w' := by
  have HV := hid_of' (refRight_any o.c)
  unfold ov rightO
  by_cases h0 : o.r < 0
  · rw [show (decide (0 ≤ o.r) && decide (o.r < 8) && (if o.k = 1 then rightC o.c else if o.k = 3 then decide (o.c = 0) else if o.k = 2 then decide (o.c = 0) else false)) = false by simp; omega]
    go_enter Tryd.func9, Tryd.ntmps9
    go_wp2
    go_ret
    exact ⟨rfl, below_one w _⟩
  · by_cases h1 : 7 < o.r
    · rw [show (decide (0 ≤ o.r) && decide (o.r < 8) && (if o.k = 1 then rightC o.c else if o.k = 3 then decide (o.c = 0) else if o.k = 2 then decide (o.c = 0) else false)) = false by simp; omega]
      go_enter Tryd.func9, Tryd.ntmps9
      go_wp2
      go_ret
      exact ⟨rfl, below_one w _⟩
    · rw [show (decide (0 ≤ o.r) && decide (o.r < 8)) = true by simp; omega, Bool.true_and]
      by_cases k1 : o.k = 1
      · rw [if_pos k1]
        go_enter Tryd.func9, Tryd.ntmps9
        go_wp2_with (go_at_call 36; refine (HV.out _).mono ?_; rintro r w2 ⟨rfl, hw⟩; obtain rfl := hw.symm)
        go_ret
        exact ⟨rfl, below_one w _⟩
      · have e1 := ne_beq k1
        rw [if_neg k1]
        by_cases k3 : o.k = 3
        · have e2 : (o.k == 2) = false := ne_beq (by omega)
          rw [if_pos k3]
          go_enter Tryd.func9, Tryd.ntmps9
          go_wp2
          go_ret
          exact ⟨rfl, below_one w _⟩
        · have e3 := ne_beq k3
          rw [if_neg k3]
          by_cases k2 : o.k = 2
          · rw [if_pos k2]
            go_enter Tryd.func9, Tryd.ntmps9
            go_wp2
            go_ret
            exact ⟨rfl, below_one w _⟩
          · have e2 := ne_beq k2
            rw [if_neg k2]
            go_enter Tryd.func9, Tryd.ntmps9
            go_wp2
            go_ret
            exact ⟨rfl, below_one w _⟩
theorem refRight7_is {o : Xo} {v : Bool} (h : rightO o = v) (w : World) : Calls Tryd.prog 9 #[.agg (ov o)] w fun r w' => r = .returned (.bool v) ∧ Below w.heap.size w w' := h ▸ refRight7_any o w

/-- What undoes an operation. -/
def invO (o : Xo) : Xo × Bool := if o.k = 1 then (⟨2, o.p, 0, o.r⟩, true) else if o.k = 3 then (⟨2, o.p, 0, o.r⟩, true) else if o.k = 2 then (⟨3, o.p, 0, o.r⟩, true) else (⟨0, 0, 0, 0⟩, false)
theorem results_o2 {fn : Func} {p u : Tmp} {tmps : Array Value} {w : World} {g : Nat} {e : Xo} (h : fn.results = #[.cell p 24, .tmp u]) (hp : tmps.getD p undef = .pointer (some ⟨g, 0, none⟩)) (hg : RowAt g (ov e) 24 w) :
    (results fn tmps).run Tryd.prog w = .ok (.tuple #[.agg (ov e), tmps.getD u undef]) w := by
  have hp' : tmps[p]?.getD undef = .pointer (some ⟨g, 0, none⟩) := by simpa using hp
  simp [results, h, hp', asAddr, run_loadVar_row w g _ _ _ _ _ hg Tryd.underlying24 rfl (o_size e)]
end Go.Proofs.YtbcilnbjhjepgabDoor
