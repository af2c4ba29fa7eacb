/-
  barrowlaw01.wakes answers true; barrowkeep.Same; barrowref01.Words of a reason.
-/
import Derived.Test.YthbnhecellbncaaDoorText
namespace Go.Proofs.YthbnhecellbncaaDoor
open Go.RowKit Go.Extern.Stop Go.Stop Go.Extern
set_option maxRecDepth 100000

/-- The Fault by which each law wakes. -/
def wakeT (f : Nat) : ErrT := .fault f wireB numberB 5 (.rsn 6)

theorem new_wake {ad : Nat → Addr} (w : World) :
    Calls Tryd.prog 15 #[.string ⟨#[119, 105, 114, 101]⟩, .string ⟨#[78, 117, 109, 98, 101, 114]⟩, .int .i64 5, .iface 131 (.pointer (some (ad 6)))] w fun e w' =>
      e = .returned (.iface 55 (.pointer (some ⟨w.heap.size, 0, none⟩))) ∧ Below w.heap.size w w' ∧ w.heap.size < w'.heap.size ∧ w'.heap[w.heap.size]? = some (.cells #[.string wireB, .string numberB, .int .i64 5, .iface 131 (.pointer (some (ad 6)))] 60 (0, 0)) := by
  refine (new_some wireB numberB 5 131 (.pointer (some (ad 6))) w).mono ?_
  rintro e w' ⟨rfl, rfl⟩
  exact ⟨rfl, below_one _ _, by simp, heap_alloc_last _ _⟩

theorem code_wake {ad : Nat → Addr} {w : World} {f : Nat} (L : Laid ad w) (hf : w.heap[f]? = some (.cells #[.string wireB, .string numberB, .int .i64 5, .iface 131 (.pointer (some (ad 6)))] 60 (0, 0))) :
    Calls Tryd.prog 17 #[.iface 55 (.pointer (some ⟨f, 0, none⟩))] w fun e w' => e = .returned (.int .i64 7) ∧ Below w.heap.size w w' :=
  code_any (wakeT f) (by intro h; cases h) (through_plain L (wakeT f) (by intro b g c k h; cases h) ⟨(Array.getElem?_eq_some_iff.1 hf).1, hf, (by intro h; cases h), (by show 6 < 14; decide)⟩)

theorem text_wake' {ad : Nat → Addr} {f : Nat} {w : World} (L : Laid ad w) (hf : w.heap[f]? = some (.cells #[.string wireB, .string numberB, .int .i64 5, .iface 131 (.pointer (some (ad 6)))] 60 (0, 0))) :
    Calls Tryd.prog 29 #[.iface 55 (.pointer (some ⟨f, 0, none⟩))] w fun e w' => e = .returned (.string ⟨#[119, 105, 114, 101, 46, 78, 117, 109, 98, 101, 114, 32, 97, 116, 32, 53, 58, 32, 99, 117, 116, 32, 115, 104, 111, 114, 116]⟩) ∧ Below w.heap.size w w' :=
  text_wake L hf

set_option maxHeartbeats 1000000 in
theorem wakes_ok {ad : Nat → Addr} {w : World} (L : Laid ad w) :
    Calls Tryd.prog 14 #[] w fun e w' => e = .returned (.bool true) ∧ Below w.heap.size w w' := by
  have h6 : w.cell? ⟨1, 0, none⟩ = some (.iface 131 (.pointer (some (ad 6)))) := L.var 6 (by decide)
  go_enter Tryd.func14, Tryd.ntmps14
  go_wp2_with (first | (go_at_call 15; refine (new_wake (ad := ad) _).mono ?_; rintro e w1 ⟨rfl, hb1, hs1, hf1⟩) | (go_at_call 17; refine (code_wake (L.below hb1) hf1).mono ?_; rintro e w2 ⟨rfl, hb2⟩) | (go_at_call 29; refine (text_wake' ((L.below hb1).below hb2) (by rw [hb2.block _ hs1]; exact hf1)).mono ?_; rintro e w3 ⟨rfl, hb3⟩))
  go_ret
  exact ⟨rfl, bgo (bgo hb1 hb2) hb3⟩

/-- barrowkeep.Same of a reason and itself. -/
theorem same_rsn (a : Addr) (w : World) :
    Calls Tryd.prog 21 #[.iface 131 (.pointer (some a)), .iface 131 (.pointer (some a))] w fun e w' => e = .returned (.bool true) ∧ w' = w := by
  obtain ⟨i, hi, hcmp⟩ := Option.map_eq_some_iff.1 compS
  obtain ⟨j, hj, hjs⟩ := Option.map_eq_some_iff.1 sizeS
  have heq := run_eql_iface_ptr_same (P := Tryd.prog) w a Tryd.underlying26 Tryd.underlying131 hi hcmp hj
  go_enter Tryd.func21, Tryd.ntmps21
  go_wp2
  go_ret
  exact ⟨rfl, rfl⟩
end Go.Proofs.YthbnhecellbncaaDoor
