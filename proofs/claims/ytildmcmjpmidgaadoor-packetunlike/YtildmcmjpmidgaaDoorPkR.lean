
/-
  Is a message right? isOneOf, isWithin, isRow, isOp.
-/
import Derived.Test.YtildmcmjpmidgaaDoorPkB
namespace Go.Proofs.YtildmcmjpmidgaaDoor
open Go.RowKit
set_option maxRecDepth 100000

def oneB (k last : Int) : Bool := decide (1 ≤ k) && decide (k ≤ last)
def wiB (n most : Int) : Bool := decide (0 ≤ n) && decide (n ≤ most)
def rowB (most : Int) (l : List Int) : Bool := l.all (wiB · most)

theorem isOne_any (k last : Int) (w : World) :
    Calls Tryd.prog 20 #[.int .i64 k, .int .i64 last] w fun e w' => e = .returned (.bool (oneB k last)) ∧ w' = w := by
  by_cases h : 1 ≤ k
  · go_enter Tryd.func20, Tryd.ntmps20
    go_wp2
    go_ret
    exact ⟨by simp [oneB, h], rfl⟩
  · have h' : decide (1 ≤ k) = false := by simpa using h
    go_enter Tryd.func20, Tryd.ntmps20
    go_wp2
    go_ret
    exact ⟨by simp [oneB, h'], rfl⟩
theorem isWithin_any (k last : Int) (w : World) :
    Calls Tryd.prog 21 #[.int .i64 k, .int .i64 last] w fun e w' => e = .returned (.bool (wiB k last)) ∧ w' = w := by
  by_cases h : 0 ≤ k
  · go_enter Tryd.func21, Tryd.ntmps21
    go_wp2
    go_ret
    exact ⟨by simp [wiB, h], rfl⟩
  · have h' : decide (0 ≤ k) = false := by simpa using h
    go_enter Tryd.func21, Tryd.ntmps21
    go_wp2
    go_ret
    exact ⟨by simp [wiB, h'], rfl⟩
theorem isOne_is {k last : Int} {v : Bool} (h : oneB k last = v) (w : World) :
    Calls Tryd.prog 20 #[.int .i64 k, .int .i64 last] w fun e w' => e = .returned (.bool v) ∧ w' = w := h ▸ isOne_any k last w
theorem isWithin_is {k last : Int} {v : Bool} (h : wiB k last = v) (w : World) :
    Calls Tryd.prog 21 #[.int .i64 k, .int .i64 last] w fun e w' => e = .returned (.bool v) ∧ w' = w := h ▸ isWithin_any k last w

theorem all_take_step {α : Type} {p : α → Bool} {l : List α} {k : Nat} {x : α} (hx : l[k]? = some x) (h : (l.take k).all p = true) (hp : p x = true) : (l.take (k + 1)).all p = true := by
  rw [List.take_add_one, hx]
  simp only [Option.toList_some, List.all_append, h, List.all_cons, hp, List.all_nil, Bool.and_self]
theorem all_not {α : Type} {p : α → Bool} {l : List α} {k : Nat} {x : α} (hx : l[k]? = some x) (hp : p x = false) : l.all p = false := by
  rw [List.all_eq_false]
  exact ⟨x, List.mem_of_getElem? hx, by simp [hp]⟩
theorem en_at {l : List Int} {k : Nat} (h : k < l.length) : l[k]? = some (en l k) := by simp [en, List.getD, List.getElem?_eq_getElem h]

theorem szInt (w : World) : (sizeOf 3).run Tryd.prog w = .ok 1 w := by kernel_rfl
theorem szRnd (w : World) : (sizeOf 26).run Tryd.prog w = .ok 18 w := by kernel_rfl
theorem idx_row {l : List Int} {k : Nat} (hl : l.length = 8) (hk : k < 8) (w : World) : (Instr.index 22 (.agg (cv l)) (.int .i64 (k : Int))).run Tryd.prog w = .ok (.int .i64 (en l k)) w := by
  have c1 := cv_get (a := l) (k := k) (by omega)
  have h8 : (0 : Int) ≤ (k : Int) ∧ (k : Int) < (8 : Nat) := by omega
  have ht : (k : Int).toNat * 1 = k := by omega
  simp only [Instr.index, asIntOf, Sem.run_bind, Sem.run_pure, Result.andThen_ok, run_underlying Tryd.underlying22]
  rw [if_pos h8]
  simp [Sem.run_bind, part, isAgg, run_underlying Tryd.underlying3, c1]
theorem idx_rnd {l : List Prn} (hs : shRs l) {k : Nat} {r : Prn} (hr : l[k]? = some r) (w : World) : (Instr.index 28 (.agg (rsv l)) (.int .i64 (k : Int))).run Tryd.prog w = .ok (.agg (rnv r)) w := by
  have hk : k < 8 := by have := (List.getElem?_eq_some_iff.1 hr).1; rw [hs.1] at this; exact this
  have h8 : (0 : Int) ≤ (k : Int) ∧ (k : Int) < (8 : Nat) := by omega
  have hx := rsv_ext hs hr
  simp only [Instr.index, asIntOf, Sem.run_bind, Sem.run_pure, Result.andThen_ok, run_underlying Tryd.underlying28]
  rw [if_pos h8]
  simp [Sem.run_bind, part, isAgg, run_underlying Tryd.underlying26, hx]

set_option maxHeartbeats 1000000 in
theorem isRow_any (l : List Int) (most : Int) (w : World) (hl : l.length = 8) :
    Calls Tryd.prog 24 #[.agg (cv l), .int .i64 most] w fun e w' => e = .returned (.bool (rowB most l)) ∧ Below w.heap.size w w' := by
  have h1 := (RowAt.new w (cv l) 22).in
  have hB := below_one w (.cells (cv l) 22)
  go_enter Tryd.func24, Tryd.ntmps24
  go_wp2_with (refine wpL_ld rfl _ _ rfl rfl h1 Tryd.underlying22 rfl (row_size hl) ?_)
  go_loopw [8] (fun i wr => ∃ k : Nat, i = .int .i64 (k : Int) ∧ k ≤ 8 ∧ wr = w.alloc (.cells (cv l) 22) ∧ Hid ((l.take k).all (wiB · most) = true)) (fun i _ => 8 - (intOf i).toNat)
  case atStart => exact ⟨0, rfl, by decide, rfl, rfl⟩
  case round =>
    obtain ⟨k, rfl, hk, rfl, ha⟩ := hrel
    by_cases h8 : k < 8
    · have h8' : (k : Int) < 8 := by omega
      have c1 := fun w => idx_row hl h8 w
      have hx := en_at (l := l) (k := k) (by omega)
      have HX : Hid (l[k]? = some (en l k)) := hx
      clear hx
      cases hw : wiB (en l k) most
      · have HW := hid_of' hw
        go_wp2_with (go_at_call 21; refine (isWithin_is HW.out _).mono ?_; rintro e w1 ⟨rfl, h0⟩; obtain rfl := h0.symm)
        go_ret
        exact ⟨by rw [show rowB most l = false from all_not HX.out HW.out]; rfl, hB⟩
      · have HW := hid_of' hw
        clear hw
        go_wp2_with (go_at_call 21; refine (isWithin_is HW.out _).mono ?_; rintro e w1 ⟨rfl, h0⟩; obtain rfl := h0.symm)
        go_roundw
        case rel => exact ⟨k + 1, by go_num, by omega, trivial, all_take_step HX.out ha.out HW.out⟩
        case measure => simp [intOf]; omega
    · have h8' : ¬ (k : Int) < 8 := by omega
      go_wp2
      go_ret
      exact ⟨by rw [show rowB most l = true from by have := ha.out; rwa [List.take_of_length_le (by omega)] at this]; rfl, hB⟩
theorem isRow_is {l : List Int} {most : Int} {v : Bool} (h : rowB most l = v) (w : World) (hl : l.length = 8) :
    Calls Tryd.prog 24 #[.agg (cv l), .int .i64 most] w fun e w' => e = .returned (.bool v) ∧ Below w.heap.size w w' := h ▸ isRow_any l most w hl
end Go.Proofs.YtildmcmjpmidgaaDoor
