
/-
  fault.asFault and fault.asMany of each kind of error; fault.number of a reason and of nil.
-/
import Derived.Test.YthabeapgkaggmaaDoorLaid
namespace Go.Proofs.YthabeapgkaggmaaDoor
open Go.RowKit Go.Extern.Stop Go.Stop Go.Extern
set_option maxRecDepth 100000

theorem bal {w w' : World} (h : Below w.heap.size w w') (o : Obj) : Below w.heap.size w (w'.alloc o) := h.alloc h.size o
theorem bgoE {w w1 w2 : World} (h : Below w.heap.size w w1) (k : Below w1.heap.size w1 w2) : Below w.heap.size w w2 := h.trans (k.mono h.size)

theorem et_alloc {w : World} {o : Obj} {v : Value} (h : w.cell? ⟨3, 0, none⟩ = some v) : (w.alloc o).cell? ⟨3, 0, none⟩ = some v := by
  rw [World.cell?_alloc_lt _ _ ⟨3, 0, none⟩ (lt_of_cell h)]; exact h

theorem asFault_nil (w : World) :
    Calls Tryd.prog 30 #[.nilIface] w fun e w' => e = .returned (.pointer none) ∧ Below w.heap.size w w' := by
  go_enter Tryd.func30, Tryd.ntmps30
  go_wp2_with (go_at_call 37; refine (unwrap_nil _).mono ?_; rintro e w' ⟨rfl, rfl⟩)
  go_ret
  exact ⟨rfl, below_oneE _ _⟩

theorem asFault_s (v : Value) (w : World) :
    Calls Tryd.prog 30 #[.iface 128 v] w fun e w' => e = .returned (.pointer none) ∧ Below w.heap.size w w' := by
  go_enter Tryd.func30, Tryd.ntmps30
  go_wp2_with (go_at_call 37; refine (unwrap_s _ _).mono ?_; rintro e w' ⟨rfl, rfl⟩)
  go_ret
  exact ⟨rfl, below_oneE _ _⟩

theorem asFault_m (v : Value) (w : World) :
    Calls Tryd.prog 30 #[.iface 73 v] w fun e w' => e = .returned (.pointer none) ∧ Below w.heap.size w w' := by
  go_enter Tryd.func30, Tryd.ntmps30
  go_wp2_with (go_at_call 37; refine (unwrap_m _ _).mono ?_; rintro e w' ⟨rfl, rfl⟩)
  go_ret
  exact ⟨rfl, below_oneE _ _⟩

set_option maxHeartbeats 400000 in
theorem asFault_f (b : Nat) (t : TypeId) (v : Value) (w : World) (hv : w.cell? ⟨b, 3, none⟩ = some (.iface t v))
    (hg : w.cell? ⟨3, 0, none⟩ = some (.iface 113 (.agg #[.pointer (some ⟨15, 35, none⟩)]))) :
    Calls Tryd.prog 30 #[.iface 64 (.pointer (some ⟨b, 0, none⟩))] w fun e w' => e = .returned (.pointer (some ⟨b, 0, none⟩)) ∧ Below w.heap.size w w' := by
  have hv2 : (w.alloc (.cells #[.pointer none] 64)).cell? ⟨b, 3, none⟩ = some (.iface t v) := by
    rw [World.cell?_alloc_lt _ _ ⟨b, 3, none⟩ (lt_of_cell hv)]; exact hv
  have hg2 := et_alloc (o := .cells #[.pointer none] 64) hg
  have ht2 : (w.alloc (.cells #[.pointer none] 64)).cell? ⟨w.heap.size, 0, none⟩ = some (.pointer none) := by simp
  have hf2 : (w.alloc (.cells #[.pointer none] 64)).frozen? ⟨w.heap.size, 0, none⟩ = false := by simp
  go_enter Tryd.func30, Tryd.ntmps30
  go_wp2_with (first | (go_at_call 37; refine (unwrap_f b _ _ hv2).mono ?_; rintro e w' ⟨rfl, rfl⟩) | (go_at_call 38; refine (as_hitFault _ _ (.pointer none) _ hg2 ht2 hf2).mono ?_; rintro e w' ⟨rfl, rfl⟩))
  go_ret
  refine ⟨rfl, ?_⟩
  exact bal (bal (bal (bal (below_oneE _ _) _) _) _) _

theorem asMany_nil (w : World) :
    Calls Tryd.prog 31 #[.nilIface] w fun e w' => e = .returned (.pointer none) ∧ Below w.heap.size w w' := by
  go_enter Tryd.func31, Tryd.ntmps31
  go_wp2_with (first | (go_at_call 37; refine (unwrap_nil _).mono ?_; rintro e w' ⟨rfl, rfl⟩) | (go_at_call 38; refine (as_nil _ _).mono ?_; rintro e w' ⟨rfl, rfl⟩))
  go_ret
  exact ⟨rfl, below_oneE _ _⟩

theorem asMany_f (b : Nat) (t : TypeId) (v : Value) (w : World) (hv : w.cell? ⟨b, 3, none⟩ = some (.iface t v)) :
    Calls Tryd.prog 31 #[.iface 64 (.pointer (some ⟨b, 0, none⟩))] w fun e w' => e = .returned (.pointer none) ∧ Below w.heap.size w w' := by
  have hv2 : (w.alloc (.cells #[.pointer none] 73)).cell? ⟨b, 3, none⟩ = some (.iface t v) := by
    rw [World.cell?_alloc_lt _ _ ⟨b, 3, none⟩ (lt_of_cell hv)]; exact hv
  go_enter Tryd.func31, Tryd.ntmps31
  go_wp2_with (go_at_call 37; refine (unwrap_f b _ _ hv2).mono ?_; rintro e w' ⟨rfl, rfl⟩)
  go_ret
  exact ⟨rfl, below_oneE _ _⟩

set_option maxHeartbeats 400000 in
theorem asMany_s (v : Value) (w : World)
    (hg : w.cell? ⟨3, 0, none⟩ = some (.iface 113 (.agg #[.pointer (some ⟨15, 35, none⟩)]))) :
    Calls Tryd.prog 31 #[.iface 128 v] w fun e w' => e = .returned (.pointer none) ∧ Below w.heap.size w w' := by
  have hg2 := et_alloc (o := .cells #[.pointer none] 73) hg
  go_enter Tryd.func31, Tryd.ntmps31
  go_wp2_with (first | (go_at_call 37; refine (unwrap_s _ _).mono ?_; rintro e w' ⟨rfl, rfl⟩) | (go_at_call 38; refine (as_missMany _ _ _ hg2).mono ?_; rintro e w' ⟨rfl, rfl⟩))
  go_ret
  exact ⟨rfl, bal (bal (bal (below_oneE _ _) _) _) _⟩

set_option maxHeartbeats 400000 in
theorem asMany_m (a : Addr) (w : World)
    (hg : w.cell? ⟨3, 0, none⟩ = some (.iface 113 (.agg #[.pointer (some ⟨15, 35, none⟩)]))) :
    Calls Tryd.prog 31 #[.iface 73 (.pointer (some a))] w fun e w' => e = .returned (.pointer (some a)) ∧ Below w.heap.size w w' := by
  have hg2 := et_alloc (o := .cells #[.pointer none] 73) hg
  have ht2 : (w.alloc (.cells #[.pointer none] 73)).cell? ⟨w.heap.size, 0, none⟩ = some (.pointer none) := by simp
  have hf2 : (w.alloc (.cells #[.pointer none] 73)).frozen? ⟨w.heap.size, 0, none⟩ = false := by simp
  go_enter Tryd.func31, Tryd.ntmps31
  go_wp2_with (first | (go_at_call 37; refine (unwrap_m _ _).mono ?_; rintro e w' ⟨rfl, rfl⟩) | (go_at_call 38; refine (as_hitMany _ _ (.pointer none) _ hg2 ht2 hf2).mono ?_; rintro e w' ⟨rfl, rfl⟩))
  go_ret
  exact ⟨rfl, bal (bal (bal (bal (below_oneE _ _) _) _) _) _⟩

/-- errors.Is of two reasons. -/
theorem is_rsn {ad : Nat → Addr} {w : World} (L : Laid ad w) (j k : Nat) (hj : j < 14) (hk : k < 14) :
    Calls Tryd.prog 49 #[.iface 128 (.pointer (some (ad j))), .iface 128 (.pointer (some (ad k)))] w fun e w' => e = .returned (.bool (decide (j = k))) ∧ w' = w := by
  by_cases h : j = k
  · subst h
    simpa using is_same (ad j) w
  · obtain ⟨c1, t1, h1⟩ := L.row j hj
    obtain ⟨c2, t2, h2⟩ := L.row k hk
    simpa [h] using is_other (ad j) (ad k) c1 c2 t1 t2 w (L.ne j k hj hk h) h1 h2

/-- fault.number of a reason: its place and one; of ErrOther 0. -/
def numb (k : Nat) : Int := if k < 13 then (k : Int) + 1 else 0

set_option maxHeartbeats 1000000 in
theorem number_rsn {ad : Nat → Addr} {w : World} (L : Laid ad w) (k : Nat) (hk : k < 14) :
    Calls Tryd.prog 43 #[.iface 128 (.pointer (some (ad k)))] w fun e w' => e = .returned (.int .i64 (numb k)) ∧ Below w.heap.size w w' := by
  go_enter Tryd.func43, Tryd.ntmps43
  go_wp2
  go_loopw [3] (fun i wr => ∃ j : Nat, i = .int .i64 ((j : Int) + 1) ∧ j ≤ k ∧ Below w.heap.size w wr) (fun i _ => 14 - (intOf i).toNat)
  case atStart => exact ⟨0, rfl, Nat.zero_le _, Below.refl _ _⟩
  case round =>
    obtain ⟨j, rfl, hjk, hb⟩ := hrel
    have L1 := L.below hb
    by_cases h13 : j < 13
    · by_cases he : k = j
      · subst he
        go_wp2_with (first | (go_at_call 50; refine (named_ok L1 k h13).mono ?_; rintro e w1 ⟨rfl, hb1⟩) | (go_at_call 49; refine (is_same _ _).mono ?_; rintro e w2 ⟨rfl, rfl⟩))
        go_ret
        exact ⟨by simp [numb, h13], bgoE hb hb1⟩
      · have hkj : decide (k = j) = false := by simpa using he
        go_wp2_with (first | (go_at_call 50; refine (named_ok L1 j h13).mono ?_; rintro e w1 ⟨rfl, hb1⟩) | (go_at_call 49; refine (is_rsn (L1.below hb1) k j hk (by omega)).mono ?_; rintro e w2 ⟨rfl, rfl⟩))
        go_roundw
        case rel => exact ⟨j + 1, by go_num, by omega, bgoE hb hb1⟩
        case measure => simp [intOf]; omega
    · go_wp2
      go_ret
      exact ⟨by simp [numb]; omega, hb⟩

theorem number_yes {ad : Nat → Addr} {w : World} (L : Laid ad w) (k : Nat) (hk : k < 13) :
    Calls Tryd.prog 43 #[.iface 128 (.pointer (some (ad k)))] w fun e w' => e = .returned (.int .i64 ((k : Int) + 1)) ∧ Below w.heap.size w w' := by
  simpa [numb, hk] using number_rsn L k (by omega)

theorem number_other {ad : Nat → Addr} {w : World} (L : Laid ad w) :
    Calls Tryd.prog 43 #[.iface 128 (.pointer (some (ad 13)))] w fun e w' => e = .returned (.int .i64 0) ∧ Below w.heap.size w w' := by
  simpa [numb] using number_rsn L 13 (by omega)

set_option maxHeartbeats 1000000 in
theorem number_nil {ad : Nat → Addr} {w : World} (L : Laid ad w) :
    Calls Tryd.prog 43 #[.nilIface] w fun e w' => e = .returned (.int .i64 0) ∧ Below w.heap.size w w' := by
  go_enter Tryd.func43, Tryd.ntmps43
  go_wp2
  go_loopw [3] (fun i wr => ∃ j : Nat, i = .int .i64 ((j : Int) + 1) ∧ Below w.heap.size w wr) (fun i _ => 14 - (intOf i).toNat)
  case atStart => exact ⟨0, rfl, Below.refl _ _⟩
  case round =>
    obtain ⟨j, rfl, hb⟩ := hrel
    have L1 := L.below hb
    by_cases h13 : j < 13
    · go_wp2_with (first | (go_at_call 50; refine (named_ok L1 j h13).mono ?_; rintro e w1 ⟨rfl, hb1⟩) | (go_at_call 49; refine (is_nil _ _).mono ?_; rintro e w2 ⟨rfl, rfl⟩))
      go_roundw
      case rel => exact ⟨j + 1, by go_num, bgoE hb hb1⟩
      case measure => simp [intOf]; omega
    · go_wp2
      go_ret
      exact ⟨rfl, hb⟩
end Go.Proofs.YthabeapgkaggmaaDoor
