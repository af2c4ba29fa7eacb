
/-
  Trees: Len, Weight, New, Insert into an empty one.
-/
import Derived.Test.YtdihbgmjnfpppaaGreatDoorTrNew
namespace Go.Proofs.YtdihbgmjnfpppaaGreatDoor
open Go.RowKit
set_option maxRecDepth 100000

/-- A tree of a row, in memory. -/
def TrAt (R : Rows) (b : Nat) (ch : Nat) (l : List El) (w : World) : Prop := (l = [] ∧ RowAt b #[.int .i64 (ch : Int), .pointer none] 89 w) ∨ ∃ t : Nd, RowAt b #[.int .i64 (ch : Int), pv t.blk] 89 w ∧ t.At R w ∧ t.Full ∧ t.els = l
theorem TrAt.later {R : Rows} {b ch : Nat} {l : List El} {w w' : World} (h : TrAt R b ch l w) (hb : Below w.heap.size w w') : TrAt R b ch l w' := by
  rcases h with ⟨h1, h2⟩ | ⟨t, h1, h2, h3⟩
  · exact .inl ⟨h1, h2.later hb⟩
  · exact .inr ⟨t, h1.later hb, h2.later hb, h3⟩

set_option maxHeartbeats 400000 in
theorem new_ok (ch : Nat) (w : World) (h1 : 2 ≤ ch) (h2 : ch ≤ 64) :
    Calls Tryz.prog 38 #[.int .i64 (ch : Int)] w fun r w' => r = .returned (.tuple #[pv w.heap.size, .nilIface]) ∧ RowAt w.heap.size #[.int .i64 (ch : Int), .pointer none] 89 w' ∧ Below w.heap.size w w' := by
  have e1 : ¬ (ch : Int) < 2 := by omega
  have e2 : ¬ (64 : Int) < (ch : Int) := by omega
  go_enter Tryz.func38, Tryz.ntmps38
  go_wp2
  go_ret2
  exact ⟨rfl, row_new w _ _, below_one _ _⟩
set_option maxHeartbeats 400000 in
theorem sizeOf_nil (w : World) : Calls Tryz.prog 60 #[.pointer none] w fun r w' => r = .returned (.int .i64 0) ∧ w' = w := by
  go_enter Tryz.func60, Tryz.ntmps60
  go_wp2
  go_ret
  exact ⟨rfl, rfl⟩
set_option maxHeartbeats 400000 in
theorem sizeOf_some {R : Rows} {t : Nd} {w : World} (ht : t.At R w) : Calls Tryz.prog 60 #[pv t.blk] w fun r w' => r = .returned (.int .i64 (t.els.length : Int)) ∧ w' = w := by
  obtain ⟨a1, a2, a3, hr⟩ := ht.row
  have c1 := hr.cell 4
  simp only [ndc] at c1
  unfold pv
  go_enter Tryz.func60, Tryz.ntmps60
  go_wp2
  go_ret
  exact ⟨rfl, rfl⟩
set_option maxHeartbeats 400000 in
theorem len_any {R : Rows} {b ch : Nat} {l : List El} {w : World} (h : TrAt R b ch l w) : Calls Tryz.prog 42 #[pv b] w fun r w' => r = .returned (.int .i64 (l.length : Int)) ∧ w' = w := by
  unfold pv
  rcases h with ⟨rfl, h1⟩ | ⟨t, h1, h2, _, rfl⟩
  · have c1 := h1.cell 1
    go_enter Tryz.func42, Tryz.ntmps42
    go_wp2_with (go_at_call 60; refine (sizeOf_nil _).mono ?_; rintro r w1 ⟨rfl, hw⟩; obtain rfl := hw.symm)
    go_ret
    exact ⟨rfl, rfl⟩
  · have c1 := h1.cell 1
    simp only [pv] at c1
    have HS := hid_of' (sizeOf_some h2)
    unfold pv at HS
    go_enter Tryz.func42, Tryz.ntmps42
    go_wp2_with (go_at_call 60; refine HS.out.mono ?_; rintro r w1 ⟨rfl, hw⟩; obtain rfl := hw.symm)
    go_ret
    exact ⟨rfl, rfl⟩
set_option maxHeartbeats 400000 in
theorem weightT_some {R : Rows} {b ch : Nat} {t : Nd} {w : World} (h1 : RowAt b #[.int .i64 (ch : Int), pv t.blk] 89 w) (h2 : t.At R w) :
    Calls Tryz.prog 124 #[pv b] w fun r w' => r = .returned (wv (liveL t.els) (lineL t.els)) ∧ Below w.heap.size w w' := by
  obtain ⟨a1, a2, a3, hr⟩ := h2.row
  have k1 := h1.later (below_one w (.cells #[.int .i64 0, .int .i64 0] 123))
  have k2 := (hr.later (below_one w (.cells #[.int .i64 0, .int .i64 0] 123))).in.sub 5 (ds := #[.int .i64 (liveL t.els), .int .i64 (lineL t.els)]) (fun j v hv => by match j, hv with | 0, hv => exact hv | 1, hv => exact hv | j + 2, hv => simp at hv)
  have c1 := k1.cell 1
  simp only [pv] at c1
  rw [Nat.zero_add] at k2
  unfold pv
  go_enter Tryz.func124, Tryz.ntmps124
  go_wp2_with (first | (refine wpL_loadW rfl _ rfl rfl k2 ?_; unfold wv) | (refine wpL_storeW rfl _ _ rfl rfl rfl (row_new w _ _) ?_))
  exact bodyPost_ret (v := wv (liveL t.els) (lineL t.els)) (results_w (fn := Tryz.f124) (p := 2) rfl rfl ((row_new w _ _).put _)) rfl ⟨rfl, below_row (below_one _ _) (by omega) _⟩
set_option maxHeartbeats 400000 in
theorem hasRoom_nil {b ch : Nat} {w : World} (i n : Int) (h1 : RowAt b #[.int .i64 (ch : Int), .pointer none] 89 w) :
    Calls Tryz.prog 44 #[pv b, .int .i64 i, .int .i64 n] w fun r w' => r = .returned (.bool false) ∧ w' = w := by
  have c1 := h1.cell 1
  unfold pv
  go_enter Tryz.func44, Tryz.ntmps44
  go_wp2
  go_ret
  exact ⟨rfl, rfl⟩
end Go.Proofs.YtdihbgmjnfpppaaGreatDoor
