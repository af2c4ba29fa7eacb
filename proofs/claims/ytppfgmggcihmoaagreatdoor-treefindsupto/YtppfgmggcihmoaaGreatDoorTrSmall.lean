/-
  barrowlaw04: begun, no; barrowref05.Weigh.
-/
import Derived.Test.YtppfgmggcihmoaaGreatDoorTrBef
import Derived.Test.YtppfgmggcihmoaaGreatDoorTrCut5
import Derived.Test.YtppfgmggcihmoaaGreatDoorTrIntact
import Derived.Test.YtppfgmggcihmoaaGreatDoorTrRef0
namespace Go.Proofs.YtppfgmggcihmoaaGreatDoor
open Go.RowKit
set_option maxRecDepth 100000

theorem results_cell_row' {fn : Func} {p : Tmp} {tmps : Array Value} {w : World} {g : Nat} {code : Int} {a a' : Option Addr} {n c n' c' : Nat} (h : fn.results = #[.cell p 61]) (hp : tmps.getD p undef = .pointer (some ⟨g, 0, none⟩)) (hg : RowAt g (nov code a n c a' n' c') 61 w) :
    (results fn tmps).run Tryz.prog w = .ok (.agg (nov code a n c a' n' c')) w := by
  have hp' : tmps[p]?.getD undef = .pointer (some ⟨g, 0, none⟩) := by simpa using hp
  simp [results, h, hp', asAddr, run_loadVar_row w g _ _ _ _ _ hg Tryz.underlying61 rfl no_size]
theorem within_small (k m : Nat) (w : World) (hk : k < m) (_hm2 : m ≤ 1073741824) :
    Calls Tryz.prog 7 #[.int .i64 (k : Int), .int .i64 (m : Int)] w fun r w' => r = .returned (.int .i64 (k : Int)) ∧ w' = w := by
  have m0 : ((m : Int) == 0) = false := by rw [beq_eq_false_iff_ne]; omega
  have t1 : (k : Int).tmod (m : Int) = (k : Int) := Int.tmod_eq_of_lt (by omega) (by omega)
  have t2 : ¬ (k : Int) < 0 := by omega
  go_enter Tryz.func7, Tryz.ntmps7
  go_wp2
  go_ret
  exact ⟨rfl, rfl⟩
set_option maxHeartbeats 1000000 in
theorem begun_any (n : Int) (w : World) (h1 : -9223372036854775808 ≤ n) (h2 : n ≤ 9223372036854775807) : Calls Tryz.prog 6 #[.int .i64 n] w fun r w' => ∃ (pb tb ch : Nat), 2 ≤ ch ∧ ch ≤ 64 ∧ r = .returned (pv pb) ∧ w.heap.size ≤ tb ∧ tb < pb ∧ RowAt pb #[pv tb, .slice none 0 0, .int .i64 (ch : Int)] 34 w' ∧ RowAt tb #[.int .i64 (ch : Int), .pointer none] 76 w' ∧ Below w.heap.size w w' := by
  have HW := hid_of' (within_any n 63 w (by decide) (by decide) h1 h2)
  rw [show ((63 : Nat) : Int) = 63 from rfl] at HW
  have HN : Hid (∀ c : Nat, 2 ≤ c → c ≤ 64 → _) := fun c (h1 : 2 ≤ c) (h2 : c ≤ 64) => new_ok c w h1 h2
  unfold pv at *
  go_enter Tryz.func6, Tryz.ntmps6
  go_wp2_with (first | (go_at_call 7; refine HW.out.mono ?_; rintro r w1 ⟨k, hk, rfl, hw⟩; obtain rfl := hw.symm; obtain ⟨c, hc⟩ : ∃ c, k + 2 = c := ⟨_, rfl⟩; have hk2 : (2 : Int) + (k : Int) = (c : Int) := (by omega); have hk3 : (k : Int) ≤ 63 := (by omega)) | (go_at_call 19; (with_reducible refine (HN.out c (by omega) (by omega)).mono ?_); rintro r w1 ⟨rfl, hr1, hb1⟩))
  go_ret
  have hlt := hr1.lt
  exact ⟨w1.heap.size, w.heap.size, c, by omega, by omega, rfl, Nat.le_refl _, hlt, row_new w1 _ _, hr1.later (below_one _ _), bgo hb1 (below_one _ _)⟩
set_option maxHeartbeats 1000000 in
theorem no_false (s : ByteArray) (i : Int) (w : World) : Calls Tryz.prog 25 #[.string s, .int .i64 i, .bool false] w fun r w' => r = .returned (.agg (nov 0 none 0 0 none 0 0)) ∧ Below w.heap.size w w' := by
  unfold nov
  go_enter Tryz.func25, Tryz.ntmps25
  go_wp2
  exact bodyPost_ret (v := .agg (nov 0 none 0 0 none 0 0)) (results_cell_row' (fn := Tryz.f25) (p := 6) rfl rfl (row_new w _ _)) rfl ⟨rfl, below_one _ _⟩
set_option maxHeartbeats 1000000 in
theorem live_any (e : El) (w : World) : Calls Tryz.prog 39 #[.agg (ev e)] w fun r w' => r = .returned (.bool (decide (e.hd ≤ 0))) ∧ Below w.heap.size w w' := by
  unfold ev
  go_enter Tryz.func39, Tryz.ntmps39
  go_wp2
  go_ret
  exact ⟨rfl, below_one _ _⟩
set_option maxHeartbeats 1000000 in
theorem refWeigh_any (e : El) (w : World) : Calls Tryz.prog 15 #[.agg (ev e)] w fun r w' => r = .returned (wv (wLive e) (wLine e)) ∧ Below w.heap.size w w' := by
  have HL := hid_of' (live_any e)
  have hr2 := row_new2 w (.cells (ev e) 39) #[.int .i64 0, .int .i64 0] 42
  have hr1 := (row_new w (ev e) 39).later (below_one _ (.cells #[.int .i64 0, .int .i64 0] 42))
  have hB := below_two w (.cells (ev e) 39) (.cells #[.int .i64 0, .int .i64 0] 42)
  unfold wLive wLine
  by_cases h : e.hd > 0
  · rw [if_pos h, if_pos h]
    have hd : decide (e.hd ≤ 0) = false := decide_eq_false (by omega)
    rw [hd] at HL
    go_enter Tryz.func15, Tryz.ntmps15
    go_wp2_with (first | (refine wpL_loadE rfl _ rfl rfl hr1.in ?_) | (go_at_call 39; refine (HL.out _).mono ?_; rintro r w1 ⟨rfl, hb1⟩) | (refine wpL_storeW rfl _ _ rfl rfl rfl (hr2.later hb1) ?_))
    exact bodyPost_ret (v := wv 0 0) (results_w (fn := Tryz.f15) (p := 2) rfl rfl ((hr2.later hb1).put _)) rfl ⟨rfl, below_row (bgo hB hb1) (by omega) _⟩
  · rw [if_neg h, if_neg h]
    have hd : decide (e.hd ≤ 0) = true := decide_eq_true (by omega)
    rw [hd] at HL
    by_cases h2 : e.ch = 10
    · rw [if_pos h2]
      have h3 : (e.ch == 10) = true := by rw [beq_iff_eq]; exact h2
      go_enter Tryz.func15, Tryz.ntmps15
      go_wp2_with (first | (refine wpL_loadE rfl _ rfl rfl hr1.in ?_) | (go_at_call 39; refine (HL.out _).mono ?_; rintro r w1 ⟨rfl, hb1⟩; have c3 : w1.cell? ⟨w.heap.size, 3, none⟩ = some (.int .i32 e.ch) := (hr1.later hb1).cell 3) | (refine wpL_storeW rfl _ _ rfl rfl rfl (hr2.later hb1) ?_))
      exact bodyPost_ret (v := wv 1 1) (results_w (fn := Tryz.f15) (p := 2) rfl rfl ((hr2.later hb1).put _)) rfl ⟨rfl, below_row (bgo hB hb1) (by omega) _⟩
    · rw [if_neg h2]
      have h3 : (e.ch == 10) = false := by rw [beq_eq_false_iff_ne]; exact h2
      go_enter Tryz.func15, Tryz.ntmps15
      go_wp2_with (first | (refine wpL_loadE rfl _ rfl rfl hr1.in ?_) | (go_at_call 39; refine (HL.out _).mono ?_; rintro r w1 ⟨rfl, hb1⟩; have c3 : w1.cell? ⟨w.heap.size, 3, none⟩ = some (.int .i32 e.ch) := (hr1.later hb1).cell 3) | (refine wpL_storeW rfl _ _ rfl rfl rfl (hr2.later hb1) ?_))
      exact bodyPost_ret (v := wv 1 0) (results_w (fn := Tryz.f15) (p := 2) rfl rfl ((hr2.later hb1).put _)) rfl ⟨rfl, below_row (bgo hB hb1) (by omega) _⟩
end Go.Proofs.YtppfgmggcihmoaaGreatDoor
