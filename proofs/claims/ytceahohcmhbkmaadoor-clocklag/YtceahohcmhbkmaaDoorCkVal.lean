/-
  clock.Valid and the document's; barrowlaw03.ClockLag answers true.
-/
import Derived.Test.YtceahohcmhbkmaaDoorCkLag
namespace Go.Proofs.YtceahohcmhbkmaaDoor
open Go.RowKit
set_option maxRecDepth 100000

/-- Valid. -/
def vldC (a : List Int) (n : Int) : Bool := decide (0 ≤ n ∧ n ≤ 8) && (List.range 8).all fun k => decide (0 ≤ en a k ∧ ((k : Int) < n ∨ en a k = 0))
theorem vldC_out {a : List Int} {n : Int} (h : n < 0 ∨ 8 < n) : vldC a n = false := by
  unfold vldC; rw [decide_eq_false (by omega)]; rfl
theorem vldC_iff {a : List Int} {n : Int} (h0 : 0 ≤ n) (h8 : n ≤ 8) : vldC a n = true ↔ ∀ k, k < 8 → 0 ≤ en a k ∧ ((k : Int) < n ∨ en a k = 0) := by
  unfold vldC
  rw [decide_eq_true ⟨h0, h8⟩, Bool.true_and, List.all_eq_true]
  exact ⟨fun h k hk => of_decide_eq_true (h k (List.mem_range.2 hk)), fun h k hk => decide_eq_true (h k (List.mem_range.1 hk))⟩
theorem en_ck0 (k : Nat) : en ck0 k = 0 := by
  unfold en ck0
  match k with
  | 0 | 1 | 2 | 3 | 4 | 5 | 6 | 7 => rfl
  | k + 8 => simp [List.getD]
theorem vldC_eq {a x : List Int} {n : Nat} (hn : n ≤ 8) (hx : upTo (fun _ _ => 0) a a n x) : ((x == ck0) && cov a ck0) = vldC a (n : Int) := by
  rw [Bool.eq_iff_iff, Bool.and_eq_true, beq_iff_eq, cov_iff, vldC_iff (by omega) (by omega)]
  constructor
  · rintro ⟨h1, h2⟩ k hk
    have h3 := h2 k hk
    rw [en_ck0] at h3
    refine ⟨h3, ?_⟩
    by_cases e : k < n
    · left; omega
    · right
      have h4 := hx.2 k hk
      rw [if_neg e, h1, en_ck0] at h4
      exact h4.symm
  · intro h
    refine ⟨ck_ext hx.1 rfl fun k hk => ?_, fun k hk => by rw [en_ck0]; exact (h k hk).1⟩
    rw [hx.2 k hk, en_ck0]
    by_cases e : k < n
    · rw [if_pos e]
    · rw [if_neg e]
      rcases (h k hk).2 with h5 | h5
      · omega
      · exact h5

theorem start1 (w : World) {a : List Int} (ha : a.length = 8) : CkAt w.heap.size a (w.alloc (.cells (cv a) 23)) ∧ Below w.heap.size w (w.alloc (.cells (cv a) 23)) := ⟨CkAt.new w ha, below_one w _⟩

set_option maxHeartbeats 1000000 in
theorem valid_out (a : List Int) (n : Int) (w : World) (h : n < 0 ∨ 8 < n) :
    Calls Tryd.prog 27 #[.agg (cv a), .int .i64 n] w fun e w' => e = .returned (.bool (vldC a n)) ∧ Below w.heap.size w w' := by
  rw [vldC_out h]
  rcases h with h | h
  · go_enter Tryd.func27, Tryd.ntmps27
    go_wp2
    go_ret
    exact ⟨rfl, below_one _ _⟩
  · have h0 : ¬ n < 0 := by omega
    go_enter Tryd.func27, Tryd.ntmps27
    go_wp2
    go_ret
    exact ⟨rfl, below_one _ _⟩

set_option maxHeartbeats 1000000 in
theorem valid_in (a : List Int) (n : Nat) (w : World) (ha : a.length = 8) (hn : n ≤ 8) :
    Calls Tryd.prog 27 #[.agg (cv a), .int .i64 (n : Int)] w fun e w' => e = .returned (.bool (vldC a (n : Int))) ∧ Below w.heap.size w w' := by
  have hn8 : ¬ (8 : Int) < (n : Int) := by omega
  obtain ⟨h1, hB⟩ := start1 w ha
  obtain ⟨h2, h5, hB2⟩ := start2 w ha (b := ck0) rfl
  obtain ⟨i1, i2, i3, iB⟩ := start3 w ha (b := ck0) rfl
  go_enter Tryd.func27, Tryd.ntmps27
  go_upto_region 5 with (first | (refine wpL_load rfl _ rfl rfl h2 ?_) | (refine wpL_store rfl _ _ rfl rfl rfl i3 ha ?_))
  have g1 := i1.rowOther (w.heap.size + 2) (cv a) (by omega)
  have g2 := i2.rowOther (w.heap.size + 2) (cv a) (by omega)
  have g3 := i3.row ha
  have gB := below_row iB (g := w.heap.size + 2) (by omega) (cv a)
  clear h1 hB h2 h5 hB2 i1 i2 i3 iB
  go_wp2
  go_loopw [7, 16] (fun _ i wr => ∃ (k : Nat) (x : List Int), i = .int .i64 (k : Int) ∧ k ≤ n ∧ upTo (fun _ _ => 0) a a k x ∧ CkAt w.heap.size a wr ∧ CkAt (w.heap.size + 1) ck0 wr ∧ CkAt (w.heap.size + 2) x wr ∧ Below w.heap.size w wr) (fun _ i _ => n - (intOf i).toNat)
  case atStart => exact ⟨0, a, rfl, by omega, upTo.zero ha, g1, g2, g3, gB⟩
  case round =>
    clear g1 g2 g3 gB
    obtain ⟨k, x, rfl, hk, hu, h1, h2, h3, hbl⟩ := hrel
    by_cases hlt : k < n
    · have hki : (k : Int) < (n : Int) := by omega
      have hk8 : (k : Int) < 8 := by omega
      have c3 := h3.cell (k := k) (by omega)
      have f3 := h3.frozen k
      go_wp2
      go_roundw
      case rel => exact ⟨k + 1, _, by go_num, by omega, hu.next (by omega), h1.other ⟨w.heap.size + 2, k, none⟩ _ (by show ¬ _ = _ + 2; omega), h2.other ⟨w.heap.size + 2, k, none⟩ _ (by show ¬ _ + 1 = _ + 2; omega), h3.set k _, hbl.setCell (by show _ ≤ _ + 2; omega) _⟩
      case measure => simp [intOf]; omega
    · have hki : ¬ (k : Int) < (n : Int) := by omega
      have e : k = n := by omega
      have hv := vldC_eq hn (e ▸ hu)
      have hq := eqIn_ck x ck0 hu.1 rfl
      clear e
      have hg := ck_guard
      have hB := hbl
      cases he : (x == ck0)
      · rw [he, Bool.false_and] at hv
        have HV : Hid (vldC a (n : Int) = false) := hv.symm
        clear hv
        go_upto_region 10 with fail
        refine wp_region_cls0 ?_
        repeat (first | go_big_quiet_skip | (go_big_quiet_want; first | (refine quiet_load_ck _ rfl rfl (cls_ck h1) ?_; simp only [Act.put, List.setIfInBounds_toArray, List.set_cons_succ, List.set_cons_zero]; go_big_quiet_on) | (refine quiet_load_ck _ rfl rfl (cls_ck h2) ?_; simp only [Act.put, List.setIfInBounds_toArray, List.set_cons_succ, List.set_cons_zero]; go_big_quiet_on) | (refine quiet_load_ck _ rfl rfl (cls_ck h3) ?_; simp only [Act.put, List.setIfInBounds_toArray, List.set_cons_succ, List.set_cons_zero]; go_big_quiet_on) | (go_big_quiet_op; first | go_big_quiet_on | go_big_quiet_call ((fail)))))
        refine wpQuiet_nil ?_
        rintro w1 ⟨s1, e1⟩
        have hb1 := wOf_below s1
        rw [← e1] at hb1
        clear e1 s1
        replace h1 := h1.later hb1
        replace h2 := h2.later hb1
        replace h3 := h3.later hb1
        replace hB := bgo hB hb1
        clear hb1
        go_wp2
        go_ret
        exact ⟨by rw [HV.out]; rfl, hB⟩
      · rw [he, Bool.true_and] at hv
        go_upto_region 10 with fail
        refine wp_region_cls0 ?_
        repeat (first | go_big_quiet_skip | (go_big_quiet_want; first | (refine quiet_load_ck _ rfl rfl (cls_ck h1) ?_; simp only [Act.put, List.setIfInBounds_toArray, List.set_cons_succ, List.set_cons_zero]; go_big_quiet_on) | (refine quiet_load_ck _ rfl rfl (cls_ck h2) ?_; simp only [Act.put, List.setIfInBounds_toArray, List.set_cons_succ, List.set_cons_zero]; go_big_quiet_on) | (refine quiet_load_ck _ rfl rfl (cls_ck h3) ?_; simp only [Act.put, List.setIfInBounds_toArray, List.set_cons_succ, List.set_cons_zero]; go_big_quiet_on) | (go_big_quiet_op; first | go_big_quiet_on | go_big_quiet_call ((go_at_call 9; exact cls_of (covers_is hv _ ha rfl))))))
        refine wpQuiet_nil ?_
        rintro w1 ⟨s1, e1⟩
        have hb1 := wOf_below s1
        rw [← e1] at hb1
        clear e1 s1
        replace h1 := h1.later hb1
        replace h2 := h2.later hb1
        replace h3 := h3.later hb1
        replace hB := bgo hB hb1
        clear hb1
        go_wp2
        go_ret
        exact ⟨rfl, hB⟩

theorem valid_any (a : List Int) (n : Int) (w : World) (ha : a.length = 8) :
    Calls Tryd.prog 27 #[.agg (cv a), .int .i64 n] w fun e w' => e = .returned (.bool (vldC a n)) ∧ Below w.heap.size w w' := by
  by_cases h : n < 0 ∨ 8 < n
  · exact valid_out a n w h
  · obtain ⟨m, rfl⟩ := Int.eq_ofNat_of_zero_le (show 0 ≤ n by omega)
    exact valid_in a m w ha (by omega)

set_option maxHeartbeats 1000000 in
theorem refValid_out (a : List Int) (n : Int) (w : World) (h : n < 0 ∨ 8 < n) :
    Calls Tryd.prog 28 #[.agg (cv a), .int .i64 n] w fun e w' => e = .returned (.bool (vldC a n)) ∧ Below w.heap.size w w' := by
  rw [vldC_out h]
  rcases h with h | h
  · go_enter Tryd.func28, Tryd.ntmps28
    go_wp2
    go_ret
    exact ⟨rfl, below_one _ _⟩
  · have h0 : ¬ n < 0 := by omega
    go_enter Tryd.func28, Tryd.ntmps28
    go_wp2
    go_ret
    exact ⟨rfl, below_one _ _⟩

set_option maxHeartbeats 1000000 in
theorem refValid_in (a : List Int) (n : Nat) (w : World) (ha : a.length = 8) (hn : n ≤ 8) :
    Calls Tryd.prog 28 #[.agg (cv a), .int .i64 (n : Int)] w fun e w' => e = .returned (.bool (vldC a (n : Int))) ∧ Below w.heap.size w w' := by
  have hn8 : ¬ (8 : Int) < (n : Int) := by omega
  go_enter Tryd.func28, Tryd.ntmps28
  go_wp2
  go_loopw [5] (fun i wr => ∃ k : Nat, i = .int .i64 (k : Int) ∧ k ≤ 8 ∧ (∀ j, j < k → 0 ≤ en a j ∧ ((j : Int) < (n : Int) ∨ en a j = 0)) ∧ CkAt w.heap.size a wr ∧ Below w.heap.size w wr) (fun i _ => 8 - (intOf i).toNat)
  case atStart => exact ⟨0, rfl, by omega, fun j hj => by omega, start1 w ha⟩
  case round =>
    obtain ⟨k, rfl, hk, hu, h1, hbl⟩ := hrel
    by_cases hlt : k < 8
    · have hki : (k : Int) < 8 := by omega
      have c1 := h1.cell hlt
      have no : ¬ (0 ≤ en a k ∧ ((k : Int) < (n : Int) ∨ en a k = 0)) → Hid (vldC a (n : Int) = false) := fun h => by
        rw [Hid, Bool.eq_false_iff]
        intro hv
        exact h ((vldC_iff (by omega) (by omega)).1 hv k hlt)
      have yes : (0 ≤ en a k ∧ ((k : Int) < (n : Int) ∨ en a k = 0)) → Hid (∀ j, j < k + 1 → 0 ≤ en a j ∧ ((j : Int) < (n : Int) ∨ en a j = 0)) := fun h j hj => by
        by_cases e : j = k
        · subst e; exact h
        · exact hu j (by omega)
      by_cases hneg : en a k < 0
      · have HN := no (by omega)
        clear no yes
        go_wp2
        go_ret
        exact ⟨by rw [HN.out]; rfl, hbl⟩
      · by_cases hge : (n : Int) ≤ (k : Int)
        · by_cases hz : en a k = 0
          · have HN := yes (by omega)
            clear no yes
            go_wp2
            go_roundw
            case rel => exact ⟨k + 1, by go_num, by omega, HN.out, h1, hbl⟩
            case measure => simp [intOf]; omega
          · have HN := no (by omega)
            clear no yes
            go_wp2
            go_ret
            exact ⟨by rw [HN.out]; rfl, hbl⟩
        · have HN := yes (by omega)
          clear no yes
          go_wp2
          go_roundw
          case rel => exact ⟨k + 1, by go_num, by omega, HN.out, h1, hbl⟩
          case measure => simp [intOf]; omega
    · have hki : ¬ (k : Int) < 8 := by omega
      obtain rfl : k = 8 := by omega
      have HN : Hid (vldC a (n : Int) = true) := (vldC_iff (by omega) (by omega)).2 hu
      go_wp2
      go_ret
      exact ⟨by rw [HN.out]; rfl, hbl⟩

theorem refValid_any (a : List Int) (n : Int) (w : World) (ha : a.length = 8) :
    Calls Tryd.prog 28 #[.agg (cv a), .int .i64 n] w fun e w' => e = .returned (.bool (vldC a n)) ∧ Below w.heap.size w w' := by
  by_cases h : n < 0 ∨ 8 < n
  · exact refValid_out a n w h
  · obtain ⟨m, rfl⟩ := Int.eq_ofNat_of_zero_le (show 0 ≤ n by omega)
    exact refValid_in a m w ha (by omega)

set_option maxHeartbeats 2000000 in
theorem lagC_ok (a b : List Int) (n : Int) (w : World) (ha : Ck a) (hb : Ck b) :
    Calls Tryd.prog 6 #[.agg (cv a), .agg (cv b), .int .i64 n] w fun e w' => e = .returned (.bool true) ∧ Below w.heap.size w w' := by
  obtain ⟨h1, h2, hB⟩ := start2 w ha.1 hb.1
  obtain ⟨L, hL⟩ : ∃ L, lagC a b = L := ⟨_, rfl⟩
  have hz := lagC_zero a b
  have hn := lagC_nonneg a b
  have c1 := lag_any a b
  have c2 := refLag_any a b
  rw [hL] at hz hn c1 c2
  have hn' : ¬ L < 0 := by omega
  have s1 : (L == L) = true := by simp
  have s2 : (cov a b == cov a b) = true := by simp
  have s3 : (vldC a n == vldC a n) = true := by simp
  have s4 : (vldC b 8 == vldC b 8) = true := by simp
  have s5 : (vldC b 2 == vldC b 2) = true := by simp
  have C1 := fun w => c1 w ha hb
  have C2 := fun w => c2 w ha hb
  clear c1 c2 hL
  have H1 : Hid (∀ w, Calls Tryd.prog 23 #[.agg (cv a), .agg (cv b)] w fun e w' => e = .returned (.int .i64 L) ∧ Below w.heap.size w w') := C1
  have H2 : Hid (∀ w, Calls Tryd.prog 26 #[.agg (cv a), .agg (cv b)] w fun e w' => e = .returned (.int .i64 L) ∧ Below w.heap.size w w') := C2
  clear C1 C2
  go_enter Tryd.func6, Tryd.ntmps6
  go_upto_region 1 with fail
  refine wp_region_cls0 ?_
  repeat (first | go_big_quiet_skip | (go_big_quiet_want; first | (refine quiet_load_ck _ rfl rfl (cls_ck h1) ?_; simp only [Act.put, List.setIfInBounds_toArray, List.set_cons_succ, List.set_cons_zero]; go_big_quiet_on) | (refine quiet_load_ck _ rfl rfl (cls_ck h2) ?_; simp only [Act.put, List.setIfInBounds_toArray, List.set_cons_succ, List.set_cons_zero]; go_big_quiet_on) | (go_big_quiet_op; first | go_big_quiet_on | go_big_quiet_call ((go_at_call 23; exact cls_of (H1.out _))))))
  refine wpQuiet_nil ?_
  rintro w1 ⟨s1, e1⟩
  have hb1 := wOf_below s1
  rw [← e1] at hb1
  clear e1 s1
  replace h1 := h1.later hb1
  replace h2 := h2.later hb1
  replace hB := bgo hB hb1
  clear hb1
  go_upto_region 2 with fail
  refine wp_region_cls0 ?_
  repeat (first | go_big_quiet_skip | (go_big_quiet_want; first | (refine quiet_load_ck _ rfl rfl (cls_ck h1) ?_; simp only [Act.put, List.setIfInBounds_toArray, List.set_cons_succ, List.set_cons_zero]; go_big_quiet_on) | (refine quiet_load_ck _ rfl rfl (cls_ck h2) ?_; simp only [Act.put, List.setIfInBounds_toArray, List.set_cons_succ, List.set_cons_zero]; go_big_quiet_on) | (go_big_quiet_op; first | go_big_quiet_on | go_big_quiet_call ((first | (go_at_call 26; exact cls_of (H2.out _)) | (go_at_call 9; exact cls_of (covers_any _ _ _ ha.1 hb.1)))))))
  refine wpQuiet_nil ?_
  rintro w1 ⟨s1, e1⟩
  have hb1 := wOf_below s1
  rw [← e1] at hb1
  clear e1 s1
  replace h1 := h1.later hb1
  replace h2 := h2.later hb1
  replace hB := bgo hB hb1
  clear hb1
  go_upto_region 4 with fail
  refine wp_region_cls (by kernel_rfl) (by kernel_rfl) ?_
  repeat (first | go_big_quiet_skip | (go_big_quiet_want; first | (refine quiet_load_ck _ rfl rfl (cls_ck h1) ?_; simp only [Act.put, List.setIfInBounds_toArray, List.set_cons_succ, List.set_cons_zero]; go_big_quiet_on) | (refine quiet_load_ck _ rfl rfl (cls_ck h2) ?_; simp only [Act.put, List.setIfInBounds_toArray, List.set_cons_succ, List.set_cons_zero]; go_big_quiet_on) | (go_big_quiet_op; first | go_big_quiet_on | go_big_quiet_call ((first | (go_at_call_of 27 (Value.agg (cv a)); exact cls_of (valid_any _ _ _ ha.1)) | (go_at_call_of 27 (Value.agg (cv b)); exact cls_of (valid_any _ _ _ hb.1)) | (go_at_call_of 28 (Value.agg (cv a)); exact cls_of (refValid_any _ _ _ ha.1)) | (go_at_call_of 28 (Value.agg (cv b)); exact cls_of (refValid_any _ _ _ hb.1)) | (go_at_call 17; exact cls_of (wakesC_ok _)))))))
  refine wpQuiet_nil ?_
  rintro w1 ⟨s1, e1⟩
  have hb1 := wOf_below s1
  rw [← e1] at hb1
  clear e1 s1
  replace h1 := h1.later hb1
  replace h2 := h2.later hb1
  replace hB := bgo hB hb1
  clear hb1
  go_wp2
  go_ret
  exact ⟨rfl, hB⟩
end Go.Proofs.YtceahohcmhbkmaaDoor
