/-
  clock.Covers, clock.Compare and the document's.
-/
import Derived.Test.YtcfefgcibdpmeaaDoorCkMerge
namespace Go.Proofs.YtcfefgcibdpmeaaDoor
open Go.RowKit
set_option maxRecDepth 100000

/-- The world behind the boxes of two clocks. -/
theorem start2 (w : World) {a b : List Int} (ha : a.length = 8) (hb : b.length = 8) :
    CkAt w.heap.size a ((w.alloc (.cells (cv a) 23)).alloc (.cells (cv b) 23)) ∧ CkAt (w.heap.size + 1) b ((w.alloc (.cells (cv a) 23)).alloc (.cells (cv b) 23)) ∧ Below w.heap.size w ((w.alloc (.cells (cv a) 23)).alloc (.cells (cv b) 23)) := by
  have h1 := CkAt.new (w.alloc (.cells (cv a) 23)) hb
  simp only [World.size_alloc] at h1
  exact ⟨(CkAt.new w ha).alloc _, h1, bgo (below_one w _) (below_one _ _)⟩

set_option maxHeartbeats 1000000 in
theorem covers_any (a b : List Int) (w : World) (ha : a.length = 8) (hb : b.length = 8) :
    Calls Tryd.prog 27 #[.agg (cv a), .agg (cv b)] w fun e w' => e = .returned (.bool (cov a b)) ∧ Below w.heap.size w w' := by
  obtain ⟨h1, h2, hb0⟩ := start2 w ha hb
  have hm := mrg_len ha hb
  have hq := eqIn_ck (mrg a b) a hm ha
  have hcm := cov_mrg ha hb
  have hg := ck_guard
  go_enter Tryd.func27, Tryd.ntmps27
  go_wp2
  refine wp_region_cls (by kernel_rfl) (by kernel_rfl) ?_
  repeat (first | go_big_quiet_skip | (go_big_quiet_want; first | (refine quiet_load_ck _ rfl rfl (cls_ck h1) ?_; simp only [Act.put, List.setIfInBounds_toArray, List.set_cons_succ, List.set_cons_zero]; go_big_quiet_on) | (refine quiet_load_ck _ rfl rfl (cls_ck h2) ?_; simp only [Act.put, List.setIfInBounds_toArray, List.set_cons_succ, List.set_cons_zero]; go_big_quiet_on) | (go_big_quiet_op; first | go_big_quiet_on | go_big_quiet_call ((go_at_call 50; exact cls_of (merge_any _ _ _ ha hb))))))
  refine wpQuiet_nil ?_
  rintro w' ⟨s, rfl⟩
  have hbs := wOf_below s
  go_wp2
  go_ret
  exact ⟨rfl, bgo hb0 hbs⟩
/-- Covers, its answer known. -/
theorem covers_is {a b : List Int} {v : Bool} (h : cov a b = v) (w : World) (ha : a.length = 8) (hb : b.length = 8) :
    Calls Tryd.prog 27 #[.agg (cv a), .agg (cv b)] w fun e w' => e = .returned (.bool v) ∧ Below w.heap.size w w' := h ▸ covers_any a b w ha hb

/-- Compare. -/
def cmp (a b : List Int) : Int := if cov a b then (if cov b a then 0 else 2) else if cov b a then 1 else 3
theorem cov_anti {a b : List Int} (ha : a.length = 8) (hb : b.length = 8) (h1 : cov a b = true) (h2 : cov b a = true) : a = b :=
  ck_ext ha hb fun k hk => by have := cov_iff.1 h1 k hk; have := cov_iff.1 h2 k hk; omega
theorem cov_self (a : List Int) : cov a a = true := cov_iff.2 fun _ _ => Int.le_refl _
theorem eq_cov {a b : List Int} (ha : a.length = 8) (hb : b.length = 8) : (a == b) = (cov a b && cov b a) := by
  rw [Bool.eq_iff_iff, beq_iff_eq, Bool.and_eq_true]
  exact ⟨fun h => by subst h; exact ⟨cov_self a, cov_self a⟩, fun h => cov_anti ha hb h.1 h.2⟩

set_option maxHeartbeats 400000 in
theorem compare_any (a b : List Int) (w : World) (ha : a.length = 8) (hb : b.length = 8) :
    Calls Tryd.prog 28 #[.agg (cv a), .agg (cv b)] w fun e w' => e = .returned (.int .i64 (cmp a b)) ∧ Below w.heap.size w w' := by
  obtain ⟨h1, h2, hB⟩ := start2 w ha hb
  have hq := eqIn_ck a b ha hb
  have hcm := eq_cov ha hb
  have hg := ck_guard
  have HC : Hid (cmp a b = if cov a b then (if cov b a then 0 else 2) else if cov b a then 1 else 3) := rfl
  cases hba : cov b a
  · simp only [hba, Bool.and_false] at hcm
    cases hab : cov a b
    all_goals
      simp only [hab, hba] at HC
      go_enter Tryd.func28, Tryd.ntmps28
      go_upto_region 1 with fail
      refine wp_region_cls0 ?_
      repeat (first | go_big_quiet_skip | (go_big_quiet_want; first | (refine quiet_load_ck _ rfl rfl (cls_ck h1) ?_; simp only [Act.put, List.setIfInBounds_toArray, List.set_cons_succ, List.set_cons_zero]; go_big_quiet_on) | (refine quiet_load_ck _ rfl rfl (cls_ck h2) ?_; simp only [Act.put, List.setIfInBounds_toArray, List.set_cons_succ, List.set_cons_zero]; go_big_quiet_on) | (go_big_quiet_op; first | go_big_quiet_on | go_big_quiet_call ((fail)))))
      refine wpQuiet_nil ?_
      rintro w1 ⟨s1, e1⟩
      have hb1 := wOf_below s1
      rw [← e1] at hb1
      clear e1 s1
      replace h1 := h1.later hb1
      replace h2 := h2.later hb1
      replace hB := bgo hB hb1
      clear hb1
      go_upto_region 3 with fail
      refine wp_region_cls0 ?_
      repeat (first | go_big_quiet_skip | (go_big_quiet_want; first | (refine quiet_load_ck _ rfl rfl (cls_ck h1) ?_; simp only [Act.put, List.setIfInBounds_toArray, List.set_cons_succ, List.set_cons_zero]; go_big_quiet_on) | (refine quiet_load_ck _ rfl rfl (cls_ck h2) ?_; simp only [Act.put, List.setIfInBounds_toArray, List.set_cons_succ, List.set_cons_zero]; go_big_quiet_on) | (go_big_quiet_op; first | go_big_quiet_on | go_big_quiet_call ((go_at_call_of 27 (Value.agg (cv b)); exact cls_of (covers_is hba _ hb ha))))))
      refine wpQuiet_nil ?_
      rintro w1 ⟨s1, e1⟩
      have hb1 := wOf_below s1
      rw [← e1] at hb1
      clear e1 s1
      replace h1 := h1.later hb1
      replace h2 := h2.later hb1
      replace hB := bgo hB hb1
      clear hb1
      go_upto_region 5 with fail
      refine wp_region_cls0 ?_
      repeat (first | go_big_quiet_skip | (go_big_quiet_want; first | (refine quiet_load_ck _ rfl rfl (cls_ck h1) ?_; simp only [Act.put, List.setIfInBounds_toArray, List.set_cons_succ, List.set_cons_zero]; go_big_quiet_on) | (refine quiet_load_ck _ rfl rfl (cls_ck h2) ?_; simp only [Act.put, List.setIfInBounds_toArray, List.set_cons_succ, List.set_cons_zero]; go_big_quiet_on) | (go_big_quiet_op; first | go_big_quiet_on | go_big_quiet_call ((go_at_call_of 27 (Value.agg (cv a)); exact cls_of (covers_is hab _ ha hb))))))
      refine wpQuiet_nil ?_
      rintro w1 ⟨s1, e1⟩
      have hb1 := wOf_below s1
      rw [← e1] at hb1
      clear e1 s1
      replace h1 := h1.later hb1
      replace h2 := h2.later hb1
      replace hB := bgo hB hb1
      clear hb1
      go_wp2
      go_ret
      exact ⟨by rw [HC.out]; rfl, hB⟩
  · cases hab : cov a b
    · simp only [hab, hba, Bool.false_and] at hcm HC
      go_enter Tryd.func28, Tryd.ntmps28
      go_upto_region 1 with fail
      refine wp_region_cls0 ?_
      repeat (first | go_big_quiet_skip | (go_big_quiet_want; first | (refine quiet_load_ck _ rfl rfl (cls_ck h1) ?_; simp only [Act.put, List.setIfInBounds_toArray, List.set_cons_succ, List.set_cons_zero]; go_big_quiet_on) | (refine quiet_load_ck _ rfl rfl (cls_ck h2) ?_; simp only [Act.put, List.setIfInBounds_toArray, List.set_cons_succ, List.set_cons_zero]; go_big_quiet_on) | (go_big_quiet_op; first | go_big_quiet_on | go_big_quiet_call ((fail)))))
      refine wpQuiet_nil ?_
      rintro w1 ⟨s1, e1⟩
      have hb1 := wOf_below s1
      rw [← e1] at hb1
      clear e1 s1
      replace h1 := h1.later hb1
      replace h2 := h2.later hb1
      replace hB := bgo hB hb1
      clear hb1
      go_upto_region 3 with fail
      refine wp_region_cls0 ?_
      repeat (first | go_big_quiet_skip | (go_big_quiet_want; first | (refine quiet_load_ck _ rfl rfl (cls_ck h1) ?_; simp only [Act.put, List.setIfInBounds_toArray, List.set_cons_succ, List.set_cons_zero]; go_big_quiet_on) | (refine quiet_load_ck _ rfl rfl (cls_ck h2) ?_; simp only [Act.put, List.setIfInBounds_toArray, List.set_cons_succ, List.set_cons_zero]; go_big_quiet_on) | (go_big_quiet_op; first | go_big_quiet_on | go_big_quiet_call ((go_at_call_of 27 (Value.agg (cv b)); exact cls_of (covers_is hba _ hb ha))))))
      refine wpQuiet_nil ?_
      rintro w1 ⟨s1, e1⟩
      have hb1 := wOf_below s1
      rw [← e1] at hb1
      clear e1 s1
      replace h1 := h1.later hb1
      replace h2 := h2.later hb1
      replace hB := bgo hB hb1
      clear hb1
      go_wp2
      go_ret
      exact ⟨by rw [HC.out]; rfl, hB⟩
    · simp only [hab, hba, Bool.and_self] at hcm HC
      go_enter Tryd.func28, Tryd.ntmps28
      go_upto_region 1 with fail
      refine wp_region_cls0 ?_
      repeat (first | go_big_quiet_skip | (go_big_quiet_want; first | (refine quiet_load_ck _ rfl rfl (cls_ck h1) ?_; simp only [Act.put, List.setIfInBounds_toArray, List.set_cons_succ, List.set_cons_zero]; go_big_quiet_on) | (refine quiet_load_ck _ rfl rfl (cls_ck h2) ?_; simp only [Act.put, List.setIfInBounds_toArray, List.set_cons_succ, List.set_cons_zero]; go_big_quiet_on) | (go_big_quiet_op; first | go_big_quiet_on | go_big_quiet_call ((fail)))))
      refine wpQuiet_nil ?_
      rintro w1 ⟨s1, e1⟩
      have hb1 := wOf_below s1
      rw [← e1] at hb1
      clear e1 s1
      replace h1 := h1.later hb1
      replace h2 := h2.later hb1
      replace hB := bgo hB hb1
      clear hb1
      go_wp2
      go_ret
      exact ⟨by rw [HC.out]; rfl, hB⟩

end Go.Proofs.YtcfefgcibdpmeaaDoor
