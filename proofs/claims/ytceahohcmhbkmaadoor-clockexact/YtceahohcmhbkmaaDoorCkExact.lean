/-
  barrowlaw03.ClockExact answers true.
-/
import Derived.Test.YtceahohcmhbkmaaDoorCkTick
namespace Go.Proofs.YtceahohcmhbkmaaDoor
open Go.RowKit
set_option maxRecDepth 100000

set_option maxHeartbeats 1000000 in
theorem exactC_ok (a b : List Int) (w : World) (ha : a.length = 8) (hb : b.length = 8) :
    Calls Tryd.prog 3 #[.agg (cv a), .agg (cv b)] w fun e w' => e = .returned (.bool true) ∧ Below w.heap.size w w' := by
  obtain ⟨h1, h2, hB⟩ := start2 w ha hb
  have q1 := eqIn_ck (mrg a b) (mrg a b) (mrg_len ha hb) (mrg_len ha hb)
  have q2 := eqIn_ck (mee a b) (mee a b) (mee_len ha hb) (mee_len ha hb)
  have s1 : (mrg a b == mrg a b) = true := by simp
  have s2 : (mee a b == mee a b) = true := by simp
  have s3 : (cov a b == cov a b) = true := by simp
  have s4 : (cmp a b == cmp a b) = true := by simp
  have hg := ck_guard
  go_enter Tryd.func3, Tryd.ntmps3
  go_upto_region 1 with fail
  refine wp_region_cls (by kernel_rfl) (by kernel_rfl) ?_
  repeat (first | go_big_quiet_skip | (go_big_quiet_want; first | (refine quiet_load_ck _ rfl rfl (cls_ck h1) ?_; simp only [Act.put, List.setIfInBounds_toArray, List.set_cons_succ, List.set_cons_zero]; go_big_quiet_on) | (refine quiet_load_ck _ rfl rfl (cls_ck h2) ?_; simp only [Act.put, List.setIfInBounds_toArray, List.set_cons_succ, List.set_cons_zero]; go_big_quiet_on) | (go_big_quiet_op; first | go_big_quiet_on | go_big_quiet_call ((first | (go_at_call 9; exact cls_of (covers_any _ _ _ ha hb)) | (go_at_call 10; exact cls_of (refCovers_any _ _ _ ha hb)) | (go_at_call 11; exact cls_of (compare_any _ _ _ ha hb)) | (go_at_call 12; exact cls_of (refCompare_any _ _ _ ha hb)))))))
  refine wpQuiet_nil ?_
  rintro w1 ⟨s1, e1⟩
  have hb1 := wOf_below s1
  rw [← e1] at hb1
  clear e1 s1
  replace h1 := h1.later hb1
  replace h2 := h2.later hb1
  replace hB := bgo hB hb1
  clear hb1
  go_upto_region 3 with fail
  refine wp_region_cls (by kernel_rfl) (by kernel_rfl) ?_
  repeat (first | go_big_quiet_skip | (go_big_quiet_want; first | (refine quiet_load_ck _ rfl rfl (cls_ck h1) ?_; simp only [Act.put, List.setIfInBounds_toArray, List.set_cons_succ, List.set_cons_zero]; go_big_quiet_on) | (refine quiet_load_ck _ rfl rfl (cls_ck h2) ?_; simp only [Act.put, List.setIfInBounds_toArray, List.set_cons_succ, List.set_cons_zero]; go_big_quiet_on) | (go_big_quiet_op; first | go_big_quiet_on | go_big_quiet_call ((first | (go_at_call 13; exact cls_of (merge_any _ _ _ ha hb)) | (go_at_call 14; exact cls_of (refMerge_any _ _ _ ha hb)) | (go_at_call 15; exact cls_of (meet_any _ _ _ ha hb)) | (go_at_call 16; exact cls_of (refMeet_any _ _ _ ha hb)) | (go_at_call 17; exact cls_of (wakesC_ok _)))))))
  refine wpQuiet_nil ?_
  rintro w1 ⟨s1, e1⟩
  have hb1 := wOf_below s1
  rw [← e1] at hb1
  clear e1 s1
  replace h1 := h1.later hb1
  replace h2 := h2.later hb1
  replace hB := bgo hB hb1
  clear hb1
  go_wp2
  go_ret
  exact ⟨rfl, hB⟩
end Go.Proofs.YtceahohcmhbkmaaDoor
