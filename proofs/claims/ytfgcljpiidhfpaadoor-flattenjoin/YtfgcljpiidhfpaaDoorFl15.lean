
/-
  barrowlaw12.FlattenJoin answers true.
-/
import Derived.Test.YtfgcljpiidhfpaaDoorFl14
namespace Go.Proofs.YtfgcljpiidhfpaaDoor
open Go.RowKit
set_option maxRecDepth 100000

/-- Join's answer, told. -/
theorem join_is {a b c : List Rnd} (oa : OkL a) (ob : OkL b) (h : joinL a b = c) (w : World) :
    Calls Tryd.prog 15 #[.agg (cv (rs a)), .agg (cv (rs b))] w fun e w' => e = .returned (.agg (cv (rs c))) ∧ Below w.heap.size w w' := h ▸ join_any oa ob w
theorem refJoin_is {a b c : List Rnd} (oa : OkL a) (ob : OkL b) (h : joinL a b = c) (w : World) :
    Calls Tryd.prog 16 #[.agg (cv (rs a)), .agg (cv (rs b))] w fun e w' => e = .returned (.agg (cv (rs c))) ∧ Below w.heap.size w w' := h ▸ refJoin_any oa ob w
set_option maxHeartbeats 4000000 in
theorem join_all {a b c : List Rnd} (oa : OkL a) (ob : OkL b) (oc : OkL c) (w : World) :
    Calls Tryd.prog 4 #[.agg (cv (rs a)), .agg (cv (rs b)), .agg (cv (rs c))] w fun e w' => e = .returned (.bool true) ∧ Below w.heap.size w w' := by
  obtain ⟨r1, r2, r3, hB⟩ := three_boxes w (cv (rs a)) (cv (rs b)) (cv (rs c)) 46
  obtain ⟨x, hx⟩ : ∃ x, joinL a b = x := ⟨_, rfl⟩
  have ox : OkL x := hx ▸ joinL_ok oa ob
  obtain ⟨bc, hbc⟩ : ∃ x, joinL b c = x := ⟨_, rfl⟩
  have obc : OkL bc := hbc ▸ joinL_ok ob oc
  obtain ⟨y, hy⟩ : ∃ y, joinL x c = y := ⟨_, rfl⟩
  have oy : OkL y := hy ▸ joinL_ok ox oc
  have H1 := fun X => hid_of' (join_is oa ob hx X)
  have H2 := fun X => hid_of' (refJoin_is oa ob hx X)
  have H3 := fun X => hid_of' (join_is ob oa ((joinL_comm ob oa).trans hx) X)
  have H4 := fun X => hid_of' (join_is oa oa (joinL_self oa) X)
  have H5 := fun X => hid_of' (join_is ox oc hy X)
  have H6 := fun X => hid_of' (join_is ob oc hbc X)
  have H7 := fun X => hid_of' (join_is (c := y) oa obc (by rw [← hbc, ← joinL_assoc oa ob oc, hx, hy]) X)
  have H8 := fun X => hid_of' (join_is (c := x) ox oa (by rw [← hx, joinL_in' oa ob]) X)
  have H9 := fun X => hid_of' (join_is (c := x) ox ob (by rw [← hx, joinL_in oa ob]) X)
  clear hx hbc hy
  have qx := eqInRnds 9995 ox ox
  have qa := eqInRnds 9995 oa oa
  have qy := eqInRnds 9995 oy oy
  have sx : (x == x) = true := by simp
  have sa : (a == a) = true := by simp
  have sy : (y == y) = true := by simp
  have hg := rnds_guard
  go_enter Tryd.func4, Tryd.ntmps4
  go_upto_region 1 with fail
  generalize ((w.alloc (.cells (cv (rs a)) 46)).alloc (.cells (cv (rs b)) 46)).alloc (.cells (cv (rs c)) 46) = W at *
  obtain ⟨A, hA⟩ : ∃ A, w.heap.size = A := ⟨_, rfl⟩
  rw [hA] at r1 r2 r3 ⊢
  have HA0 := hid_of' hA
  clear hA
  go_upto_region 2 with (first | (refine ldRnds oa rfl _ rfl rfl r1.in ?_) | (refine ldRnds ob rfl _ rfl rfl r2.in ?_) | (go_at_call 15; refine (H1 _).out.mono ?_; rintro e w3 ⟨rfl, hb3⟩) | (refine wpL_alloc rfl _ rfl zRnds ?_) | (refine wpL_stRow rfl _ _ _ rfl rfl rfl (RowAt.news w3 _ _) (rnds_size ox) (two_sz (by rw [rs_len ox, rs_len rds0_ok])) (cv_one _) ?_; go_simp))
  have hB2 := below_row (below_one w3 (.cells (cv (rs rds0)) 46)) (Nat.le_refl w3.heap.size) (cv (rs x))
  have r4 := (RowAt.news w3 (cv (rs rds0)) 46).rowI (cv (rs x))
  generalize (w3.alloc (.cells (cv (rs rds0)) 46)).setRow w3.heap.size (cv (rs x)) = W4 at hB2 r4 ⊢
  have hbb := bgo hb3 (hB2)
  replace r1 := r1.later hbb
  replace r2 := r2.later hbb
  replace r3 := r3.later hbb
  replace hB := bgo hB hbb
  clear hbb hb3 hB2
  refine wp_region_cls (by kernel_rfl) (by kernel_rfl) ?_
  repeat (first | go_big_quiet_skip | (go_big_quiet_want; first | (refine qRnds oa _ rfl rfl r1.in.cls ?_; simp only [Act.put, List.setIfInBounds_toArray, List.set_cons_succ, List.set_cons_zero]; go_big_quiet_on) | (refine qRnds ob _ rfl rfl r2.in.cls ?_; simp only [Act.put, List.setIfInBounds_toArray, List.set_cons_succ, List.set_cons_zero]; go_big_quiet_on) | (refine qRnds ox _ rfl rfl r4.in.cls ?_; simp only [Act.put, List.setIfInBounds_toArray, List.set_cons_succ, List.set_cons_zero]; go_big_quiet_on) | (go_big_quiet_op; first | go_big_quiet_on | go_big_quiet_call ((first | (go_at_call 16; with_reducible exact cls_of (H2 _).out) | (go_at_call 15; first | (with_reducible exact cls_of (H3 _).out) | (with_reducible exact cls_of (H4 _).out)))))))
  refine wpQuiet_nil ?_
  rintro w1 ⟨s1, e1⟩
  have hb1 := wOf_below s1
  rw [← e1] at hb1
  clear e1 s1
  replace r1 := r1.later hb1
  replace r2 := r2.later hb1
  replace r3 := r3.later hb1
  replace r4 := r4.later hb1
  replace hB := bgo hB hb1
  clear hb1
  go_upto_region 4 with fail
  refine wp_region_cls (by kernel_rfl) (by kernel_rfl) ?_
  repeat (first | go_big_quiet_skip | (go_big_quiet_want; first | (refine qRnds oa _ rfl rfl r1.in.cls ?_; simp only [Act.put, List.setIfInBounds_toArray, List.set_cons_succ, List.set_cons_zero]; go_big_quiet_on) | (refine qRnds ob _ rfl rfl r2.in.cls ?_; simp only [Act.put, List.setIfInBounds_toArray, List.set_cons_succ, List.set_cons_zero]; go_big_quiet_on) | (refine qRnds oc _ rfl rfl r3.in.cls ?_; simp only [Act.put, List.setIfInBounds_toArray, List.set_cons_succ, List.set_cons_zero]; go_big_quiet_on) | (refine qRnds ox _ rfl rfl r4.in.cls ?_; simp only [Act.put, List.setIfInBounds_toArray, List.set_cons_succ, List.set_cons_zero]; go_big_quiet_on) | (go_big_quiet_op; first | go_big_quiet_on | go_big_quiet_call ((first | (go_at_call 12; exact cls_of (wakes12 _)) | (go_at_call 15; first | (with_reducible exact cls_of (H5 _).out) | (with_reducible exact cls_of (H6 _).out) | (with_reducible exact cls_of (H7 _).out) | (with_reducible exact cls_of (H8 _).out) | (with_reducible exact cls_of (H9 _).out)))))))
  refine wpQuiet_nil ?_
  rintro w1 ⟨s1, e1⟩
  have hb1 := wOf_below s1
  rw [← e1] at hb1
  clear e1 s1
  replace r1 := r1.later hb1
  replace hB := bgo hB hb1
  clear hb1
  go_wp2
  go_ret
  exact ⟨rfl, hB⟩
end Go.Proofs.YtfgcljpiidhfpaaDoor
