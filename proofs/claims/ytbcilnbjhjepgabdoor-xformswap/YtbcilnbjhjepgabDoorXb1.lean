
/-
  xform.Back and barrowref07.Back.
-/
import Derived.Test.YtbcilnbjhjepgabDoorXg2
namespace Go.Proofs.YtbcilnbjhjepgabDoor
open Go.RowKit
set_option maxRecDepth 100000

theorem eq_up (a : Xo) (w : World) : (Op.equalIn 10000 24 (.agg (ov a.up)) (.agg (ov a))).run Tryd.prog w = .ok false w := by
  have h : ¬ a.p + 1 = a.p := by omega
  unfold ov Xo.up
  simp [go_sem, h]
theorem eq_less (a : Xo) (w : World) : (Op.equalIn 10000 24 (.agg (ov a.less)) (.agg (ov a))).run Tryd.prog w = .ok false w := by
  have h : ¬ a.p - 1 = a.p := by omega
  unfold ov Xo.less
  simp [go_sem, h]
theorem tO_up {a b : Xo} (h : ¬ tO a b = a) : tO a b = a.up := (tO_is a b).resolve_left h
theorem tO_less {a b : Xo} (h : ¬ tO a.less b = a) : tO a.less b = a.less := by
  rcases tO_is a.less b with h1 | h1
  · exact h1
  · rw [less_up] at h1; exact absurd h1 h
theorem less_no {a b : Xo} (ha : a.p = 0) (hb : 0 ≤ b.p) : ¬ tO a.less b = a := by
  intro h
  have hn : ¬ a.less = a := fun q => by have := congrArg Xo.p q; simp [Xo.less] at this; omega
  unfold tO at h
  split at h
  next hh =>
    have h2 := hh.2.1
    have hl : a.less.p = a.p - 1 := rfl
    unfold pushB at h2
    repeat' split at h2
    all_goals simp only [Bool.or_eq_true, Bool.and_eq_true, decide_eq_true_eq, reduceCtorEq] at h2
    all_goals omega
  next => exact hn h
theorem refT_is {a b c : Xo} (h : tO a b = c) (w : World) (hp : -9223372036854775808 ≤ a.p) (hp2 : a.p ≤ 9223372036854775807) : Calls Tryd.prog 37 #[.agg (ov a), .agg (ov b)] w fun r w' => r = .returned (.agg (ov c)) ∧ Below w.heap.size w w' := h ▸ refT_any a b w hp hp2

set_option maxHeartbeats 2000000 in
theorem backX_any (a b : Xo) (w : World) (hp : 0 ≤ a.p) (hp2 : a.p ≤ 9223372036854775807) : Calls Tryd.prog 10 #[.agg (ov a), .agg (ov b)] w fun r w' => r = .returned (.tuple #[.agg (ov (bkO a b).1), .bool (bkO a b).2]) ∧ Below w.heap.size w w' := by
  have r0 : RowAt w.heap.size (ov a) 24 (((w.alloc (.cells (ov a) 24)).alloc (.cells (ov b) 24)).alloc (.cells #[.int .i64 0, .int .i64 0, .int .i32 0, .int .i64 0] 24)) := (row_new w _ _).later (below_two _ _ _)
  have r1 : RowAt (w.heap.size + 1) (ov b) 24 (((w.alloc (.cells (ov a) 24)).alloc (.cells (ov b) 24)).alloc (.cells #[.int .i64 0, .int .i64 0, .int .i32 0, .int .i64 0] 24)) := (row_new2 w _ _ _).later (below_one _ _)
  have r2 : RowAt (w.heap.size + 1 + 1) #[.int .i64 0, .int .i64 0, .int .i32 0, .int .i64 0] 24 _ := row_new3 w (.cells (ov a) 24) (.cells (ov b) 24) #[.int .i64 0, .int .i64 0, .int .i32 0, .int .i64 0] 24
  have hB := below_three w (.cells (ov a) 24) (.cells (ov b) 24) (.cells #[.int .i64 0, .int .i64 0, .int .i32 0, .int .i64 0] 24)
  go_enter Tryd.func10, Tryd.ntmps10
  go_upto_region 1 with fail
  generalize ((w.alloc (.cells (ov a) 24)).alloc (.cells (ov b) 24)).alloc (.cells #[.int .i64 0, .int .i64 0, .int .i32 0, .int .i64 0] 24) = W at r0 r1 r2 hB ⊢
  by_cases h1 : tO a b = a
  · have hv : Hid (bkO a b = (a, true)) := by show _ = _; unfold bkO; rw [if_pos h1]
    have hq := eq_O a
    refine wp_region_cls (by kernel_rfl) (by kernel_rfl) ?_
    repeat (first | go_big_quiet_skip | (go_big_quiet_want; first | (refine quiet_load_in _ _ rfl rfl r0.in.cls Tryd.underlying24 rfl (o_size a) ?_; simp only [Act.put, List.setIfInBounds_toArray, List.set_cons_succ, List.set_cons_zero]; go_big_quiet_on) | (refine quiet_load_in _ _ rfl rfl r1.in.cls Tryd.underlying24 rfl (o_size b) ?_; simp only [Act.put, List.setIfInBounds_toArray, List.set_cons_succ, List.set_cons_zero]; go_big_quiet_on) | (go_big_quiet_op; first | go_big_quiet_on | go_big_quiet_call ((go_at_call 12; exact cls_of (tX_is h1 _ (by omega)))))))
    refine wpQuiet_nil ?_
    rintro w1 ⟨s1, e1⟩
    have hb1 := wOf_below s1
    rw [← e1] at hb1
    clear e1 s1
    replace r0 := r0.later hb1
    replace r2 := r2.later hb1
    replace hB := bgo hB hb1
    clear hb1
    go_wp2_with (first | (refine wpL_loadO rfl _ rfl rfl r0.in ?_) | (refine wpL_storeO rfl _ _ rfl rfl rfl r2 ?_))
    exact bodyPost_ret (results_o2 (fn := Tryd.f10) (p := 4) (u := 5) rfl rfl (r2.put _)) rfl ⟨by rw [hv.out]; rfl, below_row hB (by omega) _⟩
  · have h1' := tO_up h1
    have hq := eq_up a
    refine wp_region_cls (by kernel_rfl) (by kernel_rfl) ?_
    repeat (first | go_big_quiet_skip | (go_big_quiet_want; first | (refine quiet_load_in _ _ rfl rfl r0.in.cls Tryd.underlying24 rfl (o_size a) ?_; simp only [Act.put, List.setIfInBounds_toArray, List.set_cons_succ, List.set_cons_zero]; go_big_quiet_on) | (refine quiet_load_in _ _ rfl rfl r1.in.cls Tryd.underlying24 rfl (o_size b) ?_; simp only [Act.put, List.setIfInBounds_toArray, List.set_cons_succ, List.set_cons_zero]; go_big_quiet_on) | (go_big_quiet_op; first | go_big_quiet_on | go_big_quiet_call ((go_at_call 12; exact cls_of (tX_is h1' _ (by omega)))))))
    refine wpQuiet_nil ?_
    rintro w1 ⟨s1, e1⟩
    have hb1 := wOf_below s1
    rw [← e1] at hb1
    clear e1 s1
    replace r0 := r0.later hb1
    replace r1 := r1.later hb1
    replace r2 := r2.later hb1
    replace hB := bgo hB hb1
    clear hb1
    clear hq
    have hs := hB.size
    go_upto_region 4 with (first | (refine wpL_loadO rfl _ rfl rfl r0.in ?_) | (refine wpL_storeO (e := a) rfl _ _ rfl rfl rfl (row_new w1 _ _) ?_))
    have r6 := (row_new w1 #[.int .i64 0, .int .i64 0, .int .i32 0, .int .i64 0] 24).put (ov a)
    have hb6 : Below w1.heap.size w1 ((w1.alloc (.cells #[.int .i64 0, .int .i64 0, .int .i32 0, .int .i64 0] 24)).setRow w1.heap.size (ov a)) := below_row (below_one w1 _) (Nat.le_refl _) _
    generalize (w1.alloc (.cells #[.int .i64 0, .int .i64 0, .int .i32 0, .int .i64 0] 24)).setRow w1.heap.size (ov a) = W6 at r6 hb6 ⊢
    have l0 := r0.lt
    have l1 := r1.lt
    have l2 := r2.lt
    replace hB := bgo hB hb6
    replace r0 := r0.later hb6
    replace r1 := r1.later hb6
    replace r2 := r2.later hb6
    generalize w1.heap.size = g6 at *
    clear hb6
    have d1 : W6.cell? ⟨g6, 1, none⟩ = some (.int .i64 a.p) := r6.cell 1
    have f1 : W6.frozen? ⟨g6, 1, none⟩ = false := Lib.frozen_of_heap r6 1
    go_upto_region 5 with fail
    replace r6 : RowAt g6 (ov a.less) 24 (W6.setCell ⟨g6, 1, none⟩ (.int .i64 (a.p - 1))) := row_setO r6 (a.p - 1)
    replace r0 : RowAt w.heap.size (ov a) 24 (W6.setCell ⟨g6, 1, none⟩ (.int .i64 (a.p - 1))) := r0.otherP _ _ (by show ¬ _ = g6; omega)
    replace r1 : RowAt (w.heap.size + 1) (ov b) 24 (W6.setCell ⟨g6, 1, none⟩ (.int .i64 (a.p - 1))) := r1.otherP _ _ (by show ¬ _ = g6; omega)
    replace r2 : RowAt (w.heap.size + 1 + 1) #[.int .i64 0, .int .i64 0, .int .i32 0, .int .i64 0] 24 (W6.setCell ⟨g6, 1, none⟩ (.int .i64 (a.p - 1))) := r2.otherP _ _ (by show ¬ _ = g6; omega)
    replace hB : Below w.heap.size w (W6.setCell ⟨g6, 1, none⟩ (.int .i64 (a.p - 1))) := below_setO hB (by omega) _ _
    generalize W6.setCell ⟨g6, 1, none⟩ (.int .i64 (a.p - 1)) = W7 at r0 r1 r2 r6 hB ⊢
    clear d1 f1
    have hlp : -9223372036854775808 ≤ a.less.p := by show _ ≤ a.p - 1; omega
    by_cases h2 : tO a.less b = a
    · have hv : Hid (bkO a b = (a.less, true)) := by show _ = _; unfold bkO; rw [if_neg h1, if_pos h2]
      have hq := eq_O a
      refine wp_region_cls (by kernel_rfl) (by kernel_rfl) ?_
      repeat (first | go_big_quiet_skip | (go_big_quiet_want; first | (refine quiet_load_in _ _ rfl rfl r0.in.cls Tryd.underlying24 rfl (o_size a) ?_; simp only [Act.put, List.setIfInBounds_toArray, List.set_cons_succ, List.set_cons_zero]; go_big_quiet_on) | (refine quiet_load_in _ _ rfl rfl r1.in.cls Tryd.underlying24 rfl (o_size b) ?_; simp only [Act.put, List.setIfInBounds_toArray, List.set_cons_succ, List.set_cons_zero]; go_big_quiet_on) | (refine quiet_load_in _ _ rfl rfl r6.in.cls Tryd.underlying24 rfl (o_size a.less) ?_; simp only [Act.put, List.setIfInBounds_toArray, List.set_cons_succ, List.set_cons_zero]; go_big_quiet_on) | (go_big_quiet_op; first | go_big_quiet_on | go_big_quiet_call ((go_at_call 12; exact cls_of (tX_is h2 _ hlp))))))
      refine wpQuiet_nil ?_
      rintro w1 ⟨s1, e1⟩
      have hb1 := wOf_below s1
      rw [← e1] at hb1
      clear e1 s1
      replace r2 := r2.later hb1
      replace r6 := r6.later hb1
      replace hB := bgo hB hb1
      clear hb1
      go_wp2_with (first | (refine wpL_loadO rfl _ rfl rfl r6.in ?_) | (refine wpL_storeO rfl _ _ rfl rfl rfl r2 ?_))
      exact bodyPost_ret (results_o2 (fn := Tryd.f10) (p := 4) (u := 5) rfl rfl (r2.put _)) rfl ⟨by rw [hv.out]; rfl, below_row hB (by omega) _⟩
    · have hv : Hid (bkO a b = (a, false)) := by show _ = _; unfold bkO; rw [if_neg h1, if_neg h2]
      have h2' := tO_less h2
      have hq := eq_less a
      refine wp_region_cls (by kernel_rfl) (by kernel_rfl) ?_
      repeat (first | go_big_quiet_skip | (go_big_quiet_want; first | (refine quiet_load_in _ _ rfl rfl r0.in.cls Tryd.underlying24 rfl (o_size a) ?_; simp only [Act.put, List.setIfInBounds_toArray, List.set_cons_succ, List.set_cons_zero]; go_big_quiet_on) | (refine quiet_load_in _ _ rfl rfl r1.in.cls Tryd.underlying24 rfl (o_size b) ?_; simp only [Act.put, List.setIfInBounds_toArray, List.set_cons_succ, List.set_cons_zero]; go_big_quiet_on) | (refine quiet_load_in _ _ rfl rfl r6.in.cls Tryd.underlying24 rfl (o_size a.less) ?_; simp only [Act.put, List.setIfInBounds_toArray, List.set_cons_succ, List.set_cons_zero]; go_big_quiet_on) | (go_big_quiet_op; first | go_big_quiet_on | go_big_quiet_call ((go_at_call 12; exact cls_of (tX_is h2' _ hlp))))))
      refine wpQuiet_nil ?_
      rintro w1 ⟨s1, e1⟩
      have hb1 := wOf_below s1
      rw [← e1] at hb1
      clear e1 s1
      replace r2 := r2.later hb1
      replace r0 := r0.later hb1
      replace hB := bgo hB hb1
      clear hb1
      go_wp2_with (first | (refine wpL_loadO rfl _ rfl rfl r0.in ?_) | (refine wpL_storeO rfl _ _ rfl rfl rfl r2 ?_))
      exact bodyPost_ret (results_o2 (fn := Tryd.f10) (p := 4) (u := 5) rfl rfl (r2.put _)) rfl ⟨by rw [hv.out]; rfl, below_row hB (by omega) _⟩

set_option maxHeartbeats 2000000 in
theorem refBack_any (a b : Xo) (w : World) (hp : 0 ≤ a.p) (hp2 : a.p ≤ 9223372036854775807) (hbp : 0 ≤ b.p) : Calls Tryd.prog 11 #[.agg (ov a), .agg (ov b)] w fun r w' => r = .returned (.tuple #[.agg (ov (bkO a b).1), .bool (bkO a b).2]) ∧ Below w.heap.size w w' := by
  have r0 : RowAt w.heap.size (ov a) 24 (((w.alloc (.cells (ov a) 24)).alloc (.cells (ov b) 24)).alloc (.cells #[.int .i64 0, .int .i64 0, .int .i32 0, .int .i64 0] 24)) := (row_new w _ _).later (below_two _ _ _)
  have r1 : RowAt (w.heap.size + 1) (ov b) 24 (((w.alloc (.cells (ov a) 24)).alloc (.cells (ov b) 24)).alloc (.cells #[.int .i64 0, .int .i64 0, .int .i32 0, .int .i64 0] 24)) := (row_new2 w _ _ _).later (below_one _ _)
  have r2 : RowAt (w.heap.size + 1 + 1) #[.int .i64 0, .int .i64 0, .int .i32 0, .int .i64 0] 24 _ := row_new3 w (.cells (ov a) 24) (.cells (ov b) 24) #[.int .i64 0, .int .i64 0, .int .i32 0, .int .i64 0] 24
  have hB := below_three w (.cells (ov a) 24) (.cells (ov b) 24) (.cells #[.int .i64 0, .int .i64 0, .int .i32 0, .int .i64 0] 24)
  go_enter Tryd.func11, Tryd.ntmps11
  go_upto_region 1 with fail
  generalize ((w.alloc (.cells (ov a) 24)).alloc (.cells (ov b) 24)).alloc (.cells #[.int .i64 0, .int .i64 0, .int .i32 0, .int .i64 0] 24) = W at r0 r1 r2 hB ⊢
  go_upto_region 2 with fail
  go_loopw [6] (fun i wr => ∃ k : Nat, i = .int .i64 (k : Int) ∧ k ≤ 2 ∧ (1 ≤ k → ¬ tO a b = a) ∧ (2 ≤ k → ¬ tO a.less b = a) ∧ RowAt w.heap.size (ov a) 24 wr ∧ RowAt (w.heap.size + 1) (ov b) 24 wr ∧ RowAt (w.heap.size + 1 + 1) #[.int .i64 0, .int .i64 0, .int .i32 0, .int .i64 0] 24 wr ∧ Below w.heap.size w wr) (fun i _ => 2 - (intOf i).toNat)
  case atStart => exact ⟨0, rfl, by omega, fun h => absurd h (by decide), fun h => absurd h (by decide), r0, r1, r2, hB⟩
  clear r0 r1 r2 hB
  obtain ⟨k, rfl, hk, hn1, hn2, r0, r1, r2, hB⟩ := hrel
  by_cases hk2 : k < 2
  · have hk2' : (k : Int) < 2 := by omega
    go_upto_region 5 with (first | (refine wpL_loadO rfl _ rfl rfl r0.in ?_) | (refine wpL_storeO (e := a) rfl _ _ rfl rfl rfl (row_new wr _ _) ?_))
    have r6 := (row_new wr #[.int .i64 0, .int .i64 0, .int .i32 0, .int .i64 0] 24).put (ov a)
    have hb6 : Below wr.heap.size wr ((wr.alloc (.cells #[.int .i64 0, .int .i64 0, .int .i32 0, .int .i64 0] 24)).setRow wr.heap.size (ov a)) := below_row (below_one wr _) (Nat.le_refl _) _
    generalize (wr.alloc (.cells #[.int .i64 0, .int .i64 0, .int .i32 0, .int .i64 0] 24)).setRow wr.heap.size (ov a) = W6 at r6 hb6 ⊢
    have l0 := r0.lt
    have l1 := r1.lt
    have l2 := r2.lt
    replace hB := bgo hB hb6
    replace r0 := r0.later hb6
    replace r1 := r1.later hb6
    replace r2 := r2.later hb6
    generalize wr.heap.size = g6 at *
    clear hb6
    have d0 : W6.cell? ⟨w.heap.size, 1, none⟩ = some (.int .i64 a.p) := r0.cell 1
    have d1 : W6.cell? ⟨g6, 1, none⟩ = some (.int .i64 a.p) := r6.cell 1
    have f1 : W6.frozen? ⟨g6, 1, none⟩ = false := Lib.frozen_of_heap r6 1
    go_upto_region 6 with fail
    replace r6 : RowAt g6 (ov ⟨a.k, a.p - (k : Int), a.c, a.r⟩) 24 (W6.setCell ⟨g6, 1, none⟩ (.int .i64 (a.p - (k : Int)))) := row_setO r6 (a.p - (k : Int))
    replace r0 : RowAt w.heap.size (ov a) 24 (W6.setCell ⟨g6, 1, none⟩ (.int .i64 (a.p - (k : Int)))) := r0.otherP _ _ (by show ¬ _ = g6; omega)
    replace r1 : RowAt (w.heap.size + 1) (ov b) 24 (W6.setCell ⟨g6, 1, none⟩ (.int .i64 (a.p - (k : Int)))) := r1.otherP _ _ (by show ¬ _ = g6; omega)
    replace r2 : RowAt (w.heap.size + 1 + 1) #[.int .i64 0, .int .i64 0, .int .i32 0, .int .i64 0] 24 (W6.setCell ⟨g6, 1, none⟩ (.int .i64 (a.p - (k : Int)))) := r2.otherP _ _ (by show ¬ _ = g6; omega)
    replace hB : Below w.heap.size w (W6.setCell ⟨g6, 1, none⟩ (.int .i64 (a.p - (k : Int)))) := below_setO hB (by omega) _ _
    generalize W6.setCell ⟨g6, 1, none⟩ (.int .i64 (a.p - (k : Int))) = W7 at r0 r1 r2 r6 hB ⊢
    clear d0 d1 f1
    obtain ⟨x, hx⟩ : ∃ x : Xo, (⟨a.k, a.p - (k : Int), a.c, a.r⟩ : Xo) = x := ⟨_, rfl⟩
    have hxp : x.p = a.p - (k : Int) := by rw [← hx]
    rw [hx] at r6
    have c1 : ∀ s : Wld W7, (wOf s).cell? ⟨g6, 1, none⟩ = some (.int .i64 x.p) := fun s => r6.cls 1 _ rfl s
    by_cases hg : 0 ≤ x.p
    · have hkp : (k : Int) ≤ a.p := by omega
      have h1 : k = 0 ∧ x = a ∨ k = 1 ∧ x = a.less := by
        rcases (show k = 0 ∨ k = 1 by omega) with rfl | rfl
        · exact .inl ⟨rfl, by rw [← hx]; simp⟩
        · exact .inr ⟨rfl, hx.symm⟩
      by_cases h2 : tO x b = a
      · have hv : Hid (bkO a b = (x, true)) := by
          show _ = _
          unfold bkO
          rcases h1 with ⟨_, rfl⟩ | ⟨rfl, rfl⟩
          · rw [if_pos h2]
          · rw [if_neg (hn1 (by omega)), if_pos h2]
        have hq := eq_O a
        refine wp_region_cls (by kernel_rfl) (by kernel_rfl) ?_
        repeat (first | go_big_quiet_skip | (go_big_quiet_want; first | (refine quiet_load_in _ _ rfl rfl r0.in.cls Tryd.underlying24 rfl (o_size a) ?_; simp only [Act.put, List.setIfInBounds_toArray, List.set_cons_succ, List.set_cons_zero]; go_big_quiet_on) | (refine quiet_load_in _ _ rfl rfl r1.in.cls Tryd.underlying24 rfl (o_size b) ?_; simp only [Act.put, List.setIfInBounds_toArray, List.set_cons_succ, List.set_cons_zero]; go_big_quiet_on) | (refine quiet_load_in _ _ rfl rfl r6.in.cls Tryd.underlying24 rfl (o_size x) ?_; simp only [Act.put, List.setIfInBounds_toArray, List.set_cons_succ, List.set_cons_zero]; go_big_quiet_on) | (go_big_quiet_op; first | go_big_quiet_on | go_big_quiet_call ((go_at_call 37; exact cls_of (refT_is h2 _ (by omega) (by omega)))))))
        refine wpQuiet_nil ?_
        rintro w1 ⟨s1, e1⟩
        have hb1 := wOf_below s1
        rw [← e1] at hb1
        clear e1 s1
        replace r2 := r2.later hb1
        replace r6 := r6.later hb1
        replace hB := bgo hB hb1
        clear hb1
        go_wp2_with (first | (refine wpL_loadO rfl _ rfl rfl r6.in ?_) | (refine wpL_storeO rfl _ _ rfl rfl rfl r2 ?_))
        exact bodyPost_ret (results_o2 (fn := Tryd.f11) (p := 4) (u := 5) rfl rfl (r2.put _)) rfl ⟨by rw [hv.out]; rfl, below_row hB (by omega) _⟩
      · obtain ⟨y, hy⟩ : ∃ y, tO x b = y := ⟨_, rfl⟩
        have hq : ∀ u, (Op.equalIn 10000 24 (.agg (ov y)) (.agg (ov a))).run Tryd.prog u = .ok false u := by
          intro u
          rcases h1 with ⟨_, rfl⟩ | ⟨_, rfl⟩
          · rw [← hy, tO_up h2]; exact eq_up _ u
          · rw [← hy, tO_less h2]; exact eq_less _ u
        refine wp_region_cls (by kernel_rfl) (by kernel_rfl) ?_
        repeat (first | go_big_quiet_skip | (go_big_quiet_want; first | (refine quiet_load_in _ _ rfl rfl r0.in.cls Tryd.underlying24 rfl (o_size a) ?_; simp only [Act.put, List.setIfInBounds_toArray, List.set_cons_succ, List.set_cons_zero]; go_big_quiet_on) | (refine quiet_load_in _ _ rfl rfl r1.in.cls Tryd.underlying24 rfl (o_size b) ?_; simp only [Act.put, List.setIfInBounds_toArray, List.set_cons_succ, List.set_cons_zero]; go_big_quiet_on) | (refine quiet_load_in _ _ rfl rfl r6.in.cls Tryd.underlying24 rfl (o_size x) ?_; simp only [Act.put, List.setIfInBounds_toArray, List.set_cons_succ, List.set_cons_zero]; go_big_quiet_on) | (go_big_quiet_op; first | go_big_quiet_on | go_big_quiet_call ((go_at_call 37; exact cls_of (refT_is hy _ (by omega) (by omega)))))))
        refine wpQuiet_nil ?_
        rintro w1 ⟨s1, e1⟩
        have hb1 := wOf_below s1
        rw [← e1] at hb1
        clear e1 s1
        replace r0 := r0.later hb1
        replace r1 := r1.later hb1
        replace r2 := r2.later hb1
        replace r6 := r6.later hb1
        replace hB := bgo hB hb1
        clear hb1
        clear hq
        go_wp2
        go_roundw
        case rel =>
          refine ⟨k + 1, by go_num, by omega, fun _ => ?_, fun h => ?_, r0, r1, r2, hB⟩
          · rcases h1 with ⟨_, rfl⟩ | ⟨h, _⟩
            · exact h2
            · exact hn1 (by omega)
          · rcases h1 with ⟨h3, _⟩ | ⟨_, rfl⟩
            · omega
            · exact h2
        case measure => simp [intOf]; omega
    · have hk1 : k = 1 := by omega
      have ha0 : a.p = 0 := by omega
      refine wp_region_cls (by kernel_rfl) (by kernel_rfl) ?_
      repeat (first | go_big_quiet_skip | (go_big_quiet_want; first | (refine quiet_load_in _ _ rfl rfl r0.in.cls Tryd.underlying24 rfl (o_size a) ?_; simp only [Act.put, List.setIfInBounds_toArray, List.set_cons_succ, List.set_cons_zero]; go_big_quiet_on) | (go_big_quiet_op; first | go_big_quiet_on | go_big_quiet_call ((fail)))))
      refine wpQuiet_nil ?_
      rintro w1 ⟨s1, e1⟩
      have hb1 := wOf_below s1
      rw [← e1] at hb1
      clear e1 s1
      replace r0 := r0.later hb1
      replace r1 := r1.later hb1
      replace r2 := r2.later hb1
      replace hB := bgo hB hb1
      clear hb1
      go_wp2
      go_roundw
      case rel => exact ⟨k + 1, by go_num, by omega, fun _ => hn1 (by omega), fun _ => less_no ha0 hbp, r0, r1, r2, hB⟩
      case measure => simp [intOf]; omega
  · have hk2' : ¬ (k : Int) < 2 := by omega
    have hv : Hid (bkO a b = (a, false)) := by show _ = _; unfold bkO; rw [if_neg (hn1 (by omega)), if_neg (hn2 (by omega))]
    go_wp2_with (first | (refine wpL_loadO rfl _ rfl rfl r0.in ?_) | (refine wpL_storeO rfl _ _ rfl rfl rfl r2 ?_))
    exact bodyPost_ret (results_o2 (fn := Tryd.f11) (p := 4) (u := 5) rfl rfl (r2.put _)) rfl ⟨by rw [hv.out]; rfl, below_row hB (by omega) _⟩
end Go.Proofs.YtbcilnbjhjepgabDoor
