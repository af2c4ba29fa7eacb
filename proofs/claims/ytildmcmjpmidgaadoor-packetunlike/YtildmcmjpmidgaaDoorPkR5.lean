
/-
  Right: is a message right?
-/
import Derived.Test.YtildmcmjpmidgaaDoorPkU
namespace Go.Proofs.YtildmcmjpmidgaaDoor
open Go.RowKit
set_option maxRecDepth 100000

def rightB (m : Pms) : Bool := oneB m.1 4 && wiB m.2.1 7 && decide (0 ≤ m.2.2.1) && usesB m && m.2.2.2.2.1.all actB && rowB mx63 m.2.2.2.1 && m.2.2.2.2.2.all rndB
theorem uses_is {m : Pms} {v : Bool} (h : usesB m = v) (hk : oneB m.1 4 = true) (s : Value) (w : World) (hs : shM m) (hA : SlA w s m.2.2.2.2.1) :
    Calls Tryd.prog 22 #[.agg (mv m s)] w fun e w' => e = .returned (.bool v) ∧ Below w.heap.size w w' := by
  subst h
  obtain ⟨k, f_, e_, c, A, R⟩ := m
  simp only [oneB, Bool.and_eq_true, decide_eq_true_eq] at hk
  have hk4 : k = 1 ∨ k = 2 ∨ k = 3 ∨ k = 4 := by omega
  rcases hk4 with rfl | rfl | rfl | rfl
  · exact uses1_any f_ e_ c A R s w hs hA
  · exact uses2_any f_ e_ c A R s w hs hA
  · exact uses3_any f_ e_ c A R s w hs hA
  · exact uses4_any f_ e_ c A R s w hs hA
/-- A message that an argument can hold. -/
structure fitM (m : Pms) : Prop where
  sh : shM m
  acts : ∀ a ∈ m.2.2.2.2.1, fitA a
  len : m.2.2.2.2.1.length ≤ 1000000

set_option maxHeartbeats 4000000 in
theorem right_any (m : Pms) (s : Value) (w : World) (hm : fitM m) (hA : SlA w s m.2.2.2.2.1) :
    Calls Tryd.prog 9 #[.agg (mv m s)] w fun e w' => e = .returned (.bool (rightB m)) ∧ Below w.heap.size w w' := by
  have hB := below_one w (.cells (mv m s) 30)
  have h1 := RowAt.new w (mv m s) 30
  have hA1 := hA.later hB
  have HV := hid_of' (show rightB m = (oneB m.1 4 && wiB m.2.1 7 && decide (0 ≤ m.2.2.1) && usesB m && m.2.2.2.2.1.all actB && rowB mx63 m.2.2.2.1 && m.2.2.2.2.2.all rndB) from rfl)
  have p0 := h1.in
  have p1 := h1.in.msC
  have p2 := h1.in.msR hm.sh
  have d0 := h1.cls 0 _ (mv_k m s)
  have d1 := h1.cls 1 _ (mv_f m s)
  have d2 := h1.cls 2 _ (mv_e m s)
  have d11 := h1.cls 11 _ (mv_a s hm.sh)
  cases g0 : oneB m.1 4
  · skip
    go_enter Tryd.func9, Tryd.ntmps9
    go_upto_region 1 with fail
    refine wp_region_cls0 ?_
    repeat (first | go_big_quiet_skip | (go_big_quiet_want; first | (refine quiet_ms hm.sh _ rfl rfl p0.cls ?_; simp only [Act.put, List.setIfInBounds_toArray, List.set_cons_succ, List.set_cons_zero]; go_big_quiet_on) | (refine quiet_ck hm.sh.1 _ rfl rfl p1.cls ?_; simp only [Act.put, List.setIfInBounds_toArray, List.set_cons_succ, List.set_cons_zero]; go_big_quiet_on) | (refine quiet_rnds hm.sh.2.2 _ rfl rfl p2.cls ?_; simp only [Act.put, List.setIfInBounds_toArray, List.set_cons_succ, List.set_cons_zero]; go_big_quiet_on) | (go_big_quiet_op; first | go_big_quiet_on | go_big_quiet_call ((first | (go_at_call 20; exact cls_of_same (isOne_is g0 _)) | (go_at_call 21; exact cls_of_same (isWithin_is g1 _)) | (go_at_call 22; exact cls_of (uses_is g3 g0 _ _ hm.sh (hA1.later (wOf_below _)))) | (go_at_call 23; exact cls_of (areRight_is g4 _ _ (hA1.later (wOf_below _)) hm.acts hm.len)) | (go_at_call 24; exact cls_of (isRow_is g5 _ hm.sh.1)) | (go_at_call 25; exact cls_of (areRounds_is g6 _ hm.sh.2.2)))))))
    refine wpQuiet_nil ?_
    rintro w1 ⟨s1, e1⟩
    have hb1 := wOf_below s1
    rw [← e1] at hb1
    clear e1 s1
    replace hB := bgo hB hb1
    clear hb1
    go_wp2
    go_ret
    exact ⟨by rw [HV.out]; simp [g0], hB⟩
  · skip
    cases g1 : wiB m.2.1 7
    · skip
      go_enter Tryd.func9, Tryd.ntmps9
      go_upto_region 1 with fail
      refine wp_region_cls0 ?_
      repeat (first | go_big_quiet_skip | (go_big_quiet_want; first | (refine quiet_ms hm.sh _ rfl rfl p0.cls ?_; simp only [Act.put, List.setIfInBounds_toArray, List.set_cons_succ, List.set_cons_zero]; go_big_quiet_on) | (refine quiet_ck hm.sh.1 _ rfl rfl p1.cls ?_; simp only [Act.put, List.setIfInBounds_toArray, List.set_cons_succ, List.set_cons_zero]; go_big_quiet_on) | (refine quiet_rnds hm.sh.2.2 _ rfl rfl p2.cls ?_; simp only [Act.put, List.setIfInBounds_toArray, List.set_cons_succ, List.set_cons_zero]; go_big_quiet_on) | (go_big_quiet_op; first | go_big_quiet_on | go_big_quiet_call ((first | (go_at_call 20; exact cls_of_same (isOne_is g0 _)) | (go_at_call 21; exact cls_of_same (isWithin_is g1 _)) | (go_at_call 22; exact cls_of (uses_is g3 g0 _ _ hm.sh (hA1.later (wOf_below _)))) | (go_at_call 23; exact cls_of (areRight_is g4 _ _ (hA1.later (wOf_below _)) hm.acts hm.len)) | (go_at_call 24; exact cls_of (isRow_is g5 _ hm.sh.1)) | (go_at_call 25; exact cls_of (areRounds_is g6 _ hm.sh.2.2)))))))
      refine wpQuiet_nil ?_
      rintro w1 ⟨s1, e1⟩
      have hb1 := wOf_below s1
      rw [← e1] at hb1
      clear e1 s1
      replace hB := bgo hB hb1
      clear hb1
      go_wp2
      go_ret
      exact ⟨by rw [HV.out]; simp [g0, g1], hB⟩
    · skip
      cases g2 : decide (0 ≤ m.2.2.1)
      · skip
        go_enter Tryd.func9, Tryd.ntmps9
        go_upto_region 1 with fail
        refine wp_region_cls0 ?_
        repeat (first | go_big_quiet_skip | (go_big_quiet_want; first | (refine quiet_ms hm.sh _ rfl rfl p0.cls ?_; simp only [Act.put, List.setIfInBounds_toArray, List.set_cons_succ, List.set_cons_zero]; go_big_quiet_on) | (refine quiet_ck hm.sh.1 _ rfl rfl p1.cls ?_; simp only [Act.put, List.setIfInBounds_toArray, List.set_cons_succ, List.set_cons_zero]; go_big_quiet_on) | (refine quiet_rnds hm.sh.2.2 _ rfl rfl p2.cls ?_; simp only [Act.put, List.setIfInBounds_toArray, List.set_cons_succ, List.set_cons_zero]; go_big_quiet_on) | (go_big_quiet_op; first | go_big_quiet_on | go_big_quiet_call ((first | (go_at_call 20; exact cls_of_same (isOne_is g0 _)) | (go_at_call 21; exact cls_of_same (isWithin_is g1 _)) | (go_at_call 22; exact cls_of (uses_is g3 g0 _ _ hm.sh (hA1.later (wOf_below _)))) | (go_at_call 23; exact cls_of (areRight_is g4 _ _ (hA1.later (wOf_below _)) hm.acts hm.len)) | (go_at_call 24; exact cls_of (isRow_is g5 _ hm.sh.1)) | (go_at_call 25; exact cls_of (areRounds_is g6 _ hm.sh.2.2)))))))
        refine wpQuiet_nil ?_
        rintro w1 ⟨s1, e1⟩
        have hb1 := wOf_below s1
        rw [← e1] at hb1
        clear e1 s1
        replace hB := bgo hB hb1
        clear hb1
        go_wp2
        go_ret
        exact ⟨by rw [HV.out]; simp [g0, g1, g2], hB⟩
      · skip
        cases g3 : usesB m
        · skip
          go_enter Tryd.func9, Tryd.ntmps9
          go_upto_region 1 with fail
          refine wp_region_cls0 ?_
          repeat (first | go_big_quiet_skip | (go_big_quiet_want; first | (refine quiet_ms hm.sh _ rfl rfl p0.cls ?_; simp only [Act.put, List.setIfInBounds_toArray, List.set_cons_succ, List.set_cons_zero]; go_big_quiet_on) | (refine quiet_ck hm.sh.1 _ rfl rfl p1.cls ?_; simp only [Act.put, List.setIfInBounds_toArray, List.set_cons_succ, List.set_cons_zero]; go_big_quiet_on) | (refine quiet_rnds hm.sh.2.2 _ rfl rfl p2.cls ?_; simp only [Act.put, List.setIfInBounds_toArray, List.set_cons_succ, List.set_cons_zero]; go_big_quiet_on) | (go_big_quiet_op; first | go_big_quiet_on | go_big_quiet_call ((first | (go_at_call 20; exact cls_of_same (isOne_is g0 _)) | (go_at_call 21; exact cls_of_same (isWithin_is g1 _)) | (go_at_call 22; exact cls_of (uses_is g3 g0 _ _ hm.sh (hA1.later (wOf_below _)))) | (go_at_call 23; exact cls_of (areRight_is g4 _ _ (hA1.later (wOf_below _)) hm.acts hm.len)) | (go_at_call 24; exact cls_of (isRow_is g5 _ hm.sh.1)) | (go_at_call 25; exact cls_of (areRounds_is g6 _ hm.sh.2.2)))))))
          refine wpQuiet_nil ?_
          rintro w1 ⟨s1, e1⟩
          have hb1 := wOf_below s1
          rw [← e1] at hb1
          clear e1 s1
          replace hB := bgo hB hb1
          clear hb1
          go_wp2
          go_ret
          exact ⟨by rw [HV.out]; simp [g0, g1, g2, g3], hB⟩
        · skip
          cases g4 : m.2.2.2.2.1.all actB
          · skip
            go_enter Tryd.func9, Tryd.ntmps9
            go_upto_region 1 with fail
            refine wp_region_cls0 ?_
            repeat (first | go_big_quiet_skip | (go_big_quiet_want; first | (refine quiet_ms hm.sh _ rfl rfl p0.cls ?_; simp only [Act.put, List.setIfInBounds_toArray, List.set_cons_succ, List.set_cons_zero]; go_big_quiet_on) | (refine quiet_ck hm.sh.1 _ rfl rfl p1.cls ?_; simp only [Act.put, List.setIfInBounds_toArray, List.set_cons_succ, List.set_cons_zero]; go_big_quiet_on) | (refine quiet_rnds hm.sh.2.2 _ rfl rfl p2.cls ?_; simp only [Act.put, List.setIfInBounds_toArray, List.set_cons_succ, List.set_cons_zero]; go_big_quiet_on) | (go_big_quiet_op; first | go_big_quiet_on | go_big_quiet_call ((first | (go_at_call 20; exact cls_of_same (isOne_is g0 _)) | (go_at_call 21; exact cls_of_same (isWithin_is g1 _)) | (go_at_call 22; exact cls_of (uses_is g3 g0 _ _ hm.sh (hA1.later (wOf_below _)))) | (go_at_call 23; exact cls_of (areRight_is g4 _ _ (hA1.later (wOf_below _)) hm.acts hm.len)) | (go_at_call 24; exact cls_of (isRow_is g5 _ hm.sh.1)) | (go_at_call 25; exact cls_of (areRounds_is g6 _ hm.sh.2.2)))))))
            refine wpQuiet_nil ?_
            rintro w1 ⟨s1, e1⟩
            have hb1 := wOf_below s1
            rw [← e1] at hb1
            clear e1 s1
            replace hB := bgo hB hb1
            clear hb1
            go_wp2
            go_ret
            exact ⟨by rw [HV.out]; simp [g0, g1, g2, g3, g4], hB⟩
          · skip
            cases g5 : rowB mx63 m.2.2.2.1
            · skip
              go_enter Tryd.func9, Tryd.ntmps9
              go_upto_region 1 with fail
              refine wp_region_cls0 ?_
              repeat (first | go_big_quiet_skip | (go_big_quiet_want; first | (refine quiet_ms hm.sh _ rfl rfl p0.cls ?_; simp only [Act.put, List.setIfInBounds_toArray, List.set_cons_succ, List.set_cons_zero]; go_big_quiet_on) | (refine quiet_ck hm.sh.1 _ rfl rfl p1.cls ?_; simp only [Act.put, List.setIfInBounds_toArray, List.set_cons_succ, List.set_cons_zero]; go_big_quiet_on) | (refine quiet_rnds hm.sh.2.2 _ rfl rfl p2.cls ?_; simp only [Act.put, List.setIfInBounds_toArray, List.set_cons_succ, List.set_cons_zero]; go_big_quiet_on) | (go_big_quiet_op; first | go_big_quiet_on | go_big_quiet_call ((first | (go_at_call 20; exact cls_of_same (isOne_is g0 _)) | (go_at_call 21; exact cls_of_same (isWithin_is g1 _)) | (go_at_call 22; exact cls_of (uses_is g3 g0 _ _ hm.sh (hA1.later (wOf_below _)))) | (go_at_call 23; exact cls_of (areRight_is g4 _ _ (hA1.later (wOf_below _)) hm.acts hm.len)) | (go_at_call 24; exact cls_of (isRow_is g5 _ hm.sh.1)) | (go_at_call 25; exact cls_of (areRounds_is g6 _ hm.sh.2.2)))))))
              refine wpQuiet_nil ?_
              rintro w1 ⟨s1, e1⟩
              have hb1 := wOf_below s1
              rw [← e1] at hb1
              clear e1 s1
              replace hB := bgo hB hb1
              clear hb1
              go_wp2
              go_ret
              exact ⟨by rw [HV.out]; simp [g0, g1, g2, g3, g4, g5], hB⟩
            · skip
              cases g6 : m.2.2.2.2.2.all rndB
              · skip
                go_enter Tryd.func9, Tryd.ntmps9
                go_upto_region 1 with fail
                refine wp_region_cls0 ?_
                repeat (first | go_big_quiet_skip | (go_big_quiet_want; first | (refine quiet_ms hm.sh _ rfl rfl p0.cls ?_; simp only [Act.put, List.setIfInBounds_toArray, List.set_cons_succ, List.set_cons_zero]; go_big_quiet_on) | (refine quiet_ck hm.sh.1 _ rfl rfl p1.cls ?_; simp only [Act.put, List.setIfInBounds_toArray, List.set_cons_succ, List.set_cons_zero]; go_big_quiet_on) | (refine quiet_rnds hm.sh.2.2 _ rfl rfl p2.cls ?_; simp only [Act.put, List.setIfInBounds_toArray, List.set_cons_succ, List.set_cons_zero]; go_big_quiet_on) | (go_big_quiet_op; first | go_big_quiet_on | go_big_quiet_call ((first | (go_at_call 20; exact cls_of_same (isOne_is g0 _)) | (go_at_call 21; exact cls_of_same (isWithin_is g1 _)) | (go_at_call 22; exact cls_of (uses_is g3 g0 _ _ hm.sh (hA1.later (wOf_below _)))) | (go_at_call 23; exact cls_of (areRight_is g4 _ _ (hA1.later (wOf_below _)) hm.acts hm.len)) | (go_at_call 24; exact cls_of (isRow_is g5 _ hm.sh.1)) | (go_at_call 25; exact cls_of (areRounds_is g6 _ hm.sh.2.2)))))))
                refine wpQuiet_nil ?_
                rintro w1 ⟨s1, e1⟩
                have hb1 := wOf_below s1
                rw [← e1] at hb1
                clear e1 s1
                replace hB := bgo hB hb1
                clear hb1
                go_wp2
                go_ret
                exact ⟨by rw [HV.out]; simp [g0, g1, g2, g3, g4, g5, g6], hB⟩
              · skip
                go_enter Tryd.func9, Tryd.ntmps9
                go_upto_region 1 with fail
                refine wp_region_cls0 ?_
                repeat (first | go_big_quiet_skip | (go_big_quiet_want; first | (refine quiet_ms hm.sh _ rfl rfl p0.cls ?_; simp only [Act.put, List.setIfInBounds_toArray, List.set_cons_succ, List.set_cons_zero]; go_big_quiet_on) | (refine quiet_ck hm.sh.1 _ rfl rfl p1.cls ?_; simp only [Act.put, List.setIfInBounds_toArray, List.set_cons_succ, List.set_cons_zero]; go_big_quiet_on) | (refine quiet_rnds hm.sh.2.2 _ rfl rfl p2.cls ?_; simp only [Act.put, List.setIfInBounds_toArray, List.set_cons_succ, List.set_cons_zero]; go_big_quiet_on) | (go_big_quiet_op; first | go_big_quiet_on | go_big_quiet_call ((first | (go_at_call 20; exact cls_of_same (isOne_is g0 _)) | (go_at_call 21; exact cls_of_same (isWithin_is g1 _)) | (go_at_call 22; exact cls_of (uses_is g3 g0 _ _ hm.sh (hA1.later (wOf_below _)))) | (go_at_call 23; exact cls_of (areRight_is g4 _ _ (hA1.later (wOf_below _)) hm.acts hm.len)) | (go_at_call 24; exact cls_of (isRow_is g5 _ hm.sh.1)) | (go_at_call 25; exact cls_of (areRounds_is g6 _ hm.sh.2.2)))))))
                refine wpQuiet_nil ?_
                rintro w1 ⟨s1, e1⟩
                have hb1 := wOf_below s1
                rw [← e1] at hb1
                clear e1 s1
                replace hB := bgo hB hb1
                clear hb1
                go_wp2
                go_ret
                exact ⟨by rw [HV.out]; simp [g0, g1, g2, g3, g4, g5, g6], hB⟩
theorem right_is {m : Pms} {v : Bool} (h : rightB m = v) (s : Value) (w : World) (hm : fitM m) (hA : SlA w s m.2.2.2.2.1) :
    Calls Tryd.prog 9 #[.agg (mv m s)] w fun e w' => e = .returned (.bool v) ∧ Below w.heap.size w w' := h ▸ right_any m s w hm hA
end Go.Proofs.YtildmcmjpmidgaaDoor
