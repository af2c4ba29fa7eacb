
/-
  Acts and messages held against one another; Kind; clip.
-/
import Derived.Test.YteffpnjgchihpaaGreatDoorPB40
namespace Go.Proofs.YteffpnjgchihpaaGreatDoor
open Go.RowKit
set_option maxRecDepth 100000

theorem take_eq_step {α : Type} {l m : List α} {k : Nat} {a b : α} (ha : l[k]? = some a) (hb : m[k]? = some b) (h : l.take k = m.take k) (he : a = b) : l.take (k + 1) = m.take (k + 1) := by
  rw [List.take_add_one, List.take_add_one, ha, hb, h, he]

set_option maxHeartbeats 4000000 in
theorem actsK_any (l m : List Pac) (v u : Value) (w : World) (hl : SlA w v l) (hm : SlA w u m) (sl : ∀ a ∈ l, shA a) (sm : ∀ a ∈ m, shA a) (hn : l.length ≤ 1000000) :
    Calls Tryz.prog 40 #[v, u] w fun e w' => e = .returned (.bool (l == m)) ∧ Below w.heap.size w w' := by
  by_cases hle : l.length = m.length
  · rcases hl with ⟨rfl, a0, c, rfl⟩ | ⟨g, o_, c, rfl, hA⟩
    · obtain ⟨a1, c1, rfl⟩ := hm.form
      have hm0 : m = [] := List.length_eq_zero_iff.1 hle.symm
      subst hm0
      go_enter Tryz.func40, Tryz.ntmps40
      go_wp2
      refine wp_loop_rounds 1 ?_
      rw [rounds_succ]
      go_wp2
      go_ret
      exact ⟨rfl, Below.refl _ _⟩
    · by_cases hl0 : l = []
      · subst hl0
        obtain ⟨a1, c1, rfl⟩ := hm.form
        have hm0 : m = [] := List.length_eq_zero_iff.1 hle.symm
        subst hm0
        go_enter Tryz.func40, Tryz.ntmps40
        go_wp2
        refine wp_loop_rounds 1 ?_
        rw [rounds_succ]
        go_wp2
        go_ret
        exact ⟨rfl, Below.refl _ _⟩
      · obtain ⟨g2, o2, c2, rfl, hM⟩ : ∃ g o_ c, u = .slice (some ⟨g, o_, none⟩) m.length c ∧ AcsAt g o_ m w := by
          rcases hm with ⟨rfl, _⟩ | h
          · exact absurd (List.length_eq_zero_iff.1 (by rw [hle]; rfl)) hl0
          · exact h
        rw [← hle]
        obtain ⟨n, hnn⟩ : ∃ n, l.length = n := ⟨_, rfl⟩
        rw [hnn] at hle hn ⊢
        have HN := hid_of' (And.intro hnn hle)
        have HA := hid_of' (And.intro (And.intro hA hM) (And.intro sl sm))
        clear hA hM sl sm hnn hle hl0
        go_enter Tryz.func40, Tryz.ntmps40
        go_wp2
        go_loopw [5] (fun i wr => ∃ k : Nat, i = .int .i64 (k : Int) ∧ k ≤ n ∧ Below w.heap.size w wr ∧ Hid (l.take k = m.take k)) (fun i _ => n - (intOf i).toNat)
        case atStart => exact ⟨0, rfl, by omega, Below.refl _ _, rfl⟩
        case round =>
          obtain ⟨k, rfl, hk, hB, hT⟩ := hrel
          by_cases hkn : k < n
          · have hki : (k : Int) < (n : Int) := by omega
            have hw1 : wrap64 ((k : Int) + 1) = (k : Int) + 1 := by unfold wrap64; omega
            obtain ⟨a, ha⟩ : ∃ a, l[k]? = some a := ⟨_, List.getElem?_eq_getElem (by rw [HN.out.1]; exact hkn)⟩
            obtain ⟨b, hb⟩ : ∃ b, m[k]? = some b := ⟨_, List.getElem?_eq_getElem (by rw [← HN.out.2]; exact hkn)⟩
            have sa := HA.out.2.1 a (List.mem_of_getElem? ha)
            have sb := HA.out.2.2 b (List.mem_of_getElem? hb)
            have p1 := (HA.out.1.1.2 k a ha).later hB
            have p2 := (HA.out.1.2.2 k b hb).later hB
            have HX := hid_of' (And.intro ha hb)
            clear ha hb
            have q1 := fun w => eqIn_act 9996 sa sb w
            have gd := act_guard
            cases e1 : (a == b)
            · simp only [e1] at q1
              have E1 := hid_of' e1
              clear e1
              go_upto_region 6 with fail
              refine wp_region_cls (by kernel_rfl) (by kernel_rfl) ?_
              repeat (first | go_big_quiet_skip | (go_big_quiet_want; first | (refine quiet_act sa _ rfl rfl p1.cls ?_; simp only [Act.put, List.setIfInBounds_toArray, List.set_cons_succ, List.set_cons_zero]; go_big_quiet_on) | (refine quiet_act sb _ rfl rfl p2.cls ?_; simp only [Act.put, List.setIfInBounds_toArray, List.set_cons_succ, List.set_cons_zero]; go_big_quiet_on) | (go_big_quiet_op; first | go_big_quiet_on | go_big_quiet_call ((fail)))))
              refine wpQuiet_nil ?_
              rintro w1 ⟨s1, e1⟩
              have hb1 := wOf_below s1
              rw [← e1] at hb1
              clear e1 s1
              replace hB := bgo hB hb1
              clear hb1
              go_wp2
              go_ret
              refine ⟨?_, hB⟩
              have hne : (l == m) = false := by
                rw [beq_eq_false_iff_ne]
                intro he
                subst he
                have := HX.out.1.symm.trans HX.out.2
                cases this
                simp at E1
                exact absurd E1.out (by simp)
              rw [hne]; rfl
            · simp only [e1] at q1
              have E1 := hid_of' (eq_of_beq e1)
              clear e1
              go_upto_region 6 with fail
              refine wp_region_cls (by kernel_rfl) (by kernel_rfl) ?_
              repeat (first | go_big_quiet_skip | (go_big_quiet_want; first | (refine quiet_act sa _ rfl rfl p1.cls ?_; simp only [Act.put, List.setIfInBounds_toArray, List.set_cons_succ, List.set_cons_zero]; go_big_quiet_on) | (refine quiet_act sb _ rfl rfl p2.cls ?_; simp only [Act.put, List.setIfInBounds_toArray, List.set_cons_succ, List.set_cons_zero]; go_big_quiet_on) | (go_big_quiet_op; first | go_big_quiet_on | go_big_quiet_call ((fail)))))
              refine wpQuiet_nil ?_
              rintro w1 ⟨s1, e1⟩
              have hb1 := wOf_below s1
              rw [← e1] at hb1
              clear e1 s1
              replace hB := bgo hB hb1
              clear hb1
              go_wp2
              go_roundw
              case rel => exact ⟨k + 1, by go_num, by omega, hB, take_eq_step HX.out.1 HX.out.2 hT.out E1.out⟩
              case measure => simp [intOf]; omega
          · have hki : ¬ (k : Int) < (n : Int) := by omega
            go_wp2
            go_ret
            refine ⟨?_, hB⟩
            have heq : l = m := by
              have := hT.out
              rwa [List.take_of_length_le (by rw [HN.out.1]; omega), List.take_of_length_le (by rw [← HN.out.2]; omega)] at this
            rw [heq, beq_self_eq_true]; rfl
  · obtain ⟨a0, c0, rfl⟩ := hl.form
    obtain ⟨a1, c1, rfl⟩ := hm.form
    have hne : (l == m) = false := by
      rw [beq_eq_false_iff_ne]
      intro he
      exact hle (by rw [he])
    have HV := hid_of' hne
    have hb : ((l.length : Int) == (m.length : Int)) = false := by simpa using (fun h => hle (by omega))
    have hb' : ((l.length : Int) != (m.length : Int)) = true := by simp only [bne, hb]; rfl
    clear hne hle hl hm
    generalize l.length = n1 at *
    generalize m.length = n2 at *
    go_enter Tryz.func40, Tryz.ntmps40
    go_wp2
    go_ret
    exact ⟨by rw [HV.out]; rfl, Below.refl _ _⟩
theorem actsK_is {l m : List Pac} {x : Bool} (h : (l == m) = x) (v u : Value) (w : World) (hl : SlA w v l) (hm : SlA w u m) (sl : ∀ a ∈ l, shA a) (sm : ∀ a ∈ m, shA a) (hn : l.length ≤ 1000000) :
    Calls Tryz.prog 40 #[v, u] w fun e w' => e = .returned (.bool x) ∧ Below w.heap.size w w' := h ▸ actsK_any l m v u w hl hm sl sm hn

set_option maxHeartbeats 4000000 in
theorem messageK_any (a b : Pms) (s t : Value) (w : World) (ha : shM a) (hb : shM b) (hA : SlA w s a.2.2.2.2.1) (hBa : SlA w t b.2.2.2.2.1) (hn : a.2.2.2.2.1.length ≤ 1000000) :
    Calls Tryz.prog 42 #[.agg (mv a s), .agg (mv b t)] w fun e w' => e = .returned (.bool (a == b)) ∧ Below w.heap.size w w' := by
  obtain ⟨h1, h2, hB⟩ := two_boxes w (mv a s) (mv b t) 31 31
  have hA1 := hA.later hB
  have hB1 := hBa.later hB
  have HV := hid_of' (show (a == b) = (a.1 == b.1 && (a.2.1 == b.2.1 && (a.2.2.1 == b.2.2.1 && (a.2.2.2.1 == b.2.2.2.1 && (a.2.2.2.2.1 == b.2.2.2.2.1 && a.2.2.2.2.2 == b.2.2.2.2.2))))) from rfl)
  have d0 := h1.cls 0 _ (mv_k a s)
  have d1 := h1.cls 1 _ (mv_f a s)
  have d2 := h1.cls 2 _ (mv_e a s)
  have d3 := h1.cls 11 _ (mv_a s ha)
  have f0 := h2.cls 0 _ (mv_k b t)
  have f1 := h2.cls 1 _ (mv_f b t)
  have f2 := h2.cls 2 _ (mv_e b t)
  have f3 := h2.cls 11 _ (mv_a t hb)
  have p1 := h1.in.msC
  have p2 := h1.in.msR ha
  have p3 := h2.in.msC
  have p4 := h2.in.msR hb
  have q1 := fun w => eqIn_ck 9998 a.2.2.2.1 b.2.2.2.1 ha.1 hb.1 w
  have q2 := fun w => eqIn_rnds 9995 ha.2.2 hb.2.2 w
  have gc := ck_guard
  have gr := rnds_guard
  cases g0 : (a.1 == b.1)
  · skip
    go_enter Tryz.func42, Tryz.ntmps42
    go_upto_region 1 with fail
    refine wp_region_cls0 ?_
    repeat (first | go_big_quiet_skip | (go_big_quiet_want; first | (refine quiet_ck ha.1 _ rfl rfl p1.cls ?_; simp only [Act.put, List.setIfInBounds_toArray, List.set_cons_succ, List.set_cons_zero]; go_big_quiet_on) | (refine quiet_ck hb.1 _ rfl rfl p3.cls ?_; simp only [Act.put, List.setIfInBounds_toArray, List.set_cons_succ, List.set_cons_zero]; go_big_quiet_on) | (refine quiet_rnds ha.2.2 _ rfl rfl p2.cls ?_; simp only [Act.put, List.setIfInBounds_toArray, List.set_cons_succ, List.set_cons_zero]; go_big_quiet_on) | (refine quiet_rnds hb.2.2 _ rfl rfl p4.cls ?_; simp only [Act.put, List.setIfInBounds_toArray, List.set_cons_succ, List.set_cons_zero]; go_big_quiet_on) | (go_big_quiet_op; first | go_big_quiet_on | go_big_quiet_call ((go_at_call 40; exact cls_of (actsK_is g5 _ _ _ (hA1.later (wOf_below _)) (hB1.later (wOf_below _)) ha.2.1 hb.2.1 hn))))))
    refine wpQuiet_nil ?_
    rintro w1 ⟨s1, e1⟩
    have hb1 := wOf_below s1
    rw [← e1] at hb1
    clear e1 s1
    replace hB := bgo hB hb1
    clear hb1
    go_wp2
    go_ret
    exact ⟨by rw [HV.out]; simp [g0], hB⟩
  · skip
    cases g1 : (a.2.1 == b.2.1)
    · skip
      go_enter Tryz.func42, Tryz.ntmps42
      go_upto_region 1 with fail
      refine wp_region_cls0 ?_
      repeat (first | go_big_quiet_skip | (go_big_quiet_want; first | (refine quiet_ck ha.1 _ rfl rfl p1.cls ?_; simp only [Act.put, List.setIfInBounds_toArray, List.set_cons_succ, List.set_cons_zero]; go_big_quiet_on) | (refine quiet_ck hb.1 _ rfl rfl p3.cls ?_; simp only [Act.put, List.setIfInBounds_toArray, List.set_cons_succ, List.set_cons_zero]; go_big_quiet_on) | (refine quiet_rnds ha.2.2 _ rfl rfl p2.cls ?_; simp only [Act.put, List.setIfInBounds_toArray, List.set_cons_succ, List.set_cons_zero]; go_big_quiet_on) | (refine quiet_rnds hb.2.2 _ rfl rfl p4.cls ?_; simp only [Act.put, List.setIfInBounds_toArray, List.set_cons_succ, List.set_cons_zero]; go_big_quiet_on) | (go_big_quiet_op; first | go_big_quiet_on | go_big_quiet_call ((go_at_call 40; exact cls_of (actsK_is g5 _ _ _ (hA1.later (wOf_below _)) (hB1.later (wOf_below _)) ha.2.1 hb.2.1 hn))))))
      refine wpQuiet_nil ?_
      rintro w1 ⟨s1, e1⟩
      have hb1 := wOf_below s1
      rw [← e1] at hb1
      clear e1 s1
      replace hB := bgo hB hb1
      clear hb1
      go_wp2
      go_ret
      exact ⟨by rw [HV.out]; simp [g0, g1], hB⟩
    · skip
      cases g2 : (a.2.2.1 == b.2.2.1)
      · skip
        go_enter Tryz.func42, Tryz.ntmps42
        go_upto_region 1 with fail
        refine wp_region_cls0 ?_
        repeat (first | go_big_quiet_skip | (go_big_quiet_want; first | (refine quiet_ck ha.1 _ rfl rfl p1.cls ?_; simp only [Act.put, List.setIfInBounds_toArray, List.set_cons_succ, List.set_cons_zero]; go_big_quiet_on) | (refine quiet_ck hb.1 _ rfl rfl p3.cls ?_; simp only [Act.put, List.setIfInBounds_toArray, List.set_cons_succ, List.set_cons_zero]; go_big_quiet_on) | (refine quiet_rnds ha.2.2 _ rfl rfl p2.cls ?_; simp only [Act.put, List.setIfInBounds_toArray, List.set_cons_succ, List.set_cons_zero]; go_big_quiet_on) | (refine quiet_rnds hb.2.2 _ rfl rfl p4.cls ?_; simp only [Act.put, List.setIfInBounds_toArray, List.set_cons_succ, List.set_cons_zero]; go_big_quiet_on) | (go_big_quiet_op; first | go_big_quiet_on | go_big_quiet_call ((go_at_call 40; exact cls_of (actsK_is g5 _ _ _ (hA1.later (wOf_below _)) (hB1.later (wOf_below _)) ha.2.1 hb.2.1 hn))))))
        refine wpQuiet_nil ?_
        rintro w1 ⟨s1, e1⟩
        have hb1 := wOf_below s1
        rw [← e1] at hb1
        clear e1 s1
        replace hB := bgo hB hb1
        clear hb1
        go_wp2
        go_ret
        exact ⟨by rw [HV.out]; simp [g0, g1, g2], hB⟩
      · skip
        cases g3 : (a.2.2.2.1 == b.2.2.2.1)
        · skip
          simp only [g3] at q1
          go_enter Tryz.func42, Tryz.ntmps42
          go_upto_region 1 with fail
          refine wp_region_cls0 ?_
          repeat (first | go_big_quiet_skip | (go_big_quiet_want; first | (refine quiet_ck ha.1 _ rfl rfl p1.cls ?_; simp only [Act.put, List.setIfInBounds_toArray, List.set_cons_succ, List.set_cons_zero]; go_big_quiet_on) | (refine quiet_ck hb.1 _ rfl rfl p3.cls ?_; simp only [Act.put, List.setIfInBounds_toArray, List.set_cons_succ, List.set_cons_zero]; go_big_quiet_on) | (refine quiet_rnds ha.2.2 _ rfl rfl p2.cls ?_; simp only [Act.put, List.setIfInBounds_toArray, List.set_cons_succ, List.set_cons_zero]; go_big_quiet_on) | (refine quiet_rnds hb.2.2 _ rfl rfl p4.cls ?_; simp only [Act.put, List.setIfInBounds_toArray, List.set_cons_succ, List.set_cons_zero]; go_big_quiet_on) | (go_big_quiet_op; first | go_big_quiet_on | go_big_quiet_call ((go_at_call 40; exact cls_of (actsK_is g5 _ _ _ (hA1.later (wOf_below _)) (hB1.later (wOf_below _)) ha.2.1 hb.2.1 hn))))))
          refine wpQuiet_nil ?_
          rintro w1 ⟨s1, e1⟩
          have hb1 := wOf_below s1
          rw [← e1] at hb1
          clear e1 s1
          replace hB := bgo hB hb1
          clear hb1
          go_wp2
          go_ret
          exact ⟨by rw [HV.out]; simp [g0, g1, g2, g3], hB⟩
        · skip
          simp only [g3] at q1
          cases g4 : (a.2.2.2.2.2 == b.2.2.2.2.2)
          · skip
            simp only [g4] at q2
            go_enter Tryz.func42, Tryz.ntmps42
            go_upto_region 1 with fail
            refine wp_region_cls0 ?_
            repeat (first | go_big_quiet_skip | (go_big_quiet_want; first | (refine quiet_ck ha.1 _ rfl rfl p1.cls ?_; simp only [Act.put, List.setIfInBounds_toArray, List.set_cons_succ, List.set_cons_zero]; go_big_quiet_on) | (refine quiet_ck hb.1 _ rfl rfl p3.cls ?_; simp only [Act.put, List.setIfInBounds_toArray, List.set_cons_succ, List.set_cons_zero]; go_big_quiet_on) | (refine quiet_rnds ha.2.2 _ rfl rfl p2.cls ?_; simp only [Act.put, List.setIfInBounds_toArray, List.set_cons_succ, List.set_cons_zero]; go_big_quiet_on) | (refine quiet_rnds hb.2.2 _ rfl rfl p4.cls ?_; simp only [Act.put, List.setIfInBounds_toArray, List.set_cons_succ, List.set_cons_zero]; go_big_quiet_on) | (go_big_quiet_op; first | go_big_quiet_on | go_big_quiet_call ((go_at_call 40; exact cls_of (actsK_is g5 _ _ _ (hA1.later (wOf_below _)) (hB1.later (wOf_below _)) ha.2.1 hb.2.1 hn))))))
            refine wpQuiet_nil ?_
            rintro w1 ⟨s1, e1⟩
            have hb1 := wOf_below s1
            rw [← e1] at hb1
            clear e1 s1
            replace hB := bgo hB hb1
            clear hb1
            go_wp2
            go_ret
            exact ⟨by rw [HV.out]; simp [g0, g1, g2, g3, g4], hB⟩
          · skip
            simp only [g4] at q2
            cases g5 : (a.2.2.2.2.1 == b.2.2.2.2.1)
            · skip
              go_enter Tryz.func42, Tryz.ntmps42
              go_upto_region 1 with fail
              refine wp_region_cls0 ?_
              repeat (first | go_big_quiet_skip | (go_big_quiet_want; first | (refine quiet_ck ha.1 _ rfl rfl p1.cls ?_; simp only [Act.put, List.setIfInBounds_toArray, List.set_cons_succ, List.set_cons_zero]; go_big_quiet_on) | (refine quiet_ck hb.1 _ rfl rfl p3.cls ?_; simp only [Act.put, List.setIfInBounds_toArray, List.set_cons_succ, List.set_cons_zero]; go_big_quiet_on) | (refine quiet_rnds ha.2.2 _ rfl rfl p2.cls ?_; simp only [Act.put, List.setIfInBounds_toArray, List.set_cons_succ, List.set_cons_zero]; go_big_quiet_on) | (refine quiet_rnds hb.2.2 _ rfl rfl p4.cls ?_; simp only [Act.put, List.setIfInBounds_toArray, List.set_cons_succ, List.set_cons_zero]; go_big_quiet_on) | (go_big_quiet_op; first | go_big_quiet_on | go_big_quiet_call ((go_at_call 40; exact cls_of (actsK_is g5 _ _ _ (hA1.later (wOf_below _)) (hB1.later (wOf_below _)) ha.2.1 hb.2.1 hn))))))
              refine wpQuiet_nil ?_
              rintro w1 ⟨s1, e1⟩
              have hb1 := wOf_below s1
              rw [← e1] at hb1
              clear e1 s1
              replace hB := bgo hB hb1
              clear hb1
              go_wp2
              go_ret
              exact ⟨by rw [HV.out]; simp [g0, g1, g2, g3, g4, g5], hB⟩
            · skip
              go_enter Tryz.func42, Tryz.ntmps42
              go_upto_region 1 with fail
              refine wp_region_cls0 ?_
              repeat (first | go_big_quiet_skip | (go_big_quiet_want; first | (refine quiet_ck ha.1 _ rfl rfl p1.cls ?_; simp only [Act.put, List.setIfInBounds_toArray, List.set_cons_succ, List.set_cons_zero]; go_big_quiet_on) | (refine quiet_ck hb.1 _ rfl rfl p3.cls ?_; simp only [Act.put, List.setIfInBounds_toArray, List.set_cons_succ, List.set_cons_zero]; go_big_quiet_on) | (refine quiet_rnds ha.2.2 _ rfl rfl p2.cls ?_; simp only [Act.put, List.setIfInBounds_toArray, List.set_cons_succ, List.set_cons_zero]; go_big_quiet_on) | (refine quiet_rnds hb.2.2 _ rfl rfl p4.cls ?_; simp only [Act.put, List.setIfInBounds_toArray, List.set_cons_succ, List.set_cons_zero]; go_big_quiet_on) | (go_big_quiet_op; first | go_big_quiet_on | go_big_quiet_call ((go_at_call 40; exact cls_of (actsK_is g5 _ _ _ (hA1.later (wOf_below _)) (hB1.later (wOf_below _)) ha.2.1 hb.2.1 hn))))))
              refine wpQuiet_nil ?_
              rintro w1 ⟨s1, e1⟩
              have hb1 := wOf_below s1
              rw [← e1] at hb1
              clear e1 s1
              replace hB := bgo hB hb1
              clear hb1
              go_wp2
              go_ret
              exact ⟨by rw [HV.out]; simp [g0, g1, g2, g3, g4, g5], hB⟩
theorem messageK_is {a b : Pms} {x : Bool} (h : (a == b) = x) (s t : Value) (w : World) (ha : shM a) (hb : shM b) (hA : SlA w s a.2.2.2.2.1) (hBa : SlA w t b.2.2.2.2.1) (hn : a.2.2.2.2.1.length ≤ 1000000) :
    Calls Tryz.prog 42 #[.agg (mv a s), .agg (mv b t)] w fun e w' => e = .returned (.bool x) ∧ Below w.heap.size w w' := h ▸ messageK_any a b s t w ha hb hA hBa hn

/-- Kind. -/
def kindB : List UInt8 → Int
  | [] => 0
  | b :: _ => if oneB (b.toNat : Int) 4 then (b.toNat : Int) else 0
theorem kindP_any {w : World} {v : Value} {bs : List UInt8} (h : SlB w v bs) :
    Calls Tryz.prog 43 #[v] w fun e w' => e = .returned (.int .i64 (kindB bs)) ∧ w' = w := by
  cases bs with
  | nil =>
    obtain ⟨a, c, rfl⟩ : ∃ a c, v = .slice a 0 c := by
      rcases h with ⟨_, a, c, rfl⟩ | ⟨g, o, c, rfl, _⟩
      · exact ⟨a, c, rfl⟩
      · exact ⟨_, c, rfl⟩
    go_enter Tryz.func43, Tryz.ntmps43
    go_wp2
    go_ret
    exact ⟨rfl, rfl⟩
  | cons b r =>
    rcases h with ⟨h, _⟩ | ⟨g, o, c, rfl, hg, hc⟩
    · cases h
    · have c0 : w.cell? ⟨g, o, none⟩ = some (.int .u8 b.toNat) := by have := hc 0 b rfl; rwa [Nat.add_zero] at this
      have hw := wrap_small b.toNat_lt
      have hl0 : (((b :: r).length : Int) == 0) = false := by simp only [List.length_cons]; exact beq_false_of_ne (by omega)
      have hl1 : (0 : Int) < ((b :: r).length : Int) := by simp only [List.length_cons]; omega
      have HV := hid_of' (show kindB (b :: r) = if oneB (b.toNat : Int) 4 then (b.toNat : Int) else 0 from rfl)
      clear hc
      generalize (b :: r).length = n at *
      generalize kindB (b :: r) = z at *
      cases ho : oneB (b.toNat : Int) 4
      · have HO := hid_of' ho
        go_enter Tryz.func43, Tryz.ntmps43
        go_wp2_with (go_at_call 26; refine (isOne_is HO.out _).mono ?_; rintro e w4 ⟨rfl, h0⟩; obtain rfl := h0.symm)
        go_ret
        exact ⟨by rw [HV.out, if_neg (by rw [HO.out]; decide)]; rfl, rfl⟩
      · have HO := hid_of' ho
        go_enter Tryz.func43, Tryz.ntmps43
        go_wp2_with (go_at_call 26; refine (isOne_is HO.out _).mono ?_; rintro e w4 ⟨rfl, h0⟩; obtain rfl := h0.symm)
        go_ret
        exact ⟨by rw [HV.out, if_pos HO.out]; rfl, rfl⟩
theorem kindP_is {w : World} {v : Value} {bs : List UInt8} {z : Int} (hz : kindB bs = z) (h : SlB w v bs) :
    Calls Tryz.prog 43 #[v] w fun e w' => e = .returned (.int .i64 z) ∧ w' = w := hz ▸ kindP_any h

/-- Bytes in a block of their own as a text. -/
theorem conv_block {w : World} {g : Nat} {bs : List UInt8} (h : w.heap[g]? = some (.cells (Lib.byteCells bs).toArray 5 (0, 0))) (c : Nat) : (convert 33 9 (.slice (some ⟨g, 0, none⟩) bs.length c)).run Tryz.prog w = .ok (.string ⟨bs.toArray⟩) w :=
  run_convert_bytes_back (P := Tryz.prog) w 33 9 5 ⟨g, 0, none⟩ c bs Tryz.underlying33 Tryz.underlying5 Tryz.underlying9 (fun j hj => by
    rw [Addr.add_lit, Nat.zero_add, cellW_of h]
    simp [Lib.byteCells, hj])

end Go.Proofs.YteffpnjgchihpaaGreatDoor
