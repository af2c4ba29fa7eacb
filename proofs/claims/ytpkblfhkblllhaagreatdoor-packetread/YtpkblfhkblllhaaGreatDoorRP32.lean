
/-
  Acts and messages held against one another; Kind; clip. barrowlaw09.wakes answers true; PacketNames; PacketOne. What the document's Reader wants besides, over the rows of packets.
-/
import Derived.Test.YtpkblfhkblllhaaGreatDoorRP31
import Derived.Test.YtpkblfhkblllhaaGreatDoorRP15
import Derived.Test.YtpkblfhkblllhaaGreatDoorRP24
import Derived.WalkKit
import Derived.WalkSpells
import Derived.WalkLawsBesides
import Derived.Deep.WholeRow
import Derived.Laws.StructEq
import Derived.Deep.QuietTactic
import Derived.BigQuiet
import Derived.Deep.Cut
import Derived.Deep.RegionWith
import Derived.Deep.LoopGhost
namespace Go.Proofs.YtpkblfhkblllhaaGreatDoor
open Go.RowKit
set_option maxRecDepth 100000

theorem take_eq_step {α : Type} {l m : List α} {k : Nat} {a b : α} (ha : l[k]? = some a) (hb : m[k]? = some b) (h : l.take k = m.take k) (he : a = b) : l.take (k + 1) = m.take (k + 1) := by
  rw [List.take_add_one, List.take_add_one, ha, hb, h, he]

set_option maxHeartbeats 4000000 in
theorem actsK_any (l m : List Pac) (v u : Value) (w : World) (hl : SlA w v l) (hm : SlA w u m) (sl : ∀ a ∈ l, shA a) (sm : ∀ a ∈ m, shA a) (hn : l.length ≤ 1000000) :
    Calls Tryz.prog 31 #[v, u] w fun e w' => e = .returned (.bool (l == m)) ∧ Below w.heap.size w w' := by
  by_cases hle : l.length = m.length
  · rcases hl with ⟨rfl, a0, c, rfl⟩ | ⟨g, o_, c, rfl, hA⟩
    · obtain ⟨a1, c1, rfl⟩ := hm.form
      have hm0 : m = [] := List.length_eq_zero_iff.1 hle.symm
      subst hm0
      go_enter Tryz.func31, Tryz.ntmps31
      go_wp2
      refine wp_loop_rounds 1 ?_
      rw [rounds_succ]
      go_wp2
      go_ret
      exact ⟨rfl, Below.refl _ _⟩
    · by_cases hl0 : l = []
      · subst hl0
        obtain ⟨a1, c1, rfl⟩ := hm.form
        have hm0 : m = [] := List.length_eq_zero_iff.1 hle.symm
        subst hm0
        go_enter Tryz.func31, Tryz.ntmps31
        go_wp2
        refine wp_loop_rounds 1 ?_
        rw [rounds_succ]
        go_wp2
        go_ret
        exact ⟨rfl, Below.refl _ _⟩
      · obtain ⟨g2, o2, c2, rfl, hM⟩ : ∃ g o_ c, u = .slice (some ⟨g, o_, none⟩) m.length c ∧ AcsAt g o_ m w := by
          rcases hm with ⟨rfl, _⟩ | h
          · exact absurd (List.length_eq_zero_iff.1 (by rw [hle]; rfl)) hl0
          · exact h
        rw [← hle]
        obtain ⟨n, hnn⟩ : ∃ n, l.length = n := ⟨_, rfl⟩
        rw [hnn] at hle hn ⊢
        have HN := hid_of' (And.intro hnn hle)
        have HA := hid_of' (And.intro (And.intro hA hM) (And.intro sl sm))
        clear hA hM sl sm hnn hle hl0
        go_enter Tryz.func31, Tryz.ntmps31
        go_wp2
        go_loopw [5] (fun i wr => ∃ k : Nat, i = .int .i64 (k : Int) ∧ k ≤ n ∧ Below w.heap.size w wr ∧ Hid (l.take k = m.take k)) (fun i _ => n - (intOf i).toNat)
        case atStart => exact ⟨0, rfl, by omega, Below.refl _ _, rfl⟩
        case round =>
          obtain ⟨k, rfl, hk, hB, hT⟩ := hrel
          by_cases hkn : k < n
          · have hki : (k : Int) < (n : Int) := by omega
            have hw1 : wrap64 ((k : Int) + 1) = (k : Int) + 1 := by unfold wrap64; omega
            obtain ⟨a, ha⟩ : ∃ a, l[k]? = some a := ⟨_, List.getElem?_eq_getElem (by rw [HN.out.1]; exact hkn)⟩
            obtain ⟨b, hb⟩ : ∃ b, m[k]? = some b := ⟨_, List.getElem?_eq_getElem (by rw [← HN.out.2]; exact hkn)⟩
            have sa := HA.out.2.1 a (List.mem_of_getElem? ha)
            have sb := HA.out.2.2 b (List.mem_of_getElem? hb)
            have p1 := (HA.out.1.1.2 k a ha).later hB
            have p2 := (HA.out.1.2.2 k b hb).later hB
            have HX := hid_of' (And.intro ha hb)
            clear ha hb
            have q1 := fun w => eqIn_act 9996 sa sb w
            have gd := act_guard
            cases e1 : (a == b)
            · simp only [e1] at q1
              have E1 := hid_of' e1
              clear e1
              go_upto_region 6 with fail
              refine wp_region_cls (by kernel_rfl) (by kernel_rfl) ?_
              repeat (first | go_big_quiet_skip | (go_big_quiet_want; first | (refine quiet_act sa _ rfl rfl p1.cls ?_; simp only [Act.put, List.setIfInBounds_toArray, List.set_cons_succ, List.set_cons_zero]; go_big_quiet_on) | (refine quiet_act sb _ rfl rfl p2.cls ?_; simp only [Act.put, List.setIfInBounds_toArray, List.set_cons_succ, List.set_cons_zero]; go_big_quiet_on) | (go_big_quiet_op; first | go_big_quiet_on | go_big_quiet_call ((fail)))))
              refine wpQuiet_nil ?_
              rintro w1 ⟨s1, e1⟩
              have hb1 := wOf_below s1
              rw [← e1] at hb1
              clear e1 s1
              replace hB := bgo hB hb1
              clear hb1
              go_wp2
              go_ret
              refine ⟨?_, hB⟩
              have hne : (l == m) = false := by
                rw [beq_eq_false_iff_ne]
                intro he
                subst he
                have := HX.out.1.symm.trans HX.out.2
                cases this
                simp at E1
                exact absurd E1.out (by simp)
              rw [hne]; rfl
            · simp only [e1] at q1
              have E1 := hid_of' (eq_of_beq e1)
              clear e1
              go_upto_region 6 with fail
              refine wp_region_cls (by kernel_rfl) (by kernel_rfl) ?_
              repeat (first | go_big_quiet_skip | (go_big_quiet_want; first | (refine quiet_act sa _ rfl rfl p1.cls ?_; simp only [Act.put, List.setIfInBounds_toArray, List.set_cons_succ, List.set_cons_zero]; go_big_quiet_on) | (refine quiet_act sb _ rfl rfl p2.cls ?_; simp only [Act.put, List.setIfInBounds_toArray, List.set_cons_succ, List.set_cons_zero]; go_big_quiet_on) | (go_big_quiet_op; first | go_big_quiet_on | go_big_quiet_call ((fail)))))
              refine wpQuiet_nil ?_
              rintro w1 ⟨s1, e1⟩
              have hb1 := wOf_below s1
              rw [← e1] at hb1
              clear e1 s1
              replace hB := bgo hB hb1
              clear hb1
              go_wp2
              go_roundw
              case rel => exact ⟨k + 1, by go_num, by omega, hB, take_eq_step HX.out.1 HX.out.2 hT.out E1.out⟩
              case measure => simp [intOf]; omega
          · have hki : ¬ (k : Int) < (n : Int) := by omega
            go_wp2
            go_ret
            refine ⟨?_, hB⟩
            have heq : l = m := by
              have := hT.out
              rwa [List.take_of_length_le (by rw [HN.out.1]; omega), List.take_of_length_le (by rw [← HN.out.2]; omega)] at this
            rw [heq, beq_self_eq_true]; rfl
  · obtain ⟨a0, c0, rfl⟩ := hl.form
    obtain ⟨a1, c1, rfl⟩ := hm.form
    have hne : (l == m) = false := by
      rw [beq_eq_false_iff_ne]
      intro he
      exact hle (by rw [he])
    have HV := hid_of' hne
    have hb : ((l.length : Int) == (m.length : Int)) = false := by simpa using (fun h => hle (by omega))
    have hb' : ((l.length : Int) != (m.length : Int)) = true := by simp only [bne, hb]; rfl
    clear hne hle hl hm
    generalize l.length = n1 at *
    generalize m.length = n2 at *
    go_enter Tryz.func31, Tryz.ntmps31
    go_wp2
    go_ret
    exact ⟨by rw [HV.out]; rfl, Below.refl _ _⟩
theorem actsK_is {l m : List Pac} {x : Bool} (h : (l == m) = x) (v u : Value) (w : World) (hl : SlA w v l) (hm : SlA w u m) (sl : ∀ a ∈ l, shA a) (sm : ∀ a ∈ m, shA a) (hn : l.length ≤ 1000000) :
    Calls Tryz.prog 31 #[v, u] w fun e w' => e = .returned (.bool x) ∧ Below w.heap.size w w' := h ▸ actsK_any l m v u w hl hm sl sm hn

set_option maxHeartbeats 4000000 in
theorem messageK_any (a b : Pms) (s t : Value) (w : World) (ha : shM a) (hb : shM b) (hA : SlA w s a.2.2.2.2.1) (hBa : SlA w t b.2.2.2.2.1) (hn : a.2.2.2.2.1.length ≤ 1000000) :
    Calls Tryz.prog 11 #[.agg (mv a s), .agg (mv b t)] w fun e w' => e = .returned (.bool (a == b)) ∧ Below w.heap.size w w' := by
  obtain ⟨h1, h2, hB⟩ := two_boxes w (mv a s) (mv b t) 33 33
  have hA1 := hA.later hB
  have hB1 := hBa.later hB
  have HV := hid_of' (show (a == b) = (a.1 == b.1 && (a.2.1 == b.2.1 && (a.2.2.1 == b.2.2.1 && (a.2.2.2.1 == b.2.2.2.1 && (a.2.2.2.2.1 == b.2.2.2.2.1 && a.2.2.2.2.2 == b.2.2.2.2.2))))) from rfl)
  have d0 := h1.cls 0 _ (mv_k a s)
  have d1 := h1.cls 1 _ (mv_f a s)
  have d2 := h1.cls 2 _ (mv_e a s)
  have d3 := h1.cls 11 _ (mv_a s ha)
  have f0 := h2.cls 0 _ (mv_k b t)
  have f1 := h2.cls 1 _ (mv_f b t)
  have f2 := h2.cls 2 _ (mv_e b t)
  have f3 := h2.cls 11 _ (mv_a t hb)
  have p1 := h1.in.msC
  have p2 := h1.in.msR ha
  have p3 := h2.in.msC
  have p4 := h2.in.msR hb
  have q1 := fun w => eqIn_ck 9998 a.2.2.2.1 b.2.2.2.1 ha.1 hb.1 w
  have q2 := fun w => eqIn_rnds 9995 ha.2.2 hb.2.2 w
  have gc := ck_guard
  have gr := rnds_guard
  cases g0 : (a.1 == b.1)
  · skip
    go_enter Tryz.func11, Tryz.ntmps11
    go_upto_region 1 with fail
    refine wp_region_cls0 ?_
    repeat (first | go_big_quiet_skip | (go_big_quiet_want; first | (refine quiet_ck ha.1 _ rfl rfl p1.cls ?_; simp only [Act.put, List.setIfInBounds_toArray, List.set_cons_succ, List.set_cons_zero]; go_big_quiet_on) | (refine quiet_ck hb.1 _ rfl rfl p3.cls ?_; simp only [Act.put, List.setIfInBounds_toArray, List.set_cons_succ, List.set_cons_zero]; go_big_quiet_on) | (refine quiet_rnds ha.2.2 _ rfl rfl p2.cls ?_; simp only [Act.put, List.setIfInBounds_toArray, List.set_cons_succ, List.set_cons_zero]; go_big_quiet_on) | (refine quiet_rnds hb.2.2 _ rfl rfl p4.cls ?_; simp only [Act.put, List.setIfInBounds_toArray, List.set_cons_succ, List.set_cons_zero]; go_big_quiet_on) | (go_big_quiet_op; first | go_big_quiet_on | go_big_quiet_call ((go_at_call 31; exact cls_of (actsK_is g5 _ _ _ (hA1.later (wOf_below _)) (hB1.later (wOf_below _)) ha.2.1 hb.2.1 hn))))))
    refine wpQuiet_nil ?_
    rintro w1 ⟨s1, e1⟩
    have hb1 := wOf_below s1
    rw [← e1] at hb1
    clear e1 s1
    replace hB := bgo hB hb1
    clear hb1
    go_wp2
    go_ret
    exact ⟨by rw [HV.out]; simp [g0], hB⟩
  · skip
    cases g1 : (a.2.1 == b.2.1)
    · skip
      go_enter Tryz.func11, Tryz.ntmps11
      go_upto_region 1 with fail
      refine wp_region_cls0 ?_
      repeat (first | go_big_quiet_skip | (go_big_quiet_want; first | (refine quiet_ck ha.1 _ rfl rfl p1.cls ?_; simp only [Act.put, List.setIfInBounds_toArray, List.set_cons_succ, List.set_cons_zero]; go_big_quiet_on) | (refine quiet_ck hb.1 _ rfl rfl p3.cls ?_; simp only [Act.put, List.setIfInBounds_toArray, List.set_cons_succ, List.set_cons_zero]; go_big_quiet_on) | (refine quiet_rnds ha.2.2 _ rfl rfl p2.cls ?_; simp only [Act.put, List.setIfInBounds_toArray, List.set_cons_succ, List.set_cons_zero]; go_big_quiet_on) | (refine quiet_rnds hb.2.2 _ rfl rfl p4.cls ?_; simp only [Act.put, List.setIfInBounds_toArray, List.set_cons_succ, List.set_cons_zero]; go_big_quiet_on) | (go_big_quiet_op; first | go_big_quiet_on | go_big_quiet_call ((go_at_call 31; exact cls_of (actsK_is g5 _ _ _ (hA1.later (wOf_below _)) (hB1.later (wOf_below _)) ha.2.1 hb.2.1 hn))))))
      refine wpQuiet_nil ?_
      rintro w1 ⟨s1, e1⟩
      have hb1 := wOf_below s1
      rw [← e1] at hb1
      clear e1 s1
      replace hB := bgo hB hb1
      clear hb1
      go_wp2
      go_ret
      exact ⟨by rw [HV.out]; simp [g0, g1], hB⟩
    · skip
      cases g2 : (a.2.2.1 == b.2.2.1)
      · skip
        go_enter Tryz.func11, Tryz.ntmps11
        go_upto_region 1 with fail
        refine wp_region_cls0 ?_
        repeat (first | go_big_quiet_skip | (go_big_quiet_want; first | (refine quiet_ck ha.1 _ rfl rfl p1.cls ?_; simp only [Act.put, List.setIfInBounds_toArray, List.set_cons_succ, List.set_cons_zero]; go_big_quiet_on) | (refine quiet_ck hb.1 _ rfl rfl p3.cls ?_; simp only [Act.put, List.setIfInBounds_toArray, List.set_cons_succ, List.set_cons_zero]; go_big_quiet_on) | (refine quiet_rnds ha.2.2 _ rfl rfl p2.cls ?_; simp only [Act.put, List.setIfInBounds_toArray, List.set_cons_succ, List.set_cons_zero]; go_big_quiet_on) | (refine quiet_rnds hb.2.2 _ rfl rfl p4.cls ?_; simp only [Act.put, List.setIfInBounds_toArray, List.set_cons_succ, List.set_cons_zero]; go_big_quiet_on) | (go_big_quiet_op; first | go_big_quiet_on | go_big_quiet_call ((go_at_call 31; exact cls_of (actsK_is g5 _ _ _ (hA1.later (wOf_below _)) (hB1.later (wOf_below _)) ha.2.1 hb.2.1 hn))))))
        refine wpQuiet_nil ?_
        rintro w1 ⟨s1, e1⟩
        have hb1 := wOf_below s1
        rw [← e1] at hb1
        clear e1 s1
        replace hB := bgo hB hb1
        clear hb1
        go_wp2
        go_ret
        exact ⟨by rw [HV.out]; simp [g0, g1, g2], hB⟩
      · skip
        cases g3 : (a.2.2.2.1 == b.2.2.2.1)
        · skip
          simp only [g3] at q1
          go_enter Tryz.func11, Tryz.ntmps11
          go_upto_region 1 with fail
          refine wp_region_cls0 ?_
          repeat (first | go_big_quiet_skip | (go_big_quiet_want; first | (refine quiet_ck ha.1 _ rfl rfl p1.cls ?_; simp only [Act.put, List.setIfInBounds_toArray, List.set_cons_succ, List.set_cons_zero]; go_big_quiet_on) | (refine quiet_ck hb.1 _ rfl rfl p3.cls ?_; simp only [Act.put, List.setIfInBounds_toArray, List.set_cons_succ, List.set_cons_zero]; go_big_quiet_on) | (refine quiet_rnds ha.2.2 _ rfl rfl p2.cls ?_; simp only [Act.put, List.setIfInBounds_toArray, List.set_cons_succ, List.set_cons_zero]; go_big_quiet_on) | (refine quiet_rnds hb.2.2 _ rfl rfl p4.cls ?_; simp only [Act.put, List.setIfInBounds_toArray, List.set_cons_succ, List.set_cons_zero]; go_big_quiet_on) | (go_big_quiet_op; first | go_big_quiet_on | go_big_quiet_call ((go_at_call 31; exact cls_of (actsK_is g5 _ _ _ (hA1.later (wOf_below _)) (hB1.later (wOf_below _)) ha.2.1 hb.2.1 hn))))))
          refine wpQuiet_nil ?_
          rintro w1 ⟨s1, e1⟩
          have hb1 := wOf_below s1
          rw [← e1] at hb1
          clear e1 s1
          replace hB := bgo hB hb1
          clear hb1
          go_wp2
          go_ret
          exact ⟨by rw [HV.out]; simp [g0, g1, g2, g3], hB⟩
        · skip
          simp only [g3] at q1
          cases g4 : (a.2.2.2.2.2 == b.2.2.2.2.2)
          · skip
            simp only [g4] at q2
            go_enter Tryz.func11, Tryz.ntmps11
            go_upto_region 1 with fail
            refine wp_region_cls0 ?_
            repeat (first | go_big_quiet_skip | (go_big_quiet_want; first | (refine quiet_ck ha.1 _ rfl rfl p1.cls ?_; simp only [Act.put, List.setIfInBounds_toArray, List.set_cons_succ, List.set_cons_zero]; go_big_quiet_on) | (refine quiet_ck hb.1 _ rfl rfl p3.cls ?_; simp only [Act.put, List.setIfInBounds_toArray, List.set_cons_succ, List.set_cons_zero]; go_big_quiet_on) | (refine quiet_rnds ha.2.2 _ rfl rfl p2.cls ?_; simp only [Act.put, List.setIfInBounds_toArray, List.set_cons_succ, List.set_cons_zero]; go_big_quiet_on) | (refine quiet_rnds hb.2.2 _ rfl rfl p4.cls ?_; simp only [Act.put, List.setIfInBounds_toArray, List.set_cons_succ, List.set_cons_zero]; go_big_quiet_on) | (go_big_quiet_op; first | go_big_quiet_on | go_big_quiet_call ((go_at_call 31; exact cls_of (actsK_is g5 _ _ _ (hA1.later (wOf_below _)) (hB1.later (wOf_below _)) ha.2.1 hb.2.1 hn))))))
            refine wpQuiet_nil ?_
            rintro w1 ⟨s1, e1⟩
            have hb1 := wOf_below s1
            rw [← e1] at hb1
            clear e1 s1
            replace hB := bgo hB hb1
            clear hb1
            go_wp2
            go_ret
            exact ⟨by rw [HV.out]; simp [g0, g1, g2, g3, g4], hB⟩
          · skip
            simp only [g4] at q2
            cases g5 : (a.2.2.2.2.1 == b.2.2.2.2.1)
            · skip
              go_enter Tryz.func11, Tryz.ntmps11
              go_upto_region 1 with fail
              refine wp_region_cls0 ?_
              repeat (first | go_big_quiet_skip | (go_big_quiet_want; first | (refine quiet_ck ha.1 _ rfl rfl p1.cls ?_; simp only [Act.put, List.setIfInBounds_toArray, List.set_cons_succ, List.set_cons_zero]; go_big_quiet_on) | (refine quiet_ck hb.1 _ rfl rfl p3.cls ?_; simp only [Act.put, List.setIfInBounds_toArray, List.set_cons_succ, List.set_cons_zero]; go_big_quiet_on) | (refine quiet_rnds ha.2.2 _ rfl rfl p2.cls ?_; simp only [Act.put, List.setIfInBounds_toArray, List.set_cons_succ, List.set_cons_zero]; go_big_quiet_on) | (refine quiet_rnds hb.2.2 _ rfl rfl p4.cls ?_; simp only [Act.put, List.setIfInBounds_toArray, List.set_cons_succ, List.set_cons_zero]; go_big_quiet_on) | (go_big_quiet_op; first | go_big_quiet_on | go_big_quiet_call ((go_at_call 31; exact cls_of (actsK_is g5 _ _ _ (hA1.later (wOf_below _)) (hB1.later (wOf_below _)) ha.2.1 hb.2.1 hn))))))
              refine wpQuiet_nil ?_
              rintro w1 ⟨s1, e1⟩
              have hb1 := wOf_below s1
              rw [← e1] at hb1
              clear e1 s1
              replace hB := bgo hB hb1
              clear hb1
              go_wp2
              go_ret
              exact ⟨by rw [HV.out]; simp [g0, g1, g2, g3, g4, g5], hB⟩
            · skip
              go_enter Tryz.func11, Tryz.ntmps11
              go_upto_region 1 with fail
              refine wp_region_cls0 ?_
              repeat (first | go_big_quiet_skip | (go_big_quiet_want; first | (refine quiet_ck ha.1 _ rfl rfl p1.cls ?_; simp only [Act.put, List.setIfInBounds_toArray, List.set_cons_succ, List.set_cons_zero]; go_big_quiet_on) | (refine quiet_ck hb.1 _ rfl rfl p3.cls ?_; simp only [Act.put, List.setIfInBounds_toArray, List.set_cons_succ, List.set_cons_zero]; go_big_quiet_on) | (refine quiet_rnds ha.2.2 _ rfl rfl p2.cls ?_; simp only [Act.put, List.setIfInBounds_toArray, List.set_cons_succ, List.set_cons_zero]; go_big_quiet_on) | (refine quiet_rnds hb.2.2 _ rfl rfl p4.cls ?_; simp only [Act.put, List.setIfInBounds_toArray, List.set_cons_succ, List.set_cons_zero]; go_big_quiet_on) | (go_big_quiet_op; first | go_big_quiet_on | go_big_quiet_call ((go_at_call 31; exact cls_of (actsK_is g5 _ _ _ (hA1.later (wOf_below _)) (hB1.later (wOf_below _)) ha.2.1 hb.2.1 hn))))))
              refine wpQuiet_nil ?_
              rintro w1 ⟨s1, e1⟩
              have hb1 := wOf_below s1
              rw [← e1] at hb1
              clear e1 s1
              replace hB := bgo hB hb1
              clear hb1
              go_wp2
              go_ret
              exact ⟨by rw [HV.out]; simp [g0, g1, g2, g3, g4, g5], hB⟩
theorem messageK_is {a b : Pms} {x : Bool} (h : (a == b) = x) (s t : Value) (w : World) (ha : shM a) (hb : shM b) (hA : SlA w s a.2.2.2.2.1) (hBa : SlA w t b.2.2.2.2.1) (hn : a.2.2.2.2.1.length ≤ 1000000) :
    Calls Tryz.prog 11 #[.agg (mv a s), .agg (mv b t)] w fun e w' => e = .returned (.bool x) ∧ Below w.heap.size w w' := h ▸ messageK_any a b s t w ha hb hA hBa hn

/-- Kind. -/
def kindB : List UInt8 → Int
  | [] => 0
  | b :: _ => if oneB (b.toNat : Int) 4 then (b.toNat : Int) else 0
theorem kindP_any {w : World} {v : Value} {bs : List UInt8} (h : SlB w v bs) :
    Calls Tryz.prog 8 #[v] w fun e w' => e = .returned (.int .i64 (kindB bs)) ∧ w' = w := by
  cases bs with
  | nil =>
    obtain ⟨a, c, rfl⟩ : ∃ a c, v = .slice a 0 c := by
      rcases h with ⟨_, a, c, rfl⟩ | ⟨g, o, c, rfl, _⟩
      · exact ⟨a, c, rfl⟩
      · exact ⟨_, c, rfl⟩
    go_enter Tryz.func8, Tryz.ntmps8
    go_wp2
    go_ret
    exact ⟨rfl, rfl⟩
  | cons b r =>
    rcases h with ⟨h, _⟩ | ⟨g, o, c, rfl, hg, hc⟩
    · cases h
    · have c0 : w.cell? ⟨g, o, none⟩ = some (.int .u8 b.toNat) := by have := hc 0 b rfl; rwa [Nat.add_zero] at this
      have hw := wrap_small b.toNat_lt
      have hl0 : (((b :: r).length : Int) == 0) = false := by simp only [List.length_cons]; exact beq_false_of_ne (by omega)
      have hl1 : (0 : Int) < ((b :: r).length : Int) := by simp only [List.length_cons]; omega
      have HV := hid_of' (show kindB (b :: r) = if oneB (b.toNat : Int) 4 then (b.toNat : Int) else 0 from rfl)
      clear hc
      generalize (b :: r).length = n at *
      generalize kindB (b :: r) = z at *
      cases ho : oneB (b.toNat : Int) 4
      · have HO := hid_of' ho
        go_enter Tryz.func8, Tryz.ntmps8
        go_wp2_with (go_at_call 25; refine (isOne_is HO.out _).mono ?_; rintro e w4 ⟨rfl, h0⟩; obtain rfl := h0.symm)
        go_ret
        exact ⟨by rw [HV.out, if_neg (by rw [HO.out]; decide)]; rfl, rfl⟩
      · have HO := hid_of' ho
        go_enter Tryz.func8, Tryz.ntmps8
        go_wp2_with (go_at_call 25; refine (isOne_is HO.out _).mono ?_; rintro e w4 ⟨rfl, h0⟩; obtain rfl := h0.symm)
        go_ret
        exact ⟨by rw [HV.out, if_pos HO.out]; rfl, rfl⟩
theorem kindP_is {w : World} {v : Value} {bs : List UInt8} {z : Int} (hz : kindB bs = z) (h : SlB w v bs) :
    Calls Tryz.prog 8 #[v] w fun e w' => e = .returned (.int .i64 z) ∧ w' = w := hz ▸ kindP_any h

/-- clip: at most 3000 bytes. -/
theorem clip9_cap {w : World} {v : Value} {bs : List UInt8} (h : SlB w v bs) (hc : ∀ a n c, v = .slice a n c → n ≤ c) :
    Calls Tryz.prog 4 #[v] w fun e w' => ∃ u, e = .returned u ∧ SlB w u (bs.take 3000) ∧ (∀ a n c, u = .slice a n c → n ≤ c) ∧ w' = w := by
  by_cases hl : (3000 : Int) < (bs.length : Int)
  · rcases h with ⟨rfl, _⟩ | ⟨g, o, c, rfl, hg, hcl⟩
    · simp at hl
    · have hcap : (3000 : Int) ≤ (c : Int) := by have := hc _ _ _ rfl; omega
      have hc0 : ¬ c = 0 := by omega
      have HC : Aside (g < w.heap.size ∧ ∀ i b, bs[i]? = some b → w.cell? ⟨g, o + i, none⟩ = some (.int .u8 b.toNat)) := ⟨hg, hcl⟩
      clear hcl hc
      go_enter Tryz.func4, Tryz.ntmps4
      go_wp2
      go_ret
      refine ⟨_, rfl, .inr ⟨g, o, c, ?_, HC.out.1, fun i b hi => HC.out.2 i b ?_⟩, fun a' n' c' he => by cases he; omega, rfl⟩
      · have : (bs.take 3000).length = 3000 := by simp; omega
        rw [this]; rfl
      · rw [List.getElem?_take] at hi; split at hi
        · exact hi
        · cases hi
  · obtain ⟨a, c, rfl⟩ : ∃ a c, v = .slice a bs.length c := by
      rcases h with ⟨rfl, a, c, rfl⟩ | ⟨g, o, c, rfl, _⟩
      · exact ⟨a, c, rfl⟩
      · exact ⟨_, c, rfl⟩
    have HH : Aside (SlB w (.slice a bs.length c) (bs.take 3000)) := by rw [List.take_of_length_le (by omega)]; exact h
    have HK : Aside (bs.length ≤ c) := hc _ _ _ rfl
    clear h hc
    go_enter Tryz.func4, Tryz.ntmps4
    go_wp2
    go_ret
    exact ⟨_, rfl, HH.out, fun a' n' c' he => by cases he; exact HK.out, rfl⟩
/-- Bytes in a block of their own as a text. -/
theorem conv_block {w : World} {g : Nat} {bs : List UInt8} (h : w.heap[g]? = some (.cells (Lib.byteCells bs).toArray 5 (0, 0))) (c : Nat) : (convert 23 9 (.slice (some ⟨g, 0, none⟩) bs.length c)).run Tryz.prog w = .ok (.string ⟨bs.toArray⟩) w :=
  run_convert_bytes_back (P := Tryz.prog) w 23 9 5 ⟨g, 0, none⟩ c bs Tryz.underlying23 Tryz.underlying5 Tryz.underlying9 (fun j hj => by
    rw [Addr.add_lit, Nat.zero_add, cellW_of h]
    simp [Lib.byteCells, hj])

end Go.Proofs.YtpkblfhkblllhaaGreatDoor
namespace Go.Proofs.YtpkblfhkblllhaaGreatDoor
open Go.RowKit
set_option maxRecDepth 100000

section
variable {P : Program}
theorem wpList_builtL {ops : Array Oper} {rest : List Oper} {o : Oper} {a : Act} {w : World} {Q : Exit → Act → World → Prop} (hg : o.guard = none) (t : TypeId) (parts : Array (Nat × Operand)) (ho : o.op = .build t parts) (cells : Array Value)
    (hc : P.built t (parts.map fun (i, x) => (i, a.eval x)).toList = some cells)
    (h : wpList P ops Q rest (a.put o.dst (.agg cells)) w) : wpList P ops Q (o :: rest) a w :=
  wpList_build hg t parts ho (by rw [hc]; rfl) (by rw [hc]; exact h)
theorem quiet_built {o : Oper} {a : Act} {C : World → Prop} {K : Act → Prop} (t : TypeId) (parts : Array (Nat × Operand)) (ho : o.op = .build t parts) (cells : Array Value)
    (hc : P.built t (parts.map fun (i, x) => (i, a.eval x)).toList = some cells) (k : K (a.put o.dst (.agg cells))) : o.quiet P a C K :=
  ⟨.agg cells, fun w _ => by
    unfold Oper.quietAt execOp
    simp only [ho, Sem.run_bind, run_build w t _ cells hc, Result.andThen_ok]
    exact ⟨rfl, rfl⟩, k⟩
end

/-- The message of wakes. -/
def wkC : List Int := [3, 0, 1, 0, 0, 0, 0, 0]
def wkM : Pms := (2, 2, 0, wkC, [], zeroRs)
theorem built_wkC : Tryz.prog.built 26 [(0, .int .i64 3), (1, .int .i64 0), (2, .int .i64 1)] = some (cv wkC) := by kernel_rfl
theorem built_wkM : Tryz.prog.built 33 [(0, .int .i64 2), (1, .int .i64 2), (3, .agg (cv wkC))] = some (mv wkM (.slice none 0 0)) := by kernel_rfl
theorem built_zero : Tryz.prog.built 33 [] = some (mv zeroM (.slice none 0 0)) := by kernel_rfl
theorem quiet_zero {o : Oper} {a : Act} {C : World → Prop} {K : Act → Prop} (ho : o.op = .build 33 #[]) (k : K (a.put o.dst (.agg (mv zeroM (.slice none 0 0))))) : o.quiet Tryz.prog a C K :=
  quiet_built _ _ ho _ (by simpa using built_zero) k
theorem wk_bytes : fMsg wkM = [2, 2, 0, 3, 3, 0, 1] := by
  show UInt8.ofNat 2 :: (formN 2 ++ (formN 0 ++ ((formN 3 ++ (formN 3 ++ (formN 0 ++ (formN 1 ++ [])))) ++ ([] ++ [])))) = _
  rw [form_small (n := 2) (by decide), form_small (n := 0) (by decide), form_small (n := 3) (by decide), form_small (n := 1) (by decide)]
  rfl
theorem wk_ok : okMsg wkM := ⟨by decide, by decide, by decide, ⟨rfl, by decide⟩, rfl, rfl⟩
/-- What has a form is what an argument can hold. -/
theorem okMsg_fit {m : Pms} (h : okMsg m) (hl : m.2.2.2.2.1.length ≤ 1000000) : fitM m := by
  refine ⟨okMsg_sh h, fun a ha => ⟨(okMsg_sh h).2.1 a ha, ?_⟩, hl⟩
  obtain ⟨_, _, _, _, h5, _⟩ := h
  split at h5
  · have := (h5.2 a ha).1.2.2.2
    refine ⟨by omega, ?_⟩
    have h2 := this.2
    split at h2 <;> omega
  · rw [h5] at ha; simp at ha
theorem okMsg_bnd {m : Pms} (h : okMsg m) : bndM m := by
  obtain ⟨_, _, h3, _, h5, h6⟩ := h
  refine ⟨h3.2, fun a ha => ?_, fun r hr => ?_⟩
  · split at h5
    · exact ⟨(h5.2 a ha).1.2.2.1.2, (h5.2 a ha).2.1.2⟩
    · rw [h5] at ha; simp at ha
  · split at h6
    · exact (h6.2 r hr).1.2
    · rw [h6] at hr; rw [List.eq_of_mem_replicate hr]; decide
theorem okMsg_len {m : Pms} (h : okMsg m) : m.2.2.2.2.1.length ≤ (fMsg m).length := by
  obtain ⟨_, _, _, _, h5, _⟩ := h
  split at h5
  · rename_i hk
    have h1 := flat_len m.2.2.2.2.1
    have : (fActs m.2.2.2.2.1).length ≤ (fMsg m).length := by
      unfold fMsg fBody
      rw [if_pos hk]
      simp only [List.length_cons, List.length_append]
      omega
    have h2 : ((m.2.2.2.2.1.map fAct).flatten).length ≤ (fActs m.2.2.2.2.1).length := by
      unfold fActs; simp only [List.length_append]; omega
    omega
  · rw [h5]; simp
theorem wk_fit : fitM wkM := okMsg_fit wk_ok (by decide)
theorem wk_sl (w : World) : SlA w (.slice none 0 0) ([] : List Pac) := .inl ⟨rfl, _, _, rfl⟩
theorem slB_block {w : World} {g : Nat} {bs : List UInt8} (h : w.heap[g]? = some (.cells (Lib.byteCells bs).toArray 5 (0, 0))) : SlB w (.slice (some ⟨g, 0, none⟩) bs.length bs.length) bs :=
  .inr ⟨g, 0, _, rfl, (Array.getElem?_eq_some_iff.1 h).1, fun i b hi => by
    rw [Nat.zero_add, cell_of_row w g i _ _ (0, 0) h]
    have hi' := (List.getElem?_eq_some_iff.1 hi)
    obtain ⟨hlt, he⟩ := hi'
    subst he
    simp [Lib.byteCells, hlt]⟩
theorem SlB.later {w w' : World} {v : Value} {bs : List UInt8} (h : SlB w v bs) (hb : Below w.heap.size w w') : SlB w' v bs := h.grow hb
theorem Lw.later {ad : Nat → Addr} {w w' : World} (h : Lw ad w) (hb : Below w.heap.size w w') : Lw ad w' := h.kept (S := []) (.of hb) (by simp)
theorem wk_kind : kindB [2, 2, 0, 3, 3, 0, 1] = 2 := by decide

set_option maxHeartbeats 2000000 in
theorem wakes9_ok {ad : Nat → Addr} {w : World} (L : Lw ad w) :
    Calls Tryz.prog 14 #[] w fun e w' => e = .returned (.bool true) ∧ Below w.heap.size w w' := by
  have hz : (Tryz.prog.info? 33).bind (·.zero) = some (.agg (mv zeroM (.slice none 0 0))) := zero_ms
  have HL := hid_of' L
  clear L
  go_enter Tryz.func14, Tryz.ntmps14
  go_upto_region 2 with (first | ((with_reducible refine wpList_builtL rfl 26 _ rfl (cv wkC) ?_ ?_); (first | exact built_wkC | (simp; exact built_wkC))) | ((with_reducible refine wpList_builtL rfl 33 _ rfl (mv wkM (.slice none 0 0)) ?_ ?_); (first | exact built_wkM | (simp; exact built_wkM))) | (refine wpL_alloc rfl _ rfl hz ?_; go_simp) | (refine wpL_stNew rfl _ _ _ rfl rfl rfl rfl (mv_size wk_fit.sh) (by rw [mv_sz wk_fit.sh, mv_sz zeroM_sh]) (mv_one _ rfl) ?_))
  have hB := below_one w (.cells (mv wkM (.slice none 0 0)) 33)
  have h1 := RowAt.new w (mv wkM (.slice none 0 0)) 33
  have L1 := HL.out.kept (S := []) (.of hB) (by simp)
  generalize w.alloc (.cells (mv wkM (.slice none 0 0)) 33) = w1 at *
  have h1i := h1.in
  have HY0 := bytesP_ok wkM (.slice none 0 0) w1 wk_fit (okMsg_bnd wk_ok) (wk_sl w1) wk_ok
  rw [wk_bytes] at HY0
  have HY := hid_of' HY0
  clear HY0
  go_upto_region 3 with (first | (refine ld_ms wk_fit.sh rfl _ rfl rfl h1i ?_) | (go_at_call 33; (with_reducible refine HY.out.mono ?_); rintro e w2 ⟨g, hg, rfl, hgb, hb2⟩))
  replace h1 := h1.later hb2
  replace hB := bgo hB hb2
  replace L1 := L1.kept (S := []) (.of hb2) (by simp)
  clear HY h1i hb2 HL hg
  have hcv : ∀ s : Wld w2, (convert 23 9 (.slice (some ⟨g, 0, none⟩) 7 7)).run Tryz.prog (wOf s) = .ok (.string ⟨#[2, 2, 0, 3, 3, 0, 1]⟩) (wOf s) := fun s => conv_block (bs := [2, 2, 0, 3, 3, 0, 1]) (by rw [(wOf_below s).block g (Array.getElem?_eq_some_iff.1 hgb).1]; exact hgb) 7
  have hS := slB_block hgb
  have HG := hid_of' hgb
  clear hgb
  simp only [List.length_cons, List.length_nil, Nat.zero_add, Nat.reduceAdd] at hS ⊢
  refine wp_region_cls0 ?_
  repeat (first | go_big_quiet_skip | (go_big_quiet_want; first | (go_big_quiet_op; first | go_big_quiet_on | go_big_quiet_call ((fail)))))
  refine wpQuiet_nil ?_
  rintro w1 ⟨s1, e1⟩
  have hb1 := wOf_below s1
  rw [← e1] at hb1
  clear e1 s1
  replace h1 := h1.later hb1
  replace hS := hS.later hb1
  replace L1 := L1.later hb1
  replace hB := bgo hB hb1
  clear hb1
  clear hcv HG
  have HR := hid_of' (read_any L1 hS (by decide))
  have hrd : readM [2, 2, 0, 3, 3, 0, 1] = .ok wkM := by rw [← wk_bytes]; exact readM_back wk_ok
  have HRD := hid_of' hrd
  clear hrd L1
  go_upto_region 6 with (first | (go_at_call 7; (with_reducible refine HR.out.mono ?_); intro e w3 h3; obtain ⟨hb3, sv, rfl, ho3, hs3⟩ := h3.ok HRD.out; obtain ⟨sa, sc, rfl⟩ := ho3.form) | (refine wpL_alloc rfl _ rfl hz ?_; go_simp) | (refine wpL_stNew rfl _ _ _ rfl rfl rfl rfl (mv_size hs3) (by rw [mv_sz hs3, mv_sz zeroM_sh]) (mv_one _ rfl) ?_))
  have hA := ho3.sl hs3.2.1
  replace h1 := h1.later hb3
  replace hS := hS.later hb3
  replace hB := bgo hB hb3
  clear ho3 HR HRD hz hb3
  have hb4 := below_one w3 (.cells (mv wkM (.slice sa wkM.2.2.2.2.1.length sc)) 33)
  have h2 := RowAt.new w3 (mv wkM (.slice sa wkM.2.2.2.2.1.length sc)) 33
  replace h1 := h1.later hb4
  replace hS := hS.later hb4
  replace hA := hA.later hb4
  replace hB := bgo hB hb4
  clear hb4
  generalize w3.alloc (.cells (mv wkM (.slice sa wkM.2.2.2.2.1.length sc)) 33) = w4 at *
  have p1 := h1.in
  have p2 := h2.in
  have hk := wk_kind
  refine wp_region_cls0 ?_
  repeat (first | go_big_quiet_skip | (go_big_quiet_want; first | (refine quiet_ms wk_fit.sh _ rfl rfl p1.cls ?_; simp only [Act.put, List.setIfInBounds_toArray, List.set_cons_succ, List.set_cons_zero]; go_big_quiet_on) | (refine quiet_ms hs3 _ rfl rfl p2.cls ?_; simp only [Act.put, List.setIfInBounds_toArray, List.set_cons_succ, List.set_cons_zero]; go_big_quiet_on) | (go_big_quiet_op; first | go_big_quiet_on | go_big_quiet_call ((first | (go_at_call 11; exact cls_of (messageK_is (a := wkM) (b := wkM) (x := true) (beq_self_eq_true _) _ _ _ hs3 wk_fit.sh (hA.later (wOf_below _)) (wk_sl _) (by decide))) | (go_at_call 8; exact cls_of_same (kindP_is hk (hS.later (wOf_below _)))))))))
  refine wpQuiet_nil ?_
  rintro w1 ⟨s1, e1⟩
  have hb1 := wOf_below s1
  rw [← e1] at hb1
  clear e1 s1
  replace h1 := h1.later hb1
  replace hS := hS.later hb1
  replace hB := bgo hB hb1
  clear hb1
  go_wp2
  go_ret
  exact ⟨rfl, hB⟩

end Go.Proofs.YtpkblfhkblllhaaGreatDoor
namespace Go.Proofs.YtpkblfhkblllhaaGreatDoor
open Go.RowKit
set_option maxRecDepth 100000

theorem below_row {n g : Nat} {a w : World} (h : Below n a w) (hg : n ≤ g) (c : Array Value) : Below n a (w.setRow g c) :=
  ⟨h.os, h.tape, h.output, by simpa using h.size, fun k hk => by rw [setRow_other w g k c (by omega)]; exact h.block k hk⟩


theorem heap_alloc_lastO (w : World) (o : Obj) : (w.alloc o).heap[w.heap.size]? = some o := heap_alloc_new w o
end Go.Proofs.YtpkblfhkblllhaaGreatDoor
