
/-
  The document's side: Right.
-/
import Derived.Test.YteffpnjgchihpaaGreatDoorPB24
import Derived.Test.YteffpnjgchihpaaGreatDoorPB43
namespace Go.Proofs.YteffpnjgchihpaaGreatDoor
open Go.RowKit
set_option maxRecDepth 100000

def haB (k : Int) : Bool := k == 1 || k == 3
def hrB (k : Int) : Bool := k == 3 || k == 4
theorem hasActs_any (k : Int) (w : World) : Calls Tryz.prog 16 #[.int .i64 k] w fun e w' => e = .returned (.bool (haB k)) ∧ w' = w := by
  cases h1 : (k == 1)
  · cases h3 : (k == 3)
    · go_enter Tryz.func16, Tryz.ntmps16
      go_wp2
      go_ret
      exact ⟨by simp [haB, h1, h3], rfl⟩
    · go_enter Tryz.func16, Tryz.ntmps16
      go_wp2
      go_ret
      exact ⟨by simp [haB, h1, h3], rfl⟩
  · go_enter Tryz.func16, Tryz.ntmps16
    go_wp2
    go_ret
    exact ⟨by simp [haB, h1], rfl⟩
theorem hasRounds_any (k : Int) (w : World) : Calls Tryz.prog 19 #[.int .i64 k] w fun e w' => e = .returned (.bool (hrB k)) ∧ w' = w := by
  cases h1 : (k == 3)
  · cases h3 : (k == 4)
    · go_enter Tryz.func19, Tryz.ntmps19
      go_wp2
      go_ret
      exact ⟨by simp [hrB, h1, h3], rfl⟩
    · go_enter Tryz.func19, Tryz.ntmps19
      go_wp2
      go_ret
      exact ⟨by simp [hrB, h1, h3], rfl⟩
  · go_enter Tryz.func19, Tryz.ntmps19
    go_wp2
    go_ret
    exact ⟨by simp [hrB, h1], rfl⟩
theorem hasActs_is {k : Int} {v : Bool} (h : haB k = v) (w : World) : Calls Tryz.prog 16 #[.int .i64 k] w fun e w' => e = .returned (.bool v) ∧ w' = w := h ▸ hasActs_any k w
theorem hasRounds_is {k : Int} {v : Bool} (h : hrB k = v) (w : World) : Calls Tryz.prog 19 #[.int .i64 k] w fun e w' => e = .returned (.bool v) ∧ w' = w := h ▸ hasRounds_any k w

/-- A message, as the document's side looks at it. -/
def rmB (m : Pms) : Bool := !decide (m.1 < 1) && (!decide (4 < m.1) && (!decide (m.2.1 < 0) && (!decide (7 < m.2.1) && (!decide (m.2.2.1 < 0) && (!(!(m.1 == 2) && !(m.2.2.2.1 == zero8)) && (geB m.2.2.2.1 && (!(!haB m.1 && decide (0 < (m.2.2.2.2.1.length : Int))) && (!(!hrB m.1 && !(m.2.2.2.2.2 == zeroRs)) && (m.2.2.2.2.1.all actB && m.2.2.2.2.2.all rndB)))))))))
theorem rmB_is {m : Pms} (h : ∀ z ∈ m.2.2.2.1, z ≤ 9223372036854775807) : rmB m = rightB m := by
  unfold rmB rightB usesB
  rw [geB_row h]
  obtain ⟨k, f, e, c, A, R⟩ := m
  simp only [useA, useC, useR, haB, hrB]
  rw [Bool.eq_iff_iff]
  simp only [Bool.and_eq_true, Bool.not_eq_true', decide_eq_false_iff_not, decide_eq_true_eq, oneB, wiB, Bool.and_eq_false_iff, Bool.not_eq_false', Bool.or_eq_true, beq_iff_eq]
  constructor
  · rintro ⟨g1, g2, g3, g4, g5, g6, g7, g8, g9, g10, g11⟩
    refine ⟨⟨⟨⟨⟨⟨by omega, by omega⟩, by omega⟩, ⟨?_, ?_⟩, ?_⟩, g10⟩, g7⟩, g11⟩
    · split
      · rfl
      · rename_i hk
        rcases g8 with g8 | g8
        · exact absurd g8 hk
        · omega
    · split
      · rfl
      · rename_i hk
        rcases g6 with g6 | g6
        · exact absurd g6 hk
        · exact g6
    · split
      · rfl
      · rename_i hk
        rcases g9 with g9 | g9
        · exact absurd g9 hk
        · exact g9
  · rintro ⟨⟨⟨⟨⟨⟨g1, g2⟩, g3⟩, ⟨g4, g5⟩, g6⟩, g7⟩, g8⟩, g9⟩
    refine ⟨by omega, by omega, by omega, by omega, by omega, ?_, g8, ?_, ?_, g7, g9⟩
    · by_cases hk : k = 2
      · exact .inl hk
      · rw [if_neg hk] at g5; exact .inr g5
    · by_cases hk : k = 1 ∨ k = 3
      · exact .inl hk
      · rw [if_neg hk] at g4; exact .inr (by omega)
    · by_cases hk : k = 3 ∨ k = 4
      · exact .inl hk
      · rw [if_neg hk] at g6; exact .inr g6

set_option maxHeartbeats 8000000 in
theorem refRight_any (m : Pms) (s : Value) (w : World) (hm : fitM m) (hc : ckM m) (hA : SlA w s m.2.2.2.2.1) :
    Calls Tryz.prog 9 #[.agg (mv m s)] w fun e w' => e = .returned (.bool (rightB m)) ∧ Below w.heap.size w w' := by
  rw [← rmB_is hc.1]
  have hs := hm.sh
  have hB := below_one w (.cells (mv m s) 31)
  have h1 := RowAt.new w (mv m s) 31
  replace hA := hA.later hB
  obtain ⟨sa, sc, rfl⟩ := hA.form
  generalize hNN : m.2.2.2.2.1.length = n at *
  have HN := hid_of' hNN
  have hn6 : n ≤ 1000000 := by rw [← hNN]; exact hm.len
  clear hNN
  have HM := hid_of' (And.intro hm hc)
  clear hm hc
  go_enter Tryz.func9, Tryz.ntmps9
  go_upto_region 1 with fail
  generalize w.alloc (.cells (mv m (.slice sa n sc)) 31) = w0 at *
  have d0 := h1.cls 0 _ (mv_k m (.slice sa n sc))
  have d1 := h1.cls 1 _ (mv_f m (.slice sa n sc))
  have d2 := h1.cls 2 _ (mv_e m (.slice sa n sc))
  by_cases g0 : m.1 < 1
  · skip
    refine wp_region_cls0 ?_
    repeat (first | go_big_quiet_skip | (go_big_quiet_want; first | (go_big_quiet_op; first | go_big_quiet_on | go_big_quiet_call ((fail)))))
    refine wpQuiet_nil ?_
    rintro w1 ⟨s1, e1⟩
    have hb1 := wOf_below s1
    rw [← e1] at hb1
    clear e1 s1
    replace hB := bgo hB hb1
    clear hb1
    go_wp2
    go_ret
    exact ⟨by rw [show rmB m = false from by simp [rmB, g0]]; rfl, hB⟩
  · skip
    by_cases g1 : 4 < m.1
    · skip
      refine wp_region_cls0 ?_
      repeat (first | go_big_quiet_skip | (go_big_quiet_want; first | (go_big_quiet_op; first | go_big_quiet_on | go_big_quiet_call ((fail)))))
      refine wpQuiet_nil ?_
      rintro w1 ⟨s1, e1⟩
      have hb1 := wOf_below s1
      rw [← e1] at hb1
      clear e1 s1
      replace hB := bgo hB hb1
      clear hb1
      go_wp2
      go_ret
      exact ⟨by rw [show rmB m = false from by simp [rmB, g1]]; rfl, hB⟩
    · skip
      by_cases g2 : m.2.1 < 0
      · skip
        refine wp_region_cls0 ?_
        repeat (first | go_big_quiet_skip | (go_big_quiet_want; first | (go_big_quiet_op; first | go_big_quiet_on | go_big_quiet_call ((fail)))))
        refine wpQuiet_nil ?_
        rintro w1 ⟨s1, e1⟩
        have hb1 := wOf_below s1
        rw [← e1] at hb1
        clear e1 s1
        replace hB := bgo hB hb1
        clear hb1
        go_wp2
        go_ret
        exact ⟨by rw [show rmB m = false from by simp [rmB, g2]]; rfl, hB⟩
      · skip
        by_cases g3 : 7 < m.2.1
        · skip
          refine wp_region_cls0 ?_
          repeat (first | go_big_quiet_skip | (go_big_quiet_want; first | (go_big_quiet_op; first | go_big_quiet_on | go_big_quiet_call ((fail)))))
          refine wpQuiet_nil ?_
          rintro w1 ⟨s1, e1⟩
          have hb1 := wOf_below s1
          rw [← e1] at hb1
          clear e1 s1
          replace hB := bgo hB hb1
          clear hb1
          go_wp2
          go_ret
          exact ⟨by rw [show rmB m = false from by simp [rmB, g3]]; rfl, hB⟩
        · skip
          by_cases g4 : m.2.2.1 < 0
          · skip
            refine wp_region_cls0 ?_
            repeat (first | go_big_quiet_skip | (go_big_quiet_want; first | (go_big_quiet_op; first | go_big_quiet_on | go_big_quiet_call ((fail)))))
            refine wpQuiet_nil ?_
            rintro w1 ⟨s1, e1⟩
            have hb1 := wOf_below s1
            rw [← e1] at hb1
            clear e1 s1
            replace hB := bgo hB hb1
            clear hb1
            go_wp2
            go_ret
            exact ⟨by rw [show rmB m = false from by simp [rmB, g4]]; rfl, hB⟩
          · skip
            refine wp_region_cls0 ?_
            repeat (first | go_big_quiet_skip | (go_big_quiet_want; first | (go_big_quiet_op; first | go_big_quiet_on | go_big_quiet_call ((fail)))))
            refine wpQuiet_nil ?_
            rintro w1 ⟨s1, e1⟩
            have hb1 := wOf_below s1
            rw [← e1] at hb1
            clear e1 s1
            replace h1 := h1.later hb1
            replace hA := hA.later hb1
            replace hB := bgo hB hb1
            clear hb1
            have d0 := h1.cls 0 _ (mv_k m (.slice sa n sc))
            have d3 := h1.cls 11 _ (mv_a (.slice sa n sc) hs)
            have p1 := h1.in.msC
            have p2 := h1.in.msR hs
            have q1 := fun w => eqIn_ck 9998 m.2.2.2.1 zero8 hs.1 rfl w
            have q2 := fun w => eqIn_rnds 9995 hs.2.2 zeroRs_sh w
            have gc := ck_guard
            have grd := rnds_guard
            cases k2 : (m.1 == 2)
            · have k2' : (m.1 != 2) = true := by simp only [bne, k2]; rfl
              cases cz : (m.2.2.2.1 == zero8)
              · simp only [cz] at q1
                go_upto_region 3 with fail
                refine wp_region_cls0 ?_
                repeat (first | go_big_quiet_skip | (go_big_quiet_want; first | (refine quiet_ck hs.1 _ rfl rfl p1.cls ?_; simp only [Act.put, List.setIfInBounds_toArray, List.set_cons_succ, List.set_cons_zero]; go_big_quiet_on) | (refine quiet_rnds hs.2.2 _ rfl rfl p2.cls ?_; simp only [Act.put, List.setIfInBounds_toArray, List.set_cons_succ, List.set_cons_zero]; go_big_quiet_on) | (refine quiet_cz rfl ?_; simp only [Act.put, List.setIfInBounds_toArray, List.set_cons_succ, List.set_cons_zero]; go_big_quiet_on) | (refine quiet_rsz rfl ?_; simp only [Act.put, List.setIfInBounds_toArray, List.set_cons_succ, List.set_cons_zero]; go_big_quiet_on) | (go_big_quiet_op; first | go_big_quiet_on | go_big_quiet_call ((first | (go_at_call 32; exact cls_of (refValid_is gv _ hs.1)) | (go_at_call 16; exact cls_of_same (hasActs_is ga _)) | (go_at_call 19; exact cls_of_same (hasRounds_is gr _)))))))
                refine wpQuiet_nil ?_
                rintro w1 ⟨s1, e1⟩
                have hb1 := wOf_below s1
                rw [← e1] at hb1
                clear e1 s1
                replace h1 := h1.later hb1
                replace hA := hA.later hb1
                replace hB := bgo hB hb1
                clear hb1
                go_wp2
                go_ret
                exact ⟨by rw [show rmB m = false from by simp [rmB, k2, cz]]; rfl, hB⟩
              · simp only [cz] at q1
                cases gv : geB m.2.2.2.1
                · skip
                  go_upto_region 3 with fail
                  refine wp_region_cls0 ?_
                  repeat (first | go_big_quiet_skip | (go_big_quiet_want; first | (refine quiet_ck hs.1 _ rfl rfl p1.cls ?_; simp only [Act.put, List.setIfInBounds_toArray, List.set_cons_succ, List.set_cons_zero]; go_big_quiet_on) | (refine quiet_rnds hs.2.2 _ rfl rfl p2.cls ?_; simp only [Act.put, List.setIfInBounds_toArray, List.set_cons_succ, List.set_cons_zero]; go_big_quiet_on) | (refine quiet_cz rfl ?_; simp only [Act.put, List.setIfInBounds_toArray, List.set_cons_succ, List.set_cons_zero]; go_big_quiet_on) | (refine quiet_rsz rfl ?_; simp only [Act.put, List.setIfInBounds_toArray, List.set_cons_succ, List.set_cons_zero]; go_big_quiet_on) | (go_big_quiet_op; first | go_big_quiet_on | go_big_quiet_call ((first | (go_at_call 32; exact cls_of (refValid_is gv _ hs.1)) | (go_at_call 16; exact cls_of_same (hasActs_is ga _)) | (go_at_call 19; exact cls_of_same (hasRounds_is gr _)))))))
                  refine wpQuiet_nil ?_
                  rintro w1 ⟨s1, e1⟩
                  have hb1 := wOf_below s1
                  rw [← e1] at hb1
                  clear e1 s1
                  replace h1 := h1.later hb1
                  replace hA := hA.later hb1
                  replace hB := bgo hB hb1
                  clear hb1
                  go_wp2
                  go_ret
                  exact ⟨by rw [show rmB m = false from by simp [rmB, k2, cz, gv]]; rfl, hB⟩
                · skip
                  cases ga : haB m.1
                  · by_cases l0 : (0 : Int) < (n : Int)
                    · have l1 : 0 < n := by omega
                      have l2 := hid_of' (show ¬ n = 0 by omega)
                      go_upto_region 3 with fail
                      refine wp_region_cls0 ?_
                      repeat (first | go_big_quiet_skip | (go_big_quiet_want; first | (refine quiet_ck hs.1 _ rfl rfl p1.cls ?_; simp only [Act.put, List.setIfInBounds_toArray, List.set_cons_succ, List.set_cons_zero]; go_big_quiet_on) | (refine quiet_rnds hs.2.2 _ rfl rfl p2.cls ?_; simp only [Act.put, List.setIfInBounds_toArray, List.set_cons_succ, List.set_cons_zero]; go_big_quiet_on) | (refine quiet_cz rfl ?_; simp only [Act.put, List.setIfInBounds_toArray, List.set_cons_succ, List.set_cons_zero]; go_big_quiet_on) | (refine quiet_rsz rfl ?_; simp only [Act.put, List.setIfInBounds_toArray, List.set_cons_succ, List.set_cons_zero]; go_big_quiet_on) | (go_big_quiet_op; first | go_big_quiet_on | go_big_quiet_call ((first | (go_at_call 32; exact cls_of (refValid_is gv _ hs.1)) | (go_at_call 16; exact cls_of_same (hasActs_is ga _)) | (go_at_call 19; exact cls_of_same (hasRounds_is gr _)))))))
                      refine wpQuiet_nil ?_
                      rintro w1 ⟨s1, e1⟩
                      have hb1 := wOf_below s1
                      rw [← e1] at hb1
                      clear e1 s1
                      replace h1 := h1.later hb1
                      replace hA := hA.later hb1
                      replace hB := bgo hB hb1
                      clear hb1
                      go_wp2
                      go_ret
                      exact ⟨by rw [show rmB m = false from by simp [rmB, g0, g1, g2, g3, g4, k2, cz, gv, ga, HN.out, l2.out]]; rfl, hB⟩
                    · have l1 : ¬ 0 < n := by omega
                      have l2 := hid_of' (show n = 0 by omega)
                      cases gr : hrB m.1
                      · cases rz : (m.2.2.2.2.2 == zeroRs)
                        · simp only [rz] at q2
                          go_upto_region 3 with fail
                          refine wp_region_cls0 ?_
                          repeat (first | go_big_quiet_skip | (go_big_quiet_want; first | (refine quiet_ck hs.1 _ rfl rfl p1.cls ?_; simp only [Act.put, List.setIfInBounds_toArray, List.set_cons_succ, List.set_cons_zero]; go_big_quiet_on) | (refine quiet_rnds hs.2.2 _ rfl rfl p2.cls ?_; simp only [Act.put, List.setIfInBounds_toArray, List.set_cons_succ, List.set_cons_zero]; go_big_quiet_on) | (refine quiet_cz rfl ?_; simp only [Act.put, List.setIfInBounds_toArray, List.set_cons_succ, List.set_cons_zero]; go_big_quiet_on) | (refine quiet_rsz rfl ?_; simp only [Act.put, List.setIfInBounds_toArray, List.set_cons_succ, List.set_cons_zero]; go_big_quiet_on) | (go_big_quiet_op; first | go_big_quiet_on | go_big_quiet_call ((first | (go_at_call 32; exact cls_of (refValid_is gv _ hs.1)) | (go_at_call 16; exact cls_of_same (hasActs_is ga _)) | (go_at_call 19; exact cls_of_same (hasRounds_is gr _)))))))
                          refine wpQuiet_nil ?_
                          rintro w1 ⟨s1, e1⟩
                          have hb1 := wOf_below s1
                          rw [← e1] at hb1
                          clear e1 s1
                          replace h1 := h1.later hb1
                          replace hA := hA.later hb1
                          replace hB := bgo hB hb1
                          clear hb1
                          go_wp2
                          go_ret
                          exact ⟨by rw [show rmB m = false from by simp [rmB, k2, cz, gv, ga, HN.out, l2.out, gr, rz]]; rfl, hB⟩
                        · simp only [rz] at q2
                          go_upto_region 3 with fail
                          refine wp_region_cls0 ?_
                          repeat (first | go_big_quiet_skip | (go_big_quiet_want; first | (refine quiet_ck hs.1 _ rfl rfl p1.cls ?_; simp only [Act.put, List.setIfInBounds_toArray, List.set_cons_succ, List.set_cons_zero]; go_big_quiet_on) | (refine quiet_rnds hs.2.2 _ rfl rfl p2.cls ?_; simp only [Act.put, List.setIfInBounds_toArray, List.set_cons_succ, List.set_cons_zero]; go_big_quiet_on) | (refine quiet_cz rfl ?_; simp only [Act.put, List.setIfInBounds_toArray, List.set_cons_succ, List.set_cons_zero]; go_big_quiet_on) | (refine quiet_rsz rfl ?_; simp only [Act.put, List.setIfInBounds_toArray, List.set_cons_succ, List.set_cons_zero]; go_big_quiet_on) | (go_big_quiet_op; first | go_big_quiet_on | go_big_quiet_call ((first | (go_at_call 32; exact cls_of (refValid_is gv _ hs.1)) | (go_at_call 16; exact cls_of_same (hasActs_is ga _)) | (go_at_call 19; exact cls_of_same (hasRounds_is gr _)))))))
                          refine wpQuiet_nil ?_
                          rintro w1 ⟨s1, e1⟩
                          have hb1 := wOf_below s1
                          rw [← e1] at hb1
                          clear e1 s1
                          replace h1 := h1.later hb1
                          replace hA := hA.later hb1
                          replace hB := bgo hB hb1
                          clear hb1
                          have HVV := hid_of' (show rmB m = (m.2.2.2.2.1.all actB && m.2.2.2.2.2.all rndB) from by simp [rmB, g0, g1, g2, g3, g4, k2, cz, gv, ga, HN.out, l2.out, gr, rz])
                          clear d0 d1 d2 d3 p1 p2 q1 q2 gc grd
                          go_wp2
                          go_loopw [3] (fun i wr => ∃ k : Nat, i = .int .i64 (k : Int) ∧ k ≤ n ∧ RowAt w.heap.size (mv m (.slice sa n sc)) 31 wr ∧ SlA wr (.slice sa n sc) m.2.2.2.2.1 ∧ Below w.heap.size w wr ∧ Hid ((m.2.2.2.2.1.take k).all actB = true)) (fun i _ => n - (intOf i).toNat)
                          case atStart => exact ⟨0, rfl, by omega, h1, hA, hB, rfl⟩
                          case round =>
                            clear h1 hA hB
                            obtain ⟨k, rfl, hk, h1, hA, hB, hT⟩ := hrel
                            have d3 : wr.cell? ⟨w.heap.size, 11, none⟩ = some (.slice sa n sc) := by rw [h1.cell]; exact mv_a _ hs
                            by_cases hkn : k < n
                            · exact absurd hkn (by omega)
                            · have hki : ¬ (k : Int) < (n : Int) := by omega
                              have hTT : m.2.2.2.2.1.all actB = true := by have := hT.out; rwa [List.take_of_length_le (by rw [HN.out]; omega)] at this
                              have HT := hid_of' hTT
                              have p2 := h1.in.msR hs
                              have HR := hid_of' (HM.out.2.2.2)
                              have HB := hid_of' hB
                              clear hTT hA hB hT
                              go_wp2_with (first | (refine ld_rnds hs.2.2 rfl _ rfl rfl p2 ?_) | (go_at_call 34; have hh := fun w => refRounds_any m.2.2.2.2.2 w hs.2.2 HR.out; (with_reducible refine (hh _).mono ?_); clear hh; rintro e w5 ⟨rfl, hb5⟩))
                              go_ret
                              exact ⟨by rw [HVV.out, HT.out]; rfl, bgo HB.out hb5⟩
                      · skip
                        go_upto_region 3 with fail
                        refine wp_region_cls0 ?_
                        repeat (first | go_big_quiet_skip | (go_big_quiet_want; first | (refine quiet_ck hs.1 _ rfl rfl p1.cls ?_; simp only [Act.put, List.setIfInBounds_toArray, List.set_cons_succ, List.set_cons_zero]; go_big_quiet_on) | (refine quiet_rnds hs.2.2 _ rfl rfl p2.cls ?_; simp only [Act.put, List.setIfInBounds_toArray, List.set_cons_succ, List.set_cons_zero]; go_big_quiet_on) | (refine quiet_cz rfl ?_; simp only [Act.put, List.setIfInBounds_toArray, List.set_cons_succ, List.set_cons_zero]; go_big_quiet_on) | (refine quiet_rsz rfl ?_; simp only [Act.put, List.setIfInBounds_toArray, List.set_cons_succ, List.set_cons_zero]; go_big_quiet_on) | (go_big_quiet_op; first | go_big_quiet_on | go_big_quiet_call ((first | (go_at_call 32; exact cls_of (refValid_is gv _ hs.1)) | (go_at_call 16; exact cls_of_same (hasActs_is ga _)) | (go_at_call 19; exact cls_of_same (hasRounds_is gr _)))))))
                        refine wpQuiet_nil ?_
                        rintro w1 ⟨s1, e1⟩
                        have hb1 := wOf_below s1
                        rw [← e1] at hb1
                        clear e1 s1
                        replace h1 := h1.later hb1
                        replace hA := hA.later hb1
                        replace hB := bgo hB hb1
                        clear hb1
                        have HVV := hid_of' (show rmB m = (m.2.2.2.2.1.all actB && m.2.2.2.2.2.all rndB) from by simp [rmB, g0, g1, g2, g3, g4, k2, cz, gv, ga, HN.out, l2.out, gr])
                        clear d0 d1 d2 d3 p1 p2 q1 q2 gc grd
                        go_wp2
                        go_loopw [3] (fun i wr => ∃ k : Nat, i = .int .i64 (k : Int) ∧ k ≤ n ∧ RowAt w.heap.size (mv m (.slice sa n sc)) 31 wr ∧ SlA wr (.slice sa n sc) m.2.2.2.2.1 ∧ Below w.heap.size w wr ∧ Hid ((m.2.2.2.2.1.take k).all actB = true)) (fun i _ => n - (intOf i).toNat)
                        case atStart => exact ⟨0, rfl, by omega, h1, hA, hB, rfl⟩
                        case round =>
                          clear h1 hA hB
                          obtain ⟨k, rfl, hk, h1, hA, hB, hT⟩ := hrel
                          have d3 : wr.cell? ⟨w.heap.size, 11, none⟩ = some (.slice sa n sc) := by rw [h1.cell]; exact mv_a _ hs
                          by_cases hkn : k < n
                          · exact absurd hkn (by omega)
                          · have hki : ¬ (k : Int) < (n : Int) := by omega
                            have hTT : m.2.2.2.2.1.all actB = true := by have := hT.out; rwa [List.take_of_length_le (by rw [HN.out]; omega)] at this
                            have HT := hid_of' hTT
                            have p2 := h1.in.msR hs
                            have HR := hid_of' (HM.out.2.2.2)
                            have HB := hid_of' hB
                            clear hTT hA hB hT
                            go_wp2_with (first | (refine ld_rnds hs.2.2 rfl _ rfl rfl p2 ?_) | (go_at_call 34; have hh := fun w => refRounds_any m.2.2.2.2.2 w hs.2.2 HR.out; (with_reducible refine (hh _).mono ?_); clear hh; rintro e w5 ⟨rfl, hb5⟩))
                            go_ret
                            exact ⟨by rw [HVV.out, HT.out]; rfl, bgo HB.out hb5⟩
                  · skip
                    cases gr : hrB m.1
                    · cases rz : (m.2.2.2.2.2 == zeroRs)
                      · simp only [rz] at q2
                        go_upto_region 3 with fail
                        refine wp_region_cls0 ?_
                        repeat (first | go_big_quiet_skip | (go_big_quiet_want; first | (refine quiet_ck hs.1 _ rfl rfl p1.cls ?_; simp only [Act.put, List.setIfInBounds_toArray, List.set_cons_succ, List.set_cons_zero]; go_big_quiet_on) | (refine quiet_rnds hs.2.2 _ rfl rfl p2.cls ?_; simp only [Act.put, List.setIfInBounds_toArray, List.set_cons_succ, List.set_cons_zero]; go_big_quiet_on) | (refine quiet_cz rfl ?_; simp only [Act.put, List.setIfInBounds_toArray, List.set_cons_succ, List.set_cons_zero]; go_big_quiet_on) | (refine quiet_rsz rfl ?_; simp only [Act.put, List.setIfInBounds_toArray, List.set_cons_succ, List.set_cons_zero]; go_big_quiet_on) | (go_big_quiet_op; first | go_big_quiet_on | go_big_quiet_call ((first | (go_at_call 32; exact cls_of (refValid_is gv _ hs.1)) | (go_at_call 16; exact cls_of_same (hasActs_is ga _)) | (go_at_call 19; exact cls_of_same (hasRounds_is gr _)))))))
                        refine wpQuiet_nil ?_
                        rintro w1 ⟨s1, e1⟩
                        have hb1 := wOf_below s1
                        rw [← e1] at hb1
                        clear e1 s1
                        replace h1 := h1.later hb1
                        replace hA := hA.later hb1
                        replace hB := bgo hB hb1
                        clear hb1
                        go_wp2
                        go_ret
                        exact ⟨by rw [show rmB m = false from by simp [rmB, k2, cz, gv, ga, gr, rz]]; rfl, hB⟩
                      · simp only [rz] at q2
                        go_upto_region 3 with fail
                        refine wp_region_cls0 ?_
                        repeat (first | go_big_quiet_skip | (go_big_quiet_want; first | (refine quiet_ck hs.1 _ rfl rfl p1.cls ?_; simp only [Act.put, List.setIfInBounds_toArray, List.set_cons_succ, List.set_cons_zero]; go_big_quiet_on) | (refine quiet_rnds hs.2.2 _ rfl rfl p2.cls ?_; simp only [Act.put, List.setIfInBounds_toArray, List.set_cons_succ, List.set_cons_zero]; go_big_quiet_on) | (refine quiet_cz rfl ?_; simp only [Act.put, List.setIfInBounds_toArray, List.set_cons_succ, List.set_cons_zero]; go_big_quiet_on) | (refine quiet_rsz rfl ?_; simp only [Act.put, List.setIfInBounds_toArray, List.set_cons_succ, List.set_cons_zero]; go_big_quiet_on) | (go_big_quiet_op; first | go_big_quiet_on | go_big_quiet_call ((first | (go_at_call 32; exact cls_of (refValid_is gv _ hs.1)) | (go_at_call 16; exact cls_of_same (hasActs_is ga _)) | (go_at_call 19; exact cls_of_same (hasRounds_is gr _)))))))
                        refine wpQuiet_nil ?_
                        rintro w1 ⟨s1, e1⟩
                        have hb1 := wOf_below s1
                        rw [← e1] at hb1
                        clear e1 s1
                        replace h1 := h1.later hb1
                        replace hA := hA.later hb1
                        replace hB := bgo hB hb1
                        clear hb1
                        have HVV := hid_of' (show rmB m = (m.2.2.2.2.1.all actB && m.2.2.2.2.2.all rndB) from by simp [rmB, g0, g1, g2, g3, g4, k2, cz, gv, ga, gr, rz])
                        clear d0 d1 d2 d3 p1 p2 q1 q2 gc grd
                        go_wp2
                        go_loopw [3] (fun i wr => ∃ k : Nat, i = .int .i64 (k : Int) ∧ k ≤ n ∧ RowAt w.heap.size (mv m (.slice sa n sc)) 31 wr ∧ SlA wr (.slice sa n sc) m.2.2.2.2.1 ∧ Below w.heap.size w wr ∧ Hid ((m.2.2.2.2.1.take k).all actB = true)) (fun i _ => n - (intOf i).toNat)
                        case atStart => exact ⟨0, rfl, by omega, h1, hA, hB, rfl⟩
                        case round =>
                          clear h1 hA hB
                          obtain ⟨k, rfl, hk, h1, hA, hB, hT⟩ := hrel
                          have d3 : wr.cell? ⟨w.heap.size, 11, none⟩ = some (.slice sa n sc) := by rw [h1.cell]; exact mv_a _ hs
                          by_cases hkn : k < n
                          · obtain ⟨a, hx⟩ : ∃ a, m.2.2.2.2.1[k]? = some a := ⟨_, List.getElem?_eq_getElem (by rw [HN.out]; exact hkn)⟩
                            have HX := hid_of' hx
                            have hfa := HM.out.1.acts a (List.mem_of_getElem? hx)
                            have hca := HM.out.2.2.1 a (List.mem_of_getElem? hx)
                            have hki : (k : Int) < (n : Int) := by omega
                            have HA := hid_of' hA
                            obtain ⟨g, o_, c', he, hAc⟩ : ∃ g o_ c', (.slice sa n sc : Value) = .slice (some ⟨g, o_, none⟩) m.2.2.2.2.1.length c' ∧ AcsAt g o_ m.2.2.2.2.1 wr := by
                              rcases hA with ⟨h0, _⟩ | h
                              · rw [h0] at hx; simp at hx
                              · exact h
                            simp only [Value.slice.injEq] at he
                            obtain ⟨hsa, hnl, hcc⟩ := he
                            rw [hsa] at d3
                            have hcA := hAc.2 k a hx
                            have HB := hid_of' (And.intro h1 hB)
                            clear hx hA hAc h1 hB hsa hcc hnl
                            cases gA : actB a
                            · go_wp2_with (first | (refine ld_act hfa.1 rfl _ rfl rfl hcA ?_) | (go_at_call 33; have hh := fun w => refAct_is gA w hfa hca; (with_reducible refine (hh _).mono ?_); clear hh; rintro e w5 ⟨rfl, hb5⟩))
                              go_ret
                              exact ⟨by rw [HVV.out, all_no HX.out gA]; rfl, bgo HB.out.2 hb5⟩
                            · go_wp2_with (first | (refine ld_act hfa.1 rfl _ rfl rfl hcA ?_) | (go_at_call 33; have hh := fun w => refAct_is gA w hfa hca; (with_reducible refine (hh _).mono ?_); clear hh; rintro e w5 ⟨rfl, hb5⟩))
                              go_roundw
                              case rel => exact ⟨k + 1, by go_num, by omega, HB.out.1.later hb5, HA.out.later hb5, bgo HB.out.2 hb5, all_step HX.out hT.out gA⟩
                              case measure => simp [intOf]; omega
                          · have hki : ¬ (k : Int) < (n : Int) := by omega
                            have hTT : m.2.2.2.2.1.all actB = true := by have := hT.out; rwa [List.take_of_length_le (by rw [HN.out]; omega)] at this
                            have HT := hid_of' hTT
                            have p2 := h1.in.msR hs
                            have HR := hid_of' (HM.out.2.2.2)
                            have HB := hid_of' hB
                            clear hTT hA hB hT
                            go_wp2_with (first | (refine ld_rnds hs.2.2 rfl _ rfl rfl p2 ?_) | (go_at_call 34; have hh := fun w => refRounds_any m.2.2.2.2.2 w hs.2.2 HR.out; (with_reducible refine (hh _).mono ?_); clear hh; rintro e w5 ⟨rfl, hb5⟩))
                            go_ret
                            exact ⟨by rw [HVV.out, HT.out]; rfl, bgo HB.out hb5⟩
                    · skip
                      go_upto_region 3 with fail
                      refine wp_region_cls0 ?_
                      repeat (first | go_big_quiet_skip | (go_big_quiet_want; first | (refine quiet_ck hs.1 _ rfl rfl p1.cls ?_; simp only [Act.put, List.setIfInBounds_toArray, List.set_cons_succ, List.set_cons_zero]; go_big_quiet_on) | (refine quiet_rnds hs.2.2 _ rfl rfl p2.cls ?_; simp only [Act.put, List.setIfInBounds_toArray, List.set_cons_succ, List.set_cons_zero]; go_big_quiet_on) | (refine quiet_cz rfl ?_; simp only [Act.put, List.setIfInBounds_toArray, List.set_cons_succ, List.set_cons_zero]; go_big_quiet_on) | (refine quiet_rsz rfl ?_; simp only [Act.put, List.setIfInBounds_toArray, List.set_cons_succ, List.set_cons_zero]; go_big_quiet_on) | (go_big_quiet_op; first | go_big_quiet_on | go_big_quiet_call ((first | (go_at_call 32; exact cls_of (refValid_is gv _ hs.1)) | (go_at_call 16; exact cls_of_same (hasActs_is ga _)) | (go_at_call 19; exact cls_of_same (hasRounds_is gr _)))))))
                      refine wpQuiet_nil ?_
                      rintro w1 ⟨s1, e1⟩
                      have hb1 := wOf_below s1
                      rw [← e1] at hb1
                      clear e1 s1
                      replace h1 := h1.later hb1
                      replace hA := hA.later hb1
                      replace hB := bgo hB hb1
                      clear hb1
                      have HVV := hid_of' (show rmB m = (m.2.2.2.2.1.all actB && m.2.2.2.2.2.all rndB) from by simp [rmB, g0, g1, g2, g3, g4, k2, cz, gv, ga, gr])
                      clear d0 d1 d2 d3 p1 p2 q1 q2 gc grd
                      go_wp2
                      go_loopw [3] (fun i wr => ∃ k : Nat, i = .int .i64 (k : Int) ∧ k ≤ n ∧ RowAt w.heap.size (mv m (.slice sa n sc)) 31 wr ∧ SlA wr (.slice sa n sc) m.2.2.2.2.1 ∧ Below w.heap.size w wr ∧ Hid ((m.2.2.2.2.1.take k).all actB = true)) (fun i _ => n - (intOf i).toNat)
                      case atStart => exact ⟨0, rfl, by omega, h1, hA, hB, rfl⟩
                      case round =>
                        clear h1 hA hB
                        obtain ⟨k, rfl, hk, h1, hA, hB, hT⟩ := hrel
                        have d3 : wr.cell? ⟨w.heap.size, 11, none⟩ = some (.slice sa n sc) := by rw [h1.cell]; exact mv_a _ hs
                        by_cases hkn : k < n
                        · obtain ⟨a, hx⟩ : ∃ a, m.2.2.2.2.1[k]? = some a := ⟨_, List.getElem?_eq_getElem (by rw [HN.out]; exact hkn)⟩
                          have HX := hid_of' hx
                          have hfa := HM.out.1.acts a (List.mem_of_getElem? hx)
                          have hca := HM.out.2.2.1 a (List.mem_of_getElem? hx)
                          have hki : (k : Int) < (n : Int) := by omega
                          have HA := hid_of' hA
                          obtain ⟨g, o_, c', he, hAc⟩ : ∃ g o_ c', (.slice sa n sc : Value) = .slice (some ⟨g, o_, none⟩) m.2.2.2.2.1.length c' ∧ AcsAt g o_ m.2.2.2.2.1 wr := by
                            rcases hA with ⟨h0, _⟩ | h
                            · rw [h0] at hx; simp at hx
                            · exact h
                          simp only [Value.slice.injEq] at he
                          obtain ⟨hsa, hnl, hcc⟩ := he
                          rw [hsa] at d3
                          have hcA := hAc.2 k a hx
                          have HB := hid_of' (And.intro h1 hB)
                          clear hx hA hAc h1 hB hsa hcc hnl
                          cases gA : actB a
                          · go_wp2_with (first | (refine ld_act hfa.1 rfl _ rfl rfl hcA ?_) | (go_at_call 33; have hh := fun w => refAct_is gA w hfa hca; (with_reducible refine (hh _).mono ?_); clear hh; rintro e w5 ⟨rfl, hb5⟩))
                            go_ret
                            exact ⟨by rw [HVV.out, all_no HX.out gA]; rfl, bgo HB.out.2 hb5⟩
                          · go_wp2_with (first | (refine ld_act hfa.1 rfl _ rfl rfl hcA ?_) | (go_at_call 33; have hh := fun w => refAct_is gA w hfa hca; (with_reducible refine (hh _).mono ?_); clear hh; rintro e w5 ⟨rfl, hb5⟩))
                            go_roundw
                            case rel => exact ⟨k + 1, by go_num, by omega, HB.out.1.later hb5, HA.out.later hb5, bgo HB.out.2 hb5, all_step HX.out hT.out gA⟩
                            case measure => simp [intOf]; omega
                        · have hki : ¬ (k : Int) < (n : Int) := by omega
                          have hTT : m.2.2.2.2.1.all actB = true := by have := hT.out; rwa [List.take_of_length_le (by rw [HN.out]; omega)] at this
                          have HT := hid_of' hTT
                          have p2 := h1.in.msR hs
                          have HR := hid_of' (HM.out.2.2.2)
                          have HB := hid_of' hB
                          clear hTT hA hB hT
                          go_wp2_with (first | (refine ld_rnds hs.2.2 rfl _ rfl rfl p2 ?_) | (go_at_call 34; have hh := fun w => refRounds_any m.2.2.2.2.2 w hs.2.2 HR.out; (with_reducible refine (hh _).mono ?_); clear hh; rintro e w5 ⟨rfl, hb5⟩))
                          go_ret
                          exact ⟨by rw [HVV.out, HT.out]; rfl, bgo HB.out hb5⟩
            · have k2' : (m.1 != 2) = false := by simp only [bne, k2]; rfl
              cases gv : geB m.2.2.2.1
              · skip
                go_upto_region 3 with fail
                refine wp_region_cls0 ?_
                repeat (first | go_big_quiet_skip | (go_big_quiet_want; first | (refine quiet_ck hs.1 _ rfl rfl p1.cls ?_; simp only [Act.put, List.setIfInBounds_toArray, List.set_cons_succ, List.set_cons_zero]; go_big_quiet_on) | (refine quiet_rnds hs.2.2 _ rfl rfl p2.cls ?_; simp only [Act.put, List.setIfInBounds_toArray, List.set_cons_succ, List.set_cons_zero]; go_big_quiet_on) | (refine quiet_cz rfl ?_; simp only [Act.put, List.setIfInBounds_toArray, List.set_cons_succ, List.set_cons_zero]; go_big_quiet_on) | (refine quiet_rsz rfl ?_; simp only [Act.put, List.setIfInBounds_toArray, List.set_cons_succ, List.set_cons_zero]; go_big_quiet_on) | (go_big_quiet_op; first | go_big_quiet_on | go_big_quiet_call ((first | (go_at_call 32; exact cls_of (refValid_is gv _ hs.1)) | (go_at_call 16; exact cls_of_same (hasActs_is ga _)) | (go_at_call 19; exact cls_of_same (hasRounds_is gr _)))))))
                refine wpQuiet_nil ?_
                rintro w1 ⟨s1, e1⟩
                have hb1 := wOf_below s1
                rw [← e1] at hb1
                clear e1 s1
                replace h1 := h1.later hb1
                replace hA := hA.later hb1
                replace hB := bgo hB hb1
                clear hb1
                go_wp2
                go_ret
                exact ⟨by rw [show rmB m = false from by simp [rmB, k2, gv]]; rfl, hB⟩
              · skip
                cases ga : haB m.1
                · by_cases l0 : (0 : Int) < (n : Int)
                  · have l1 : 0 < n := by omega
                    have l2 := hid_of' (show ¬ n = 0 by omega)
                    go_upto_region 3 with fail
                    refine wp_region_cls0 ?_
                    repeat (first | go_big_quiet_skip | (go_big_quiet_want; first | (refine quiet_ck hs.1 _ rfl rfl p1.cls ?_; simp only [Act.put, List.setIfInBounds_toArray, List.set_cons_succ, List.set_cons_zero]; go_big_quiet_on) | (refine quiet_rnds hs.2.2 _ rfl rfl p2.cls ?_; simp only [Act.put, List.setIfInBounds_toArray, List.set_cons_succ, List.set_cons_zero]; go_big_quiet_on) | (refine quiet_cz rfl ?_; simp only [Act.put, List.setIfInBounds_toArray, List.set_cons_succ, List.set_cons_zero]; go_big_quiet_on) | (refine quiet_rsz rfl ?_; simp only [Act.put, List.setIfInBounds_toArray, List.set_cons_succ, List.set_cons_zero]; go_big_quiet_on) | (go_big_quiet_op; first | go_big_quiet_on | go_big_quiet_call ((first | (go_at_call 32; exact cls_of (refValid_is gv _ hs.1)) | (go_at_call 16; exact cls_of_same (hasActs_is ga _)) | (go_at_call 19; exact cls_of_same (hasRounds_is gr _)))))))
                    refine wpQuiet_nil ?_
                    rintro w1 ⟨s1, e1⟩
                    have hb1 := wOf_below s1
                    rw [← e1] at hb1
                    clear e1 s1
                    replace h1 := h1.later hb1
                    replace hA := hA.later hb1
                    replace hB := bgo hB hb1
                    clear hb1
                    go_wp2
                    go_ret
                    exact ⟨by rw [show rmB m = false from by simp [rmB, g0, g1, g2, g3, g4, k2, gv, ga, HN.out, l2.out]]; rfl, hB⟩
                  · have l1 : ¬ 0 < n := by omega
                    have l2 := hid_of' (show n = 0 by omega)
                    cases gr : hrB m.1
                    · cases rz : (m.2.2.2.2.2 == zeroRs)
                      · simp only [rz] at q2
                        go_upto_region 3 with fail
                        refine wp_region_cls0 ?_
                        repeat (first | go_big_quiet_skip | (go_big_quiet_want; first | (refine quiet_ck hs.1 _ rfl rfl p1.cls ?_; simp only [Act.put, List.setIfInBounds_toArray, List.set_cons_succ, List.set_cons_zero]; go_big_quiet_on) | (refine quiet_rnds hs.2.2 _ rfl rfl p2.cls ?_; simp only [Act.put, List.setIfInBounds_toArray, List.set_cons_succ, List.set_cons_zero]; go_big_quiet_on) | (refine quiet_cz rfl ?_; simp only [Act.put, List.setIfInBounds_toArray, List.set_cons_succ, List.set_cons_zero]; go_big_quiet_on) | (refine quiet_rsz rfl ?_; simp only [Act.put, List.setIfInBounds_toArray, List.set_cons_succ, List.set_cons_zero]; go_big_quiet_on) | (go_big_quiet_op; first | go_big_quiet_on | go_big_quiet_call ((first | (go_at_call 32; exact cls_of (refValid_is gv _ hs.1)) | (go_at_call 16; exact cls_of_same (hasActs_is ga _)) | (go_at_call 19; exact cls_of_same (hasRounds_is gr _)))))))
                        refine wpQuiet_nil ?_
                        rintro w1 ⟨s1, e1⟩
                        have hb1 := wOf_below s1
                        rw [← e1] at hb1
                        clear e1 s1
                        replace h1 := h1.later hb1
                        replace hA := hA.later hb1
                        replace hB := bgo hB hb1
                        clear hb1
                        go_wp2
                        go_ret
                        exact ⟨by rw [show rmB m = false from by simp [rmB, k2, gv, ga, HN.out, l2.out, gr, rz]]; rfl, hB⟩
                      · simp only [rz] at q2
                        go_upto_region 3 with fail
                        refine wp_region_cls0 ?_
                        repeat (first | go_big_quiet_skip | (go_big_quiet_want; first | (refine quiet_ck hs.1 _ rfl rfl p1.cls ?_; simp only [Act.put, List.setIfInBounds_toArray, List.set_cons_succ, List.set_cons_zero]; go_big_quiet_on) | (refine quiet_rnds hs.2.2 _ rfl rfl p2.cls ?_; simp only [Act.put, List.setIfInBounds_toArray, List.set_cons_succ, List.set_cons_zero]; go_big_quiet_on) | (refine quiet_cz rfl ?_; simp only [Act.put, List.setIfInBounds_toArray, List.set_cons_succ, List.set_cons_zero]; go_big_quiet_on) | (refine quiet_rsz rfl ?_; simp only [Act.put, List.setIfInBounds_toArray, List.set_cons_succ, List.set_cons_zero]; go_big_quiet_on) | (go_big_quiet_op; first | go_big_quiet_on | go_big_quiet_call ((first | (go_at_call 32; exact cls_of (refValid_is gv _ hs.1)) | (go_at_call 16; exact cls_of_same (hasActs_is ga _)) | (go_at_call 19; exact cls_of_same (hasRounds_is gr _)))))))
                        refine wpQuiet_nil ?_
                        rintro w1 ⟨s1, e1⟩
                        have hb1 := wOf_below s1
                        rw [← e1] at hb1
                        clear e1 s1
                        replace h1 := h1.later hb1
                        replace hA := hA.later hb1
                        replace hB := bgo hB hb1
                        clear hb1
                        have HVV := hid_of' (show rmB m = (m.2.2.2.2.1.all actB && m.2.2.2.2.2.all rndB) from by simp [rmB, g0, g1, g2, g3, g4, k2, gv, ga, HN.out, l2.out, gr, rz])
                        clear d0 d1 d2 d3 p1 p2 q1 q2 gc grd
                        go_wp2
                        go_loopw [3] (fun i wr => ∃ k : Nat, i = .int .i64 (k : Int) ∧ k ≤ n ∧ RowAt w.heap.size (mv m (.slice sa n sc)) 31 wr ∧ SlA wr (.slice sa n sc) m.2.2.2.2.1 ∧ Below w.heap.size w wr ∧ Hid ((m.2.2.2.2.1.take k).all actB = true)) (fun i _ => n - (intOf i).toNat)
                        case atStart => exact ⟨0, rfl, by omega, h1, hA, hB, rfl⟩
                        case round =>
                          clear h1 hA hB
                          obtain ⟨k, rfl, hk, h1, hA, hB, hT⟩ := hrel
                          have d3 : wr.cell? ⟨w.heap.size, 11, none⟩ = some (.slice sa n sc) := by rw [h1.cell]; exact mv_a _ hs
                          by_cases hkn : k < n
                          · exact absurd hkn (by omega)
                          · have hki : ¬ (k : Int) < (n : Int) := by omega
                            have hTT : m.2.2.2.2.1.all actB = true := by have := hT.out; rwa [List.take_of_length_le (by rw [HN.out]; omega)] at this
                            have HT := hid_of' hTT
                            have p2 := h1.in.msR hs
                            have HR := hid_of' (HM.out.2.2.2)
                            have HB := hid_of' hB
                            clear hTT hA hB hT
                            go_wp2_with (first | (refine ld_rnds hs.2.2 rfl _ rfl rfl p2 ?_) | (go_at_call 34; have hh := fun w => refRounds_any m.2.2.2.2.2 w hs.2.2 HR.out; (with_reducible refine (hh _).mono ?_); clear hh; rintro e w5 ⟨rfl, hb5⟩))
                            go_ret
                            exact ⟨by rw [HVV.out, HT.out]; rfl, bgo HB.out hb5⟩
                    · skip
                      go_upto_region 3 with fail
                      refine wp_region_cls0 ?_
                      repeat (first | go_big_quiet_skip | (go_big_quiet_want; first | (refine quiet_ck hs.1 _ rfl rfl p1.cls ?_; simp only [Act.put, List.setIfInBounds_toArray, List.set_cons_succ, List.set_cons_zero]; go_big_quiet_on) | (refine quiet_rnds hs.2.2 _ rfl rfl p2.cls ?_; simp only [Act.put, List.setIfInBounds_toArray, List.set_cons_succ, List.set_cons_zero]; go_big_quiet_on) | (refine quiet_cz rfl ?_; simp only [Act.put, List.setIfInBounds_toArray, List.set_cons_succ, List.set_cons_zero]; go_big_quiet_on) | (refine quiet_rsz rfl ?_; simp only [Act.put, List.setIfInBounds_toArray, List.set_cons_succ, List.set_cons_zero]; go_big_quiet_on) | (go_big_quiet_op; first | go_big_quiet_on | go_big_quiet_call ((first | (go_at_call 32; exact cls_of (refValid_is gv _ hs.1)) | (go_at_call 16; exact cls_of_same (hasActs_is ga _)) | (go_at_call 19; exact cls_of_same (hasRounds_is gr _)))))))
                      refine wpQuiet_nil ?_
                      rintro w1 ⟨s1, e1⟩
                      have hb1 := wOf_below s1
                      rw [← e1] at hb1
                      clear e1 s1
                      replace h1 := h1.later hb1
                      replace hA := hA.later hb1
                      replace hB := bgo hB hb1
                      clear hb1
                      have HVV := hid_of' (show rmB m = (m.2.2.2.2.1.all actB && m.2.2.2.2.2.all rndB) from by simp [rmB, g0, g1, g2, g3, g4, k2, gv, ga, HN.out, l2.out, gr])
                      clear d0 d1 d2 d3 p1 p2 q1 q2 gc grd
                      go_wp2
                      go_loopw [3] (fun i wr => ∃ k : Nat, i = .int .i64 (k : Int) ∧ k ≤ n ∧ RowAt w.heap.size (mv m (.slice sa n sc)) 31 wr ∧ SlA wr (.slice sa n sc) m.2.2.2.2.1 ∧ Below w.heap.size w wr ∧ Hid ((m.2.2.2.2.1.take k).all actB = true)) (fun i _ => n - (intOf i).toNat)
                      case atStart => exact ⟨0, rfl, by omega, h1, hA, hB, rfl⟩
                      case round =>
                        clear h1 hA hB
                        obtain ⟨k, rfl, hk, h1, hA, hB, hT⟩ := hrel
                        have d3 : wr.cell? ⟨w.heap.size, 11, none⟩ = some (.slice sa n sc) := by rw [h1.cell]; exact mv_a _ hs
                        by_cases hkn : k < n
                        · exact absurd hkn (by omega)
                        · have hki : ¬ (k : Int) < (n : Int) := by omega
                          have hTT : m.2.2.2.2.1.all actB = true := by have := hT.out; rwa [List.take_of_length_le (by rw [HN.out]; omega)] at this
                          have HT := hid_of' hTT
                          have p2 := h1.in.msR hs
                          have HR := hid_of' (HM.out.2.2.2)
                          have HB := hid_of' hB
                          clear hTT hA hB hT
                          go_wp2_with (first | (refine ld_rnds hs.2.2 rfl _ rfl rfl p2 ?_) | (go_at_call 34; have hh := fun w => refRounds_any m.2.2.2.2.2 w hs.2.2 HR.out; (with_reducible refine (hh _).mono ?_); clear hh; rintro e w5 ⟨rfl, hb5⟩))
                          go_ret
                          exact ⟨by rw [HVV.out, HT.out]; rfl, bgo HB.out hb5⟩
                · skip
                  cases gr : hrB m.1
                  · cases rz : (m.2.2.2.2.2 == zeroRs)
                    · simp only [rz] at q2
                      go_upto_region 3 with fail
                      refine wp_region_cls0 ?_
                      repeat (first | go_big_quiet_skip | (go_big_quiet_want; first | (refine quiet_ck hs.1 _ rfl rfl p1.cls ?_; simp only [Act.put, List.setIfInBounds_toArray, List.set_cons_succ, List.set_cons_zero]; go_big_quiet_on) | (refine quiet_rnds hs.2.2 _ rfl rfl p2.cls ?_; simp only [Act.put, List.setIfInBounds_toArray, List.set_cons_succ, List.set_cons_zero]; go_big_quiet_on) | (refine quiet_cz rfl ?_; simp only [Act.put, List.setIfInBounds_toArray, List.set_cons_succ, List.set_cons_zero]; go_big_quiet_on) | (refine quiet_rsz rfl ?_; simp only [Act.put, List.setIfInBounds_toArray, List.set_cons_succ, List.set_cons_zero]; go_big_quiet_on) | (go_big_quiet_op; first | go_big_quiet_on | go_big_quiet_call ((first | (go_at_call 32; exact cls_of (refValid_is gv _ hs.1)) | (go_at_call 16; exact cls_of_same (hasActs_is ga _)) | (go_at_call 19; exact cls_of_same (hasRounds_is gr _)))))))
                      refine wpQuiet_nil ?_
                      rintro w1 ⟨s1, e1⟩
                      have hb1 := wOf_below s1
                      rw [← e1] at hb1
                      clear e1 s1
                      replace h1 := h1.later hb1
                      replace hA := hA.later hb1
                      replace hB := bgo hB hb1
                      clear hb1
                      go_wp2
                      go_ret
                      exact ⟨by rw [show rmB m = false from by simp [rmB, k2, gv, ga, gr, rz]]; rfl, hB⟩
                    · simp only [rz] at q2
                      go_upto_region 3 with fail
                      refine wp_region_cls0 ?_
                      repeat (first | go_big_quiet_skip | (go_big_quiet_want; first | (refine quiet_ck hs.1 _ rfl rfl p1.cls ?_; simp only [Act.put, List.setIfInBounds_toArray, List.set_cons_succ, List.set_cons_zero]; go_big_quiet_on) | (refine quiet_rnds hs.2.2 _ rfl rfl p2.cls ?_; simp only [Act.put, List.setIfInBounds_toArray, List.set_cons_succ, List.set_cons_zero]; go_big_quiet_on) | (refine quiet_cz rfl ?_; simp only [Act.put, List.setIfInBounds_toArray, List.set_cons_succ, List.set_cons_zero]; go_big_quiet_on) | (refine quiet_rsz rfl ?_; simp only [Act.put, List.setIfInBounds_toArray, List.set_cons_succ, List.set_cons_zero]; go_big_quiet_on) | (go_big_quiet_op; first | go_big_quiet_on | go_big_quiet_call ((first | (go_at_call 32; exact cls_of (refValid_is gv _ hs.1)) | (go_at_call 16; exact cls_of_same (hasActs_is ga _)) | (go_at_call 19; exact cls_of_same (hasRounds_is gr _)))))))
                      refine wpQuiet_nil ?_
                      rintro w1 ⟨s1, e1⟩
                      have hb1 := wOf_below s1
                      rw [← e1] at hb1
                      clear e1 s1
                      replace h1 := h1.later hb1
                      replace hA := hA.later hb1
                      replace hB := bgo hB hb1
                      clear hb1
                      have HVV := hid_of' (show rmB m = (m.2.2.2.2.1.all actB && m.2.2.2.2.2.all rndB) from by simp [rmB, g0, g1, g2, g3, g4, k2, gv, ga, gr, rz])
                      clear d0 d1 d2 d3 p1 p2 q1 q2 gc grd
                      go_wp2
                      go_loopw [3] (fun i wr => ∃ k : Nat, i = .int .i64 (k : Int) ∧ k ≤ n ∧ RowAt w.heap.size (mv m (.slice sa n sc)) 31 wr ∧ SlA wr (.slice sa n sc) m.2.2.2.2.1 ∧ Below w.heap.size w wr ∧ Hid ((m.2.2.2.2.1.take k).all actB = true)) (fun i _ => n - (intOf i).toNat)
                      case atStart => exact ⟨0, rfl, by omega, h1, hA, hB, rfl⟩
                      case round =>
                        clear h1 hA hB
                        obtain ⟨k, rfl, hk, h1, hA, hB, hT⟩ := hrel
                        have d3 : wr.cell? ⟨w.heap.size, 11, none⟩ = some (.slice sa n sc) := by rw [h1.cell]; exact mv_a _ hs
                        by_cases hkn : k < n
                        · obtain ⟨a, hx⟩ : ∃ a, m.2.2.2.2.1[k]? = some a := ⟨_, List.getElem?_eq_getElem (by rw [HN.out]; exact hkn)⟩
                          have HX := hid_of' hx
                          have hfa := HM.out.1.acts a (List.mem_of_getElem? hx)
                          have hca := HM.out.2.2.1 a (List.mem_of_getElem? hx)
                          have hki : (k : Int) < (n : Int) := by omega
                          have HA := hid_of' hA
                          obtain ⟨g, o_, c', he, hAc⟩ : ∃ g o_ c', (.slice sa n sc : Value) = .slice (some ⟨g, o_, none⟩) m.2.2.2.2.1.length c' ∧ AcsAt g o_ m.2.2.2.2.1 wr := by
                            rcases hA with ⟨h0, _⟩ | h
                            · rw [h0] at hx; simp at hx
                            · exact h
                          simp only [Value.slice.injEq] at he
                          obtain ⟨hsa, hnl, hcc⟩ := he
                          rw [hsa] at d3
                          have hcA := hAc.2 k a hx
                          have HB := hid_of' (And.intro h1 hB)
                          clear hx hA hAc h1 hB hsa hcc hnl
                          cases gA : actB a
                          · go_wp2_with (first | (refine ld_act hfa.1 rfl _ rfl rfl hcA ?_) | (go_at_call 33; have hh := fun w => refAct_is gA w hfa hca; (with_reducible refine (hh _).mono ?_); clear hh; rintro e w5 ⟨rfl, hb5⟩))
                            go_ret
                            exact ⟨by rw [HVV.out, all_no HX.out gA]; rfl, bgo HB.out.2 hb5⟩
                          · go_wp2_with (first | (refine ld_act hfa.1 rfl _ rfl rfl hcA ?_) | (go_at_call 33; have hh := fun w => refAct_is gA w hfa hca; (with_reducible refine (hh _).mono ?_); clear hh; rintro e w5 ⟨rfl, hb5⟩))
                            go_roundw
                            case rel => exact ⟨k + 1, by go_num, by omega, HB.out.1.later hb5, HA.out.later hb5, bgo HB.out.2 hb5, all_step HX.out hT.out gA⟩
                            case measure => simp [intOf]; omega
                        · have hki : ¬ (k : Int) < (n : Int) := by omega
                          have hTT : m.2.2.2.2.1.all actB = true := by have := hT.out; rwa [List.take_of_length_le (by rw [HN.out]; omega)] at this
                          have HT := hid_of' hTT
                          have p2 := h1.in.msR hs
                          have HR := hid_of' (HM.out.2.2.2)
                          have HB := hid_of' hB
                          clear hTT hA hB hT
                          go_wp2_with (first | (refine ld_rnds hs.2.2 rfl _ rfl rfl p2 ?_) | (go_at_call 34; have hh := fun w => refRounds_any m.2.2.2.2.2 w hs.2.2 HR.out; (with_reducible refine (hh _).mono ?_); clear hh; rintro e w5 ⟨rfl, hb5⟩))
                          go_ret
                          exact ⟨by rw [HVV.out, HT.out]; rfl, bgo HB.out hb5⟩
                  · skip
                    go_upto_region 3 with fail
                    refine wp_region_cls0 ?_
                    repeat (first | go_big_quiet_skip | (go_big_quiet_want; first | (refine quiet_ck hs.1 _ rfl rfl p1.cls ?_; simp only [Act.put, List.setIfInBounds_toArray, List.set_cons_succ, List.set_cons_zero]; go_big_quiet_on) | (refine quiet_rnds hs.2.2 _ rfl rfl p2.cls ?_; simp only [Act.put, List.setIfInBounds_toArray, List.set_cons_succ, List.set_cons_zero]; go_big_quiet_on) | (refine quiet_cz rfl ?_; simp only [Act.put, List.setIfInBounds_toArray, List.set_cons_succ, List.set_cons_zero]; go_big_quiet_on) | (refine quiet_rsz rfl ?_; simp only [Act.put, List.setIfInBounds_toArray, List.set_cons_succ, List.set_cons_zero]; go_big_quiet_on) | (go_big_quiet_op; first | go_big_quiet_on | go_big_quiet_call ((first | (go_at_call 32; exact cls_of (refValid_is gv _ hs.1)) | (go_at_call 16; exact cls_of_same (hasActs_is ga _)) | (go_at_call 19; exact cls_of_same (hasRounds_is gr _)))))))
                    refine wpQuiet_nil ?_
                    rintro w1 ⟨s1, e1⟩
                    have hb1 := wOf_below s1
                    rw [← e1] at hb1
                    clear e1 s1
                    replace h1 := h1.later hb1
                    replace hA := hA.later hb1
                    replace hB := bgo hB hb1
                    clear hb1
                    have HVV := hid_of' (show rmB m = (m.2.2.2.2.1.all actB && m.2.2.2.2.2.all rndB) from by simp [rmB, g0, g1, g2, g3, g4, k2, gv, ga, gr])
                    clear d0 d1 d2 d3 p1 p2 q1 q2 gc grd
                    go_wp2
                    go_loopw [3] (fun i wr => ∃ k : Nat, i = .int .i64 (k : Int) ∧ k ≤ n ∧ RowAt w.heap.size (mv m (.slice sa n sc)) 31 wr ∧ SlA wr (.slice sa n sc) m.2.2.2.2.1 ∧ Below w.heap.size w wr ∧ Hid ((m.2.2.2.2.1.take k).all actB = true)) (fun i _ => n - (intOf i).toNat)
                    case atStart => exact ⟨0, rfl, by omega, h1, hA, hB, rfl⟩
                    case round =>
                      clear h1 hA hB
                      obtain ⟨k, rfl, hk, h1, hA, hB, hT⟩ := hrel
                      have d3 : wr.cell? ⟨w.heap.size, 11, none⟩ = some (.slice sa n sc) := by rw [h1.cell]; exact mv_a _ hs
                      by_cases hkn : k < n
                      · obtain ⟨a, hx⟩ : ∃ a, m.2.2.2.2.1[k]? = some a := ⟨_, List.getElem?_eq_getElem (by rw [HN.out]; exact hkn)⟩
                        have HX := hid_of' hx
                        have hfa := HM.out.1.acts a (List.mem_of_getElem? hx)
                        have hca := HM.out.2.2.1 a (List.mem_of_getElem? hx)
                        have hki : (k : Int) < (n : Int) := by omega
                        have HA := hid_of' hA
                        obtain ⟨g, o_, c', he, hAc⟩ : ∃ g o_ c', (.slice sa n sc : Value) = .slice (some ⟨g, o_, none⟩) m.2.2.2.2.1.length c' ∧ AcsAt g o_ m.2.2.2.2.1 wr := by
                          rcases hA with ⟨h0, _⟩ | h
                          · rw [h0] at hx; simp at hx
                          · exact h
                        simp only [Value.slice.injEq] at he
                        obtain ⟨hsa, hnl, hcc⟩ := he
                        rw [hsa] at d3
                        have hcA := hAc.2 k a hx
                        have HB := hid_of' (And.intro h1 hB)
                        clear hx hA hAc h1 hB hsa hcc hnl
                        cases gA : actB a
                        · go_wp2_with (first | (refine ld_act hfa.1 rfl _ rfl rfl hcA ?_) | (go_at_call 33; have hh := fun w => refAct_is gA w hfa hca; (with_reducible refine (hh _).mono ?_); clear hh; rintro e w5 ⟨rfl, hb5⟩))
                          go_ret
                          exact ⟨by rw [HVV.out, all_no HX.out gA]; rfl, bgo HB.out.2 hb5⟩
                        · go_wp2_with (first | (refine ld_act hfa.1 rfl _ rfl rfl hcA ?_) | (go_at_call 33; have hh := fun w => refAct_is gA w hfa hca; (with_reducible refine (hh _).mono ?_); clear hh; rintro e w5 ⟨rfl, hb5⟩))
                          go_roundw
                          case rel => exact ⟨k + 1, by go_num, by omega, HB.out.1.later hb5, HA.out.later hb5, bgo HB.out.2 hb5, all_step HX.out hT.out gA⟩
                          case measure => simp [intOf]; omega
                      · have hki : ¬ (k : Int) < (n : Int) := by omega
                        have hTT : m.2.2.2.2.1.all actB = true := by have := hT.out; rwa [List.take_of_length_le (by rw [HN.out]; omega)] at this
                        have HT := hid_of' hTT
                        have p2 := h1.in.msR hs
                        have HR := hid_of' (HM.out.2.2.2)
                        have HB := hid_of' hB
                        clear hTT hA hB hT
                        go_wp2_with (first | (refine ld_rnds hs.2.2 rfl _ rfl rfl p2 ?_) | (go_at_call 34; have hh := fun w => refRounds_any m.2.2.2.2.2 w hs.2.2 HR.out; (with_reducible refine (hh _).mono ?_); clear hh; rintro e w5 ⟨rfl, hb5⟩))
                        go_ret
                        exact ⟨by rw [HVV.out, HT.out]; rfl, bgo HB.out hb5⟩
theorem refRight_is {m : Pms} {v : Bool} (h : rightB m = v) (s : Value) (w : World) (hm : fitM m) (hc : ckM m) (hA : SlA w s m.2.2.2.2.1) :
    Calls Tryz.prog 9 #[.agg (mv m s)] w fun e w' => e = .returned (.bool v) ∧ Below w.heap.size w w' := h ▸ refRight_any m s w hm hc hA
end Go.Proofs.YteffpnjgchihpaaGreatDoor
