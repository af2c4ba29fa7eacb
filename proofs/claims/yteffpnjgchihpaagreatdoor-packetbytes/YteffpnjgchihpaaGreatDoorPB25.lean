
/-
  What a kind uses, kind by kind. What a kind uses, kind by kind. What a kind uses, kind by kind. What a kind uses, kind by kind.
-/
import Derived.Test.YteffpnjgchihpaaGreatDoorPB20
namespace Go.Proofs.YteffpnjgchihpaaGreatDoor
open Go.RowKit
set_option maxRecDepth 100000

set_option maxHeartbeats 4000000 in
theorem uses1_any (f_ e_ : Int) (c : List Int) (A : List Pac) (R : List Prn) (s : Value) (w : World) (hs : shM (1, f_, e_, c, A, R)) (hA : SlA w s A) :
    Calls Tryz.prog 28 #[.agg (mv (1, f_, e_, c, A, R) s)] w fun e w' => e = .returned (.bool (usesB (1, f_, e_, c, A, R))) ∧ Below w.heap.size w w' := by
  obtain ⟨a0, cp, rfl⟩ := hA.form
  have hV : usesB (1, f_, e_, c, A, R) = (decide (A.length = A.length) && (c == zero8) && (R == zeroRs)) := by simp [usesB, useA, useC, useR]
  have HV := hid_of' hV
  clear hV hA
  obtain ⟨n, hn⟩ : ∃ n, A.length = n := ⟨_, rfl⟩
  rw [hn] at HV ⊢
  obtain ⟨h1, h2, hB⟩ := two_boxes w (mv (1, f_, e_, c, A, R) (.slice a0 n cp)) (mv zeroM (.slice none 0 0)) 31 31
  have k0 : ((w.alloc (.cells (mv (1, f_, e_, c, A, R) (.slice a0 n cp)) 31)).alloc (.cells (mv zeroM (.slice none 0 0)) 31)).cell? ⟨w.heap.size, 0, none⟩ = some (.int .i64 1) := by rw [h1.cell]; rfl
  have k11 : ((w.alloc (.cells (mv (1, f_, e_, c, A, R) (.slice a0 n cp)) 31)).alloc (.cells (mv zeroM (.slice none 0 0)) 31)).cell? ⟨w.heap.size, 11, none⟩ = some (.slice a0 n cp) := by rw [h1.cell, mv_a _ hs]
  have fz := frozenW_of h2 11
  have z11 : ((w.alloc (.cells (mv (1, f_, e_, c, A, R) (.slice a0 n cp)) 31)).alloc (.cells (mv zeroM (.slice none 0 0)) 31)).cell? ⟨w.heap.size + 1, 11, none⟩ = some (.slice none 0 0) := by rw [h2.cell, mv_a _ zeroM_sh]
  have hc1 : CsIn w.heap.size 3 (cv c) _ := h1.in.msC
  have hr1 : CsIn w.heap.size 12 (rsv R) _ := h1.in.msR hs
  have hza : (Tryz.prog.info? 31).bind (·.zero) = some (.agg (mv zeroM (.slice none 0 0))) := zero_ms
  go_enter Tryz.func28, Tryz.ntmps28
  have hset : (mv zeroM (.slice none 0 0)).setIfInBounds 11 (.slice a0 n cp) = mv zeroM (.slice a0 n cp) := mv_setA zeroM_sh
  obtain ⟨g1, g2, gB⟩ := two_boxes w (mv (1, f_, e_, c, A, R) (.slice a0 n cp)) (mv zeroM (.slice a0 n cp)) 31 31
  have hr2 : CsIn w.heap.size 12 (rsv R) _ := g1.in.msR hs
  go_upto_region 11 with (first | (refine wpL_alloc rfl _ rfl hza ?_))
  try simp only [Act.put]
  replace hB := gB
  clear hset
  have hsu : shM zeroM := ⟨rfl, fun a ha => (by simp [zeroM] at ha), zeroRs_sh⟩
  have l1 : (zero8).length = 8 := hsu.1
  have l2 : shRs zeroRs := hsu.2.2
  clear h1 h2 k0 k11 fz z11 hc1 hr1 hza
  have p1 : CsIn w.heap.size 3 (cv c) _ := g1.in.msC
  have p2 : CsIn w.heap.size 12 (rsv R) _ := g1.in.msR hs
  have p3 : CsIn (w.heap.size + 1) 3 (cv zero8) _ := RowAt.in g2 |>.msC
  have p4 : CsIn (w.heap.size + 1) 12 (rsv zeroRs) _ := RowAt.in g2 |>.msR hsu
  have d1 := g1.cls 11 _ (mv_a _ hs)
  have d2 := RowAt.cls g2 11 _ (mv_a _ hsu)
  have q1 := fun w => eqIn_ck 9998 c zero8 hs.1 rfl w
  have q2 := fun w => eqIn_rnds 9995 hs.2.2 zeroRs_sh w
  have gc := ck_guard
  have gr := rnds_guard
  cases e1 : (c == zero8)
  · skip
    simp only [e1] at q1
    refine wp_region_cls0 ?_
    repeat (first | go_big_quiet_skip | (go_big_quiet_want; first | (refine quiet_ck hs.1 _ rfl rfl p1.cls ?_; simp only [Act.put, List.setIfInBounds_toArray, List.set_cons_succ, List.set_cons_zero]; go_big_quiet_on) | (refine quiet_ck l1 _ rfl rfl p3.cls ?_; simp only [Act.put, List.setIfInBounds_toArray, List.set_cons_succ, List.set_cons_zero]; go_big_quiet_on) | (refine quiet_rnds hs.2.2 _ rfl rfl p2.cls ?_; simp only [Act.put, List.setIfInBounds_toArray, List.set_cons_succ, List.set_cons_zero]; go_big_quiet_on) | (refine quiet_rnds l2 _ rfl rfl p4.cls ?_; simp only [Act.put, List.setIfInBounds_toArray, List.set_cons_succ, List.set_cons_zero]; go_big_quiet_on) | (go_big_quiet_op; first | go_big_quiet_on | go_big_quiet_call ((fail)))))
    refine wpQuiet_nil ?_
    rintro w1 ⟨s1, e1⟩
    have hb1 := wOf_below s1
    rw [← e1] at hb1
    clear e1 s1
    replace hB := bgo hB hb1
    clear hb1
    go_wp2
    go_ret
    exact ⟨by rw [HV.out]; simp [e1], hB⟩
  · skip
    simp only [e1] at q1
    cases e2 : (R == zeroRs)
    · skip
      simp only [e2] at q2
      refine wp_region_cls0 ?_
      repeat (first | go_big_quiet_skip | (go_big_quiet_want; first | (refine quiet_ck hs.1 _ rfl rfl p1.cls ?_; simp only [Act.put, List.setIfInBounds_toArray, List.set_cons_succ, List.set_cons_zero]; go_big_quiet_on) | (refine quiet_ck l1 _ rfl rfl p3.cls ?_; simp only [Act.put, List.setIfInBounds_toArray, List.set_cons_succ, List.set_cons_zero]; go_big_quiet_on) | (refine quiet_rnds hs.2.2 _ rfl rfl p2.cls ?_; simp only [Act.put, List.setIfInBounds_toArray, List.set_cons_succ, List.set_cons_zero]; go_big_quiet_on) | (refine quiet_rnds l2 _ rfl rfl p4.cls ?_; simp only [Act.put, List.setIfInBounds_toArray, List.set_cons_succ, List.set_cons_zero]; go_big_quiet_on) | (go_big_quiet_op; first | go_big_quiet_on | go_big_quiet_call ((fail)))))
      refine wpQuiet_nil ?_
      rintro w1 ⟨s1, e1⟩
      have hb1 := wOf_below s1
      rw [← e1] at hb1
      clear e1 s1
      replace hB := bgo hB hb1
      clear hb1
      go_wp2
      go_ret
      exact ⟨by rw [HV.out]; simp [e1, e2], hB⟩
    · skip
      simp only [e2] at q2
      refine wp_region_cls0 ?_
      repeat (first | go_big_quiet_skip | (go_big_quiet_want; first | (refine quiet_ck hs.1 _ rfl rfl p1.cls ?_; simp only [Act.put, List.setIfInBounds_toArray, List.set_cons_succ, List.set_cons_zero]; go_big_quiet_on) | (refine quiet_ck l1 _ rfl rfl p3.cls ?_; simp only [Act.put, List.setIfInBounds_toArray, List.set_cons_succ, List.set_cons_zero]; go_big_quiet_on) | (refine quiet_rnds hs.2.2 _ rfl rfl p2.cls ?_; simp only [Act.put, List.setIfInBounds_toArray, List.set_cons_succ, List.set_cons_zero]; go_big_quiet_on) | (refine quiet_rnds l2 _ rfl rfl p4.cls ?_; simp only [Act.put, List.setIfInBounds_toArray, List.set_cons_succ, List.set_cons_zero]; go_big_quiet_on) | (go_big_quiet_op; first | go_big_quiet_on | go_big_quiet_call ((fail)))))
      refine wpQuiet_nil ?_
      rintro w1 ⟨s1, e1⟩
      have hb1 := wOf_below s1
      rw [← e1] at hb1
      clear e1 s1
      replace hB := bgo hB hb1
      clear hb1
      go_wp2
      go_ret
      exact ⟨by rw [HV.out]; simp [e1, e2], hB⟩
end Go.Proofs.YteffpnjgchihpaaGreatDoor
namespace Go.Proofs.YteffpnjgchihpaaGreatDoor
open Go.RowKit
set_option maxRecDepth 100000

set_option maxHeartbeats 4000000 in
theorem uses2_any (f_ e_ : Int) (c : List Int) (A : List Pac) (R : List Prn) (s : Value) (w : World) (hs : shM (2, f_, e_, c, A, R)) (hA : SlA w s A) :
    Calls Tryz.prog 28 #[.agg (mv (2, f_, e_, c, A, R) s)] w fun e w' => e = .returned (.bool (usesB (2, f_, e_, c, A, R))) ∧ Below w.heap.size w w' := by
  obtain ⟨a0, cp, rfl⟩ := hA.form
  have hV : usesB (2, f_, e_, c, A, R) = (decide (A.length = 0) && (c == c) && (R == zeroRs)) := by simp [usesB, useA, useC, useR]
  have HV := hid_of' hV
  clear hV hA
  obtain ⟨n, hn⟩ : ∃ n, A.length = n := ⟨_, rfl⟩
  rw [hn] at HV ⊢
  obtain ⟨h1, h2, hB⟩ := two_boxes w (mv (2, f_, e_, c, A, R) (.slice a0 n cp)) (mv zeroM (.slice none 0 0)) 31 31
  have k0 : ((w.alloc (.cells (mv (2, f_, e_, c, A, R) (.slice a0 n cp)) 31)).alloc (.cells (mv zeroM (.slice none 0 0)) 31)).cell? ⟨w.heap.size, 0, none⟩ = some (.int .i64 2) := by rw [h1.cell]; rfl
  have k11 : ((w.alloc (.cells (mv (2, f_, e_, c, A, R) (.slice a0 n cp)) 31)).alloc (.cells (mv zeroM (.slice none 0 0)) 31)).cell? ⟨w.heap.size, 11, none⟩ = some (.slice a0 n cp) := by rw [h1.cell, mv_a _ hs]
  have fz := frozenW_of h2 11
  have z11 : ((w.alloc (.cells (mv (2, f_, e_, c, A, R) (.slice a0 n cp)) 31)).alloc (.cells (mv zeroM (.slice none 0 0)) 31)).cell? ⟨w.heap.size + 1, 11, none⟩ = some (.slice none 0 0) := by rw [h2.cell, mv_a _ zeroM_sh]
  have hc1 : CsIn w.heap.size 3 (cv c) _ := h1.in.msC
  have hr1 : CsIn w.heap.size 12 (rsv R) _ := h1.in.msR hs
  have hza : (Tryz.prog.info? 31).bind (·.zero) = some (.agg (mv zeroM (.slice none 0 0))) := zero_ms
  go_enter Tryz.func28, Tryz.ntmps28
  go_upto_region 11 with (first | (refine wpL_alloc rfl _ rfl hza ?_) | (refine ld_ck hs.1 rfl _ rfl rfl hc1 ?_) | (refine wpList_store_mid rfl _ _ _ rfl _ _ _ rfl rfl (by rw [cv_sz8 hs.1]; exact there_ms h2 (by decide)) (ck_size hs.1) (cv_one c) ?_))
  try simp only [Act.put]
  have k2 := kept_setCells (g := w.heap.size + 1) (cv c).toList 3 ((w.alloc (.cells (mv (2, f_, e_, c, A, R) (.slice a0 n cp)) 31)).alloc (.cells (mv zeroM (.slice none 0 0)) 31))
  have g2 := heap_setCells (cv c).toList 3 _ _ h2
  rw [mv_putC zeroM_sh hs.1] at g2
  have g1 := row_kept1 h1 k2 (by omega)
  replace hB := below_kept1 hB k2 (by omega) hB.size
  have hsu : shM (0, 0, 0, c, [], zeroRs) := ⟨hs.1, fun a ha => (by simp at ha), zeroRs_sh⟩
  have l1 : (c).length = 8 := hsu.1
  have l2 : shRs zeroRs := hsu.2.2
  clear h1 h2 k0 k11 fz z11 hc1 hr1 hza
  have p1 : CsIn w.heap.size 3 (cv c) _ := g1.in.msC
  have p2 : CsIn w.heap.size 12 (rsv R) _ := g1.in.msR hs
  have p3 : CsIn (w.heap.size + 1) 3 (cv c) _ := RowAt.in g2 |>.msC
  have p4 : CsIn (w.heap.size + 1) 12 (rsv zeroRs) _ := RowAt.in g2 |>.msR hsu
  have d1 := g1.cls 11 _ (mv_a _ hs)
  have d2 := RowAt.cls g2 11 _ (mv_a _ hsu)
  have q1 := fun w => eqIn_ck 9998 c c hs.1 hs.1 w
  have q2 := fun w => eqIn_rnds 9995 hs.2.2 zeroRs_sh w
  have gc := ck_guard
  have gr := rnds_guard
  by_cases e0 : n = 0
  · subst e0
    have e1 : (c == c) = true := by simp
    simp only [e1] at q1
    cases e2 : (R == zeroRs)
    · skip
      simp only [e2] at q2
      refine wp_region_cls0 ?_
      repeat (first | go_big_quiet_skip | (go_big_quiet_want; first | (refine quiet_ck hs.1 _ rfl rfl p1.cls ?_; simp only [Act.put, List.setIfInBounds_toArray, List.set_cons_succ, List.set_cons_zero]; go_big_quiet_on) | (refine quiet_ck l1 _ rfl rfl p3.cls ?_; simp only [Act.put, List.setIfInBounds_toArray, List.set_cons_succ, List.set_cons_zero]; go_big_quiet_on) | (refine quiet_rnds hs.2.2 _ rfl rfl p2.cls ?_; simp only [Act.put, List.setIfInBounds_toArray, List.set_cons_succ, List.set_cons_zero]; go_big_quiet_on) | (refine quiet_rnds l2 _ rfl rfl p4.cls ?_; simp only [Act.put, List.setIfInBounds_toArray, List.set_cons_succ, List.set_cons_zero]; go_big_quiet_on) | (go_big_quiet_op; first | go_big_quiet_on | go_big_quiet_call ((fail)))))
      refine wpQuiet_nil ?_
      rintro w1 ⟨s1, e1⟩
      have hb1 := wOf_below s1
      rw [← e1] at hb1
      clear e1 s1
      replace hB := bgo hB hb1
      clear hb1
      go_wp2
      go_ret
      exact ⟨by rw [HV.out]; simp [e2], hB⟩
    · skip
      simp only [e2] at q2
      refine wp_region_cls0 ?_
      repeat (first | go_big_quiet_skip | (go_big_quiet_want; first | (refine quiet_ck hs.1 _ rfl rfl p1.cls ?_; simp only [Act.put, List.setIfInBounds_toArray, List.set_cons_succ, List.set_cons_zero]; go_big_quiet_on) | (refine quiet_ck l1 _ rfl rfl p3.cls ?_; simp only [Act.put, List.setIfInBounds_toArray, List.set_cons_succ, List.set_cons_zero]; go_big_quiet_on) | (refine quiet_rnds hs.2.2 _ rfl rfl p2.cls ?_; simp only [Act.put, List.setIfInBounds_toArray, List.set_cons_succ, List.set_cons_zero]; go_big_quiet_on) | (refine quiet_rnds l2 _ rfl rfl p4.cls ?_; simp only [Act.put, List.setIfInBounds_toArray, List.set_cons_succ, List.set_cons_zero]; go_big_quiet_on) | (go_big_quiet_op; first | go_big_quiet_on | go_big_quiet_call ((fail)))))
      refine wpQuiet_nil ?_
      rintro w1 ⟨s1, e1⟩
      have hb1 := wOf_below s1
      rw [← e1] at hb1
      clear e1 s1
      replace hB := bgo hB hb1
      clear hb1
      go_wp2
      go_ret
      exact ⟨by rw [HV.out]; simp [e2], hB⟩
  · have e0' : ((n : Int) == 0) = false := by simpa using e0
    have E0 := hid_of' e0
    clear e0
    refine wp_region_cls0 ?_
    repeat (first | go_big_quiet_skip | (go_big_quiet_want; first | (refine quiet_ck hs.1 _ rfl rfl p1.cls ?_; simp only [Act.put, List.setIfInBounds_toArray, List.set_cons_succ, List.set_cons_zero]; go_big_quiet_on) | (refine quiet_ck l1 _ rfl rfl p3.cls ?_; simp only [Act.put, List.setIfInBounds_toArray, List.set_cons_succ, List.set_cons_zero]; go_big_quiet_on) | (refine quiet_rnds hs.2.2 _ rfl rfl p2.cls ?_; simp only [Act.put, List.setIfInBounds_toArray, List.set_cons_succ, List.set_cons_zero]; go_big_quiet_on) | (refine quiet_rnds l2 _ rfl rfl p4.cls ?_; simp only [Act.put, List.setIfInBounds_toArray, List.set_cons_succ, List.set_cons_zero]; go_big_quiet_on) | (go_big_quiet_op; first | go_big_quiet_on | go_big_quiet_call ((fail)))))
    refine wpQuiet_nil ?_
    rintro w1 ⟨s1, e1⟩
    have hb1 := wOf_below s1
    rw [← e1] at hb1
    clear e1 s1
    replace hB := bgo hB hb1
    clear hb1
    go_wp2
    go_ret
    exact ⟨by rw [HV.out]; simp [E0.out], hB⟩
end Go.Proofs.YteffpnjgchihpaaGreatDoor
namespace Go.Proofs.YteffpnjgchihpaaGreatDoor
open Go.RowKit
set_option maxRecDepth 100000

set_option maxHeartbeats 4000000 in
theorem uses3_any (f_ e_ : Int) (c : List Int) (A : List Pac) (R : List Prn) (s : Value) (w : World) (hs : shM (3, f_, e_, c, A, R)) (hA : SlA w s A) :
    Calls Tryz.prog 28 #[.agg (mv (3, f_, e_, c, A, R) s)] w fun e w' => e = .returned (.bool (usesB (3, f_, e_, c, A, R))) ∧ Below w.heap.size w w' := by
  obtain ⟨a0, cp, rfl⟩ := hA.form
  have hV : usesB (3, f_, e_, c, A, R) = (decide (A.length = A.length) && (c == zero8) && (R == R)) := by simp [usesB, useA, useC, useR]
  have HV := hid_of' hV
  clear hV hA
  obtain ⟨n, hn⟩ : ∃ n, A.length = n := ⟨_, rfl⟩
  rw [hn] at HV ⊢
  obtain ⟨h1, h2, hB⟩ := two_boxes w (mv (3, f_, e_, c, A, R) (.slice a0 n cp)) (mv zeroM (.slice none 0 0)) 31 31
  have k0 : ((w.alloc (.cells (mv (3, f_, e_, c, A, R) (.slice a0 n cp)) 31)).alloc (.cells (mv zeroM (.slice none 0 0)) 31)).cell? ⟨w.heap.size, 0, none⟩ = some (.int .i64 3) := by rw [h1.cell]; rfl
  have k11 : ((w.alloc (.cells (mv (3, f_, e_, c, A, R) (.slice a0 n cp)) 31)).alloc (.cells (mv zeroM (.slice none 0 0)) 31)).cell? ⟨w.heap.size, 11, none⟩ = some (.slice a0 n cp) := by rw [h1.cell, mv_a _ hs]
  have fz := frozenW_of h2 11
  have z11 : ((w.alloc (.cells (mv (3, f_, e_, c, A, R) (.slice a0 n cp)) 31)).alloc (.cells (mv zeroM (.slice none 0 0)) 31)).cell? ⟨w.heap.size + 1, 11, none⟩ = some (.slice none 0 0) := by rw [h2.cell, mv_a _ zeroM_sh]
  have hc1 : CsIn w.heap.size 3 (cv c) _ := h1.in.msC
  have hr1 : CsIn w.heap.size 12 (rsv R) _ := h1.in.msR hs
  have hza : (Tryz.prog.info? 31).bind (·.zero) = some (.agg (mv zeroM (.slice none 0 0))) := zero_ms
  go_enter Tryz.func28, Tryz.ntmps28
  have hset : (mv zeroM (.slice none 0 0)).setIfInBounds 11 (.slice a0 n cp) = mv zeroM (.slice a0 n cp) := mv_setA zeroM_sh
  obtain ⟨g1, g2, gB⟩ := two_boxes w (mv (3, f_, e_, c, A, R) (.slice a0 n cp)) (mv zeroM (.slice a0 n cp)) 31 31
  have hr2 : CsIn w.heap.size 12 (rsv R) _ := g1.in.msR hs
  go_upto_region 11 with (first | (refine wpL_alloc rfl _ rfl hza ?_) | (refine ld_rnds hs.2.2 rfl _ rfl rfl hr2 ?_) | (refine wpList_store_mid rfl _ _ _ rfl _ _ _ rfl rfl (by rw [show (rsv R).size = 144 by simp [rsv, rsl_len R hs.2.2.2, hs.2.2.1]]; exact there_ms g2 (Nat.le_refl 156)) (rsv_size hs.2.2) (rsv_one R) ?_))
  try simp only [Act.put]
  have k2 := kept_setCells (g := w.heap.size + 1) (rsv R).toList 12 ((w.alloc (.cells (mv (3, f_, e_, c, A, R) (.slice a0 n cp)) 31)).alloc (.cells (mv zeroM (.slice a0 n cp)) 31))
  replace g2 := heap_setCells (rsv R).toList 12 _ _ g2
  rw [mv_putR zeroM_sh hs.2.2] at g2
  replace g1 := row_kept1 g1 k2 (by omega)
  replace hB := below_kept1 gB k2 (by omega) gB.size
  have hsu : shM (0, 0, 0, zero8, [], R) := ⟨rfl, fun a ha => (by simp at ha), hs.2.2⟩
  have l1 : (zero8).length = 8 := hsu.1
  have l2 : shRs R := hsu.2.2
  clear h1 h2 k0 k11 fz z11 hc1 hr1 hza
  have p1 : CsIn w.heap.size 3 (cv c) _ := g1.in.msC
  have p2 : CsIn w.heap.size 12 (rsv R) _ := g1.in.msR hs
  have p3 : CsIn (w.heap.size + 1) 3 (cv zero8) _ := RowAt.in g2 |>.msC
  have p4 : CsIn (w.heap.size + 1) 12 (rsv R) _ := RowAt.in g2 |>.msR hsu
  have d1 := g1.cls 11 _ (mv_a _ hs)
  have d2 := RowAt.cls g2 11 _ (mv_a _ hsu)
  have q1 := fun w => eqIn_ck 9998 c zero8 hs.1 rfl w
  have q2 := fun w => eqIn_rnds 9995 hs.2.2 hs.2.2 w
  have gc := ck_guard
  have gr := rnds_guard
  cases e1 : (c == zero8)
  · skip
    simp only [e1] at q1
    refine wp_region_cls0 ?_
    repeat (first | go_big_quiet_skip | (go_big_quiet_want; first | (refine quiet_ck hs.1 _ rfl rfl p1.cls ?_; simp only [Act.put, List.setIfInBounds_toArray, List.set_cons_succ, List.set_cons_zero]; go_big_quiet_on) | (refine quiet_ck l1 _ rfl rfl p3.cls ?_; simp only [Act.put, List.setIfInBounds_toArray, List.set_cons_succ, List.set_cons_zero]; go_big_quiet_on) | (refine quiet_rnds hs.2.2 _ rfl rfl p2.cls ?_; simp only [Act.put, List.setIfInBounds_toArray, List.set_cons_succ, List.set_cons_zero]; go_big_quiet_on) | (refine quiet_rnds l2 _ rfl rfl p4.cls ?_; simp only [Act.put, List.setIfInBounds_toArray, List.set_cons_succ, List.set_cons_zero]; go_big_quiet_on) | (go_big_quiet_op; first | go_big_quiet_on | go_big_quiet_call ((fail)))))
    refine wpQuiet_nil ?_
    rintro w1 ⟨s1, e1⟩
    have hb1 := wOf_below s1
    rw [← e1] at hb1
    clear e1 s1
    replace hB := bgo hB hb1
    clear hb1
    go_wp2
    go_ret
    exact ⟨by rw [HV.out]; simp [e1], hB⟩
  · skip
    simp only [e1] at q1
    have e2 : (R == R) = true := by simp
    simp only [e2] at q2
    refine wp_region_cls0 ?_
    repeat (first | go_big_quiet_skip | (go_big_quiet_want; first | (refine quiet_ck hs.1 _ rfl rfl p1.cls ?_; simp only [Act.put, List.setIfInBounds_toArray, List.set_cons_succ, List.set_cons_zero]; go_big_quiet_on) | (refine quiet_ck l1 _ rfl rfl p3.cls ?_; simp only [Act.put, List.setIfInBounds_toArray, List.set_cons_succ, List.set_cons_zero]; go_big_quiet_on) | (refine quiet_rnds hs.2.2 _ rfl rfl p2.cls ?_; simp only [Act.put, List.setIfInBounds_toArray, List.set_cons_succ, List.set_cons_zero]; go_big_quiet_on) | (refine quiet_rnds l2 _ rfl rfl p4.cls ?_; simp only [Act.put, List.setIfInBounds_toArray, List.set_cons_succ, List.set_cons_zero]; go_big_quiet_on) | (go_big_quiet_op; first | go_big_quiet_on | go_big_quiet_call ((fail)))))
    refine wpQuiet_nil ?_
    rintro w1 ⟨s1, e1⟩
    have hb1 := wOf_below s1
    rw [← e1] at hb1
    clear e1 s1
    replace hB := bgo hB hb1
    clear hb1
    go_wp2
    go_ret
    exact ⟨by rw [HV.out]; simp [e1], hB⟩
end Go.Proofs.YteffpnjgchihpaaGreatDoor
namespace Go.Proofs.YteffpnjgchihpaaGreatDoor
open Go.RowKit
set_option maxRecDepth 100000

set_option maxHeartbeats 4000000 in
theorem uses4_any (f_ e_ : Int) (c : List Int) (A : List Pac) (R : List Prn) (s : Value) (w : World) (hs : shM (4, f_, e_, c, A, R)) (hA : SlA w s A) :
    Calls Tryz.prog 28 #[.agg (mv (4, f_, e_, c, A, R) s)] w fun e w' => e = .returned (.bool (usesB (4, f_, e_, c, A, R))) ∧ Below w.heap.size w w' := by
  obtain ⟨a0, cp, rfl⟩ := hA.form
  have hV : usesB (4, f_, e_, c, A, R) = (decide (A.length = 0) && (c == zero8) && (R == R)) := by simp [usesB, useA, useC, useR]
  have HV := hid_of' hV
  clear hV hA
  obtain ⟨n, hn⟩ : ∃ n, A.length = n := ⟨_, rfl⟩
  rw [hn] at HV ⊢
  obtain ⟨h1, h2, hB⟩ := two_boxes w (mv (4, f_, e_, c, A, R) (.slice a0 n cp)) (mv zeroM (.slice none 0 0)) 31 31
  have k0 : ((w.alloc (.cells (mv (4, f_, e_, c, A, R) (.slice a0 n cp)) 31)).alloc (.cells (mv zeroM (.slice none 0 0)) 31)).cell? ⟨w.heap.size, 0, none⟩ = some (.int .i64 4) := by rw [h1.cell]; rfl
  have k11 : ((w.alloc (.cells (mv (4, f_, e_, c, A, R) (.slice a0 n cp)) 31)).alloc (.cells (mv zeroM (.slice none 0 0)) 31)).cell? ⟨w.heap.size, 11, none⟩ = some (.slice a0 n cp) := by rw [h1.cell, mv_a _ hs]
  have fz := frozenW_of h2 11
  have z11 : ((w.alloc (.cells (mv (4, f_, e_, c, A, R) (.slice a0 n cp)) 31)).alloc (.cells (mv zeroM (.slice none 0 0)) 31)).cell? ⟨w.heap.size + 1, 11, none⟩ = some (.slice none 0 0) := by rw [h2.cell, mv_a _ zeroM_sh]
  have hc1 : CsIn w.heap.size 3 (cv c) _ := h1.in.msC
  have hr1 : CsIn w.heap.size 12 (rsv R) _ := h1.in.msR hs
  have hza : (Tryz.prog.info? 31).bind (·.zero) = some (.agg (mv zeroM (.slice none 0 0))) := zero_ms
  go_enter Tryz.func28, Tryz.ntmps28
  go_upto_region 11 with (first | (refine wpL_alloc rfl _ rfl hza ?_) | (refine ld_rnds hs.2.2 rfl _ rfl rfl hr1 ?_) | (refine wpList_store_mid rfl _ _ _ rfl _ _ _ rfl rfl (by rw [show (rsv R).size = 144 by simp [rsv, rsl_len R hs.2.2.2, hs.2.2.1]]; exact there_ms h2 (by decide)) (rsv_size hs.2.2) (rsv_one R) ?_))
  try simp only [Act.put]
  have k2 := kept_setCells (g := w.heap.size + 1) (rsv R).toList 12 ((w.alloc (.cells (mv (4, f_, e_, c, A, R) (.slice a0 n cp)) 31)).alloc (.cells (mv zeroM (.slice none 0 0)) 31))
  have g2 := heap_setCells (rsv R).toList 12 _ _ h2
  rw [mv_putR zeroM_sh hs.2.2] at g2
  have g1 := row_kept1 h1 k2 (by omega)
  replace hB := below_kept1 hB k2 (by omega) hB.size
  have hsu : shM (0, 0, 0, zero8, [], R) := ⟨rfl, fun a ha => (by simp at ha), hs.2.2⟩
  have l1 : (zero8).length = 8 := hsu.1
  have l2 : shRs R := hsu.2.2
  clear h1 h2 k0 k11 fz z11 hc1 hr1 hza
  have p1 : CsIn w.heap.size 3 (cv c) _ := g1.in.msC
  have p2 : CsIn w.heap.size 12 (rsv R) _ := g1.in.msR hs
  have p3 : CsIn (w.heap.size + 1) 3 (cv zero8) _ := RowAt.in g2 |>.msC
  have p4 : CsIn (w.heap.size + 1) 12 (rsv R) _ := RowAt.in g2 |>.msR hsu
  have d1 := g1.cls 11 _ (mv_a _ hs)
  have d2 := RowAt.cls g2 11 _ (mv_a _ hsu)
  have q1 := fun w => eqIn_ck 9998 c zero8 hs.1 rfl w
  have q2 := fun w => eqIn_rnds 9995 hs.2.2 hs.2.2 w
  have gc := ck_guard
  have gr := rnds_guard
  by_cases e0 : n = 0
  · subst e0
    cases e1 : (c == zero8)
    · skip
      simp only [e1] at q1
      refine wp_region_cls0 ?_
      repeat (first | go_big_quiet_skip | (go_big_quiet_want; first | (refine quiet_ck hs.1 _ rfl rfl p1.cls ?_; simp only [Act.put, List.setIfInBounds_toArray, List.set_cons_succ, List.set_cons_zero]; go_big_quiet_on) | (refine quiet_ck l1 _ rfl rfl p3.cls ?_; simp only [Act.put, List.setIfInBounds_toArray, List.set_cons_succ, List.set_cons_zero]; go_big_quiet_on) | (refine quiet_rnds hs.2.2 _ rfl rfl p2.cls ?_; simp only [Act.put, List.setIfInBounds_toArray, List.set_cons_succ, List.set_cons_zero]; go_big_quiet_on) | (refine quiet_rnds l2 _ rfl rfl p4.cls ?_; simp only [Act.put, List.setIfInBounds_toArray, List.set_cons_succ, List.set_cons_zero]; go_big_quiet_on) | (go_big_quiet_op; first | go_big_quiet_on | go_big_quiet_call ((fail)))))
      refine wpQuiet_nil ?_
      rintro w1 ⟨s1, e1⟩
      have hb1 := wOf_below s1
      rw [← e1] at hb1
      clear e1 s1
      replace hB := bgo hB hb1
      clear hb1
      go_wp2
      go_ret
      exact ⟨by rw [HV.out]; simp [e1], hB⟩
    · skip
      simp only [e1] at q1
      have e2 : (R == R) = true := by simp
      simp only [e2] at q2
      refine wp_region_cls0 ?_
      repeat (first | go_big_quiet_skip | (go_big_quiet_want; first | (refine quiet_ck hs.1 _ rfl rfl p1.cls ?_; simp only [Act.put, List.setIfInBounds_toArray, List.set_cons_succ, List.set_cons_zero]; go_big_quiet_on) | (refine quiet_ck l1 _ rfl rfl p3.cls ?_; simp only [Act.put, List.setIfInBounds_toArray, List.set_cons_succ, List.set_cons_zero]; go_big_quiet_on) | (refine quiet_rnds hs.2.2 _ rfl rfl p2.cls ?_; simp only [Act.put, List.setIfInBounds_toArray, List.set_cons_succ, List.set_cons_zero]; go_big_quiet_on) | (refine quiet_rnds l2 _ rfl rfl p4.cls ?_; simp only [Act.put, List.setIfInBounds_toArray, List.set_cons_succ, List.set_cons_zero]; go_big_quiet_on) | (go_big_quiet_op; first | go_big_quiet_on | go_big_quiet_call ((fail)))))
      refine wpQuiet_nil ?_
      rintro w1 ⟨s1, e1⟩
      have hb1 := wOf_below s1
      rw [← e1] at hb1
      clear e1 s1
      replace hB := bgo hB hb1
      clear hb1
      go_wp2
      go_ret
      exact ⟨by rw [HV.out]; simp [e1], hB⟩
  · have e0' : ((n : Int) == 0) = false := by simpa using e0
    have E0 := hid_of' e0
    clear e0
    refine wp_region_cls0 ?_
    repeat (first | go_big_quiet_skip | (go_big_quiet_want; first | (refine quiet_ck hs.1 _ rfl rfl p1.cls ?_; simp only [Act.put, List.setIfInBounds_toArray, List.set_cons_succ, List.set_cons_zero]; go_big_quiet_on) | (refine quiet_ck l1 _ rfl rfl p3.cls ?_; simp only [Act.put, List.setIfInBounds_toArray, List.set_cons_succ, List.set_cons_zero]; go_big_quiet_on) | (refine quiet_rnds hs.2.2 _ rfl rfl p2.cls ?_; simp only [Act.put, List.setIfInBounds_toArray, List.set_cons_succ, List.set_cons_zero]; go_big_quiet_on) | (refine quiet_rnds l2 _ rfl rfl p4.cls ?_; simp only [Act.put, List.setIfInBounds_toArray, List.set_cons_succ, List.set_cons_zero]; go_big_quiet_on) | (go_big_quiet_op; first | go_big_quiet_on | go_big_quiet_call ((fail)))))
    refine wpQuiet_nil ?_
    rintro w1 ⟨s1, e1⟩
    have hb1 := wOf_below s1
    rw [← e1] at hb1
    clear e1 s1
    replace hB := bgo hB hb1
    clear hb1
    go_wp2
    go_ret
    exact ⟨by rw [HV.out]; simp [E0.out], hB⟩
end Go.Proofs.YteffpnjgchihpaaGreatDoor
