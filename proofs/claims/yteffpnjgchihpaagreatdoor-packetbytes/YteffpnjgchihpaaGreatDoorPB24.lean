
/-
  The document's side: Valid of a clock, RightAct. The document's side: RightRounds.
-/
import Derived.Test.YteffpnjgchihpaaGreatDoorPB20
namespace Go.Proofs.YteffpnjgchihpaaGreatDoor
open Go.RowKit
set_option maxRecDepth 100000

def geB (a : List Int) : Bool := a.all fun z => decide (0 ≤ z)
theorem geB_row {a : List Int} (h : ∀ z ∈ a, z ≤ 9223372036854775807) : rowB mx63 a = geB a := by
  unfold rowB geB
  rw [Bool.eq_iff_iff]
  simp only [List.all_eq_true, wiB, Bool.and_eq_true, decide_eq_true_eq]
  exact ⟨fun g z hz => (g z hz).1, fun g z hz => ⟨g z hz, h z hz⟩⟩
theorem all_step {α : Type} {p : α → Bool} {l : List α} {k : Nat} {x : α} (h : l[k]? = some x) (ha : (l.take k).all p = true) (hx : p x = true) : (l.take (k + 1)).all p = true := by
  rw [List.take_add_one, h, List.all_append, ha]; simp [hx]
theorem all_no {α : Type} {p : α → Bool} {l : List α} {k : Nat} {x : α} (h : l[k]? = some x) (hx : p x = false) : l.all p = false := by
  rw [List.all_eq_false]; exact ⟨x, List.mem_of_getElem? h, by rw [hx]; decide⟩
theorem en_of {a : List Int} {k : Nat} {z : Int} (h : a[k]? = some z) : en a k = z := by unfold en; rw [List.getD_eq_getElem?_getD, h]; rfl

set_option maxHeartbeats 1000000 in
theorem refValid_any (a : List Int) (w : World) (ha : a.length = 8) :
    Calls Tryz.prog 32 #[.agg (cv a), .int .i64 8] w fun e w' => e = .returned (.bool (geB a)) ∧ Below w.heap.size w w' := by
  have h0 := RowAt.new w (cv a) 24
  have hB0 := below_one w (.cells (cv a) 24)
  go_enter Tryz.func32, Tryz.ntmps32
  go_wp2
  go_loopw [5] (fun i wr => ∃ k : Nat, i = .int .i64 (k : Int) ∧ k ≤ 8 ∧ RowAt w.heap.size (cv a) 24 wr ∧ Below w.heap.size w wr ∧ Hid ((a.take k).all (fun z => decide (0 ≤ z)) = true)) (fun i _ => 8 - (intOf i).toNat)
  case atStart => exact ⟨0, rfl, by decide, h0, hB0, rfl⟩
  case round =>
    obtain ⟨k, rfl, hk, h1, hB, hT⟩ := hrel
    by_cases hlt : k < 8
    · have hki : (k : Int) < 8 := by omega
      obtain ⟨z, hz⟩ : ∃ z, a[k]? = some z := ⟨_, List.getElem?_eq_getElem (by rw [ha]; exact hlt)⟩
      have c1 : wr.cell? ⟨w.heap.size, k, none⟩ = some (.int .i64 z) := by rw [h1.cell, cv_get (by omega), en_of hz]
      have HZ := hid_of' hz
      have hge : ¬ (8 : Int) ≤ (k : Int) := by omega
      clear hz
      by_cases hneg : z < 0
      · go_wp2
        go_ret
        exact ⟨by rw [show geB a = false from all_no HZ.out (by simpa using hneg)]; rfl, hB⟩
      · go_wp2
        go_roundw
        case rel => exact ⟨k + 1, by go_num, by omega, h1, hB, all_step HZ.out hT.out (by simpa using hneg)⟩
        case measure => simp [intOf]; omega
    · have hki : ¬ (k : Int) < 8 := by omega
      go_wp2
      go_ret
      exact ⟨by rw [show geB a = true from by have := hT.out; rwa [List.take_of_length_le (by rw [ha]; omega)] at this]; rfl, hB⟩
theorem refValid_is {a : List Int} {v : Bool} (h : geB a = v) (w : World) (ha : a.length = 8) :
    Calls Tryz.prog 32 #[.agg (cv a), .int .i64 8] w fun e w' => e = .returned (.bool v) ∧ Below w.heap.size w w' := h ▸ refValid_any a w ha

theorem opv_oneP (o : Pop) : (opv o).all (·.oneCell') = true := by simp [opv, Value.oneCell']
theorem no_act {k r t c n : Int} {ck : List Int} (h : ¬ (1 ≤ k ∧ k ≤ 3 ∧ 0 ≤ r ∧ r ≤ 7 ∧ 0 ≤ t ∧ 0 ≤ c ∧ c ≤ 1114111 ∧ 0 < n)) : (opB (k, r, t, c) && decide (0 < n) && geB ck) = false := by
  rw [Bool.eq_false_iff]
  intro g
  simp only [opB, oneB, wiB, Bool.and_eq_true, decide_eq_true_eq] at g
  obtain ⟨⟨⟨⟨⟨g1, g2⟩, g3⟩, g4, g5⟩, g6⟩, _⟩ := g
  apply h
  split at g5 <;> omega
theorem yes_act {k r t c n : Int} {ck : List Int} (h : 1 ≤ k ∧ k ≤ 3 ∧ 0 ≤ r ∧ r ≤ 7 ∧ 0 ≤ t ∧ 0 ≤ c ∧ c ≤ 1114111 ∧ 0 < n) (hc : k = 1 ∨ c = 0) : (opB (k, r, t, c) && decide (0 < n) && geB ck) = geB ck := by
  have : (opB (k, r, t, c) && decide (0 < n)) = true := by
    simp only [opB, oneB, wiB, Bool.and_eq_true, decide_eq_true_eq]
    refine ⟨⟨⟨⟨by omega, by omega⟩, by omega⟩, by omega, ?_⟩, by omega⟩
    split <;> omega
  rw [this]; rfl
theorem no_char {k r t c n : Int} {ck : List Int} (hk : ¬ k = 1) (hc : ¬ c = 0) : (opB (k, r, t, c) && decide (0 < n) && geB ck) = false := by
  rw [Bool.eq_false_iff]
  intro g
  simp only [opB, oneB, wiB, Bool.and_eq_true, decide_eq_true_eq, if_neg hk] at g
  omega

set_option maxHeartbeats 2000000 in
theorem refAct_any (a : Pac) (w : World) (hf : fitA a) (hc : ∀ z ∈ a.2.2, z ≤ 9223372036854775807) :
    Calls Tryz.prog 33 #[.agg (acv a)] w fun e w' => e = .returned (.bool (actB a)) ∧ Below w.heap.size w w' := by
  have h1 := RowAt.new w (acv a) 60
  have hB := below_one w (.cells (acv a) 60)
  have hV : actB a = (opB a.1 && decide (0 < a.2.1) && geB a.2.2) := by
    unfold actB
    rw [geB_row hc]
    congr 2
  have hs : a.2.2.length = 8 := hf.1
  have HV := hid_of' hV
  clear hV hc hf
  go_enter Tryz.func33, Tryz.ntmps33
  go_upto_region 1 with fail
  generalize w.alloc (.cells (acv a) 60) = w0 at *
  have h0i := h1.in.sub (ds := opv a.1) 0 (acv_op a)
  rw [Nat.zero_add] at h0i
  go_upto_region 2 with (first | (refine ld_op rfl _ rfl rfl h0i ?_) | (refine wpL_stNew rfl _ _ _ rfl rfl rfl rfl (opv_size _) rfl (opv_oneP _) ?_; go_simp))
  have h2 := RowAt.new w0 (opv a.1) 58
  replace h1 := h1.alloc (.cells (opv a.1) 58)
  replace hB := bgo hB (below_one w0 (.cells (opv a.1) 58))
  generalize w0.alloc (.cells (opv a.1) 58) = w2 at *
  have hck := h1.in.sub (ds := cv a.2.2) 5 (acv_ck a)
  rw [Nat.zero_add] at hck
  have d0 := h2.cls 0 (.int .i64 a.1.1) rfl
  have d1 := h2.cls 1 (.int .i64 a.1.2.2.1) rfl
  have d2 := h2.cls 2 (.int .i32 a.1.2.2.2) rfl
  have d3 := h2.cls 3 (.int .i64 a.1.2.1) rfl
  have dn := h1.cls 4 _ (acv_num a)
  obtain ⟨⟨k, r, t, c⟩, n, ck⟩ := a
  simp only at d0 d1 d2 d3 dn hs hck HV
  clear h0i
  by_cases g0 : k < 1
  · skip
    refine wp_region_cls0 ?_
    repeat (first | go_big_quiet_skip | (go_big_quiet_want; first | (go_big_quiet_op; first | go_big_quiet_on | go_big_quiet_call ((fail)))))
    refine wpQuiet_nil ?_
    rintro w1 ⟨s1, e1⟩
    have hb1 := wOf_below s1
    rw [← e1] at hb1
    clear e1 s1
    replace hB := bgo hB hb1
    clear hb1
    go_wp2
    go_ret
    exact ⟨by rw [HV.out, no_act (by omega)]; rfl, hB⟩
  · skip
    by_cases g1 : 3 < k
    · skip
      refine wp_region_cls0 ?_
      repeat (first | go_big_quiet_skip | (go_big_quiet_want; first | (go_big_quiet_op; first | go_big_quiet_on | go_big_quiet_call ((fail)))))
      refine wpQuiet_nil ?_
      rintro w1 ⟨s1, e1⟩
      have hb1 := wOf_below s1
      rw [← e1] at hb1
      clear e1 s1
      replace hB := bgo hB hb1
      clear hb1
      go_wp2
      go_ret
      exact ⟨by rw [HV.out, no_act (by omega)]; rfl, hB⟩
    · skip
      by_cases g2 : r < 0
      · skip
        refine wp_region_cls0 ?_
        repeat (first | go_big_quiet_skip | (go_big_quiet_want; first | (go_big_quiet_op; first | go_big_quiet_on | go_big_quiet_call ((fail)))))
        refine wpQuiet_nil ?_
        rintro w1 ⟨s1, e1⟩
        have hb1 := wOf_below s1
        rw [← e1] at hb1
        clear e1 s1
        replace hB := bgo hB hb1
        clear hb1
        go_wp2
        go_ret
        exact ⟨by rw [HV.out, no_act (by omega)]; rfl, hB⟩
      · skip
        by_cases g3 : 7 < r
        · skip
          refine wp_region_cls0 ?_
          repeat (first | go_big_quiet_skip | (go_big_quiet_want; first | (go_big_quiet_op; first | go_big_quiet_on | go_big_quiet_call ((fail)))))
          refine wpQuiet_nil ?_
          rintro w1 ⟨s1, e1⟩
          have hb1 := wOf_below s1
          rw [← e1] at hb1
          clear e1 s1
          replace hB := bgo hB hb1
          clear hb1
          go_wp2
          go_ret
          exact ⟨by rw [HV.out, no_act (by omega)]; rfl, hB⟩
        · skip
          by_cases g4 : t < 0
          · skip
            refine wp_region_cls0 ?_
            repeat (first | go_big_quiet_skip | (go_big_quiet_want; first | (go_big_quiet_op; first | go_big_quiet_on | go_big_quiet_call ((fail)))))
            refine wpQuiet_nil ?_
            rintro w1 ⟨s1, e1⟩
            have hb1 := wOf_below s1
            rw [← e1] at hb1
            clear e1 s1
            replace hB := bgo hB hb1
            clear hb1
            go_wp2
            go_ret
            exact ⟨by rw [HV.out, no_act (by omega)]; rfl, hB⟩
          · skip
            by_cases g5 : c < 0
            · skip
              refine wp_region_cls0 ?_
              repeat (first | go_big_quiet_skip | (go_big_quiet_want; first | (go_big_quiet_op; first | go_big_quiet_on | go_big_quiet_call ((fail)))))
              refine wpQuiet_nil ?_
              rintro w1 ⟨s1, e1⟩
              have hb1 := wOf_below s1
              rw [← e1] at hb1
              clear e1 s1
              replace hB := bgo hB hb1
              clear hb1
              go_wp2
              go_ret
              exact ⟨by rw [HV.out, no_act (by omega)]; rfl, hB⟩
            · skip
              by_cases g6 : 1114111 < c
              · skip
                refine wp_region_cls0 ?_
                repeat (first | go_big_quiet_skip | (go_big_quiet_want; first | (go_big_quiet_op; first | go_big_quiet_on | go_big_quiet_call ((fail)))))
                refine wpQuiet_nil ?_
                rintro w1 ⟨s1, e1⟩
                have hb1 := wOf_below s1
                rw [← e1] at hb1
                clear e1 s1
                replace hB := bgo hB hb1
                clear hb1
                go_wp2
                go_ret
                exact ⟨by rw [HV.out, no_act (by omega)]; rfl, hB⟩
              · skip
                by_cases g7 : n < 1
                · skip
                  refine wp_region_cls0 ?_
                  repeat (first | go_big_quiet_skip | (go_big_quiet_want; first | (go_big_quiet_op; first | go_big_quiet_on | go_big_quiet_call ((fail)))))
                  refine wpQuiet_nil ?_
                  rintro w1 ⟨s1, e1⟩
                  have hb1 := wOf_below s1
                  rw [← e1] at hb1
                  clear e1 s1
                  replace hB := bgo hB hb1
                  clear hb1
                  go_wp2
                  go_ret
                  exact ⟨by rw [HV.out, no_act (by omega)]; rfl, hB⟩
                · skip
                  refine wp_region_cls0 ?_
                  repeat (first | go_big_quiet_skip | (go_big_quiet_want; first | (go_big_quiet_op; first | go_big_quiet_on | go_big_quiet_call ((fail)))))
                  refine wpQuiet_nil ?_
                  rintro w1 ⟨s1, e1⟩
                  have hb1 := wOf_below s1
                  rw [← e1] at hb1
                  clear e1 s1
                  replace h1 := h1.later hb1
                  replace h2 := h2.later hb1
                  replace hck := hck.later hb1
                  replace hB := bgo hB hb1
                  clear hb1
                  have d0' := h2.cls 0 (.int .i64 k) rfl
                  have d2' := h2.cls 2 (.int .i32 c) rfl
                  clear d0 d1 d2 d3 dn
                  by_cases k1 : k = 1
                  · have kb : (k == 1) = true := by simpa using k1
                    have K1 := hid_of' k1
                    clear k1
                    cases gv : geB ck
                    · skip
                      go_upto_region 4 with fail
                      refine wp_region_cls0 ?_
                      repeat (first | go_big_quiet_skip | (go_big_quiet_want; first | (refine quiet_ck hs _ rfl rfl hck.cls ?_; simp only [Act.put, List.setIfInBounds_toArray, List.set_cons_succ, List.set_cons_zero]; go_big_quiet_on) | (go_big_quiet_op; first | go_big_quiet_on | go_big_quiet_call ((go_at_call 32; exact cls_of (refValid_is gv _ hs))))))
                      refine wpQuiet_nil ?_
                      rintro w1 ⟨s1, e1⟩
                      have hb1 := wOf_below s1
                      rw [← e1] at hb1
                      clear e1 s1
                      replace hB := bgo hB hb1
                      clear hb1
                      go_wp2
                      go_ret
                      exact ⟨by rw [HV.out, yes_act (by omega) (.inl K1.out), gv]; rfl, hB⟩
                    · skip
                      go_upto_region 4 with fail
                      refine wp_region_cls0 ?_
                      repeat (first | go_big_quiet_skip | (go_big_quiet_want; first | (refine quiet_ck hs _ rfl rfl hck.cls ?_; simp only [Act.put, List.setIfInBounds_toArray, List.set_cons_succ, List.set_cons_zero]; go_big_quiet_on) | (go_big_quiet_op; first | go_big_quiet_on | go_big_quiet_call ((go_at_call 32; exact cls_of (refValid_is gv _ hs))))))
                      refine wpQuiet_nil ?_
                      rintro w1 ⟨s1, e1⟩
                      have hb1 := wOf_below s1
                      rw [← e1] at hb1
                      clear e1 s1
                      replace hB := bgo hB hb1
                      clear hb1
                      go_wp2
                      go_ret
                      exact ⟨by rw [HV.out, yes_act (by omega) (.inl K1.out), gv]; rfl, hB⟩
                  · have kb : (k == 1) = false := by simpa using k1
                    have K1 := hid_of' k1
                    clear k1
                    by_cases c0 : c = 0
                    · have cb : (c == 0) = true := by simpa using c0
                      have C0 := hid_of' c0
                      clear c0
                      cases gv : geB ck
                      · skip
                        go_upto_region 4 with fail
                        refine wp_region_cls0 ?_
                        repeat (first | go_big_quiet_skip | (go_big_quiet_want; first | (refine quiet_ck hs _ rfl rfl hck.cls ?_; simp only [Act.put, List.setIfInBounds_toArray, List.set_cons_succ, List.set_cons_zero]; go_big_quiet_on) | (go_big_quiet_op; first | go_big_quiet_on | go_big_quiet_call ((go_at_call 32; exact cls_of (refValid_is gv _ hs))))))
                        refine wpQuiet_nil ?_
                        rintro w1 ⟨s1, e1⟩
                        have hb1 := wOf_below s1
                        rw [← e1] at hb1
                        clear e1 s1
                        replace hB := bgo hB hb1
                        clear hb1
                        go_wp2
                        go_ret
                        exact ⟨by rw [HV.out, yes_act (by omega) (.inr C0.out), gv]; rfl, hB⟩
                      · skip
                        go_upto_region 4 with fail
                        refine wp_region_cls0 ?_
                        repeat (first | go_big_quiet_skip | (go_big_quiet_want; first | (refine quiet_ck hs _ rfl rfl hck.cls ?_; simp only [Act.put, List.setIfInBounds_toArray, List.set_cons_succ, List.set_cons_zero]; go_big_quiet_on) | (go_big_quiet_op; first | go_big_quiet_on | go_big_quiet_call ((go_at_call 32; exact cls_of (refValid_is gv _ hs))))))
                        refine wpQuiet_nil ?_
                        rintro w1 ⟨s1, e1⟩
                        have hb1 := wOf_below s1
                        rw [← e1] at hb1
                        clear e1 s1
                        replace hB := bgo hB hb1
                        clear hb1
                        go_wp2
                        go_ret
                        exact ⟨by rw [HV.out, yes_act (by omega) (.inr C0.out), gv]; rfl, hB⟩
                    · have cb : (c == 0) = false := by simpa using c0
                      have C0 := hid_of' c0
                      clear c0
                      go_upto_region 4 with fail
                      refine wp_region_cls0 ?_
                      repeat (first | go_big_quiet_skip | (go_big_quiet_want; first | (refine quiet_ck hs _ rfl rfl hck.cls ?_; simp only [Act.put, List.setIfInBounds_toArray, List.set_cons_succ, List.set_cons_zero]; go_big_quiet_on) | (go_big_quiet_op; first | go_big_quiet_on | go_big_quiet_call ((go_at_call 32; fail)))))
                      refine wpQuiet_nil ?_
                      rintro w1 ⟨s1, e1⟩
                      have hb1 := wOf_below s1
                      rw [← e1] at hb1
                      clear e1 s1
                      replace hB := bgo hB hb1
                      clear hb1
                      go_wp2
                      go_ret
                      exact ⟨by rw [HV.out, no_char K1.out C0.out]; rfl, hB⟩
theorem refAct_is {a : Pac} {v : Bool} (h : actB a = v) (w : World) (hf : fitA a) (hc : ∀ z ∈ a.2.2, z ≤ 9223372036854775807) :
    Calls Tryz.prog 33 #[.agg (acv a)] w fun e w' => e = .returned (.bool v) ∧ Below w.heap.size w w' := h ▸ refAct_any a w hf hc
end Go.Proofs.YteffpnjgchihpaaGreatDoor
namespace Go.Proofs.YteffpnjgchihpaaGreatDoor
open Go.RowKit
set_option maxRecDepth 100000

section
variable {P : Program}
theorem quiet_bld {o : Oper} {a : Act} {C : World → Prop} {K : Act → Prop} (t : TypeId) (parts : Array (Nat × Operand)) (ho : o.op = .build t parts) (cells : Array Value)
    (hc : P.built t (parts.map fun (i, x) => (i, a.eval x)).toList = some cells) (k : K (a.put o.dst (.agg cells))) : o.quiet P a C K :=
  ⟨.agg cells, fun w _ => by
    unfold Oper.quietAt execOp
    simp only [ho, Sem.run_bind, run_build w t _ cells hc, Result.andThen_ok]
    exact ⟨rfl, rfl⟩, k⟩
end
theorem bld_rz : Tryz.prog.built 27 [] = some (rnv zeroR) := by kernel_rfl
theorem bld_cz : Tryz.prog.built 24 [] = some (cv zero8) := by kernel_rfl
theorem bld_rsz : Tryz.prog.built 29 [] = some (rsv zeroRs) := by kernel_rfl
theorem quiet_rz {o : Oper} {a : Act} {C : World → Prop} {K : Act → Prop} (ho : o.op = .build 27 #[]) (k : K (a.put o.dst (.agg (rnv zeroR)))) : o.quiet Tryz.prog a C K := quiet_bld _ _ ho _ (by simpa using bld_rz) k
theorem quiet_cz {o : Oper} {a : Act} {C : World → Prop} {K : Act → Prop} (ho : o.op = .build 24 #[]) (k : K (a.put o.dst (.agg (cv zero8)))) : o.quiet Tryz.prog a C K := quiet_bld _ _ ho _ (by simpa using bld_cz) k
theorem quiet_rsz {o : Oper} {a : Act} {C : World → Prop} {K : Act → Prop} (ho : o.op = .build 29 #[]) (k : K (a.put o.dst (.agg (rsv zeroRs)))) : o.quiet Tryz.prog a C K := quiet_bld _ _ ho _ (by simpa using bld_rsz) k

def voB (l : List Int) : Bool := l.all fun v => decide (0 ≤ v) && decide (v ≤ 2)
/-- A round, as the document's side looks at it. -/
def rfB (r : Prn) : Bool := !decide (r.1 < 0) && (!(r.1 == 0 && !(r == zeroR)) && (!decide (r.2.2.2 < 0) && (!decide (2 < r.2.2.2) && (geB r.2.1 && voB r.2.2.1))))
theorem rfB_is {r : Prn} (h : ∀ z ∈ r.2.1, z ≤ 9223372036854775807) : rfB r = rndB r := by
  unfold rfB rndB
  rw [geB_row h]
  have hv : rowB 2 r.2.2.1 = voB r.2.2.1 := rfl
  rw [hv]
  by_cases h0 : r.1 = 0
  · rw [if_pos h0]
    by_cases hz : r = zeroR
    · subst hz; rfl
    · have : (r == zeroR) = false := by simpa using hz
      rw [this, h0]; rfl
  · rw [if_neg h0]
    have e0 : (r.1 == 0) = false := by simpa using h0
    rw [e0, Bool.eq_iff_iff]
    simp only [Bool.and_eq_true, Bool.not_eq_true', decide_eq_false_iff_not, decide_eq_true_eq, wiB, Bool.false_and, true_and]
    constructor
    · rintro ⟨g1, g2, g3, g4, g5⟩; exact ⟨⟨⟨by omega, g4⟩, g5⟩, by omega, by omega⟩
    · rintro ⟨⟨⟨g1, g2⟩, g3⟩, g4, g5⟩; exact ⟨by omega, by omega, by omega, g2, g3⟩

set_option maxHeartbeats 4000000 in
theorem refRounds_any (l : List Prn) (w : World) (hs : shRs l) (hc : ∀ r ∈ l, ∀ z ∈ r.2.1, z ≤ 9223372036854775807) :
    Calls Tryz.prog 34 #[.agg (rsv l)] w fun e w' => e = .returned (.bool (l.all rndB)) ∧ Below w.heap.size w w' := by
  have hV : l.all rndB = l.all rfB := by
    apply Bool.eq_iff_iff.2
    simp only [List.all_eq_true]
    exact ⟨fun h r hr => by rw [rfB_is (hc r hr)]; exact h r hr, fun h r hr => by rw [← rfB_is (hc r hr)]; exact h r hr⟩
  rw [hV]
  clear hV hc
  have h0 := RowAt.new w (rsv l) 29
  have hB0 := below_one w (.cells (rsv l) 29)
  go_enter Tryz.func34, Tryz.ntmps34
  go_wp2
  go_loopw [3, 4, 5] (fun i _ _ wr => ∃ k : Nat, i = .int .i64 (k : Int) ∧ k ≤ 8 ∧ RowAt w.heap.size (rsv l) 29 wr ∧ Below w.heap.size w wr ∧ Hid ((l.take k).all rfB = true)) (fun i _ _ _ => 8 - (intOf i).toNat)
  case atStart => exact ⟨0, rfl, by decide, h0, hB0, rfl⟩
  case round =>
    clear h0 hB0
    obtain ⟨k, rfl, hk, h1, hB, ha⟩ := hrel
    by_cases hk8 : k < 8
    · obtain ⟨r, hx⟩ : ∃ r, l[k]? = some r := ⟨_, List.getElem?_eq_getElem (by rw [hs.1]; exact hk8)⟩
      have HX := hid_of' hx
      have hr := hs.2 r (List.mem_of_getElem? hx)
      have hki : (k : Int) < 8 := by omega
      have c1 := h1.in.sub (ds := rnv r) (k * 18) (rsv_at hs hx)
      rw [Nat.zero_add] at c1
      clear hx
      go_upto_region 5 with (first | (refine ld_rnd hr rfl _ rfl rfl c1 ?_) | (refine wpL_stNew rfl _ _ _ rfl rfl rfl rfl (rnv_size hr) (by rw [rnv_sz hr]; rfl) (rnv_one r) ?_; go_simp))
      have h2 := RowAt.new wr (rnv r) 27
      replace h1 := h1.alloc (.cells (rnv r) 27)
      replace hB := bgo hB (below_one wr (.cells (rnv r) 27))
      have hwr := Nat.le_refl wr.heap.size
      generalize wr.alloc (.cells (rnv r) 27) = w2 at *
      generalize wr.heap.size = rb at *
      clear hwr c1
      have p1 := h2.in
      have p2 := h2.in.sub (ds := cv r.2.1) 1 (rnv_cut r)
      rw [Nat.zero_add] at p2
      have d0 := h2.cls 0 _ (rnv_n r)
      have d1 := h2.cls 17 _ (rnv_dec hr)
      have q1 := fun w => eqIn_rnd 9996 hr zeroR_sh w
      have gr := rnd_guard
      by_cases g0 : r.1 < 0
      · skip
        refine wp_region_cls0 ?_
        repeat (first | go_big_quiet_skip | (go_big_quiet_want; first | (refine quiet_rnd hr _ rfl rfl p1.cls ?_; simp only [Act.put, List.setIfInBounds_toArray, List.set_cons_succ, List.set_cons_zero]; go_big_quiet_on) | (refine quiet_ck hr.1 _ rfl rfl p2.cls ?_; simp only [Act.put, List.setIfInBounds_toArray, List.set_cons_succ, List.set_cons_zero]; go_big_quiet_on) | (refine quiet_rz rfl ?_; simp only [Act.put, List.setIfInBounds_toArray, List.set_cons_succ, List.set_cons_zero]; go_big_quiet_on) | (go_big_quiet_op; first | go_big_quiet_on | go_big_quiet_call ((go_at_call 32; exact cls_of (refValid_is gv _ hr.1))))))
        refine wpQuiet_nil ?_
        rintro w1 ⟨s1, e1⟩
        have hb1 := wOf_below s1
        rw [← e1] at hb1
        clear e1 s1
        replace h1 := h1.later hb1
        replace h2 := h2.later hb1
        replace hB := bgo hB hb1
        clear hb1
        go_wp2
        go_ret
        exact ⟨by rw [show l.all rfB = false from all_no HX.out (by simp [rfB, g0])]; rfl, hB⟩
      · cases g1 : (r.1 == 0)
        · skip
          by_cases g3 : r.2.2.2 < 0
          · skip
            refine wp_region_cls0 ?_
            repeat (first | go_big_quiet_skip | (go_big_quiet_want; first | (refine quiet_rnd hr _ rfl rfl p1.cls ?_; simp only [Act.put, List.setIfInBounds_toArray, List.set_cons_succ, List.set_cons_zero]; go_big_quiet_on) | (refine quiet_ck hr.1 _ rfl rfl p2.cls ?_; simp only [Act.put, List.setIfInBounds_toArray, List.set_cons_succ, List.set_cons_zero]; go_big_quiet_on) | (refine quiet_rz rfl ?_; simp only [Act.put, List.setIfInBounds_toArray, List.set_cons_succ, List.set_cons_zero]; go_big_quiet_on) | (go_big_quiet_op; first | go_big_quiet_on | go_big_quiet_call ((go_at_call 32; exact cls_of (refValid_is gv _ hr.1))))))
            refine wpQuiet_nil ?_
            rintro w1 ⟨s1, e1⟩
            have hb1 := wOf_below s1
            rw [← e1] at hb1
            clear e1 s1
            replace h1 := h1.later hb1
            replace h2 := h2.later hb1
            replace hB := bgo hB hb1
            clear hb1
            go_wp2
            go_ret
            exact ⟨by rw [show l.all rfB = false from all_no HX.out (by simp [rfB, g1, g3])]; rfl, hB⟩
          · by_cases g4 : 2 < r.2.2.2
            · skip
              refine wp_region_cls0 ?_
              repeat (first | go_big_quiet_skip | (go_big_quiet_want; first | (refine quiet_rnd hr _ rfl rfl p1.cls ?_; simp only [Act.put, List.setIfInBounds_toArray, List.set_cons_succ, List.set_cons_zero]; go_big_quiet_on) | (refine quiet_ck hr.1 _ rfl rfl p2.cls ?_; simp only [Act.put, List.setIfInBounds_toArray, List.set_cons_succ, List.set_cons_zero]; go_big_quiet_on) | (refine quiet_rz rfl ?_; simp only [Act.put, List.setIfInBounds_toArray, List.set_cons_succ, List.set_cons_zero]; go_big_quiet_on) | (go_big_quiet_op; first | go_big_quiet_on | go_big_quiet_call ((go_at_call 32; exact cls_of (refValid_is gv _ hr.1))))))
              refine wpQuiet_nil ?_
              rintro w1 ⟨s1, e1⟩
              have hb1 := wOf_below s1
              rw [← e1] at hb1
              clear e1 s1
              replace h1 := h1.later hb1
              replace h2 := h2.later hb1
              replace hB := bgo hB hb1
              clear hb1
              go_wp2
              go_ret
              exact ⟨by rw [show l.all rfB = false from all_no HX.out (by simp [rfB, g1, g4])]; rfl, hB⟩
            · cases gv : geB r.2.1
              · skip
                refine wp_region_cls0 ?_
                repeat (first | go_big_quiet_skip | (go_big_quiet_want; first | (refine quiet_rnd hr _ rfl rfl p1.cls ?_; simp only [Act.put, List.setIfInBounds_toArray, List.set_cons_succ, List.set_cons_zero]; go_big_quiet_on) | (refine quiet_ck hr.1 _ rfl rfl p2.cls ?_; simp only [Act.put, List.setIfInBounds_toArray, List.set_cons_succ, List.set_cons_zero]; go_big_quiet_on) | (refine quiet_rz rfl ?_; simp only [Act.put, List.setIfInBounds_toArray, List.set_cons_succ, List.set_cons_zero]; go_big_quiet_on) | (go_big_quiet_op; first | go_big_quiet_on | go_big_quiet_call ((go_at_call 32; exact cls_of (refValid_is gv _ hr.1))))))
                refine wpQuiet_nil ?_
                rintro w1 ⟨s1, e1⟩
                have hb1 := wOf_below s1
                rw [← e1] at hb1
                clear e1 s1
                replace h1 := h1.later hb1
                replace h2 := h2.later hb1
                replace hB := bgo hB hb1
                clear hb1
                go_wp2
                go_ret
                exact ⟨by rw [show l.all rfB = false from all_no HX.out (by simp [rfB, g1, gv])]; rfl, hB⟩
              · skip
                refine wp_region_cls0 ?_
                repeat (first | go_big_quiet_skip | (go_big_quiet_want; first | (refine quiet_rnd hr _ rfl rfl p1.cls ?_; simp only [Act.put, List.setIfInBounds_toArray, List.set_cons_succ, List.set_cons_zero]; go_big_quiet_on) | (refine quiet_ck hr.1 _ rfl rfl p2.cls ?_; simp only [Act.put, List.setIfInBounds_toArray, List.set_cons_succ, List.set_cons_zero]; go_big_quiet_on) | (refine quiet_rz rfl ?_; simp only [Act.put, List.setIfInBounds_toArray, List.set_cons_succ, List.set_cons_zero]; go_big_quiet_on) | (go_big_quiet_op; first | go_big_quiet_on | go_big_quiet_call ((go_at_call 32; exact cls_of (refValid_is gv _ hr.1))))))
                refine wpQuiet_nil ?_
                rintro w1 ⟨s1, e1⟩
                have hb1 := wOf_below s1
                rw [← e1] at hb1
                clear e1 s1
                replace h1 := h1.later hb1
                replace h2 := h2.later hb1
                replace hB := bgo hB hb1
                clear hb1
                clear p1 p2 d0 d1 q1 gr
                go_wp2
                go_loopw [5] (fun j wr => ∃ k2 : Nat, j = .int .i64 (k2 : Int) ∧ k2 ≤ 8 ∧ RowAt w.heap.size (rsv l) 29 wr ∧ RowAt rb (rnv r) 27 wr ∧ Below w.heap.size w wr ∧ Hid (voB (r.2.2.1.take k2) = true)) (fun j _ => 8 - (intOf j).toNat)
                case atStart => exact ⟨0, rfl, by decide, h1, h2, hB, rfl⟩
                case round =>
                  clear h1 h2 hB
                  obtain ⟨k2, rfl, hk2, h1, h2, hB, hb⟩ := hrel
                  by_cases hj8 : k2 < 8
                  · obtain ⟨z, hz⟩ : ∃ z, r.2.2.1[k2]? = some z := ⟨_, List.getElem?_eq_getElem (by rw [hr.2]; exact hj8)⟩
                    have hji : (k2 : Int) < 8 := by omega
                    have cz : wr.cell? ⟨rb, 9 + k2, none⟩ = some (.int .i64 z) := by rw [h2.cell]; exact rnv_votes hr k2 _ (by rw [cv_get (by rw [hr.2]; exact hj8), en_of hz])
                    have HZ := hid_of' hz
                    clear hz
                    by_cases z0 : z < 0
                    · go_wp2
                      go_ret
                      exact ⟨by rw [show l.all rfB = false from all_no HX.out (by simp [rfB, show voB r.2.2.1 = false from all_no HZ.out (by simp; omega)])]; rfl, hB⟩
                    · by_cases z2 : 2 < z
                      · go_wp2
                        go_ret
                        exact ⟨by rw [show l.all rfB = false from all_no HX.out (by simp [rfB, show voB r.2.2.1 = false from all_no HZ.out (by simp; omega)])]; rfl, hB⟩
                      · go_wp2
                        go_roundw
                        case rel => exact ⟨k2 + 1, by go_num, by omega, h1, h2, hB, all_step HZ.out hb.out (by simp; omega)⟩
                        case measure => simp [intOf]; omega
                  · have hji : ¬ (k2 : Int) < 8 := by omega
                    have hvo : voB r.2.2.1 = true := by have := hb.out; rwa [List.take_of_length_le (by rw [hr.2]; omega)] at this
                    have HVO := hid_of' hvo
                    clear hvo
                    go_wp2
                    go_roundw
                    case rel => exact ⟨k + 1, by go_num, by omega, h1, hB, all_step HX.out ha.out (by simp [rfB, HVO.out, g0, g1, g3, g4, gv])⟩
                    case measure => simp [intOf]; omega
        · cases g2 : (r == zeroR)
          · simp only [g2] at q1
            refine wp_region_cls0 ?_
            repeat (first | go_big_quiet_skip | (go_big_quiet_want; first | (refine quiet_rnd hr _ rfl rfl p1.cls ?_; simp only [Act.put, List.setIfInBounds_toArray, List.set_cons_succ, List.set_cons_zero]; go_big_quiet_on) | (refine quiet_ck hr.1 _ rfl rfl p2.cls ?_; simp only [Act.put, List.setIfInBounds_toArray, List.set_cons_succ, List.set_cons_zero]; go_big_quiet_on) | (refine quiet_rz rfl ?_; simp only [Act.put, List.setIfInBounds_toArray, List.set_cons_succ, List.set_cons_zero]; go_big_quiet_on) | (go_big_quiet_op; first | go_big_quiet_on | go_big_quiet_call ((go_at_call 32; exact cls_of (refValid_is gv _ hr.1))))))
            refine wpQuiet_nil ?_
            rintro w1 ⟨s1, e1⟩
            have hb1 := wOf_below s1
            rw [← e1] at hb1
            clear e1 s1
            replace h1 := h1.later hb1
            replace h2 := h2.later hb1
            replace hB := bgo hB hb1
            clear hb1
            go_wp2
            go_ret
            exact ⟨by rw [show l.all rfB = false from all_no HX.out (by simp [rfB, g1, g2])]; rfl, hB⟩
          · simp only [g2] at q1
            by_cases g3 : r.2.2.2 < 0
            · skip
              refine wp_region_cls0 ?_
              repeat (first | go_big_quiet_skip | (go_big_quiet_want; first | (refine quiet_rnd hr _ rfl rfl p1.cls ?_; simp only [Act.put, List.setIfInBounds_toArray, List.set_cons_succ, List.set_cons_zero]; go_big_quiet_on) | (refine quiet_ck hr.1 _ rfl rfl p2.cls ?_; simp only [Act.put, List.setIfInBounds_toArray, List.set_cons_succ, List.set_cons_zero]; go_big_quiet_on) | (refine quiet_rz rfl ?_; simp only [Act.put, List.setIfInBounds_toArray, List.set_cons_succ, List.set_cons_zero]; go_big_quiet_on) | (go_big_quiet_op; first | go_big_quiet_on | go_big_quiet_call ((go_at_call 32; exact cls_of (refValid_is gv _ hr.1))))))
              refine wpQuiet_nil ?_
              rintro w1 ⟨s1, e1⟩
              have hb1 := wOf_below s1
              rw [← e1] at hb1
              clear e1 s1
              replace h1 := h1.later hb1
              replace h2 := h2.later hb1
              replace hB := bgo hB hb1
              clear hb1
              go_wp2
              go_ret
              exact ⟨by rw [show l.all rfB = false from all_no HX.out (by simp [rfB, g1, g2, g3])]; rfl, hB⟩
            · by_cases g4 : 2 < r.2.2.2
              · skip
                refine wp_region_cls0 ?_
                repeat (first | go_big_quiet_skip | (go_big_quiet_want; first | (refine quiet_rnd hr _ rfl rfl p1.cls ?_; simp only [Act.put, List.setIfInBounds_toArray, List.set_cons_succ, List.set_cons_zero]; go_big_quiet_on) | (refine quiet_ck hr.1 _ rfl rfl p2.cls ?_; simp only [Act.put, List.setIfInBounds_toArray, List.set_cons_succ, List.set_cons_zero]; go_big_quiet_on) | (refine quiet_rz rfl ?_; simp only [Act.put, List.setIfInBounds_toArray, List.set_cons_succ, List.set_cons_zero]; go_big_quiet_on) | (go_big_quiet_op; first | go_big_quiet_on | go_big_quiet_call ((go_at_call 32; exact cls_of (refValid_is gv _ hr.1))))))
                refine wpQuiet_nil ?_
                rintro w1 ⟨s1, e1⟩
                have hb1 := wOf_below s1
                rw [← e1] at hb1
                clear e1 s1
                replace h1 := h1.later hb1
                replace h2 := h2.later hb1
                replace hB := bgo hB hb1
                clear hb1
                go_wp2
                go_ret
                exact ⟨by rw [show l.all rfB = false from all_no HX.out (by simp [rfB, g1, g2, g4])]; rfl, hB⟩
              · cases gv : geB r.2.1
                · skip
                  refine wp_region_cls0 ?_
                  repeat (first | go_big_quiet_skip | (go_big_quiet_want; first | (refine quiet_rnd hr _ rfl rfl p1.cls ?_; simp only [Act.put, List.setIfInBounds_toArray, List.set_cons_succ, List.set_cons_zero]; go_big_quiet_on) | (refine quiet_ck hr.1 _ rfl rfl p2.cls ?_; simp only [Act.put, List.setIfInBounds_toArray, List.set_cons_succ, List.set_cons_zero]; go_big_quiet_on) | (refine quiet_rz rfl ?_; simp only [Act.put, List.setIfInBounds_toArray, List.set_cons_succ, List.set_cons_zero]; go_big_quiet_on) | (go_big_quiet_op; first | go_big_quiet_on | go_big_quiet_call ((go_at_call 32; exact cls_of (refValid_is gv _ hr.1))))))
                  refine wpQuiet_nil ?_
                  rintro w1 ⟨s1, e1⟩
                  have hb1 := wOf_below s1
                  rw [← e1] at hb1
                  clear e1 s1
                  replace h1 := h1.later hb1
                  replace h2 := h2.later hb1
                  replace hB := bgo hB hb1
                  clear hb1
                  go_wp2
                  go_ret
                  exact ⟨by rw [show l.all rfB = false from all_no HX.out (by simp [rfB, g1, g2, gv])]; rfl, hB⟩
                · skip
                  refine wp_region_cls0 ?_
                  repeat (first | go_big_quiet_skip | (go_big_quiet_want; first | (refine quiet_rnd hr _ rfl rfl p1.cls ?_; simp only [Act.put, List.setIfInBounds_toArray, List.set_cons_succ, List.set_cons_zero]; go_big_quiet_on) | (refine quiet_ck hr.1 _ rfl rfl p2.cls ?_; simp only [Act.put, List.setIfInBounds_toArray, List.set_cons_succ, List.set_cons_zero]; go_big_quiet_on) | (refine quiet_rz rfl ?_; simp only [Act.put, List.setIfInBounds_toArray, List.set_cons_succ, List.set_cons_zero]; go_big_quiet_on) | (go_big_quiet_op; first | go_big_quiet_on | go_big_quiet_call ((go_at_call 32; exact cls_of (refValid_is gv _ hr.1))))))
                  refine wpQuiet_nil ?_
                  rintro w1 ⟨s1, e1⟩
                  have hb1 := wOf_below s1
                  rw [← e1] at hb1
                  clear e1 s1
                  replace h1 := h1.later hb1
                  replace h2 := h2.later hb1
                  replace hB := bgo hB hb1
                  clear hb1
                  clear p1 p2 d0 d1 q1 gr
                  go_wp2
                  go_loopw [5] (fun j wr => ∃ k2 : Nat, j = .int .i64 (k2 : Int) ∧ k2 ≤ 8 ∧ RowAt w.heap.size (rsv l) 29 wr ∧ RowAt rb (rnv r) 27 wr ∧ Below w.heap.size w wr ∧ Hid (voB (r.2.2.1.take k2) = true)) (fun j _ => 8 - (intOf j).toNat)
                  case atStart => exact ⟨0, rfl, by decide, h1, h2, hB, rfl⟩
                  case round =>
                    clear h1 h2 hB
                    obtain ⟨k2, rfl, hk2, h1, h2, hB, hb⟩ := hrel
                    by_cases hj8 : k2 < 8
                    · obtain ⟨z, hz⟩ : ∃ z, r.2.2.1[k2]? = some z := ⟨_, List.getElem?_eq_getElem (by rw [hr.2]; exact hj8)⟩
                      have hji : (k2 : Int) < 8 := by omega
                      have cz : wr.cell? ⟨rb, 9 + k2, none⟩ = some (.int .i64 z) := by rw [h2.cell]; exact rnv_votes hr k2 _ (by rw [cv_get (by rw [hr.2]; exact hj8), en_of hz])
                      have HZ := hid_of' hz
                      clear hz
                      by_cases z0 : z < 0
                      · go_wp2
                        go_ret
                        exact ⟨by rw [show l.all rfB = false from all_no HX.out (by simp [rfB, show voB r.2.2.1 = false from all_no HZ.out (by simp; omega)])]; rfl, hB⟩
                      · by_cases z2 : 2 < z
                        · go_wp2
                          go_ret
                          exact ⟨by rw [show l.all rfB = false from all_no HX.out (by simp [rfB, show voB r.2.2.1 = false from all_no HZ.out (by simp; omega)])]; rfl, hB⟩
                        · go_wp2
                          go_roundw
                          case rel => exact ⟨k2 + 1, by go_num, by omega, h1, h2, hB, all_step HZ.out hb.out (by simp; omega)⟩
                          case measure => simp [intOf]; omega
                    · have hji : ¬ (k2 : Int) < 8 := by omega
                      have hvo : voB r.2.2.1 = true := by have := hb.out; rwa [List.take_of_length_le (by rw [hr.2]; omega)] at this
                      have HVO := hid_of' hvo
                      clear hvo
                      go_wp2
                      go_roundw
                      case rel => exact ⟨k + 1, by go_num, by omega, h1, hB, all_step HX.out ha.out (by simp [rfB, HVO.out, g0, g1, g2, g3, g4, gv])⟩
                      case measure => simp [intOf]; omega
    · have hki : ¬ (k : Int) < 8 := by omega
      go_wp2
      go_ret
      exact ⟨by rw [show l.all rfB = true from by have := ha.out; rwa [List.take_of_length_le (by rw [hs.1]; omega)] at this]; rfl, hB⟩
theorem refRounds_is {l : List Prn} {v : Bool} (h : l.all rndB = v) (w : World) (hs : shRs l) (hc : ∀ r ∈ l, ∀ z ∈ r.2.1, z ≤ 9223372036854775807) :
    Calls Tryz.prog 34 #[.agg (rsv l)] w fun e w' => e = .returned (.bool v) ∧ Below w.heap.size w w' := h ▸ refRounds_any l w hs hc
end Go.Proofs.YteffpnjgchihpaaGreatDoor
