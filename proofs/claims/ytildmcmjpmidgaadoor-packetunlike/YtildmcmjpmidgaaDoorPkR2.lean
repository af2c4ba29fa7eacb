
/-
  Is a message right? isOp, isRound, acts, rounds, what a kind uses, Right.
-/
import Derived.Test.YtildmcmjpmidgaaDoorPkE
namespace Go.Proofs.YtildmcmjpmidgaaDoor
open Go.RowKit
set_option maxRecDepth 100000

def opB (o : Pop) : Bool := oneB o.1 3 && wiB o.2.1 7 && decide (0 ≤ o.2.2.1) && wiB o.2.2.2 (if o.1 = 1 then 1114111 else 0)
/-- What a rune can hold. -/
def fitC (c : Int) : Prop := -2147483648 ≤ c ∧ c ≤ 2147483647
theorem wrap_char {c : Int} (h : fitC c) : IntKind.i64.wrap c = c := by unfold fitC at h; simp [IntKind.wrap, IntKind.bits, IntKind.signed]; omega

set_option maxHeartbeats 1000000 in
theorem isOp_any (o : Pop) (w : World) (hc : fitC o.2.2.2) :
    Calls Tryd.prog 40 #[.agg (opv o)] w fun e w' => e = .returned (.bool (opB o)) ∧ Below w.heap.size w w' := by
  obtain ⟨k, r, a, c⟩ := o
  have hw : IntKind.i64.wrap c = c := wrap_char hc
  have hB := below_one w (.cells (opv (k, r, a, c)) 63)
  clear hc
  simp only [opv] at hB ⊢
  by_cases k1 : k = 1
  · subst k1
    cases h0 : oneB 1 3
    · go_enter Tryd.func40, Tryd.ntmps40
      go_wp2_with (first | (go_at_call 20; refine (isOne_is h0 _).mono ?_; rintro e w1 ⟨rfl, hx⟩; obtain rfl := hx.symm) | (go_at_call 21; first | (with_reducible refine (isWithin_is h1 _).mono ?_; rintro e w1 ⟨rfl, hx⟩; obtain rfl := hx.symm) | (with_reducible refine (isWithin_is h3 _).mono ?_; rintro e w1 ⟨rfl, hx⟩; obtain rfl := hx.symm)))
      go_ret
      exact ⟨by simp [opB, h0], hB⟩
    · cases h1 : wiB r 7
      · go_enter Tryd.func40, Tryd.ntmps40
        go_wp2_with (first | (go_at_call 20; refine (isOne_is h0 _).mono ?_; rintro e w1 ⟨rfl, hx⟩; obtain rfl := hx.symm) | (go_at_call 21; first | (with_reducible refine (isWithin_is h1 _).mono ?_; rintro e w1 ⟨rfl, hx⟩; obtain rfl := hx.symm) | (with_reducible refine (isWithin_is h3 _).mono ?_; rintro e w1 ⟨rfl, hx⟩; obtain rfl := hx.symm)))
        go_ret
        exact ⟨by simp [opB, h0, h1], hB⟩
      · cases h2 : decide (0 ≤ a)
        · go_enter Tryd.func40, Tryd.ntmps40
          go_wp2_with (first | (go_at_call 20; refine (isOne_is h0 _).mono ?_; rintro e w1 ⟨rfl, hx⟩; obtain rfl := hx.symm) | (go_at_call 21; first | (with_reducible refine (isWithin_is h1 _).mono ?_; rintro e w1 ⟨rfl, hx⟩; obtain rfl := hx.symm) | (with_reducible refine (isWithin_is h3 _).mono ?_; rintro e w1 ⟨rfl, hx⟩; obtain rfl := hx.symm)))
          go_ret
          exact ⟨by simp [opB, h0, h1, h2], hB⟩
        · cases h3 : wiB c 1114111
          · go_enter Tryd.func40, Tryd.ntmps40
            go_wp2_with (first | (go_at_call 20; refine (isOne_is h0 _).mono ?_; rintro e w1 ⟨rfl, hx⟩; obtain rfl := hx.symm) | (go_at_call 21; first | (with_reducible refine (isWithin_is h1 _).mono ?_; rintro e w1 ⟨rfl, hx⟩; obtain rfl := hx.symm) | (with_reducible refine (isWithin_is h3 _).mono ?_; rintro e w1 ⟨rfl, hx⟩; obtain rfl := hx.symm)))
            go_ret
            exact ⟨by simp [opB, h0, h1, h2, h3], hB⟩
          · go_enter Tryd.func40, Tryd.ntmps40
            go_wp2_with (first | (go_at_call 20; refine (isOne_is h0 _).mono ?_; rintro e w1 ⟨rfl, hx⟩; obtain rfl := hx.symm) | (go_at_call 21; first | (with_reducible refine (isWithin_is h1 _).mono ?_; rintro e w1 ⟨rfl, hx⟩; obtain rfl := hx.symm) | (with_reducible refine (isWithin_is h3 _).mono ?_; rintro e w1 ⟨rfl, hx⟩; obtain rfl := hx.symm)))
            go_ret
            exact ⟨by simp [opB, h0, h1, h2, h3], hB⟩
  · have k1' : (k == 1) = false := by simpa using k1
    have HK := hid_of' k1
    clear k1
    cases h0 : oneB k 3
    · go_enter Tryd.func40, Tryd.ntmps40
      go_wp2_with (first | (go_at_call 20; refine (isOne_is h0 _).mono ?_; rintro e w1 ⟨rfl, hx⟩; obtain rfl := hx.symm) | (go_at_call 21; first | (with_reducible refine (isWithin_is h1 _).mono ?_; rintro e w1 ⟨rfl, hx⟩; obtain rfl := hx.symm) | (with_reducible refine (isWithin_is h3 _).mono ?_; rintro e w1 ⟨rfl, hx⟩; obtain rfl := hx.symm)))
      go_ret
      exact ⟨by simp [opB, h0, HK.out], hB⟩
    · cases h1 : wiB r 7
      · go_enter Tryd.func40, Tryd.ntmps40
        go_wp2_with (first | (go_at_call 20; refine (isOne_is h0 _).mono ?_; rintro e w1 ⟨rfl, hx⟩; obtain rfl := hx.symm) | (go_at_call 21; first | (with_reducible refine (isWithin_is h1 _).mono ?_; rintro e w1 ⟨rfl, hx⟩; obtain rfl := hx.symm) | (with_reducible refine (isWithin_is h3 _).mono ?_; rintro e w1 ⟨rfl, hx⟩; obtain rfl := hx.symm)))
        go_ret
        exact ⟨by simp [opB, h0, h1, HK.out], hB⟩
      · cases h2 : decide (0 ≤ a)
        · go_enter Tryd.func40, Tryd.ntmps40
          go_wp2_with (first | (go_at_call 20; refine (isOne_is h0 _).mono ?_; rintro e w1 ⟨rfl, hx⟩; obtain rfl := hx.symm) | (go_at_call 21; first | (with_reducible refine (isWithin_is h1 _).mono ?_; rintro e w1 ⟨rfl, hx⟩; obtain rfl := hx.symm) | (with_reducible refine (isWithin_is h3 _).mono ?_; rintro e w1 ⟨rfl, hx⟩; obtain rfl := hx.symm)))
          go_ret
          exact ⟨by simp [opB, h0, h1, h2, HK.out], hB⟩
        · cases h3 : wiB c 0
          · go_enter Tryd.func40, Tryd.ntmps40
            go_wp2_with (first | (go_at_call 20; refine (isOne_is h0 _).mono ?_; rintro e w1 ⟨rfl, hx⟩; obtain rfl := hx.symm) | (go_at_call 21; first | (with_reducible refine (isWithin_is h1 _).mono ?_; rintro e w1 ⟨rfl, hx⟩; obtain rfl := hx.symm) | (with_reducible refine (isWithin_is h3 _).mono ?_; rintro e w1 ⟨rfl, hx⟩; obtain rfl := hx.symm)))
            go_ret
            exact ⟨by simp [opB, h0, h1, h2, h3, HK.out], hB⟩
          · go_enter Tryd.func40, Tryd.ntmps40
            go_wp2_with (first | (go_at_call 20; refine (isOne_is h0 _).mono ?_; rintro e w1 ⟨rfl, hx⟩; obtain rfl := hx.symm) | (go_at_call 21; first | (with_reducible refine (isWithin_is h1 _).mono ?_; rintro e w1 ⟨rfl, hx⟩; obtain rfl := hx.symm) | (with_reducible refine (isWithin_is h3 _).mono ?_; rintro e w1 ⟨rfl, hx⟩; obtain rfl := hx.symm)))
            go_ret
            exact ⟨by simp [opB, h0, h1, h2, h3, HK.out], hB⟩
theorem isOp_is {o : Pop} {v : Bool} (h : opB o = v) (w : World) (hc : fitC o.2.2.2) :
    Calls Tryd.prog 40 #[.agg (opv o)] w fun e w' => e = .returned (.bool v) ∧ Below w.heap.size w w' := h ▸ isOp_any o w hc

def rndB (r : Prn) : Bool := if r.1 = 0 then r == zeroR else decide (0 < r.1) && rowB mx63 r.2.1 && rowB 2 r.2.2.1 && wiB r.2.2.2 2
theorem zeroR_sh : shR zeroR := ⟨rfl, rfl⟩
theorem built_rnd : (Tryd.prog.built 26 []).getD #[] = rnv zeroR := by kernel_rfl

set_option maxHeartbeats 1000000 in
theorem isRound_any (r : Prn) (w : World) (hs : shR r) :
    Calls Tryd.prog 41 #[.agg (rnv r)] w fun e w' => e = .returned (.bool (rndB r)) ∧ Below w.heap.size w w' := by
  have hB := below_one w (.cells (rnv r) 26)
  have h1 := RowAt.new w (rnv r) 26
  have c0 : (w.alloc (.cells (rnv r) 26)).cell? ⟨w.heap.size, 0, none⟩ = some (.int .i64 r.1) := by rw [h1.cell, rnv_n]
  by_cases k0 : r.1 = 0
  · have HV := hid_of' (show rndB r = (r == zeroR) by unfold rndB; rw [if_pos k0])
    rw [k0] at c0
    clear k0
    have hq := fun w => eqIn_rnd 9996 hs zeroR_sh w
    have hg := rnd_guard
    have hz := built_rnd
    have h1i := h1.in
    go_enter Tryd.func41, Tryd.ntmps41
    go_wp2_with (first | (refine ld_rnd hs rfl _ rfl rfl h1i ?_) | (with_reducible refine wpList_build rfl _ _ rfl (by kernel_rfl) ?_; simp only [List.map_toArray, List.map_nil, hz]))
    go_ret
    exact ⟨by rw [HV.out]; rfl, hB⟩
  · have k0' : (r.1 == 0) = false := by simpa using k0
    have HV := hid_of' (show rndB r = (decide (0 < r.1) && rowB mx63 r.2.1 && rowB 2 r.2.2.1 && wiB r.2.2.2 2) by unfold rndB; rw [if_neg k0])
    clear k0
    have h2 := h1.in.sub (ds := cv r.2.1) 1 (rnv_cut r)
    have h3 := h1.in.sub (ds := cv r.2.2.1) 9 (rnv_votes hs)
    rw [Nat.zero_add] at h2 h3
    have d0 := h1.cls 0 _ (rnv_n r)
    have d1 := h1.cls 17 _ (rnv_dec hs)
    cases g0 : decide (0 < r.1)
    · go_enter Tryd.func41, Tryd.ntmps41
      go_upto_region 3 with fail
      refine wp_region_cls0 ?_
      repeat (first | go_big_quiet_skip | (go_big_quiet_want; first | (refine quiet_ck hs.1 _ rfl rfl h2.cls ?_; simp only [Act.put, List.setIfInBounds_toArray, List.set_cons_succ, List.set_cons_zero]; go_big_quiet_on) | (refine quiet_row hs.2 _ rfl rfl h3.cls ?_; simp only [Act.put, List.setIfInBounds_toArray, List.set_cons_succ, List.set_cons_zero]; go_big_quiet_on) | (go_big_quiet_op; first | go_big_quiet_on | go_big_quiet_call ((first | (go_at_call_of 24 (Value.agg (cv r.2.1)); exact cls_of (isRow_is g1 _ hs.1)) | (go_at_call_of 24 (Value.agg (cv r.2.2.1)); exact cls_of (isRow_is g2 _ hs.2)) | (go_at_call 21; exact cls_of_same (isWithin_is g3 _)))))))
      refine wpQuiet_nil ?_
      rintro w1 ⟨s1, e1⟩
      have hb1 := wOf_below s1
      rw [← e1] at hb1
      clear e1 s1
      replace hB := bgo hB hb1
      clear hb1
      go_wp2
      go_ret
      exact ⟨by rw [HV.out]; simp [g0], hB⟩
    · cases g1 : rowB mx63 r.2.1
      · go_enter Tryd.func41, Tryd.ntmps41
        go_upto_region 3 with fail
        refine wp_region_cls0 ?_
        repeat (first | go_big_quiet_skip | (go_big_quiet_want; first | (refine quiet_ck hs.1 _ rfl rfl h2.cls ?_; simp only [Act.put, List.setIfInBounds_toArray, List.set_cons_succ, List.set_cons_zero]; go_big_quiet_on) | (refine quiet_row hs.2 _ rfl rfl h3.cls ?_; simp only [Act.put, List.setIfInBounds_toArray, List.set_cons_succ, List.set_cons_zero]; go_big_quiet_on) | (go_big_quiet_op; first | go_big_quiet_on | go_big_quiet_call ((first | (go_at_call_of 24 (Value.agg (cv r.2.1)); exact cls_of (isRow_is g1 _ hs.1)) | (go_at_call_of 24 (Value.agg (cv r.2.2.1)); exact cls_of (isRow_is g2 _ hs.2)) | (go_at_call 21; exact cls_of_same (isWithin_is g3 _)))))))
        refine wpQuiet_nil ?_
        rintro w1 ⟨s1, e1⟩
        have hb1 := wOf_below s1
        rw [← e1] at hb1
        clear e1 s1
        replace hB := bgo hB hb1
        clear hb1
        go_wp2
        go_ret
        exact ⟨by rw [HV.out]; simp [g0, g1], hB⟩
      · cases g2 : rowB 2 r.2.2.1
        · go_enter Tryd.func41, Tryd.ntmps41
          go_upto_region 3 with fail
          refine wp_region_cls0 ?_
          repeat (first | go_big_quiet_skip | (go_big_quiet_want; first | (refine quiet_ck hs.1 _ rfl rfl h2.cls ?_; simp only [Act.put, List.setIfInBounds_toArray, List.set_cons_succ, List.set_cons_zero]; go_big_quiet_on) | (refine quiet_row hs.2 _ rfl rfl h3.cls ?_; simp only [Act.put, List.setIfInBounds_toArray, List.set_cons_succ, List.set_cons_zero]; go_big_quiet_on) | (go_big_quiet_op; first | go_big_quiet_on | go_big_quiet_call ((first | (go_at_call_of 24 (Value.agg (cv r.2.1)); exact cls_of (isRow_is g1 _ hs.1)) | (go_at_call_of 24 (Value.agg (cv r.2.2.1)); exact cls_of (isRow_is g2 _ hs.2)) | (go_at_call 21; exact cls_of_same (isWithin_is g3 _)))))))
          refine wpQuiet_nil ?_
          rintro w1 ⟨s1, e1⟩
          have hb1 := wOf_below s1
          rw [← e1] at hb1
          clear e1 s1
          replace hB := bgo hB hb1
          clear hb1
          go_wp2
          go_ret
          exact ⟨by rw [HV.out]; simp [g0, g1, g2], hB⟩
        · cases g3 : wiB r.2.2.2 2
          · go_enter Tryd.func41, Tryd.ntmps41
            go_upto_region 3 with fail
            refine wp_region_cls0 ?_
            repeat (first | go_big_quiet_skip | (go_big_quiet_want; first | (refine quiet_ck hs.1 _ rfl rfl h2.cls ?_; simp only [Act.put, List.setIfInBounds_toArray, List.set_cons_succ, List.set_cons_zero]; go_big_quiet_on) | (refine quiet_row hs.2 _ rfl rfl h3.cls ?_; simp only [Act.put, List.setIfInBounds_toArray, List.set_cons_succ, List.set_cons_zero]; go_big_quiet_on) | (go_big_quiet_op; first | go_big_quiet_on | go_big_quiet_call ((first | (go_at_call_of 24 (Value.agg (cv r.2.1)); exact cls_of (isRow_is g1 _ hs.1)) | (go_at_call_of 24 (Value.agg (cv r.2.2.1)); exact cls_of (isRow_is g2 _ hs.2)) | (go_at_call 21; exact cls_of_same (isWithin_is g3 _)))))))
            refine wpQuiet_nil ?_
            rintro w1 ⟨s1, e1⟩
            have hb1 := wOf_below s1
            rw [← e1] at hb1
            clear e1 s1
            replace hB := bgo hB hb1
            clear hb1
            go_wp2
            go_ret
            exact ⟨by rw [HV.out]; simp [g0, g1, g2, g3], hB⟩
          · go_enter Tryd.func41, Tryd.ntmps41
            go_upto_region 3 with fail
            refine wp_region_cls0 ?_
            repeat (first | go_big_quiet_skip | (go_big_quiet_want; first | (refine quiet_ck hs.1 _ rfl rfl h2.cls ?_; simp only [Act.put, List.setIfInBounds_toArray, List.set_cons_succ, List.set_cons_zero]; go_big_quiet_on) | (refine quiet_row hs.2 _ rfl rfl h3.cls ?_; simp only [Act.put, List.setIfInBounds_toArray, List.set_cons_succ, List.set_cons_zero]; go_big_quiet_on) | (go_big_quiet_op; first | go_big_quiet_on | go_big_quiet_call ((first | (go_at_call_of 24 (Value.agg (cv r.2.1)); exact cls_of (isRow_is g1 _ hs.1)) | (go_at_call_of 24 (Value.agg (cv r.2.2.1)); exact cls_of (isRow_is g2 _ hs.2)) | (go_at_call 21; exact cls_of_same (isWithin_is g3 _)))))))
            refine wpQuiet_nil ?_
            rintro w1 ⟨s1, e1⟩
            have hb1 := wOf_below s1
            rw [← e1] at hb1
            clear e1 s1
            replace hB := bgo hB hb1
            clear hb1
            go_wp2
            go_ret
            exact ⟨by rw [HV.out]; simp [g0, g1, g2, g3], hB⟩
theorem isRound_is {r : Prn} {v : Bool} (h : rndB r = v) (w : World) (hs : shR r) :
    Calls Tryd.prog 41 #[.agg (rnv r)] w fun e w' => e = .returned (.bool v) ∧ Below w.heap.size w w' := h ▸ isRound_any r w hs
end Go.Proofs.YtildmcmjpmidgaaDoor
