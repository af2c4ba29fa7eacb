
/-
  Is a message right? isOp, isRound, acts, rounds, what a kind uses, Right. Are all acts right, are all rounds? What a kind uses; Right.
-/
import Derived.Test.YteffpnjgchihpaaGreatDoorPB19
namespace Go.Proofs.YteffpnjgchihpaaGreatDoor
open Go.RowKit
set_option maxRecDepth 100000

def opB (o : Pop) : Bool := oneB o.1 3 && wiB o.2.1 7 && decide (0 ≤ o.2.2.1) && wiB o.2.2.2 (if o.1 = 1 then 1114111 else 0)
/-- What a rune can hold. -/
def fitC (c : Int) : Prop := -2147483648 ≤ c ∧ c ≤ 2147483647
theorem wrap_char {c : Int} (h : fitC c) : IntKind.i64.wrap c = c := by unfold fitC at h; simp [IntKind.wrap, IntKind.bits, IntKind.signed]; omega

set_option maxHeartbeats 1000000 in
theorem isOp_any (o : Pop) (w : World) (hc : fitC o.2.2.2) :
    Calls Tryz.prog 51 #[.agg (opv o)] w fun e w' => e = .returned (.bool (opB o)) ∧ Below w.heap.size w w' := by
  obtain ⟨k, r, a, c⟩ := o
  have hw : IntKind.i64.wrap c = c := wrap_char hc
  have hB := below_one w (.cells (opv (k, r, a, c)) 58)
  clear hc
  simp only [opv] at hB ⊢
  by_cases k1 : k = 1
  · subst k1
    cases h0 : oneB 1 3
    · go_enter Tryz.func51, Tryz.ntmps51
      go_wp2_with (first | (go_at_call 26; refine (isOne_is h0 _).mono ?_; rintro e w1 ⟨rfl, hx⟩; obtain rfl := hx.symm) | (go_at_call 27; first | (with_reducible refine (isWithin_is h1 _).mono ?_; rintro e w1 ⟨rfl, hx⟩; obtain rfl := hx.symm) | (with_reducible refine (isWithin_is h3 _).mono ?_; rintro e w1 ⟨rfl, hx⟩; obtain rfl := hx.symm)))
      go_ret
      exact ⟨by simp [opB, h0], hB⟩
    · cases h1 : wiB r 7
      · go_enter Tryz.func51, Tryz.ntmps51
        go_wp2_with (first | (go_at_call 26; refine (isOne_is h0 _).mono ?_; rintro e w1 ⟨rfl, hx⟩; obtain rfl := hx.symm) | (go_at_call 27; first | (with_reducible refine (isWithin_is h1 _).mono ?_; rintro e w1 ⟨rfl, hx⟩; obtain rfl := hx.symm) | (with_reducible refine (isWithin_is h3 _).mono ?_; rintro e w1 ⟨rfl, hx⟩; obtain rfl := hx.symm)))
        go_ret
        exact ⟨by simp [opB, h0, h1], hB⟩
      · cases h2 : decide (0 ≤ a)
        · go_enter Tryz.func51, Tryz.ntmps51
          go_wp2_with (first | (go_at_call 26; refine (isOne_is h0 _).mono ?_; rintro e w1 ⟨rfl, hx⟩; obtain rfl := hx.symm) | (go_at_call 27; first | (with_reducible refine (isWithin_is h1 _).mono ?_; rintro e w1 ⟨rfl, hx⟩; obtain rfl := hx.symm) | (with_reducible refine (isWithin_is h3 _).mono ?_; rintro e w1 ⟨rfl, hx⟩; obtain rfl := hx.symm)))
          go_ret
          exact ⟨by simp [opB, h0, h1, h2], hB⟩
        · cases h3 : wiB c 1114111
          · go_enter Tryz.func51, Tryz.ntmps51
            go_wp2_with (first | (go_at_call 26; refine (isOne_is h0 _).mono ?_; rintro e w1 ⟨rfl, hx⟩; obtain rfl := hx.symm) | (go_at_call 27; first | (with_reducible refine (isWithin_is h1 _).mono ?_; rintro e w1 ⟨rfl, hx⟩; obtain rfl := hx.symm) | (with_reducible refine (isWithin_is h3 _).mono ?_; rintro e w1 ⟨rfl, hx⟩; obtain rfl := hx.symm)))
            go_ret
            exact ⟨by simp [opB, h0, h1, h2, h3], hB⟩
          · go_enter Tryz.func51, Tryz.ntmps51
            go_wp2_with (first | (go_at_call 26; refine (isOne_is h0 _).mono ?_; rintro e w1 ⟨rfl, hx⟩; obtain rfl := hx.symm) | (go_at_call 27; first | (with_reducible refine (isWithin_is h1 _).mono ?_; rintro e w1 ⟨rfl, hx⟩; obtain rfl := hx.symm) | (with_reducible refine (isWithin_is h3 _).mono ?_; rintro e w1 ⟨rfl, hx⟩; obtain rfl := hx.symm)))
            go_ret
            exact ⟨by simp [opB, h0, h1, h2, h3], hB⟩
  · have k1' : (k == 1) = false := by simpa using k1
    have HK := hid_of' k1
    clear k1
    cases h0 : oneB k 3
    · go_enter Tryz.func51, Tryz.ntmps51
      go_wp2_with (first | (go_at_call 26; refine (isOne_is h0 _).mono ?_; rintro e w1 ⟨rfl, hx⟩; obtain rfl := hx.symm) | (go_at_call 27; first | (with_reducible refine (isWithin_is h1 _).mono ?_; rintro e w1 ⟨rfl, hx⟩; obtain rfl := hx.symm) | (with_reducible refine (isWithin_is h3 _).mono ?_; rintro e w1 ⟨rfl, hx⟩; obtain rfl := hx.symm)))
      go_ret
      exact ⟨by simp [opB, h0, HK.out], hB⟩
    · cases h1 : wiB r 7
      · go_enter Tryz.func51, Tryz.ntmps51
        go_wp2_with (first | (go_at_call 26; refine (isOne_is h0 _).mono ?_; rintro e w1 ⟨rfl, hx⟩; obtain rfl := hx.symm) | (go_at_call 27; first | (with_reducible refine (isWithin_is h1 _).mono ?_; rintro e w1 ⟨rfl, hx⟩; obtain rfl := hx.symm) | (with_reducible refine (isWithin_is h3 _).mono ?_; rintro e w1 ⟨rfl, hx⟩; obtain rfl := hx.symm)))
        go_ret
        exact ⟨by simp [opB, h0, h1, HK.out], hB⟩
      · cases h2 : decide (0 ≤ a)
        · go_enter Tryz.func51, Tryz.ntmps51
          go_wp2_with (first | (go_at_call 26; refine (isOne_is h0 _).mono ?_; rintro e w1 ⟨rfl, hx⟩; obtain rfl := hx.symm) | (go_at_call 27; first | (with_reducible refine (isWithin_is h1 _).mono ?_; rintro e w1 ⟨rfl, hx⟩; obtain rfl := hx.symm) | (with_reducible refine (isWithin_is h3 _).mono ?_; rintro e w1 ⟨rfl, hx⟩; obtain rfl := hx.symm)))
          go_ret
          exact ⟨by simp [opB, h0, h1, h2, HK.out], hB⟩
        · cases h3 : wiB c 0
          · go_enter Tryz.func51, Tryz.ntmps51
            go_wp2_with (first | (go_at_call 26; refine (isOne_is h0 _).mono ?_; rintro e w1 ⟨rfl, hx⟩; obtain rfl := hx.symm) | (go_at_call 27; first | (with_reducible refine (isWithin_is h1 _).mono ?_; rintro e w1 ⟨rfl, hx⟩; obtain rfl := hx.symm) | (with_reducible refine (isWithin_is h3 _).mono ?_; rintro e w1 ⟨rfl, hx⟩; obtain rfl := hx.symm)))
            go_ret
            exact ⟨by simp [opB, h0, h1, h2, h3, HK.out], hB⟩
          · go_enter Tryz.func51, Tryz.ntmps51
            go_wp2_with (first | (go_at_call 26; refine (isOne_is h0 _).mono ?_; rintro e w1 ⟨rfl, hx⟩; obtain rfl := hx.symm) | (go_at_call 27; first | (with_reducible refine (isWithin_is h1 _).mono ?_; rintro e w1 ⟨rfl, hx⟩; obtain rfl := hx.symm) | (with_reducible refine (isWithin_is h3 _).mono ?_; rintro e w1 ⟨rfl, hx⟩; obtain rfl := hx.symm)))
            go_ret
            exact ⟨by simp [opB, h0, h1, h2, h3, HK.out], hB⟩
theorem isOp_is {o : Pop} {v : Bool} (h : opB o = v) (w : World) (hc : fitC o.2.2.2) :
    Calls Tryz.prog 51 #[.agg (opv o)] w fun e w' => e = .returned (.bool v) ∧ Below w.heap.size w w' := h ▸ isOp_any o w hc

def rndB (r : Prn) : Bool := if r.1 = 0 then r == zeroR else decide (0 < r.1) && rowB mx63 r.2.1 && rowB 2 r.2.2.1 && wiB r.2.2.2 2
theorem zeroR_sh : shR zeroR := ⟨rfl, rfl⟩
theorem built_rnd : (Tryz.prog.built 27 []).getD #[] = rnv zeroR := by kernel_rfl

set_option maxHeartbeats 1000000 in
theorem isRound_any (r : Prn) (w : World) (hs : shR r) :
    Calls Tryz.prog 52 #[.agg (rnv r)] w fun e w' => e = .returned (.bool (rndB r)) ∧ Below w.heap.size w w' := by
  have hB := below_one w (.cells (rnv r) 27)
  have h1 := RowAt.new w (rnv r) 27
  have c0 : (w.alloc (.cells (rnv r) 27)).cell? ⟨w.heap.size, 0, none⟩ = some (.int .i64 r.1) := by rw [h1.cell, rnv_n]
  by_cases k0 : r.1 = 0
  · have HV := hid_of' (show rndB r = (r == zeroR) by unfold rndB; rw [if_pos k0])
    rw [k0] at c0
    clear k0
    have hq := fun w => eqIn_rnd 9996 hs zeroR_sh w
    have hg := rnd_guard
    have hz := built_rnd
    have h1i := h1.in
    go_enter Tryz.func52, Tryz.ntmps52
    go_wp2_with (first | (refine ld_rnd hs rfl _ rfl rfl h1i ?_) | (with_reducible refine wpList_build rfl _ _ rfl (by kernel_rfl) ?_; simp only [List.map_toArray, List.map_nil, hz]))
    go_ret
    exact ⟨by rw [HV.out]; rfl, hB⟩
  · have k0' : (r.1 == 0) = false := by simpa using k0
    have HV := hid_of' (show rndB r = (decide (0 < r.1) && rowB mx63 r.2.1 && rowB 2 r.2.2.1 && wiB r.2.2.2 2) by unfold rndB; rw [if_neg k0])
    clear k0
    have h2 := h1.in.sub (ds := cv r.2.1) 1 (rnv_cut r)
    have h3 := h1.in.sub (ds := cv r.2.2.1) 9 (rnv_votes hs)
    rw [Nat.zero_add] at h2 h3
    have d0 := h1.cls 0 _ (rnv_n r)
    have d1 := h1.cls 17 _ (rnv_dec hs)
    cases g0 : decide (0 < r.1)
    · go_enter Tryz.func52, Tryz.ntmps52
      go_upto_region 3 with fail
      refine wp_region_cls0 ?_
      repeat (first | go_big_quiet_skip | (go_big_quiet_want; first | (refine quiet_ck hs.1 _ rfl rfl h2.cls ?_; simp only [Act.put, List.setIfInBounds_toArray, List.set_cons_succ, List.set_cons_zero]; go_big_quiet_on) | (refine quiet_row hs.2 _ rfl rfl h3.cls ?_; simp only [Act.put, List.setIfInBounds_toArray, List.set_cons_succ, List.set_cons_zero]; go_big_quiet_on) | (go_big_quiet_op; first | go_big_quiet_on | go_big_quiet_call ((first | (go_at_call_of 30 (Value.agg (cv r.2.1)); exact cls_of (isRow_is g1 _ hs.1)) | (go_at_call_of 30 (Value.agg (cv r.2.2.1)); exact cls_of (isRow_is g2 _ hs.2)) | (go_at_call 27; exact cls_of_same (isWithin_is g3 _)))))))
      refine wpQuiet_nil ?_
      rintro w1 ⟨s1, e1⟩
      have hb1 := wOf_below s1
      rw [← e1] at hb1
      clear e1 s1
      replace hB := bgo hB hb1
      clear hb1
      go_wp2
      go_ret
      exact ⟨by rw [HV.out]; simp [g0], hB⟩
    · cases g1 : rowB mx63 r.2.1
      · go_enter Tryz.func52, Tryz.ntmps52
        go_upto_region 3 with fail
        refine wp_region_cls0 ?_
        repeat (first | go_big_quiet_skip | (go_big_quiet_want; first | (refine quiet_ck hs.1 _ rfl rfl h2.cls ?_; simp only [Act.put, List.setIfInBounds_toArray, List.set_cons_succ, List.set_cons_zero]; go_big_quiet_on) | (refine quiet_row hs.2 _ rfl rfl h3.cls ?_; simp only [Act.put, List.setIfInBounds_toArray, List.set_cons_succ, List.set_cons_zero]; go_big_quiet_on) | (go_big_quiet_op; first | go_big_quiet_on | go_big_quiet_call ((first | (go_at_call_of 30 (Value.agg (cv r.2.1)); exact cls_of (isRow_is g1 _ hs.1)) | (go_at_call_of 30 (Value.agg (cv r.2.2.1)); exact cls_of (isRow_is g2 _ hs.2)) | (go_at_call 27; exact cls_of_same (isWithin_is g3 _)))))))
        refine wpQuiet_nil ?_
        rintro w1 ⟨s1, e1⟩
        have hb1 := wOf_below s1
        rw [← e1] at hb1
        clear e1 s1
        replace hB := bgo hB hb1
        clear hb1
        go_wp2
        go_ret
        exact ⟨by rw [HV.out]; simp [g0, g1], hB⟩
      · cases g2 : rowB 2 r.2.2.1
        · go_enter Tryz.func52, Tryz.ntmps52
          go_upto_region 3 with fail
          refine wp_region_cls0 ?_
          repeat (first | go_big_quiet_skip | (go_big_quiet_want; first | (refine quiet_ck hs.1 _ rfl rfl h2.cls ?_; simp only [Act.put, List.setIfInBounds_toArray, List.set_cons_succ, List.set_cons_zero]; go_big_quiet_on) | (refine quiet_row hs.2 _ rfl rfl h3.cls ?_; simp only [Act.put, List.setIfInBounds_toArray, List.set_cons_succ, List.set_cons_zero]; go_big_quiet_on) | (go_big_quiet_op; first | go_big_quiet_on | go_big_quiet_call ((first | (go_at_call_of 30 (Value.agg (cv r.2.1)); exact cls_of (isRow_is g1 _ hs.1)) | (go_at_call_of 30 (Value.agg (cv r.2.2.1)); exact cls_of (isRow_is g2 _ hs.2)) | (go_at_call 27; exact cls_of_same (isWithin_is g3 _)))))))
          refine wpQuiet_nil ?_
          rintro w1 ⟨s1, e1⟩
          have hb1 := wOf_below s1
          rw [← e1] at hb1
          clear e1 s1
          replace hB := bgo hB hb1
          clear hb1
          go_wp2
          go_ret
          exact ⟨by rw [HV.out]; simp [g0, g1, g2], hB⟩
        · cases g3 : wiB r.2.2.2 2
          · go_enter Tryz.func52, Tryz.ntmps52
            go_upto_region 3 with fail
            refine wp_region_cls0 ?_
            repeat (first | go_big_quiet_skip | (go_big_quiet_want; first | (refine quiet_ck hs.1 _ rfl rfl h2.cls ?_; simp only [Act.put, List.setIfInBounds_toArray, List.set_cons_succ, List.set_cons_zero]; go_big_quiet_on) | (refine quiet_row hs.2 _ rfl rfl h3.cls ?_; simp only [Act.put, List.setIfInBounds_toArray, List.set_cons_succ, List.set_cons_zero]; go_big_quiet_on) | (go_big_quiet_op; first | go_big_quiet_on | go_big_quiet_call ((first | (go_at_call_of 30 (Value.agg (cv r.2.1)); exact cls_of (isRow_is g1 _ hs.1)) | (go_at_call_of 30 (Value.agg (cv r.2.2.1)); exact cls_of (isRow_is g2 _ hs.2)) | (go_at_call 27; exact cls_of_same (isWithin_is g3 _)))))))
            refine wpQuiet_nil ?_
            rintro w1 ⟨s1, e1⟩
            have hb1 := wOf_below s1
            rw [← e1] at hb1
            clear e1 s1
            replace hB := bgo hB hb1
            clear hb1
            go_wp2
            go_ret
            exact ⟨by rw [HV.out]; simp [g0, g1, g2, g3], hB⟩
          · go_enter Tryz.func52, Tryz.ntmps52
            go_upto_region 3 with fail
            refine wp_region_cls0 ?_
            repeat (first | go_big_quiet_skip | (go_big_quiet_want; first | (refine quiet_ck hs.1 _ rfl rfl h2.cls ?_; simp only [Act.put, List.setIfInBounds_toArray, List.set_cons_succ, List.set_cons_zero]; go_big_quiet_on) | (refine quiet_row hs.2 _ rfl rfl h3.cls ?_; simp only [Act.put, List.setIfInBounds_toArray, List.set_cons_succ, List.set_cons_zero]; go_big_quiet_on) | (go_big_quiet_op; first | go_big_quiet_on | go_big_quiet_call ((first | (go_at_call_of 30 (Value.agg (cv r.2.1)); exact cls_of (isRow_is g1 _ hs.1)) | (go_at_call_of 30 (Value.agg (cv r.2.2.1)); exact cls_of (isRow_is g2 _ hs.2)) | (go_at_call 27; exact cls_of_same (isWithin_is g3 _)))))))
            refine wpQuiet_nil ?_
            rintro w1 ⟨s1, e1⟩
            have hb1 := wOf_below s1
            rw [← e1] at hb1
            clear e1 s1
            replace hB := bgo hB hb1
            clear hb1
            go_wp2
            go_ret
            exact ⟨by rw [HV.out]; simp [g0, g1, g2, g3], hB⟩
theorem isRound_is {r : Prn} {v : Bool} (h : rndB r = v) (w : World) (hs : shR r) :
    Calls Tryz.prog 52 #[.agg (rnv r)] w fun e w' => e = .returned (.bool v) ∧ Below w.heap.size w w' := h ▸ isRound_any r w hs
end Go.Proofs.YteffpnjgchihpaaGreatDoor
namespace Go.Proofs.YteffpnjgchihpaaGreatDoor
open Go.RowKit
set_option maxRecDepth 100000

def actB (a : Pac) : Bool := opB a.1 && decide (1 ≤ a.2.1) && rowB mx63 a.2.2
/-- An act that an argument can hold. -/
def fitA (a : Pac) : Prop := shA a ∧ fitC a.1.2.2.2

set_option maxHeartbeats 2000000 in
theorem areRight_any (l : List Pac) (v : Value) (w : World) (hS : SlA w v l) (hf : ∀ a ∈ l, fitA a) (hlen : l.length ≤ 1000000) :
    Calls Tryz.prog 29 #[v] w fun e w' => e = .returned (.bool (l.all actB)) ∧ Below w.heap.size w w' := by
  rcases hS with ⟨rfl, a0, c, rfl⟩ | ⟨g, o_, c, rfl, hA⟩
  · go_enter Tryz.func29, Tryz.ntmps29
    go_wp2
    refine wp_loop_rounds 1 ?_
    rw [rounds_succ]
    go_wp2
    go_ret
    exact ⟨rfl, Below.refl _ _⟩
  · have HA := hid_of' (And.intro hA hf)
    clear hA hf
    obtain ⟨n, hn⟩ : ∃ n, l.length = n := ⟨_, rfl⟩
    rw [hn] at hlen ⊢
    have HN := hid_of' hn
    clear hn
    go_enter Tryz.func29, Tryz.ntmps29
    go_wp2
    go_loopw [7] (fun i wr => ∃ k : Nat, i = .int .i64 (k : Int) ∧ k ≤ n ∧ Below w.heap.size w wr ∧ Hid ((l.take k).all actB = true)) (fun i _ => n - (intOf i).toNat)
    case atStart => exact ⟨0, rfl, by omega, Below.refl _ _, rfl⟩
    case round =>
      obtain ⟨k, rfl, hk, hB, ha⟩ := hrel
      by_cases hkn : k < n
      · have hkl : k < l.length := by rw [HN.out]; exact hkn
        obtain ⟨a, hx⟩ : ∃ a, l[k]? = some a := ⟨_, List.getElem?_eq_getElem hkl⟩
        have HX := hid_of' hx
        have hfa := HA.out.2 a (List.mem_of_getElem? hx)
        have hc := (HA.out.1.2 k a hx).later hB
        clear hx hkl
        have hki : (k : Int) < (n : Int) := by omega
        have hw1 : wrap64 ((k : Int) + 1) = (k : Int) + 1 := by unfold wrap64; omega
        have h1 := RowAt.new wr (acv a) 60
        have h2 := h1.in.sub (ds := opv a.1) 0 (acv_op a)
        have h3 := h1.in.sub (ds := cv a.2.2) 5 (acv_ck a)
        rw [Nat.zero_add] at h2 h3
        go_upto_region 4 with (first | (refine ld_act hfa.1 rfl _ rfl rfl hc ?_) | (refine wpL_stNew rfl _ _ _ rfl rfl rfl rfl (acv_size hfa.1) (by rw [acv_sz hfa.1]; rfl) (acv_one a) ?_))
        simp only [Act.put]
        replace hB := bgo hB (below_one wr (.cells (acv a) 60))
        have d0 := h1.cls 4 _ (acv_num a)
        cases g0 : opB a.1
        · skip
          refine wp_region_cls0 ?_
          repeat (first | go_big_quiet_skip | (go_big_quiet_want; first | (refine quiet_op _ rfl rfl h2.cls ?_; simp only [Act.put, List.setIfInBounds_toArray, List.set_cons_succ, List.set_cons_zero]; go_big_quiet_on) | (refine quiet_ck hfa.1 _ rfl rfl h3.cls ?_; simp only [Act.put, List.setIfInBounds_toArray, List.set_cons_succ, List.set_cons_zero]; go_big_quiet_on) | (go_big_quiet_op; first | go_big_quiet_on | go_big_quiet_call ((first | (go_at_call 51; exact cls_of (isOp_is g0 _ hfa.2)) | (go_at_call 30; exact cls_of (isRow_is g2 _ hfa.1)))))))
          refine wpQuiet_nil ?_
          rintro w1 ⟨s1, e1⟩
          have hb1 := wOf_below s1
          rw [← e1] at hb1
          clear e1 s1
          replace hB := bgo hB hb1
          clear hb1
          go_wp2
          go_ret
          exact ⟨by rw [show l.all actB = false from all_not HX.out (by unfold actB; simp [g0])]; rfl, hB⟩
        · by_cases g1 : a.2.1 < 1
          · skip
            refine wp_region_cls0 ?_
            repeat (first | go_big_quiet_skip | (go_big_quiet_want; first | (refine quiet_op _ rfl rfl h2.cls ?_; simp only [Act.put, List.setIfInBounds_toArray, List.set_cons_succ, List.set_cons_zero]; go_big_quiet_on) | (refine quiet_ck hfa.1 _ rfl rfl h3.cls ?_; simp only [Act.put, List.setIfInBounds_toArray, List.set_cons_succ, List.set_cons_zero]; go_big_quiet_on) | (go_big_quiet_op; first | go_big_quiet_on | go_big_quiet_call ((first | (go_at_call 51; exact cls_of (isOp_is g0 _ hfa.2)) | (go_at_call 30; exact cls_of (isRow_is g2 _ hfa.1)))))))
            refine wpQuiet_nil ?_
            rintro w1 ⟨s1, e1⟩
            have hb1 := wOf_below s1
            rw [← e1] at hb1
            clear e1 s1
            replace hB := bgo hB hb1
            clear hb1
            go_wp2
            go_ret
            exact ⟨by rw [show l.all actB = false from all_not HX.out (by unfold actB; simp [g0]; omega)]; rfl, hB⟩
          · have g1' : ¬ a.2.1 < 1 := g1
            cases g2 : rowB mx63 a.2.2
            · skip
              refine wp_region_cls0 ?_
              repeat (first | go_big_quiet_skip | (go_big_quiet_want; first | (refine quiet_op _ rfl rfl h2.cls ?_; simp only [Act.put, List.setIfInBounds_toArray, List.set_cons_succ, List.set_cons_zero]; go_big_quiet_on) | (refine quiet_ck hfa.1 _ rfl rfl h3.cls ?_; simp only [Act.put, List.setIfInBounds_toArray, List.set_cons_succ, List.set_cons_zero]; go_big_quiet_on) | (go_big_quiet_op; first | go_big_quiet_on | go_big_quiet_call ((first | (go_at_call 51; exact cls_of (isOp_is g0 _ hfa.2)) | (go_at_call 30; exact cls_of (isRow_is g2 _ hfa.1)))))))
              refine wpQuiet_nil ?_
              rintro w1 ⟨s1, e1⟩
              have hb1 := wOf_below s1
              rw [← e1] at hb1
              clear e1 s1
              replace hB := bgo hB hb1
              clear hb1
              go_wp2
              go_ret
              exact ⟨by rw [show l.all actB = false from all_not HX.out (by unfold actB; simp [g0, g1, g2])]; rfl, hB⟩
            · skip
              refine wp_region_cls0 ?_
              repeat (first | go_big_quiet_skip | (go_big_quiet_want; first | (refine quiet_op _ rfl rfl h2.cls ?_; simp only [Act.put, List.setIfInBounds_toArray, List.set_cons_succ, List.set_cons_zero]; go_big_quiet_on) | (refine quiet_ck hfa.1 _ rfl rfl h3.cls ?_; simp only [Act.put, List.setIfInBounds_toArray, List.set_cons_succ, List.set_cons_zero]; go_big_quiet_on) | (go_big_quiet_op; first | go_big_quiet_on | go_big_quiet_call ((first | (go_at_call 51; exact cls_of (isOp_is g0 _ hfa.2)) | (go_at_call 30; exact cls_of (isRow_is g2 _ hfa.1)))))))
              refine wpQuiet_nil ?_
              rintro w1 ⟨s1, e1⟩
              have hb1 := wOf_below s1
              rw [← e1] at hb1
              clear e1 s1
              replace hB := bgo hB hb1
              clear hb1
              go_wp2
              go_roundw
              case rel => exact ⟨k + 1, by go_num, by omega, hB, all_take_step HX.out ha.out (by unfold actB; simp [g0, g2]; omega)⟩
              case measure => simp [intOf]; omega
      · have hki : ¬ (k : Int) < (n : Int) := by omega
        go_wp2
        go_ret
        exact ⟨by rw [show l.all actB = true from by have := ha.out; rwa [List.take_of_length_le (by rw [HN.out]; omega)] at this]; rfl, hB⟩
theorem areRight_is {l : List Pac} {b : Bool} (h : l.all actB = b) (v : Value) (w : World) (hS : SlA w v l) (hf : ∀ a ∈ l, fitA a) (hlen : l.length ≤ 1000000) :
    Calls Tryz.prog 29 #[v] w fun e w' => e = .returned (.bool b) ∧ Below w.heap.size w w' := h ▸ areRight_any l v w hS hf hlen

set_option maxHeartbeats 2000000 in
theorem areRounds_any (l : List Prn) (w : World) (hs : shRs l) :
    Calls Tryz.prog 31 #[.agg (rsv l)] w fun e w' => e = .returned (.bool (l.all rndB)) ∧ Below w.heap.size w w' := by
  have h1 := (RowAt.new w (rsv l) 29).in
  have hB0 := below_one w (.cells (rsv l) 29)
  go_enter Tryz.func31, Tryz.ntmps31
  go_wp2_with (refine ld_rnds hs rfl _ rfl rfl h1 ?_)
  go_loopw [6] (fun i wr => ∃ k : Nat, i = .int .i64 (k : Int) ∧ k ≤ 8 ∧ Below w.heap.size w wr ∧ Hid ((l.take k).all rndB = true)) (fun i _ => 8 - (intOf i).toNat)
  case atStart => exact ⟨0, rfl, by decide, hB0, rfl⟩
  case round =>
    obtain ⟨k, rfl, hk, hB, ha⟩ := hrel
    by_cases hk8 : k < 8
    · obtain ⟨r, hx⟩ : ∃ r, l[k]? = some r := ⟨_, List.getElem?_eq_getElem (by rw [hs.1]; exact hk8)⟩
      have HX := hid_of' hx
      have hr := hs.2 r (List.mem_of_getElem? hx)
      have c1 := fun w => idx_rnd hs hx w
      clear hx
      have hki : (k : Int) < 8 := by omega
      have h2 := (RowAt.new wr (rnv r) 27).in
      replace hB := bgo hB (below_one wr (.cells (rnv r) 27))
      cases g : rndB r
      · go_wp2_with (first | (refine wpL_stNew rfl _ _ _ rfl rfl rfl rfl (rnv_size hr) (by rw [rnv_sz hr]; rfl) (rnv_one r) ?_) | (refine ld_rnd hr rfl _ rfl rfl h2 ?_) | (go_at_call 52; refine (isRound_is g _ hr).mono ?_; rintro e w1 ⟨rfl, hb1⟩))
        go_ret
        exact ⟨by rw [show l.all rndB = false from all_not HX.out g]; rfl, bgo hB hb1⟩
      · go_wp2_with (first | (refine wpL_stNew rfl _ _ _ rfl rfl rfl rfl (rnv_size hr) (by rw [rnv_sz hr]; rfl) (rnv_one r) ?_) | (refine ld_rnd hr rfl _ rfl rfl h2 ?_) | (go_at_call 52; refine (isRound_is g _ hr).mono ?_; rintro e w1 ⟨rfl, hb1⟩))
        go_roundw
        case rel => exact ⟨k + 1, by go_num, by omega, bgo hB hb1, all_take_step HX.out ha.out g⟩
        case measure => simp [intOf]; omega
    · have hki : ¬ (k : Int) < 8 := by omega
      go_wp2
      go_ret
      exact ⟨by rw [show l.all rndB = true from by have := ha.out; rwa [List.take_of_length_le (by rw [hs.1]; omega)] at this]; rfl, hB⟩
theorem areRounds_is {l : List Prn} {b : Bool} (h : l.all rndB = b) (w : World) (hs : shRs l) :
    Calls Tryz.prog 31 #[.agg (rsv l)] w fun e w' => e = .returned (.bool b) ∧ Below w.heap.size w w' := h ▸ areRounds_any l w hs
end Go.Proofs.YteffpnjgchihpaaGreatDoor
namespace Go.Proofs.YteffpnjgchihpaaGreatDoor
open Go.RowKit
set_option maxRecDepth 100000

section
variable {P : Program}
theorem run_alloc_z {ty : TypeId} {z : Array Value} (hz : (P.info? ty).bind (·.zero) = some (.agg z)) (w : World) : (Instr.alloc ty true (.tuple #[])).run P w = .ok (.pointer (some ⟨w.heap.size, 0, none⟩)) (w.alloc (.cells z ty)) := by
  cases hq : P.info? ty with
  | none => simp [hq] at hz
  | some i =>
    have hi : i.zero = some (.agg z) := by simpa [hq] using hz
    simp [Instr.alloc, zeroValue, typeInfo, hq, hi, newVar, newRow, Value.cells, Sem.run_bind]
theorem wpL_alloc {ops : Array Oper} {rest : List Oper} {o : Oper} {a : Act} {w : World} {Q : Exit → Act → World → Prop} (hgd : o.guard = none) (ty : TypeId) (ho : o.op = .alloc ty) {z : Array Value} (hz : (P.info? ty).bind (·.zero) = some (.agg z))
    (k : wpList P ops Q rest (a.put o.dst (.pointer (some ⟨w.heap.size, 0, none⟩))) (w.alloc (.cells z ty))) : wpList P ops Q (o :: rest) a w :=
  wpList_plain hgd fun _ hK => by
    unfold Oper.wp execOp
    simp only [ho, Sem.run_bind, run_alloc_z hz, Result.andThen_ok]
    exact hK _ _ k
end
/-- The zero message. -/
def zeroM : Pms := (0, 0, 0, zero8, [], zeroRs)
theorem zero_ms : (Tryz.prog.info? 31).bind (·.zero) = some (.agg (mv zeroM (.slice none 0 0))) := by kernel_rfl
theorem zeroRs_sh : shRs zeroRs := ⟨rfl, fun r hr => by rw [List.eq_of_mem_replicate hr]; exact zeroR_sh⟩
theorem zeroM_sh : shM zeroM := ⟨rfl, fun a ha => (by simp [zeroM] at ha), zeroRs_sh⟩
/-- What a kind uses. -/
def useC (m : Pms) : List Int := if m.1 = 2 then m.2.2.2.1 else zero8
def useA (m : Pms) : Nat := if m.1 = 1 ∨ m.1 = 3 then m.2.2.2.2.1.length else 0
def useR (m : Pms) : List Prn := if m.1 = 3 ∨ m.1 = 4 then m.2.2.2.2.2 else zeroRs
def usesB (m : Pms) : Bool := decide (m.2.2.2.2.1.length = useA m) && (m.2.2.2.1 == useC m) && (m.2.2.2.2.2 == useR m)

theorem CsIn.msC {b : Nat} {m : Pms} {s : Value} {w : World} (h : CsIn b 0 (mv m s) w) : CsIn b 3 (cv m.2.2.2.1) w := by
  have := h.sub (ds := cv m.2.2.2.1) 3 (mv_ck m s)
  rwa [Nat.zero_add] at this
theorem CsIn.msR {b : Nat} {m : Pms} {s : Value} {w : World} (h : CsIn b 0 (mv m s) w) (hs : shM m) : CsIn b 12 (rsv m.2.2.2.2.2) w := by
  have := h.sub (ds := rsv m.2.2.2.2.2) 12 (mv_rs s hs)
  rwa [Nat.zero_add] at this
theorem mv_setA {m : Pms} {s s' : Value} (hs : shM m) : (mv m s).setIfInBounds 11 s' = mv m s' := by
  have h := hs.1
  have e : (m.2.2.2.1.map (Value.int .i64) ++ s :: rsl m.2.2.2.2.2).set 8 s' = m.2.2.2.1.map (Value.int .i64) ++ s' :: rsl m.2.2.2.2.2 := by
    rw [List.set_append_right _ _ (by simp [h])]
    simp [h]
  simp only [mv, ml, List.setIfInBounds_toArray, List.set_cons_succ, e]
theorem mv_putC {m : Pms} {s : Value} (hs : shM m) {c : List Int} (hc : c.length = 8) : putA (mv m s) 3 (cv c).toList = mv (m.1, m.2.1, m.2.2.1, c, m.2.2.2.2) s :=
  putA_list (c.map (Value.int .i64)) (m.2.2.2.1.map (Value.int .i64)) [.int .i64 m.1, .int .i64 m.2.1, .int .i64 m.2.2.1] (s :: rsl m.2.2.2.2.2) (by simp [hc, hs.1])
theorem mv_putR {m : Pms} {s : Value} (hs : shM m) {R : List Prn} (hR : shRs R) : putA (mv m s) 12 (rsv R).toList = mv (m.1, m.2.1, m.2.2.1, m.2.2.2.1, m.2.2.2.2.1, R) s := by
  have h := putA_list (rsl R) (rsl m.2.2.2.2.2) (.int .i64 m.1 :: .int .i64 m.2.1 :: .int .i64 m.2.2.1 :: (m.2.2.2.1.map (Value.int .i64) ++ [s])) [] (by rw [rsl_len R hR.2, rsl_len _ hs.2.2.2, hR.1, hs.2.2.1])
  have hl : (.int .i64 m.1 :: .int .i64 m.2.1 :: .int .i64 m.2.2.1 :: (m.2.2.2.1.map (Value.int .i64) ++ [s])).length = 12 := by simp [hs.1]
  rw [hl] at h
  simp only [List.append_nil, List.cons_append, List.append_assoc, List.nil_append] at h
  exact h
theorem there_ms {g : Nat} {cs : Array Value} {t : TypeId} {w : World} (h : RowAt g cs t w) {o n : Nat} (hn : o + n ≤ cs.size) : w.there g o n := fun j hj => ⟨by rw [h.cell, Array.getElem?_eq_getElem (by omega)]; rfl, frozenW_of h _⟩
theorem two_boxes (w : World) (A B : Array Value) (s t : TypeId) : RowAt w.heap.size A s ((w.alloc (.cells A s)).alloc (.cells B t)) ∧ RowAt (w.heap.size + 1) B t ((w.alloc (.cells A s)).alloc (.cells B t)) ∧ Below w.heap.size w ((w.alloc (.cells A s)).alloc (.cells B t)) := by
  have h := RowAt.new (w.alloc (.cells A s)) B t
  rw [World.size_alloc] at h
  exact ⟨(RowAt.new w A s).alloc _, h, bgo (below_one w _) (below_one _ _)⟩
theorem row_kept1 {a g : Nat} {cs : Array Value} {t : TypeId} {w w' : World} (h : RowAt a cs t w) (k : Kept [g] w w') (hn : a ≠ g) : RowAt a cs t w' := h.kept k (by simpa using hn)
theorem below_kept1 {n g : Nat} {a w w' : World} (h : Below n a w) (k : Kept [g] w w') (hg : n ≤ g) (hw : n ≤ w.heap.size) : Below n a w' := h.trans (k.below (by simpa using hg) hw)

end Go.Proofs.YteffpnjgchihpaaGreatDoor
