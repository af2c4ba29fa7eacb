
/-
  Are all acts right, are all rounds?
-/
import Derived.Test.YtildmcmjpmidgaaDoorPkR2
namespace Go.Proofs.YtildmcmjpmidgaaDoor
open Go.RowKit
set_option maxRecDepth 100000

def actB (a : Pac) : Bool := opB a.1 && decide (1 ≤ a.2.1) && rowB mx63 a.2.2
/-- An act that an argument can hold. -/
def fitA (a : Pac) : Prop := shA a ∧ fitC a.1.2.2.2

set_option maxHeartbeats 2000000 in
theorem areRight_any (l : List Pac) (v : Value) (w : World) (hS : SlA w v l) (hf : ∀ a ∈ l, fitA a) (hlen : l.length ≤ 1000000) :
    Calls Tryd.prog 23 #[v] w fun e w' => e = .returned (.bool (l.all actB)) ∧ Below w.heap.size w w' := by
  rcases hS with ⟨rfl, a0, c, rfl⟩ | ⟨g, o_, c, rfl, hA⟩
  · go_enter Tryd.func23, Tryd.ntmps23
    go_wp2
    refine wp_loop_rounds 1 ?_
    rw [rounds_succ]
    go_wp2
    go_ret
    exact ⟨rfl, Below.refl _ _⟩
  · have HA := hid_of' (And.intro hA hf)
    clear hA hf
    obtain ⟨n, hn⟩ : ∃ n, l.length = n := ⟨_, rfl⟩
    rw [hn] at hlen ⊢
    have HN := hid_of' hn
    clear hn
    go_enter Tryd.func23, Tryd.ntmps23
    go_wp2
    go_loopw [7] (fun i wr => ∃ k : Nat, i = .int .i64 (k : Int) ∧ k ≤ n ∧ Below w.heap.size w wr ∧ Hid ((l.take k).all actB = true)) (fun i _ => n - (intOf i).toNat)
    case atStart => exact ⟨0, rfl, by omega, Below.refl _ _, rfl⟩
    case round =>
      obtain ⟨k, rfl, hk, hB, ha⟩ := hrel
      by_cases hkn : k < n
      · have hkl : k < l.length := by rw [HN.out]; exact hkn
        obtain ⟨a, hx⟩ : ∃ a, l[k]? = some a := ⟨_, List.getElem?_eq_getElem hkl⟩
        have HX := hid_of' hx
        have hfa := HA.out.2 a (List.mem_of_getElem? hx)
        have hc := (HA.out.1.2 k a hx).later hB
        clear hx hkl
        have hki : (k : Int) < (n : Int) := by omega
        have hw1 : wrap64 ((k : Int) + 1) = (k : Int) + 1 := by unfold wrap64; omega
        have h1 := RowAt.new wr (acv a) 65
        have h2 := h1.in.sub (ds := opv a.1) 0 (acv_op a)
        have h3 := h1.in.sub (ds := cv a.2.2) 5 (acv_ck a)
        rw [Nat.zero_add] at h2 h3
        go_upto_region 4 with (first | (refine ld_act hfa.1 rfl _ rfl rfl hc ?_) | (refine wpL_stNew rfl _ _ _ rfl rfl rfl rfl (acv_size hfa.1) (by rw [acv_sz hfa.1]; rfl) (acv_one a) ?_))
        simp only [Act.put]
        replace hB := bgo hB (below_one wr (.cells (acv a) 65))
        have d0 := h1.cls 4 _ (acv_num a)
        cases g0 : opB a.1
        · skip
          refine wp_region_cls0 ?_
          repeat (first | go_big_quiet_skip | (go_big_quiet_want; first | (refine quiet_op _ rfl rfl h2.cls ?_; simp only [Act.put, List.setIfInBounds_toArray, List.set_cons_succ, List.set_cons_zero]; go_big_quiet_on) | (refine quiet_ck hfa.1 _ rfl rfl h3.cls ?_; simp only [Act.put, List.setIfInBounds_toArray, List.set_cons_succ, List.set_cons_zero]; go_big_quiet_on) | (go_big_quiet_op; first | go_big_quiet_on | go_big_quiet_call ((first | (go_at_call 40; exact cls_of (isOp_is g0 _ hfa.2)) | (go_at_call 24; exact cls_of (isRow_is g2 _ hfa.1)))))))
          refine wpQuiet_nil ?_
          rintro w1 ⟨s1, e1⟩
          have hb1 := wOf_below s1
          rw [← e1] at hb1
          clear e1 s1
          replace hB := bgo hB hb1
          clear hb1
          go_wp2
          go_ret
          exact ⟨by rw [show l.all actB = false from all_not HX.out (by unfold actB; simp [g0])]; rfl, hB⟩
        · by_cases g1 : a.2.1 < 1
          · skip
            refine wp_region_cls0 ?_
            repeat (first | go_big_quiet_skip | (go_big_quiet_want; first | (refine quiet_op _ rfl rfl h2.cls ?_; simp only [Act.put, List.setIfInBounds_toArray, List.set_cons_succ, List.set_cons_zero]; go_big_quiet_on) | (refine quiet_ck hfa.1 _ rfl rfl h3.cls ?_; simp only [Act.put, List.setIfInBounds_toArray, List.set_cons_succ, List.set_cons_zero]; go_big_quiet_on) | (go_big_quiet_op; first | go_big_quiet_on | go_big_quiet_call ((first | (go_at_call 40; exact cls_of (isOp_is g0 _ hfa.2)) | (go_at_call 24; exact cls_of (isRow_is g2 _ hfa.1)))))))
            refine wpQuiet_nil ?_
            rintro w1 ⟨s1, e1⟩
            have hb1 := wOf_below s1
            rw [← e1] at hb1
            clear e1 s1
            replace hB := bgo hB hb1
            clear hb1
            go_wp2
            go_ret
            exact ⟨by rw [show l.all actB = false from all_not HX.out (by unfold actB; simp [g0]; omega)]; rfl, hB⟩
          · have g1' : ¬ a.2.1 < 1 := g1
            cases g2 : rowB mx63 a.2.2
            · skip
              refine wp_region_cls0 ?_
              repeat (first | go_big_quiet_skip | (go_big_quiet_want; first | (refine quiet_op _ rfl rfl h2.cls ?_; simp only [Act.put, List.setIfInBounds_toArray, List.set_cons_succ, List.set_cons_zero]; go_big_quiet_on) | (refine quiet_ck hfa.1 _ rfl rfl h3.cls ?_; simp only [Act.put, List.setIfInBounds_toArray, List.set_cons_succ, List.set_cons_zero]; go_big_quiet_on) | (go_big_quiet_op; first | go_big_quiet_on | go_big_quiet_call ((first | (go_at_call 40; exact cls_of (isOp_is g0 _ hfa.2)) | (go_at_call 24; exact cls_of (isRow_is g2 _ hfa.1)))))))
              refine wpQuiet_nil ?_
              rintro w1 ⟨s1, e1⟩
              have hb1 := wOf_below s1
              rw [← e1] at hb1
              clear e1 s1
              replace hB := bgo hB hb1
              clear hb1
              go_wp2
              go_ret
              exact ⟨by rw [show l.all actB = false from all_not HX.out (by unfold actB; simp [g0, g1, g2])]; rfl, hB⟩
            · skip
              refine wp_region_cls0 ?_
              repeat (first | go_big_quiet_skip | (go_big_quiet_want; first | (refine quiet_op _ rfl rfl h2.cls ?_; simp only [Act.put, List.setIfInBounds_toArray, List.set_cons_succ, List.set_cons_zero]; go_big_quiet_on) | (refine quiet_ck hfa.1 _ rfl rfl h3.cls ?_; simp only [Act.put, List.setIfInBounds_toArray, List.set_cons_succ, List.set_cons_zero]; go_big_quiet_on) | (go_big_quiet_op; first | go_big_quiet_on | go_big_quiet_call ((first | (go_at_call 40; exact cls_of (isOp_is g0 _ hfa.2)) | (go_at_call 24; exact cls_of (isRow_is g2 _ hfa.1)))))))
              refine wpQuiet_nil ?_
              rintro w1 ⟨s1, e1⟩
              have hb1 := wOf_below s1
              rw [← e1] at hb1
              clear e1 s1
              replace hB := bgo hB hb1
              clear hb1
              go_wp2
              go_roundw
              case rel => exact ⟨k + 1, by go_num, by omega, hB, all_take_step HX.out ha.out (by unfold actB; simp [g0, g2]; omega)⟩
              case measure => simp [intOf]; omega
      · have hki : ¬ (k : Int) < (n : Int) := by omega
        go_wp2
        go_ret
        exact ⟨by rw [show l.all actB = true from by have := ha.out; rwa [List.take_of_length_le (by rw [HN.out]; omega)] at this]; rfl, hB⟩
theorem areRight_is {l : List Pac} {b : Bool} (h : l.all actB = b) (v : Value) (w : World) (hS : SlA w v l) (hf : ∀ a ∈ l, fitA a) (hlen : l.length ≤ 1000000) :
    Calls Tryd.prog 23 #[v] w fun e w' => e = .returned (.bool b) ∧ Below w.heap.size w w' := h ▸ areRight_any l v w hS hf hlen

set_option maxHeartbeats 2000000 in
theorem areRounds_any (l : List Prn) (w : World) (hs : shRs l) :
    Calls Tryd.prog 25 #[.agg (rsv l)] w fun e w' => e = .returned (.bool (l.all rndB)) ∧ Below w.heap.size w w' := by
  have h1 := (RowAt.new w (rsv l) 28).in
  have hB0 := below_one w (.cells (rsv l) 28)
  go_enter Tryd.func25, Tryd.ntmps25
  go_wp2_with (refine ld_rnds hs rfl _ rfl rfl h1 ?_)
  go_loopw [6] (fun i wr => ∃ k : Nat, i = .int .i64 (k : Int) ∧ k ≤ 8 ∧ Below w.heap.size w wr ∧ Hid ((l.take k).all rndB = true)) (fun i _ => 8 - (intOf i).toNat)
  case atStart => exact ⟨0, rfl, by decide, hB0, rfl⟩
  case round =>
    obtain ⟨k, rfl, hk, hB, ha⟩ := hrel
    by_cases hk8 : k < 8
    · obtain ⟨r, hx⟩ : ∃ r, l[k]? = some r := ⟨_, List.getElem?_eq_getElem (by rw [hs.1]; exact hk8)⟩
      have HX := hid_of' hx
      have hr := hs.2 r (List.mem_of_getElem? hx)
      have c1 := fun w => idx_rnd hs hx w
      clear hx
      have hki : (k : Int) < 8 := by omega
      have h2 := (RowAt.new wr (rnv r) 26).in
      replace hB := bgo hB (below_one wr (.cells (rnv r) 26))
      cases g : rndB r
      · go_wp2_with (first | (refine wpL_stNew rfl _ _ _ rfl rfl rfl rfl (rnv_size hr) (by rw [rnv_sz hr]; rfl) (rnv_one r) ?_) | (refine ld_rnd hr rfl _ rfl rfl h2 ?_) | (go_at_call 41; refine (isRound_is g _ hr).mono ?_; rintro e w1 ⟨rfl, hb1⟩))
        go_ret
        exact ⟨by rw [show l.all rndB = false from all_not HX.out g]; rfl, bgo hB hb1⟩
      · go_wp2_with (first | (refine wpL_stNew rfl _ _ _ rfl rfl rfl rfl (rnv_size hr) (by rw [rnv_sz hr]; rfl) (rnv_one r) ?_) | (refine ld_rnd hr rfl _ rfl rfl h2 ?_) | (go_at_call 41; refine (isRound_is g _ hr).mono ?_; rintro e w1 ⟨rfl, hb1⟩))
        go_roundw
        case rel => exact ⟨k + 1, by go_num, by omega, bgo hB hb1, all_take_step HX.out ha.out g⟩
        case measure => simp [intOf]; omega
    · have hki : ¬ (k : Int) < 8 := by omega
      go_wp2
      go_ret
      exact ⟨by rw [show l.all rndB = true from by have := ha.out; rwa [List.take_of_length_le (by rw [hs.1]; omega)] at this]; rfl, hB⟩
theorem areRounds_is {l : List Prn} {b : Bool} (h : l.all rndB = b) (w : World) (hs : shRs l) :
    Calls Tryd.prog 25 #[.agg (rsv l)] w fun e w' => e = .returned (.bool b) ∧ Below w.heap.size w w' := h ▸ areRounds_any l w hs
end Go.Proofs.YtildmcmjpmidgaaDoor
