/-
  barrowlaw03.ClockLists answers true.
-/
import Derived.Test.YtceahohcmhbkmaaDoorCkRefL
import Derived.Test.YtceahohcmhbkmaaDoorCkLaws
namespace Go.Proofs.YtceahohcmhbkmaaDoor
open Go.RowKit
set_option maxRecDepth 100000

/-- Does x cover all? Is it covered by all? -/
def allCov (x : List Int) (l : List (List Int)) : Bool := l.all fun y => cov x y
def covAll (x : List Int) (l : List (List Int)) : Bool := l.all fun y => cov y x
theorem allCov_next {x : List Int} {l : List (List Int)} {k : Nat} {y : List Int} (h : l[k]? = some y) : allCov x (l.take (k + 1)) = (allCov x (l.take k) && cov x y) := by
  unfold allCov; rw [List.take_add_one, h, List.all_append]; simp
theorem covAll_next {x : List Int} {l : List (List Int)} {k : Nat} {y : List Int} (h : l[k]? = some y) : covAll x (l.take (k + 1)) = (covAll x (l.take k) && cov y x) := by
  unfold covAll; rw [List.take_add_one, h, List.all_append]; simp
theorem fold_mrg {x : List Int} : ∀ {l : List (List Int)} {a : List Int}, a.length = 8 → (∀ y ∈ l, y.length = 8) → cov x (l.foldl mrg a) = (cov x a && allCov x l)
  | [], a, _, _ => by simp [allCov]
  | y :: l, a, ha, hl => by
    have hy := hl y (by simp)
    rw [List.foldl_cons, fold_mrg (mrg_len ha hy) (fun z hz => hl z (by simp [hz])), cov_of_mrg ha hy]
    simp [allCov, Bool.and_assoc]
theorem fold_mee {x : List Int} : ∀ {l : List (List Int)} {a : List Int}, a.length = 8 → (∀ y ∈ l, y.length = 8) → cov (l.foldl mee a) x = (cov a x && covAll x l)
  | [], a, _, _ => by simp [covAll]
  | y :: l, a, ha, hl => by
    have hy := hl y (by simp)
    rw [List.foldl_cons, fold_mee (mee_len ha hy) (fun z hz => hl z (by simp [hz])), mee_cov ha hy]
    simp [covAll, Bool.and_assoc]
theorem join_mrg {x : List Int} {l : List (List Int)} (h0 : 0 < l.length) (hl : ∀ y ∈ l, y.length = 8) : cov x (joinK mrg l) = allCov x l := by
  match l, h0 with
  | y :: l, _ =>
    rw [joinK, fold_mrg (hl y (by simp)) (fun z hz => hl z (by simp [hz]))]
    simp [allCov]
theorem join_mee {x : List Int} {l : List (List Int)} (h0 : 0 < l.length) (hl : ∀ y ∈ l, y.length = 8) : cov (joinK mee l) x = covAll x l := by
  match l, h0 with
  | y :: l, _ =>
    rw [joinK, fold_mee (hl y (by simp)) (fun z hz => hl z (by simp [hz]))]
    simp [covAll]
theorem top_cov {l : List (List Int)} {y : List Int} (hy : y ∈ l) (hl : ∀ y ∈ l, y.length = 8) : cov (joinK mrg l) y = true := by
  have h := join_mrg (x := joinK mrg l) (List.length_pos_of_mem hy) hl
  rw [cov_self] at h
  exact (List.all_eq_true.1 h.symm) y hy
theorem low_cov {l : List (List Int)} {y : List Int} (hy : y ∈ l) (hl : ∀ y ∈ l, y.length = 8) : cov y (joinK mee l) = true := by
  have h := join_mee (x := joinK mee l) (List.length_pos_of_mem hy) hl
  rw [cov_self] at h
  exact (List.all_eq_true.1 h.symm) y hy

set_option maxHeartbeats 4000000 in
theorem listsC_ok (l : List (List Int)) (x : List Int) (g o c : Nat) (w : World) (hx : x.length = 8) (h0 : 0 < l.length) (hc : l.length ≤ c) (hl : SlK w g o l) :
    Calls Tryd.prog 7 #[.slice (some ⟨g, o, none⟩) l.length c, .agg (cv x)] w fun e w' => e = .returned (.bool true) ∧ Below w.heap.size w w' := by
  have hmx := hl.1
  unfold maxLen at hmx
  have SV : Hid (∀ w', Below w.heap.size w w' → SlV w' (.slice (some ⟨g, o, none⟩) l.length c) l) := fun w' hb => .inr ⟨g, o, c, rfl, h0, hc, hl.later hb⟩
  have SK : Hid (∀ w', Below w.heap.size w w' → SlK w' g o l) := fun w' hb => hl.later hb
  have H8 : Hid (∀ y ∈ l, y.length = 8) := (SV.out w (Below.refl _ _)).all8
  obtain ⟨top, ht⟩ : ∃ t, joinK mrg l = t := ⟨_, rfl⟩
  obtain ⟨low, hw⟩ : ∃ t, joinK mee l = t := ⟨_, rfl⟩
  have htl : top.length = 8 := by rw [← ht]; exact joinK_len (fun a b => mrg_len) H8.out
  have hwl : low.length = 8 := by rw [← hw]; exact joinK_len (fun a b => mee_len) H8.out
  have FA : Hid (cov x top = allCov x l ∧ cov low x = covAll x l) := by rw [Hid, ← ht, ← hw]; exact ⟨join_mrg h0 H8.out, join_mee h0 H8.out⟩
  have FC : Hid (∀ y ∈ l, cov top y = true ∧ cov y low = true) := by rw [Hid, ← ht, ← hw]; exact fun y hy => ⟨top_cov hy H8.out, low_cov hy H8.out⟩
  have FM : Hid (∀ w', Below w.heap.size w w' → Calls Tryd.prog 29 #[.slice (some ⟨g, o, none⟩) l.length c] w' fun e w'' => e = .returned (.agg (cv top)) ∧ Below w'.heap.size w' w'') := fun w' hb => by have := most_any l _ w' (SV.out w' hb); rwa [ht] at this
  have FL : Hid (∀ w', Below w.heap.size w w' → Calls Tryd.prog 30 #[.slice (some ⟨g, o, none⟩) l.length c] w' fun e w'' => e = .returned (.agg (cv low)) ∧ Below w'.heap.size w' w'') := fun w' hb => by have := least_any l _ w' (SV.out w' hb); rwa [hw] at this
  have GM : Hid (∀ w', Below w.heap.size w w' → Calls Tryd.prog 31 #[.slice (some ⟨g, o, none⟩) l.length c] w' fun e w'' => e = .returned (.agg (cv top)) ∧ Below w'.heap.size w' w'') := fun w' hb => by have := refGreatest_v l _ w' (SV.out w' hb); rwa [ht] at this
  have GL : Hid (∀ w', Below w.heap.size w w' → Calls Tryd.prog 32 #[.slice (some ⟨g, o, none⟩) l.length c] w' fun e w'' => e = .returned (.agg (cv low)) ∧ Below w'.heap.size w' w'') := fun w' hb => by have := refLeast_v l _ w' (SV.out w' hb); rwa [hw] at this
  clear ht hw SV hl
  have hg := ck_guard
  have q1 := eqIn_ck top top htl htl
  have q2 := eqIn_ck low low hwl hwl
  have s1 : (top == top) = true := by simp
  have s2 : (low == low) = true := by simp
  have h3 := CkAt.new w hx
  have hB := below_one w (.cells (cv x) 23)
  go_enter Tryd.func7, Tryd.ntmps7
  go_upto_region 2 with (first | (go_at_call 29; refine (FM.out _ hB).mono ?_; rintro e w1 ⟨rfl, hb1⟩) | (go_at_call 30; refine (FL.out _ (bgo hB hb1)).mono ?_; rintro e w2 ⟨rfl, hb2⟩) | (refine wpL_store rfl _ _ rfl rfl rfl (start2 w2 (a := ck0) (b := ck0) rfl rfl).1 htl ?_) | (refine wpL_store rfl _ _ rfl rfl rfl ((start2 w2 (a := ck0) (b := ck0) rfl rfl).2.1.rowOther w2.heap.size (cv top) (by omega)) hwl ?_))
  obtain ⟨z1, z2, zB⟩ := start2 w2 (a := ck0) (b := ck0) rfl rfl
  have h5 := (z1.row htl).rowOther (w2.heap.size + 1) (cv low) (by omega)
  have h6 := (z2.rowOther w2.heap.size (cv top) (by omega)).row hwl
  have zB2 := below_row (below_row zB (g := w2.heap.size) (by omega) (cv top)) (g := w2.heap.size + 1) (by omega) (cv low)
  replace h3 := ((h3.later hb1).later hb2).later zB2
  replace hB := bgo (bgo (bgo hB hb1) hb2) zB2
  clear z1 z2 zB zB2 hb1 hb2
  simp only [Act.put]
  refine wp_region_cls (by kernel_rfl) (by kernel_rfl) ?_
  repeat (first | go_big_quiet_skip | (go_big_quiet_want; first | (refine quiet_load_ck _ rfl rfl (cls_ck h3) ?_; simp only [Act.put, List.setIfInBounds_toArray, List.set_cons_succ, List.set_cons_zero]; go_big_quiet_on) | (refine quiet_load_ck _ rfl rfl (cls_ck h5) ?_; simp only [Act.put, List.setIfInBounds_toArray, List.set_cons_succ, List.set_cons_zero]; go_big_quiet_on) | (refine quiet_load_ck _ rfl rfl (cls_ck h6) ?_; simp only [Act.put, List.setIfInBounds_toArray, List.set_cons_succ, List.set_cons_zero]; go_big_quiet_on) | (go_big_quiet_op; first | go_big_quiet_on | go_big_quiet_call ((first | (go_at_call 31; exact cls_of (GM.out _ (bgo hB (wOf_below _)))) | (go_at_call 32; exact cls_of (GL.out _ (bgo hB (wOf_below _)))))))))
  refine wpQuiet_nil ?_
  rintro w1 ⟨s1, e1⟩
  have hb1 := wOf_below s1
  rw [← e1] at hb1
  clear e1 s1
  replace h3 := h3.later hb1
  replace h5 := h5.later hb1
  replace h6 := h6.later hb1
  replace hB := bgo hB hb1
  clear hb1
  go_wp2
  go_loopw [7, 8, 9] (fun a b i wr => ∃ (k : Nat) (A B : Bool), i = .int .i64 (k : Int) ∧ a = .bool A ∧ b = .bool B ∧ allCov x (l.take k) = A ∧ covAll x (l.take k) = B ∧ k ≤ l.length ∧ CkAt w.heap.size x wr ∧ CkAt w2.heap.size top wr ∧ CkAt (w2.heap.size + 1) low wr ∧ Below w.heap.size w wr) (fun _ _ i _ => l.length - (intOf i).toNat)
  case atStart => exact ⟨0, true, true, rfl, rfl, rfl, rfl, rfl, by omega, h3, h5, h6, hB⟩
  case round =>
    clear h3 h5 h6 hB q1 q2 s1 s2
    obtain ⟨k, A, B, rfl, rfl, rfl, hA, hBb, hk, h3, h5, h6, hB⟩ := hrel
    by_cases hlt : k < l.length
    · have hki : (k : Int) < (l.length : Int) := by omega
      obtain ⟨y, hy⟩ : ∃ y, l[k]? = some y := ⟨_, List.getElem?_eq_getElem hlt⟩
      obtain ⟨hky, hcy⟩ := (SK.out _ hB).2 k y hy
      have hyl := hky.1
      obtain ⟨hty, hyw⟩ := FC.out y (List.mem_of_getElem? hy)
      have NA : Hid (allCov x (l.take (k + 1)) = (A && cov x y)) := by rw [Hid, allCov_next hy, hA]
      have NB : Hid (covAll x (l.take (k + 1)) = (B && cov y x)) := by rw [Hid, covAll_next hy, hBb]
      clear hy hA hBb hky
      cases A <;> cases B
      · skip
        go_upto_region 8 with fail
        refine wp_region_cls (by kernel_rfl) (by kernel_rfl) ?_
        repeat (first | go_big_quiet_skip | (go_big_quiet_want; first | (refine quiet_load_ck _ rfl rfl (cls_ck h3) ?_; simp only [Act.put, List.setIfInBounds_toArray, List.set_cons_succ, List.set_cons_zero]; go_big_quiet_on) | (refine quiet_load_ck _ rfl rfl (cls_ck h5) ?_; simp only [Act.put, List.setIfInBounds_toArray, List.set_cons_succ, List.set_cons_zero]; go_big_quiet_on) | (refine quiet_load_ck _ rfl rfl (cls_ck h6) ?_; simp only [Act.put, List.setIfInBounds_toArray, List.set_cons_succ, List.set_cons_zero]; go_big_quiet_on) | (refine quiet_load_in _ _ rfl rfl hcy.cls Tryd.underlying23 rfl (ck_size hyl) ?_; simp only [Act.put, List.setIfInBounds_toArray, List.set_cons_succ, List.set_cons_zero]; go_big_quiet_on) | (go_big_quiet_op; first | go_big_quiet_on | go_big_quiet_call ((go_at_call 9; first | with_reducible exact cls_of (covers_is hty _ htl hyl) | with_reducible exact cls_of (covers_is hyw _ hyl hwl))))))
        refine wpQuiet_nil ?_
        rintro w1 ⟨s1, e1⟩
        have hb1 := wOf_below s1
        rw [← e1] at hb1
        clear e1 s1
        replace h3 := h3.later hb1
        replace h5 := h5.later hb1
        replace h6 := h6.later hb1
        replace hcy := hcy.later hb1
        replace hB := bgo hB hb1
        clear hb1
        go_upto_region 10 with fail
        refine wp_region_cls (by kernel_rfl) (by kernel_rfl) ?_
        repeat (first | go_big_quiet_skip | (go_big_quiet_want; first | (refine quiet_load_ck _ rfl rfl (cls_ck h3) ?_; simp only [Act.put, List.setIfInBounds_toArray, List.set_cons_succ, List.set_cons_zero]; go_big_quiet_on) | (refine quiet_load_ck _ rfl rfl (cls_ck h5) ?_; simp only [Act.put, List.setIfInBounds_toArray, List.set_cons_succ, List.set_cons_zero]; go_big_quiet_on) | (refine quiet_load_ck _ rfl rfl (cls_ck h6) ?_; simp only [Act.put, List.setIfInBounds_toArray, List.set_cons_succ, List.set_cons_zero]; go_big_quiet_on) | (refine quiet_load_in _ _ rfl rfl hcy.cls Tryd.underlying23 rfl (ck_size hyl) ?_; simp only [Act.put, List.setIfInBounds_toArray, List.set_cons_succ, List.set_cons_zero]; go_big_quiet_on) | (go_big_quiet_op; first | go_big_quiet_on | go_big_quiet_call ((go_at_call 9; exact cls_of (covers_any _ _ _ hx hyl))))))
        refine wpQuiet_nil ?_
        rintro w1 ⟨s1, e1⟩
        have hb1 := wOf_below s1
        rw [← e1] at hb1
        clear e1 s1
        replace h3 := h3.later hb1
        replace h5 := h5.later hb1
        replace h6 := h6.later hb1
        replace hcy := hcy.later hb1
        replace hB := bgo hB hb1
        clear hb1
        go_upto_region 11 with fail
        refine wp_region_cls (by kernel_rfl) (by kernel_rfl) ?_
        repeat (first | go_big_quiet_skip | (go_big_quiet_want; first | (refine quiet_load_ck _ rfl rfl (cls_ck h3) ?_; simp only [Act.put, List.setIfInBounds_toArray, List.set_cons_succ, List.set_cons_zero]; go_big_quiet_on) | (refine quiet_load_ck _ rfl rfl (cls_ck h5) ?_; simp only [Act.put, List.setIfInBounds_toArray, List.set_cons_succ, List.set_cons_zero]; go_big_quiet_on) | (refine quiet_load_ck _ rfl rfl (cls_ck h6) ?_; simp only [Act.put, List.setIfInBounds_toArray, List.set_cons_succ, List.set_cons_zero]; go_big_quiet_on) | (refine quiet_load_in _ _ rfl rfl hcy.cls Tryd.underlying23 rfl (ck_size hyl) ?_; simp only [Act.put, List.setIfInBounds_toArray, List.set_cons_succ, List.set_cons_zero]; go_big_quiet_on) | (go_big_quiet_op; first | go_big_quiet_on | go_big_quiet_call ((go_at_call 9; exact cls_of (covers_any _ _ _ hyl hx))))))
        refine wpQuiet_nil ?_
        rintro w1 ⟨s1, e1⟩
        have hb1 := wOf_below s1
        rw [← e1] at hb1
        clear e1 s1
        replace h3 := h3.later hb1
        replace h5 := h5.later hb1
        replace h6 := h6.later hb1
        replace hcy := hcy.later hb1
        replace hB := bgo hB hb1
        clear hb1
        go_wp2
        go_roundw
        case rel => exact ⟨k + 1, _, _, by go_num, rfl, rfl, (by rw [NA.out]; rfl), (by rw [NB.out]; rfl), hlt, h3, h5, h6, hB⟩
        case measure => simp [intOf]; omega
      · skip
        go_upto_region 8 with fail
        refine wp_region_cls (by kernel_rfl) (by kernel_rfl) ?_
        repeat (first | go_big_quiet_skip | (go_big_quiet_want; first | (refine quiet_load_ck _ rfl rfl (cls_ck h3) ?_; simp only [Act.put, List.setIfInBounds_toArray, List.set_cons_succ, List.set_cons_zero]; go_big_quiet_on) | (refine quiet_load_ck _ rfl rfl (cls_ck h5) ?_; simp only [Act.put, List.setIfInBounds_toArray, List.set_cons_succ, List.set_cons_zero]; go_big_quiet_on) | (refine quiet_load_ck _ rfl rfl (cls_ck h6) ?_; simp only [Act.put, List.setIfInBounds_toArray, List.set_cons_succ, List.set_cons_zero]; go_big_quiet_on) | (refine quiet_load_in _ _ rfl rfl hcy.cls Tryd.underlying23 rfl (ck_size hyl) ?_; simp only [Act.put, List.setIfInBounds_toArray, List.set_cons_succ, List.set_cons_zero]; go_big_quiet_on) | (go_big_quiet_op; first | go_big_quiet_on | go_big_quiet_call ((go_at_call 9; first | with_reducible exact cls_of (covers_is hty _ htl hyl) | with_reducible exact cls_of (covers_is hyw _ hyl hwl))))))
        refine wpQuiet_nil ?_
        rintro w1 ⟨s1, e1⟩
        have hb1 := wOf_below s1
        rw [← e1] at hb1
        clear e1 s1
        replace h3 := h3.later hb1
        replace h5 := h5.later hb1
        replace h6 := h6.later hb1
        replace hcy := hcy.later hb1
        replace hB := bgo hB hb1
        clear hb1
        go_upto_region 10 with fail
        refine wp_region_cls (by kernel_rfl) (by kernel_rfl) ?_
        repeat (first | go_big_quiet_skip | (go_big_quiet_want; first | (refine quiet_load_ck _ rfl rfl (cls_ck h3) ?_; simp only [Act.put, List.setIfInBounds_toArray, List.set_cons_succ, List.set_cons_zero]; go_big_quiet_on) | (refine quiet_load_ck _ rfl rfl (cls_ck h5) ?_; simp only [Act.put, List.setIfInBounds_toArray, List.set_cons_succ, List.set_cons_zero]; go_big_quiet_on) | (refine quiet_load_ck _ rfl rfl (cls_ck h6) ?_; simp only [Act.put, List.setIfInBounds_toArray, List.set_cons_succ, List.set_cons_zero]; go_big_quiet_on) | (refine quiet_load_in _ _ rfl rfl hcy.cls Tryd.underlying23 rfl (ck_size hyl) ?_; simp only [Act.put, List.setIfInBounds_toArray, List.set_cons_succ, List.set_cons_zero]; go_big_quiet_on) | (go_big_quiet_op; first | go_big_quiet_on | go_big_quiet_call ((go_at_call 9; exact cls_of (covers_any _ _ _ hx hyl))))))
        refine wpQuiet_nil ?_
        rintro w1 ⟨s1, e1⟩
        have hb1 := wOf_below s1
        rw [← e1] at hb1
        clear e1 s1
        replace h3 := h3.later hb1
        replace h5 := h5.later hb1
        replace h6 := h6.later hb1
        replace hcy := hcy.later hb1
        replace hB := bgo hB hb1
        clear hb1
        go_upto_region 11 with fail
        refine wp_region_cls (by kernel_rfl) (by kernel_rfl) ?_
        repeat (first | go_big_quiet_skip | (go_big_quiet_want; first | (refine quiet_load_ck _ rfl rfl (cls_ck h3) ?_; simp only [Act.put, List.setIfInBounds_toArray, List.set_cons_succ, List.set_cons_zero]; go_big_quiet_on) | (refine quiet_load_ck _ rfl rfl (cls_ck h5) ?_; simp only [Act.put, List.setIfInBounds_toArray, List.set_cons_succ, List.set_cons_zero]; go_big_quiet_on) | (refine quiet_load_ck _ rfl rfl (cls_ck h6) ?_; simp only [Act.put, List.setIfInBounds_toArray, List.set_cons_succ, List.set_cons_zero]; go_big_quiet_on) | (refine quiet_load_in _ _ rfl rfl hcy.cls Tryd.underlying23 rfl (ck_size hyl) ?_; simp only [Act.put, List.setIfInBounds_toArray, List.set_cons_succ, List.set_cons_zero]; go_big_quiet_on) | (go_big_quiet_op; first | go_big_quiet_on | go_big_quiet_call ((go_at_call 9; exact cls_of (covers_any _ _ _ hyl hx))))))
        refine wpQuiet_nil ?_
        rintro w1 ⟨s1, e1⟩
        have hb1 := wOf_below s1
        rw [← e1] at hb1
        clear e1 s1
        replace h3 := h3.later hb1
        replace h5 := h5.later hb1
        replace h6 := h6.later hb1
        replace hcy := hcy.later hb1
        replace hB := bgo hB hb1
        clear hb1
        go_wp2
        go_roundw
        case rel => exact ⟨k + 1, _, _, by go_num, rfl, rfl, (by rw [NA.out]; rfl), (by rw [NB.out]; exact Bool.true_and _), hlt, h3, h5, h6, hB⟩
        case measure => simp [intOf]; omega
      · skip
        go_upto_region 8 with fail
        refine wp_region_cls (by kernel_rfl) (by kernel_rfl) ?_
        repeat (first | go_big_quiet_skip | (go_big_quiet_want; first | (refine quiet_load_ck _ rfl rfl (cls_ck h3) ?_; simp only [Act.put, List.setIfInBounds_toArray, List.set_cons_succ, List.set_cons_zero]; go_big_quiet_on) | (refine quiet_load_ck _ rfl rfl (cls_ck h5) ?_; simp only [Act.put, List.setIfInBounds_toArray, List.set_cons_succ, List.set_cons_zero]; go_big_quiet_on) | (refine quiet_load_ck _ rfl rfl (cls_ck h6) ?_; simp only [Act.put, List.setIfInBounds_toArray, List.set_cons_succ, List.set_cons_zero]; go_big_quiet_on) | (refine quiet_load_in _ _ rfl rfl hcy.cls Tryd.underlying23 rfl (ck_size hyl) ?_; simp only [Act.put, List.setIfInBounds_toArray, List.set_cons_succ, List.set_cons_zero]; go_big_quiet_on) | (go_big_quiet_op; first | go_big_quiet_on | go_big_quiet_call ((go_at_call 9; first | with_reducible exact cls_of (covers_is hty _ htl hyl) | with_reducible exact cls_of (covers_is hyw _ hyl hwl))))))
        refine wpQuiet_nil ?_
        rintro w1 ⟨s1, e1⟩
        have hb1 := wOf_below s1
        rw [← e1] at hb1
        clear e1 s1
        replace h3 := h3.later hb1
        replace h5 := h5.later hb1
        replace h6 := h6.later hb1
        replace hcy := hcy.later hb1
        replace hB := bgo hB hb1
        clear hb1
        go_upto_region 10 with fail
        refine wp_region_cls (by kernel_rfl) (by kernel_rfl) ?_
        repeat (first | go_big_quiet_skip | (go_big_quiet_want; first | (refine quiet_load_ck _ rfl rfl (cls_ck h3) ?_; simp only [Act.put, List.setIfInBounds_toArray, List.set_cons_succ, List.set_cons_zero]; go_big_quiet_on) | (refine quiet_load_ck _ rfl rfl (cls_ck h5) ?_; simp only [Act.put, List.setIfInBounds_toArray, List.set_cons_succ, List.set_cons_zero]; go_big_quiet_on) | (refine quiet_load_ck _ rfl rfl (cls_ck h6) ?_; simp only [Act.put, List.setIfInBounds_toArray, List.set_cons_succ, List.set_cons_zero]; go_big_quiet_on) | (refine quiet_load_in _ _ rfl rfl hcy.cls Tryd.underlying23 rfl (ck_size hyl) ?_; simp only [Act.put, List.setIfInBounds_toArray, List.set_cons_succ, List.set_cons_zero]; go_big_quiet_on) | (go_big_quiet_op; first | go_big_quiet_on | go_big_quiet_call ((go_at_call 9; exact cls_of (covers_any _ _ _ hx hyl))))))
        refine wpQuiet_nil ?_
        rintro w1 ⟨s1, e1⟩
        have hb1 := wOf_below s1
        rw [← e1] at hb1
        clear e1 s1
        replace h3 := h3.later hb1
        replace h5 := h5.later hb1
        replace h6 := h6.later hb1
        replace hcy := hcy.later hb1
        replace hB := bgo hB hb1
        clear hb1
        go_upto_region 11 with fail
        refine wp_region_cls (by kernel_rfl) (by kernel_rfl) ?_
        repeat (first | go_big_quiet_skip | (go_big_quiet_want; first | (refine quiet_load_ck _ rfl rfl (cls_ck h3) ?_; simp only [Act.put, List.setIfInBounds_toArray, List.set_cons_succ, List.set_cons_zero]; go_big_quiet_on) | (refine quiet_load_ck _ rfl rfl (cls_ck h5) ?_; simp only [Act.put, List.setIfInBounds_toArray, List.set_cons_succ, List.set_cons_zero]; go_big_quiet_on) | (refine quiet_load_ck _ rfl rfl (cls_ck h6) ?_; simp only [Act.put, List.setIfInBounds_toArray, List.set_cons_succ, List.set_cons_zero]; go_big_quiet_on) | (refine quiet_load_in _ _ rfl rfl hcy.cls Tryd.underlying23 rfl (ck_size hyl) ?_; simp only [Act.put, List.setIfInBounds_toArray, List.set_cons_succ, List.set_cons_zero]; go_big_quiet_on) | (go_big_quiet_op; first | go_big_quiet_on | go_big_quiet_call ((go_at_call 9; exact cls_of (covers_any _ _ _ hyl hx))))))
        refine wpQuiet_nil ?_
        rintro w1 ⟨s1, e1⟩
        have hb1 := wOf_below s1
        rw [← e1] at hb1
        clear e1 s1
        replace h3 := h3.later hb1
        replace h5 := h5.later hb1
        replace h6 := h6.later hb1
        replace hcy := hcy.later hb1
        replace hB := bgo hB hb1
        clear hb1
        go_wp2
        go_roundw
        case rel => exact ⟨k + 1, _, _, by go_num, rfl, rfl, (by rw [NA.out]; exact Bool.true_and _), (by rw [NB.out]; rfl), hlt, h3, h5, h6, hB⟩
        case measure => simp [intOf]; omega
      · skip
        go_upto_region 8 with fail
        refine wp_region_cls (by kernel_rfl) (by kernel_rfl) ?_
        repeat (first | go_big_quiet_skip | (go_big_quiet_want; first | (refine quiet_load_ck _ rfl rfl (cls_ck h3) ?_; simp only [Act.put, List.setIfInBounds_toArray, List.set_cons_succ, List.set_cons_zero]; go_big_quiet_on) | (refine quiet_load_ck _ rfl rfl (cls_ck h5) ?_; simp only [Act.put, List.setIfInBounds_toArray, List.set_cons_succ, List.set_cons_zero]; go_big_quiet_on) | (refine quiet_load_ck _ rfl rfl (cls_ck h6) ?_; simp only [Act.put, List.setIfInBounds_toArray, List.set_cons_succ, List.set_cons_zero]; go_big_quiet_on) | (refine quiet_load_in _ _ rfl rfl hcy.cls Tryd.underlying23 rfl (ck_size hyl) ?_; simp only [Act.put, List.setIfInBounds_toArray, List.set_cons_succ, List.set_cons_zero]; go_big_quiet_on) | (go_big_quiet_op; first | go_big_quiet_on | go_big_quiet_call ((go_at_call 9; first | with_reducible exact cls_of (covers_is hty _ htl hyl) | with_reducible exact cls_of (covers_is hyw _ hyl hwl))))))
        refine wpQuiet_nil ?_
        rintro w1 ⟨s1, e1⟩
        have hb1 := wOf_below s1
        rw [← e1] at hb1
        clear e1 s1
        replace h3 := h3.later hb1
        replace h5 := h5.later hb1
        replace h6 := h6.later hb1
        replace hcy := hcy.later hb1
        replace hB := bgo hB hb1
        clear hb1
        go_upto_region 10 with fail
        refine wp_region_cls (by kernel_rfl) (by kernel_rfl) ?_
        repeat (first | go_big_quiet_skip | (go_big_quiet_want; first | (refine quiet_load_ck _ rfl rfl (cls_ck h3) ?_; simp only [Act.put, List.setIfInBounds_toArray, List.set_cons_succ, List.set_cons_zero]; go_big_quiet_on) | (refine quiet_load_ck _ rfl rfl (cls_ck h5) ?_; simp only [Act.put, List.setIfInBounds_toArray, List.set_cons_succ, List.set_cons_zero]; go_big_quiet_on) | (refine quiet_load_ck _ rfl rfl (cls_ck h6) ?_; simp only [Act.put, List.setIfInBounds_toArray, List.set_cons_succ, List.set_cons_zero]; go_big_quiet_on) | (refine quiet_load_in _ _ rfl rfl hcy.cls Tryd.underlying23 rfl (ck_size hyl) ?_; simp only [Act.put, List.setIfInBounds_toArray, List.set_cons_succ, List.set_cons_zero]; go_big_quiet_on) | (go_big_quiet_op; first | go_big_quiet_on | go_big_quiet_call ((go_at_call 9; exact cls_of (covers_any _ _ _ hx hyl))))))
        refine wpQuiet_nil ?_
        rintro w1 ⟨s1, e1⟩
        have hb1 := wOf_below s1
        rw [← e1] at hb1
        clear e1 s1
        replace h3 := h3.later hb1
        replace h5 := h5.later hb1
        replace h6 := h6.later hb1
        replace hcy := hcy.later hb1
        replace hB := bgo hB hb1
        clear hb1
        go_upto_region 11 with fail
        refine wp_region_cls (by kernel_rfl) (by kernel_rfl) ?_
        repeat (first | go_big_quiet_skip | (go_big_quiet_want; first | (refine quiet_load_ck _ rfl rfl (cls_ck h3) ?_; simp only [Act.put, List.setIfInBounds_toArray, List.set_cons_succ, List.set_cons_zero]; go_big_quiet_on) | (refine quiet_load_ck _ rfl rfl (cls_ck h5) ?_; simp only [Act.put, List.setIfInBounds_toArray, List.set_cons_succ, List.set_cons_zero]; go_big_quiet_on) | (refine quiet_load_ck _ rfl rfl (cls_ck h6) ?_; simp only [Act.put, List.setIfInBounds_toArray, List.set_cons_succ, List.set_cons_zero]; go_big_quiet_on) | (refine quiet_load_in _ _ rfl rfl hcy.cls Tryd.underlying23 rfl (ck_size hyl) ?_; simp only [Act.put, List.setIfInBounds_toArray, List.set_cons_succ, List.set_cons_zero]; go_big_quiet_on) | (go_big_quiet_op; first | go_big_quiet_on | go_big_quiet_call ((go_at_call 9; exact cls_of (covers_any _ _ _ hyl hx))))))
        refine wpQuiet_nil ?_
        rintro w1 ⟨s1, e1⟩
        have hb1 := wOf_below s1
        rw [← e1] at hb1
        clear e1 s1
        replace h3 := h3.later hb1
        replace h5 := h5.later hb1
        replace h6 := h6.later hb1
        replace hcy := hcy.later hb1
        replace hB := bgo hB hb1
        clear hb1
        go_wp2
        go_roundw
        case rel => exact ⟨k + 1, _, _, by go_num, rfl, rfl, (by rw [NA.out]; exact Bool.true_and _), (by rw [NB.out]; exact Bool.true_and _), hlt, h3, h5, h6, hB⟩
        case measure => simp [intOf]; omega
    · have hki : ¬ (k : Int) < (l.length : Int) := by omega
      have hkl : k = l.length := by omega
      rw [hkl, List.take_length] at hA hBb
      have FA' : Hid (cov x top = A ∧ cov low x = B) := ⟨FA.out.1.trans hA, FA.out.2.trans hBb⟩
      have h0i : (0 : Int) < (l.length : Int) := by omega
      clear hA hBb hkl FA
      go_upto_region 12 with fail
      refine wp_region_cls0 ?_
      repeat (first | go_big_quiet_skip | (go_big_quiet_want; first | (refine quiet_load_ck _ rfl rfl (cls_ck h3) ?_; simp only [Act.put, List.setIfInBounds_toArray, List.set_cons_succ, List.set_cons_zero]; go_big_quiet_on) | (refine quiet_load_ck _ rfl rfl (cls_ck h5) ?_; simp only [Act.put, List.setIfInBounds_toArray, List.set_cons_succ, List.set_cons_zero]; go_big_quiet_on) | (refine quiet_load_ck _ rfl rfl (cls_ck h6) ?_; simp only [Act.put, List.setIfInBounds_toArray, List.set_cons_succ, List.set_cons_zero]; go_big_quiet_on) | (go_big_quiet_op; first | go_big_quiet_on | go_big_quiet_call ((first | (go_at_call_of 9 (Value.agg (cv x)); exact cls_of (covers_is FA'.out.1 _ hx htl)) | (go_at_call_of 9 (Value.agg (cv low)); exact cls_of (covers_is FA'.out.2 _ hwl hx)))))))
      refine wpQuiet_nil ?_
      rintro w1 ⟨s1, e1⟩
      have hb1 := wOf_below s1
      rw [← e1] at hb1
      clear e1 s1
      replace h3 := h3.later hb1
      replace h5 := h5.later hb1
      replace h6 := h6.later hb1
      replace hB := bgo hB hb1
      clear hb1
      go_wp2_with (go_at_call 17; refine (wakesC_ok _).mono ?_; rintro e w3 ⟨rfl, hb3⟩)
      go_ret
      exact ⟨rfl, bgo hB hb3⟩
end Go.Proofs.YtceahohcmhbkmaaDoor
