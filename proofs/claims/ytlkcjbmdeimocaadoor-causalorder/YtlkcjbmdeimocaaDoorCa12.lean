
/-
  The document's Missing.
-/
import Derived.Test.YtlkcjbmdeimocaaDoorCa11
namespace Go.Proofs.YtlkcjbmdeimocaaDoor
open Go.RowKit Go.Maps
set_option maxRecDepth 100000

set_option maxHeartbeats 4000000 in
theorem refMissing_any {w : World} {v : Value} {l : List Ac} (hl : SlC w v l) (hf : AFit l) {h : List Int} (ha : Ck h) (most : Int) (hn : l.length ≤ 1000) :
    Calls Tryd.prog 20 #[v, .agg (cv h), .int .i64 most] w (MisQ h most l w) := by
  obtain ⟨a9, c9, rfl⟩ := hl.form
  have hB0 := below_one w (.cells (cv h) 44)
  have H := hid_of' (And.intro (CkAt.new w ha.1) (And.intro (hl.later hB0) (And.intro hf hB0)))
  clear hl hf hB0
  go_enter Tryd.func20, Tryd.ntmps20
  go_upto_region 1 with fail
  generalize w.alloc (.cells (cv h) 44) = W at H ⊢
  go_wp2
  go_loopw [7, 8] (fun s i wr => ∃ (k : Nat) (acc : List Ac), i = .int .i64 (k : Int) ∧ k ≤ l.length ∧ OwnA s acc wr ∧ NewB W s ∧ Below W.heap.size W wr ∧ misC h most acc (l.drop k) = misC h most [] l ∧ acc.length ≤ k) (fun _ i _ => l.length - (intOf i).toNat)
  case atStart => exact ⟨0, [], rfl, by omega, OwnA.nil _, newB_nil _, Below.refl _ _, rfl, by simp⟩
  case round =>
    rename World => wr
    obtain ⟨k, acc, rfl, hk, hown, hnew, hB, hm, hak⟩ := hrel
    have hs0 := H.out.2.2.2.size
    have hNB : NewB w u7 := fun j hj => Nat.le_trans hs0 (hnew j hj)
    obtain ⟨ua, uc, hu7, _, _⟩ := hown.form
    subst hu7
    by_cases hlt : k < l.length
    · have hki : (k : Int) < (l.length : Int) := by omega
      by_cases hfull : most ≤ (acc.length : Int)
      · have hm0 : acc = misC h most [] l := by rw [← hm, misC_full hfull]
        have HZ := hid_of' (And.intro hown (And.intro hNB (And.intro (bgo H.out.2.2.2 hB) hm0)))
        clear hown hnew hB hm hNB hm0
        go_wp2
        go_ret
        exact ⟨_, rfl, by rw [← HZ.out.2.2.2]; exact HZ.out.1, HZ.out.2.1, HZ.out.2.2.1⟩
      · obtain ⟨x, hx⟩ : ∃ x, l[k]? = some x := ⟨_, List.getElem?_eq_getElem hlt⟩
        have hxf := H.out.2.2.1.at hx
        obtain ⟨g, o, c2, hv, _⟩ := H.out.2.1.pos (by omega)
        simp only [Value.slice.injEq, true_and] at hv
        obtain ⟨rfl, rfl⟩ := hv
        have hin := (H.out.2.1.in H.out.2.2.1 hx).later hB
        have h1 := H.out.1.later hB
        rw [drop_at hx, misC, if_neg hfull] at hm
        have hI9 := hown
        have hnf : (acc.length : Int) < most := by omega
        cases hha : hasA h x
        · rw [if_neg (by rw [hha]; decide)] at hm
          have hcc : hasC h x.rep x.num = false := hha
          have HM := hid_of' (And.intro hm hnew)
          have hln : acc.length + [x].length ≤ 1000000 := by simp; omega
          clear hm hnew hNB hha hown
          have hBB := hB
          go_upto_region 5 with fail
          have c3 : ∀ s : Wld wr, (wOf s).cell? ⟨g, o + k * 13 + 3, none⟩ = some (.int .i64 x.rep) := fun s => (hin.later (wOf_below s)).2 3 _ (acv_rep x)
          have c4 : ∀ s : Wld wr, (wOf s).cell? ⟨g, o + k * 13 + 4, none⟩ = some (.int .i64 x.num) := fun s => (hin.later (wOf_below s)).2 4 _ (acv_num x)
          replace hB := Below.refl wr.heap.size wr
          refine wp_region_cls (by kernel_rfl) (by kernel_rfl) ?_
          repeat (first | go_big_quiet_skip | (go_big_quiet_want; first | (refine quiet_load_ck _ rfl rfl (cls_ck h1) ?_; simp only [Act.put, List.setIfInBounds_toArray, List.set_cons_succ, List.set_cons_zero]; go_big_quiet_on) | (go_big_quiet_op; first | go_big_quiet_on | go_big_quiet_call ((go_at_call 45; exact cls_of (refHas_is hcc _ ha.1))))))
          refine wpQuiet_nil ?_
          rintro w1 ⟨s1, e1⟩
          have hb1 := wOf_below s1
          rw [← e1] at hb1
          clear e1 s1
          replace h1 := h1.later hb1
          replace hin := hin.later hb1
          replace hI9 := hI9.later hb1
          replace hB := bgo hB hb1
          clear hb1
          clear c3 c4
          go_upto_region 4 with (first | (refine wpL_loadA rfl _ rfl rfl hxf hin ?_) | (refine wpList_plain rfl fun _ hK => opw_oneA (p := x) _ rfl rfl hxf ?_; refine hK _ _ ?_) | (at_builtin; refine wpL_appA rfl _ _ rfl rfl rfl (hI9.later (below_one w1 (.cells (acv x) 48))) (slC_new w1 x 1) (AFit.one hxf) hln ?_; intro v5 w5 q1 q2 q3))
          have hB3 := bgo (bgo hBB hB) (below_one w1 (.cells (acv x) 48))
          have hs3 := hB3.size
          have HZ := hid_of' (And.intro q1 (And.intro (newB_at HM.out.2 q3 hs3) (newB_below HM.out.2 hB3 q2)))
          clear q1 q2 q3 hB3
          go_wp2
          go_roundw
          case rel => exact ⟨k + 1, acc ++ [x], by go_num, by omega, HZ.out.1, HZ.out.2.1, HZ.out.2.2, HM.out.1, by simp; omega⟩
          case measure => simp [intOf]; omega
        · rw [if_pos hha] at hm
          have hcc : hasC h x.rep x.num = true := hha
          have HM := hid_of' (And.intro hm hnew)
          clear hm hnew hNB hha hown
          have hBB := hB
          go_upto_region 5 with fail
          have c3 : ∀ s : Wld wr, (wOf s).cell? ⟨g, o + k * 13 + 3, none⟩ = some (.int .i64 x.rep) := fun s => (hin.later (wOf_below s)).2 3 _ (acv_rep x)
          have c4 : ∀ s : Wld wr, (wOf s).cell? ⟨g, o + k * 13 + 4, none⟩ = some (.int .i64 x.num) := fun s => (hin.later (wOf_below s)).2 4 _ (acv_num x)
          replace hB := Below.refl wr.heap.size wr
          refine wp_region_cls (by kernel_rfl) (by kernel_rfl) ?_
          repeat (first | go_big_quiet_skip | (go_big_quiet_want; first | (refine quiet_load_ck _ rfl rfl (cls_ck h1) ?_; simp only [Act.put, List.setIfInBounds_toArray, List.set_cons_succ, List.set_cons_zero]; go_big_quiet_on) | (go_big_quiet_op; first | go_big_quiet_on | go_big_quiet_call ((go_at_call 45; exact cls_of (refHas_is hcc _ ha.1))))))
          refine wpQuiet_nil ?_
          rintro w1 ⟨s1, e1⟩
          have hb1 := wOf_below s1
          rw [← e1] at hb1
          clear e1 s1
          replace h1 := h1.later hb1
          replace hin := hin.later hb1
          replace hI9 := hI9.later hb1
          replace hB := bgo hB hb1
          clear hb1
          clear c3 c4
          go_wp2
          go_roundw
          case rel => exact ⟨k + 1, acc, by go_num, by omega, hI9, HM.out.2, bgo hBB hB, HM.out.1, by omega⟩
          case measure => simp [intOf]; omega
    · have hki : ¬ (k : Int) < (l.length : Int) := by omega
      have hm0 : acc = misC h most [] l := by rw [← hm, List.drop_of_length_le (by omega)]; rfl
      have HZ := hid_of' (And.intro hown (And.intro hNB (And.intro (bgo H.out.2.2.2 hB) hm0)))
      clear hown hnew hB hm hNB hm0
      go_wp2
      go_ret
      exact ⟨_, rfl, by rw [← HZ.out.2.2.2]; exact HZ.out.1, HZ.out.2.1, HZ.out.2.2.1⟩
end Go.Proofs.YtlkcjbmdeimocaaDoor
