
/-
  The document's Inbox: Sweep.
-/
import Derived.Test.YtlgdaaofpjpobaaDoorZca37
import Derived.Test.YtlgdaaofpjpobaaDoorZca34
namespace Go.Proofs.YtlgdaaofpjpobaaDoor
open Go.RowKit Go.Maps
set_option maxRecDepth 100000

set_option maxHeartbeats 4000000 in
theorem refSweep_ok {R : Nat} {v : Value} {m : Int} {l : List Ac} {w : World} (hI : RbAt R v m l w) (hn : l.length ≤ 1000) {h : List Int} (ha : Ck h) :
    Calls Tryd.prog 24 #[.pointer (some ⟨R, 0, none⟩), .agg (cv h)] w fun e w' => ∃ v', e = .returned (.int .i64 ((l.length : Int) - ((swp h l).length : Int))) ∧ RbAt R v' m (swp h l) w' ∧ At' w v v' ∧ Ch (rbS R v) w w' := by
  have hB0 := below_one w (.cells (cv h) 44)
  have hJ := hI.later hB0
  obtain ⟨a9, c9, rfl, _⟩ := hI.row.form
  have H := hid_of' (And.intro (CkAt.new w ha.1) (And.intro hJ (And.intro hB0 hI)))
  clear hI hJ hB0
  go_enter Tryd.func24, Tryd.ntmps24
  go_upto_region 1 with fail
  generalize w.alloc (.cells (cv h) 44) = W at H ⊢
  go_wp2
  go_loopw [5, 6] (fun s i wr => ∃ k : Nat, i = .int .i64 (k : Int) ∧ k ≤ l.length ∧ OwnA s (swp h (l.take k)) wr ∧ NewB W s ∧ Below W.heap.size W wr) (fun _ i _ => l.length - (intOf i).toNat)
  case atStart => exact ⟨0, rfl, by omega, by simpa [swp] using OwnA.nil _, newB_nil _, Below.refl _ _⟩
  case round =>
    rename World => wr
    obtain ⟨k, rfl, hk, hown, hnew, hB⟩ := hrel
    obtain ⟨ua, uc, hu5, _, _⟩ := hown.form
    subst hu5
    have hRr := H.out.2.1.later hB
    have hckr := H.out.1.later hB
    by_cases hlt : k < l.length
    · have hki : (k : Int) < (l.length : Int) := by omega
      obtain ⟨x, hx⟩ : ∃ x, l[k]? = some x := ⟨_, List.getElem?_eq_getElem hlt⟩
      have hxf := H.out.2.1.row.2.at hx
      obtain ⟨g, o, c2, hv, _⟩ := hRr.row.sl.pos (by omega)
      simp only [Value.slice.injEq, true_and] at hv
      obtain ⟨rfl, rfl⟩ := hv
      have hin := hRr.row.sl.in H.out.2.1.row.2 hx
      have hsl := swp_len h (l.take k)
      have hslk : (l.take k).length ≤ k := by rw [List.length_take]; omega
      have hln : (swp h (l.take k)).length + [x].length ≤ 1000000 := by simp only [List.length_singleton]; omega
      have HN := hid_of' (swp_next (h := h) hx)
      have hI9 := hown
      have HX := hid_of' (And.intro hnew hB)
      generalize hskk : swp h (l.take k) = sk at HN hln hI9 HX ⊢
      clear hskk hown hsl hslk hnew hx
      have hBB := hB
      have c0 := hRr.lies.cellIs 1 rfl
      cases hha : hasA h x
      · have hcc : hasC h x.rep x.num = false := hha
        go_upto_region 5 with fail
        clear c0
        have c1 := hRr.lies.cls 1 _ rfl
        have c3 : ∀ s : Wld wr, (wOf s).cell? ⟨g, o + k * 13 + 3, none⟩ = some (.int .i64 x.rep) := fun s => (hin.later (wOf_below s)).2 3 _ (acv_rep x)
        have c4 : ∀ s : Wld wr, (wOf s).cell? ⟨g, o + k * 13 + 4, none⟩ = some (.int .i64 x.num) := fun s => (hin.later (wOf_below s)).2 4 _ (acv_num x)
        replace hB := Below.refl wr.heap.size wr
        refine wp_region_cls (by kernel_rfl) (by kernel_rfl) ?_
        repeat (first | go_big_quiet_skip | (go_big_quiet_want; first | (refine quiet_load_ck _ rfl rfl (cls_ck hckr) ?_; simp only [Act.put, List.setIfInBounds_toArray, List.set_cons_succ, List.set_cons_zero]; go_big_quiet_on) | (go_big_quiet_op; first | go_big_quiet_on | go_big_quiet_call ((go_at_call 39; exact cls_of (refHas_is hcc _ ha.1))))))
        refine wpQuiet_nil ?_
        rintro w1 ⟨s1, e1⟩
        have hb1 := wOf_below s1
        rw [← e1] at hb1
        clear e1 s1
        replace hckr := hckr.later hb1
        replace hin := hin.later hb1
        replace hI9 := hI9.later hb1
        replace hRr := hRr.later hb1
        replace hB := bgo hB hb1
        clear hb1
        clear c1 c3 c4
        have c0 := hRr.lies.cellIs 1 rfl
        go_upto_region 4 with (first | (refine wpL_loadA rfl _ rfl rfl hxf hin ?_) | (refine wpList_plain rfl fun _ hK => opw_oneA (p := x) _ rfl rfl hxf ?_; refine hK _ _ ?_) | (at_builtin; refine wpL_appA rfl _ _ rfl rfl rfl (hI9.later (below_one w1 (.cells (acv x) 48))) (slC_new w1 x 1) (AFit.one hxf) hln ?_; intro v5 w5 q1 q2 q3))
        have hB3 := bgo (bgo hBB hB) (below_one w1 (.cells (acv x) 48))
        have hs3 := hB3.size
        have HZ := hid_of' (And.intro q1 (And.intro (newB_at HX.out.1 q3 hs3) (newB_below HX.out.1 hB3 q2)))
        clear q1 q2 q3 hB3 c0
        go_wp2
        go_roundw
        case rel => exact ⟨k + 1, by go_num, by omega, by rw [HN.out, if_neg (by rw [hha]; decide)]; exact HZ.out.1, HZ.out.2.1, HZ.out.2.2⟩
        case measure => simp [intOf]; omega
      · have hcc : hasC h x.rep x.num = true := hha
        go_upto_region 5 with fail
        clear c0
        have c1 := hRr.lies.cls 1 _ rfl
        have c3 : ∀ s : Wld wr, (wOf s).cell? ⟨g, o + k * 13 + 3, none⟩ = some (.int .i64 x.rep) := fun s => (hin.later (wOf_below s)).2 3 _ (acv_rep x)
        have c4 : ∀ s : Wld wr, (wOf s).cell? ⟨g, o + k * 13 + 4, none⟩ = some (.int .i64 x.num) := fun s => (hin.later (wOf_below s)).2 4 _ (acv_num x)
        replace hB := Below.refl wr.heap.size wr
        refine wp_region_cls (by kernel_rfl) (by kernel_rfl) ?_
        repeat (first | go_big_quiet_skip | (go_big_quiet_want; first | (refine quiet_load_ck _ rfl rfl (cls_ck hckr) ?_; simp only [Act.put, List.setIfInBounds_toArray, List.set_cons_succ, List.set_cons_zero]; go_big_quiet_on) | (go_big_quiet_op; first | go_big_quiet_on | go_big_quiet_call ((go_at_call 39; exact cls_of (refHas_is hcc _ ha.1))))))
        refine wpQuiet_nil ?_
        rintro w1 ⟨s1, e1⟩
        have hb1 := wOf_below s1
        rw [← e1] at hb1
        clear e1 s1
        replace hckr := hckr.later hb1
        replace hin := hin.later hb1
        replace hI9 := hI9.later hb1
        replace hRr := hRr.later hb1
        replace hB := bgo hB hb1
        clear hb1
        clear c1 c3 c4
        go_wp2
        go_roundw
        case rel => exact ⟨k + 1, by go_num, by omega, by rw [HN.out, if_pos hha]; exact hI9, HX.out.1, bgo hBB hB⟩
        case measure => simp [intOf]; omega
    · have hki : ¬ (k : Int) < (l.length : Int) := by omega
      have hlt' : l.take k = l := List.take_of_length_le (by omega)
      rw [hlt'] at hown hnew ⊢
      have hsl := swp_len h l
      obtain ⟨sk, hsk⟩ : ∃ sk, swp h l = sk := ⟨_, rfl⟩
      rw [hsk] at hown hnew hsl ⊢
      have c0 := hRr.lies.cellIs 1 rfl
      have f0 := hRr.lies.froz 1
      have hsub : IntKind.i64.wrap ((l.length : Int) - (sk.length : Int)) = (l.length : Int) - (sk.length : Int) := by rw [IntKind.wrap_i64]; omega
      have hs := H.out.2.2.1.size
      have hRlt := H.out.2.2.2.lies.lt
      have s5 := ch_cell (w := wr) (b := R) (k := 1) (.slice ua sk.length uc)
      have hb5 := bgo H.out.2.2.1 hB
      have HZ := hid_of' (And.intro (hown.ch s5 (fun q hq e => by have := hnew q hq; omega)) (And.intro hnew (And.intro (hRr.lies.setc 1 (.slice ua sk.length uc)) ((Ch.of (S := rbS R (.slice a9 l.length c9)) hb5).set (p := ⟨R, 1, none⟩) (.inl (.inl rfl)) (.slice ua sk.length uc)))))
      have HK := hid_of' hsk
      clear hsk hown hnew hRr hckr hB s5 hb5
      go_wp2
      go_ret
      rw [HK.out]
      exact ⟨rfl, .slice ua sk.length uc, ⟨HZ.out.2.2.1, HZ.out.1⟩, fun q hq => .inr (by have := HZ.out.2.1 q hq; omega), HZ.out.2.2.2⟩
end Go.Proofs.YtlgdaaofpjpobaaDoor
