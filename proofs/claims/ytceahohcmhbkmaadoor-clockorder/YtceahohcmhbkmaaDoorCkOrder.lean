/-
  barrowlaw03.ClockOrder answers true.
-/
import Derived.Test.YtceahohcmhbkmaaDoorCkTwo
namespace Go.Proofs.YtceahohcmhbkmaaDoor
open Go.RowKit
set_option maxRecDepth 100000

theorem start3b (w : World) {a b c : List Int} (ha : a.length = 8) (hb : b.length = 8) (hc : c.length = 8) :
    CkAt w.heap.size a (((w.alloc (.cells (cv a) 23)).alloc (.cells (cv b) 23)).alloc (.cells (cv c) 23)) ∧ CkAt (w.heap.size + 1) b (((w.alloc (.cells (cv a) 23)).alloc (.cells (cv b) 23)).alloc (.cells (cv c) 23)) ∧ CkAt (w.heap.size + 2) c (((w.alloc (.cells (cv a) 23)).alloc (.cells (cv b) 23)).alloc (.cells (cv c) 23)) ∧ Below w.heap.size w (((w.alloc (.cells (cv a) 23)).alloc (.cells (cv b) 23)).alloc (.cells (cv c) 23)) := by
  have h1 := CkAt.new (w.alloc (.cells (cv a) 23)) hb
  have h2 := CkAt.new ((w.alloc (.cells (cv a) 23)).alloc (.cells (cv b) 23)) hc
  simp only [World.size_alloc] at h1 h2
  exact ⟨((CkAt.new w ha).alloc _).alloc _, h1.alloc _, h2, bgo (bgo (below_one w _) (below_one _ _)) (below_one _ _)⟩

/- The order's laws, over rows of eight. -/
theorem mx_le (x y z : Int) : (mx x y ≤ z) = (x ≤ z ∧ y ≤ z) := by unfold mx; split <;> simp <;> omega
theorem le_mn (x y z : Int) : (z ≤ mn x y) = (z ≤ x ∧ z ≤ y) := by unfold mn; split <;> simp <;> omega
theorem cov_trans {a b c : List Int} (h1 : cov a b = true) (h2 : cov b c = true) : cov a c = true :=
  cov_iff.2 fun k hk => Int.le_trans (cov_iff.1 h2 k hk) (cov_iff.1 h1 k hk)
theorem cov_of_mrg {a b c : List Int} (ha : a.length = 8) (hb : b.length = 8) : cov c (mrg a b) = (cov c a && cov c b) := by
  rw [Bool.eq_iff_iff, Bool.and_eq_true, cov_iff, cov_iff, cov_iff]
  constructor
  · intro h
    refine ⟨fun k hk => ?_, fun k hk => ?_⟩ <;> · have := h k hk; rw [mrg_get ha hb hk, mx_le] at this; omega
  · intro h k hk
    rw [mrg_get ha hb hk, mx_le]
    exact ⟨h.1 k hk, h.2 k hk⟩
theorem mee_cov {a b c : List Int} (ha : a.length = 8) (hb : b.length = 8) : cov (mee a b) c = (cov a c && cov b c) := by
  rw [Bool.eq_iff_iff, Bool.and_eq_true, cov_iff, cov_iff, cov_iff]
  constructor
  · intro h
    refine ⟨fun k hk => ?_, fun k hk => ?_⟩ <;> · have := h k hk; rw [mee_get ha hb hk, le_mn] at this; omega
  · intro h k hk
    rw [mee_get ha hb hk, le_mn]
    exact ⟨h.1 k hk, h.2 k hk⟩
theorem mrg_cov_l {a b : List Int} (ha : a.length = 8) (hb : b.length = 8) : cov (mrg a b) a = true := by
  have := cov_of_mrg (c := mrg a b) ha hb
  rw [cov_self] at this
  simpa using (Bool.and_eq_true _ _ ▸ this.symm : _ ∧ _).1
theorem mrg_cov_r {a b : List Int} (ha : a.length = 8) (hb : b.length = 8) : cov (mrg a b) b = true := by
  have := cov_of_mrg (c := mrg a b) ha hb
  rw [cov_self] at this
  simpa using (Bool.and_eq_true _ _ ▸ this.symm : _ ∧ _).2
theorem cov_mee_l {a b : List Int} (ha : a.length = 8) (hb : b.length = 8) : cov a (mee a b) = true := by
  have := mee_cov (c := mee a b) ha hb
  rw [cov_self] at this
  simpa using (Bool.and_eq_true _ _ ▸ this.symm : _ ∧ _).1
theorem cov_mee_r {a b : List Int} (ha : a.length = 8) (hb : b.length = 8) : cov b (mee a b) = true := by
  have := mee_cov (c := mee a b) ha hb
  rw [cov_self] at this
  simpa using (Bool.and_eq_true _ _ ▸ this.symm : _ ∧ _).2
theorem mrg_mee {a b : List Int} (ha : a.length = 8) (hb : b.length = 8) : mrg a (mee a b) = a :=
  ck_ext (mrg_len ha (mee_len ha hb)) ha fun k hk => by rw [mrg_get ha (mee_len ha hb) hk, mee_get ha hb hk]; unfold mx mn; split <;> split at * <;> omega
theorem mee_mrg {a b : List Int} (ha : a.length = 8) (hb : b.length = 8) : mee a (mrg a b) = a :=
  ck_ext (mee_len ha (mrg_len ha hb)) ha fun k hk => by rw [mee_get ha (mrg_len ha hb) hk, mrg_get ha hb hk]; unfold mx mn; split <;> split at * <;> omega
theorem mrg_assoc {a b c : List Int} (ha : a.length = 8) (hb : b.length = 8) (hc : c.length = 8) : mrg (mrg a b) c = mrg a (mrg b c) :=
  ck_ext (mrg_len (mrg_len ha hb) hc) (mrg_len ha (mrg_len hb hc)) fun k hk => by
    rw [mrg_get (mrg_len ha hb) hc hk, mrg_get ha hb hk, mrg_get ha (mrg_len hb hc) hk, mrg_get hb hc hk]
    unfold mx; repeat split
    all_goals omega

theorem upd_keep {l : Nat → Bool} {vals : Nat → Value} {S : Nat → Prop} {V : Value} (h : ∀ j, S j → l j = true → vals j = V) {i : Nat} {v : Value} (hv : S i → v = V) : ∀ j, S j → updB l i j = true → upd vals i v j = V := fun j hj hl => by
  by_cases e : j = i
  · subst e; rw [upd_self]; exact hv hj
  · rw [updB_ne l e] at hl; rw [upd_ne _ _ e]; exact h j hj hl
/-- ClockOrder's two: what has been loaded, too. -/
structure OrdJ (w : World) (a b : List Int) (l : Nat → Bool) (vals : Nat → Value) (x : World) : Prop where
  two : Two w 2 5 6 7 8 9 (mrg a b) (mee a b) l vals x
  la : ∀ j, (j = 0 ∨ j = 3) → l j = true → vals j = .agg (cv a)
  lb : ∀ j, (j = 1 ∨ j = 4) → l j = true → vals j = .agg (cv b)
theorem merge_is {a b c : List Int} (h : mrg a b = c) (w : World) (ha : a.length = 8) (hb : b.length = 8) :
    Calls Tryd.prog 13 #[.agg (cv a), .agg (cv b)] w fun e w' => e = .returned (.agg (cv c)) ∧ Below w.heap.size w w' := h ▸ merge_any a b w ha hb
theorem meet_is {a b c : List Int} (h : mee a b = c) (w : World) (ha : a.length = 8) (hb : b.length = 8) :
    Calls Tryd.prog 15 #[.agg (cv a), .agg (cv b)] w fun e w' => e = .returned (.agg (cv c)) ∧ Below w.heap.size w w' := h ▸ meet_any a b w ha hb

set_option maxHeartbeats 8000000 in
theorem orderC_ok (a b c : List Int) (w : World) (ha : a.length = 8) (hb : b.length = 8) (hc : c.length = 8) :
    Calls Tryd.prog 8 #[.agg (cv a), .agg (cv b), .agg (cv c)] w fun e w' => e = .returned (.bool true) ∧ Below w.heap.size w w' := by
  obtain ⟨h1, h2, h3, hB⟩ := start3b w ha hb hc
  have qn := eqIn_ck a b ha hb
  have hg := ck_guard
  go_enter Tryd.func8, Tryd.ntmps8
  go_upto_region 1 with fail
  go_cut [45] from 11 (fun s45 wx => s45 = .bool false ∧ Below w.heap.size w wx ∧ CkAt w.heap.size a wx ∧ CkAt (w.heap.size + 1) b wx ∧ CkAt (w.heap.size + 2) c wx)
  case first =>
    have hab' := eq_cov ha hb
    cases hab : cov a b
    · skip
      refine wp_region_cls0 ?_
      repeat (first | go_big_quiet_skip | (go_big_quiet_want; first | (refine quiet_load_ck _ rfl rfl (cls_ck h1) ?_; simp only [Act.put, List.setIfInBounds_toArray, List.set_cons_succ, List.set_cons_zero]; go_big_quiet_on) | (refine quiet_load_ck _ rfl rfl (cls_ck h2) ?_; simp only [Act.put, List.setIfInBounds_toArray, List.set_cons_succ, List.set_cons_zero]; go_big_quiet_on) | (refine quiet_load_ck _ rfl rfl (cls_ck h3) ?_; simp only [Act.put, List.setIfInBounds_toArray, List.set_cons_succ, List.set_cons_zero]; go_big_quiet_on) | (go_big_quiet_op; first | go_big_quiet_on | go_big_quiet_call ((first | (go_at_call_of 9 (Value.agg (cv b)); first | with_reducible exact cls_of (covers_is hba _ hb ha) | with_reducible exact cls_of (covers_is hbc _ hb hc)) | (go_at_call_of 9 (Value.agg (cv a)); first | with_reducible exact cls_of (covers_is (cov_self a) _ ha ha) | with_reducible exact cls_of (covers_is hab _ ha hb) | with_reducible exact cls_of (covers_is hac _ ha hc)))))))
      refine wpQuiet_nil ?_
      rintro w1 ⟨s1, e1⟩
      have hb1 := wOf_below s1
      rw [← e1] at hb1
      clear e1 s1
      replace h1 := h1.later hb1
      replace h2 := h2.later hb1
      replace h3 := h3.later hb1
      replace hB := bgo hB hb1
      clear hb1
      go_wp2
      go_meet
      case rel => exact ⟨rfl, hB, h1, h2, h3⟩
    · cases hba : cov b a <;> cases hbc : cov b c
      · simp only [hab, hba, Bool.and_false] at hab'
        refine wp_region_cls0 ?_
        repeat (first | go_big_quiet_skip | (go_big_quiet_want; first | (refine quiet_load_ck _ rfl rfl (cls_ck h1) ?_; simp only [Act.put, List.setIfInBounds_toArray, List.set_cons_succ, List.set_cons_zero]; go_big_quiet_on) | (refine quiet_load_ck _ rfl rfl (cls_ck h2) ?_; simp only [Act.put, List.setIfInBounds_toArray, List.set_cons_succ, List.set_cons_zero]; go_big_quiet_on) | (refine quiet_load_ck _ rfl rfl (cls_ck h3) ?_; simp only [Act.put, List.setIfInBounds_toArray, List.set_cons_succ, List.set_cons_zero]; go_big_quiet_on) | (go_big_quiet_op; first | go_big_quiet_on | go_big_quiet_call ((first | (go_at_call_of 9 (Value.agg (cv b)); first | with_reducible exact cls_of (covers_is hba _ hb ha) | with_reducible exact cls_of (covers_is hbc _ hb hc)) | (go_at_call_of 9 (Value.agg (cv a)); first | with_reducible exact cls_of (covers_is (cov_self a) _ ha ha) | with_reducible exact cls_of (covers_is hab _ ha hb) | with_reducible exact cls_of (covers_is hac _ ha hc)))))))
        refine wpQuiet_nil ?_
        rintro w1 ⟨s1, e1⟩
        have hb1 := wOf_below s1
        rw [← e1] at hb1
        clear e1 s1
        replace h1 := h1.later hb1
        replace h2 := h2.later hb1
        replace h3 := h3.later hb1
        replace hB := bgo hB hb1
        clear hb1
        go_wp2
        go_meet
        case rel => exact ⟨rfl, hB, h1, h2, h3⟩
      · simp only [hab, hba, Bool.and_false] at hab'
        have hac := cov_trans hab hbc
        refine wp_region_cls0 ?_
        repeat (first | go_big_quiet_skip | (go_big_quiet_want; first | (refine quiet_load_ck _ rfl rfl (cls_ck h1) ?_; simp only [Act.put, List.setIfInBounds_toArray, List.set_cons_succ, List.set_cons_zero]; go_big_quiet_on) | (refine quiet_load_ck _ rfl rfl (cls_ck h2) ?_; simp only [Act.put, List.setIfInBounds_toArray, List.set_cons_succ, List.set_cons_zero]; go_big_quiet_on) | (refine quiet_load_ck _ rfl rfl (cls_ck h3) ?_; simp only [Act.put, List.setIfInBounds_toArray, List.set_cons_succ, List.set_cons_zero]; go_big_quiet_on) | (go_big_quiet_op; first | go_big_quiet_on | go_big_quiet_call ((first | (go_at_call_of 9 (Value.agg (cv b)); first | with_reducible exact cls_of (covers_is hba _ hb ha) | with_reducible exact cls_of (covers_is hbc _ hb hc)) | (go_at_call_of 9 (Value.agg (cv a)); first | with_reducible exact cls_of (covers_is (cov_self a) _ ha ha) | with_reducible exact cls_of (covers_is hab _ ha hb) | with_reducible exact cls_of (covers_is hac _ ha hc)))))))
        refine wpQuiet_nil ?_
        rintro w1 ⟨s1, e1⟩
        have hb1 := wOf_below s1
        rw [← e1] at hb1
        clear e1 s1
        replace h1 := h1.later hb1
        replace h2 := h2.later hb1
        replace h3 := h3.later hb1
        replace hB := bgo hB hb1
        clear hb1
        go_wp2
        go_meet
        case rel => exact ⟨rfl, hB, h1, h2, h3⟩
      · simp only [hab, hba, Bool.and_self] at hab'
        refine wp_region_cls0 ?_
        repeat (first | go_big_quiet_skip | (go_big_quiet_want; first | (refine quiet_load_ck _ rfl rfl (cls_ck h1) ?_; simp only [Act.put, List.setIfInBounds_toArray, List.set_cons_succ, List.set_cons_zero]; go_big_quiet_on) | (refine quiet_load_ck _ rfl rfl (cls_ck h2) ?_; simp only [Act.put, List.setIfInBounds_toArray, List.set_cons_succ, List.set_cons_zero]; go_big_quiet_on) | (refine quiet_load_ck _ rfl rfl (cls_ck h3) ?_; simp only [Act.put, List.setIfInBounds_toArray, List.set_cons_succ, List.set_cons_zero]; go_big_quiet_on) | (go_big_quiet_op; first | go_big_quiet_on | go_big_quiet_call ((first | (go_at_call_of 9 (Value.agg (cv b)); first | with_reducible exact cls_of (covers_is hba _ hb ha) | with_reducible exact cls_of (covers_is hbc _ hb hc)) | (go_at_call_of 9 (Value.agg (cv a)); first | with_reducible exact cls_of (covers_is (cov_self a) _ ha ha) | with_reducible exact cls_of (covers_is hab _ ha hb) | with_reducible exact cls_of (covers_is hac _ ha hc)))))))
        refine wpQuiet_nil ?_
        rintro w1 ⟨s1, e1⟩
        have hb1 := wOf_below s1
        rw [← e1] at hb1
        clear e1 s1
        replace h1 := h1.later hb1
        replace h2 := h2.later hb1
        replace h3 := h3.later hb1
        replace hB := bgo hB hb1
        clear hb1
        go_wp2
        go_meet
        case rel => exact ⟨rfl, hB, h1, h2, h3⟩
      · simp only [hab, hba, Bool.and_self] at hab'
        have hac := cov_trans hab hbc
        refine wp_region_cls0 ?_
        repeat (first | go_big_quiet_skip | (go_big_quiet_want; first | (refine quiet_load_ck _ rfl rfl (cls_ck h1) ?_; simp only [Act.put, List.setIfInBounds_toArray, List.set_cons_succ, List.set_cons_zero]; go_big_quiet_on) | (refine quiet_load_ck _ rfl rfl (cls_ck h2) ?_; simp only [Act.put, List.setIfInBounds_toArray, List.set_cons_succ, List.set_cons_zero]; go_big_quiet_on) | (refine quiet_load_ck _ rfl rfl (cls_ck h3) ?_; simp only [Act.put, List.setIfInBounds_toArray, List.set_cons_succ, List.set_cons_zero]; go_big_quiet_on) | (go_big_quiet_op; first | go_big_quiet_on | go_big_quiet_call ((first | (go_at_call_of 9 (Value.agg (cv b)); first | with_reducible exact cls_of (covers_is hba _ hb ha) | with_reducible exact cls_of (covers_is hbc _ hb hc)) | (go_at_call_of 9 (Value.agg (cv a)); first | with_reducible exact cls_of (covers_is (cov_self a) _ ha ha) | with_reducible exact cls_of (covers_is hab _ ha hb) | with_reducible exact cls_of (covers_is hac _ ha hc)))))))
        refine wpQuiet_nil ?_
        rintro w1 ⟨s1, e1⟩
        have hb1 := wOf_below s1
        rw [← e1] at hb1
        clear e1 s1
        replace h1 := h1.later hb1
        replace h2 := h2.later hb1
        replace h3 := h3.later hb1
        replace hB := bgo hB hb1
        clear hb1
        go_wp2
        go_meet
        case rel => exact ⟨rfl, hB, h1, h2, h3⟩
  case rest =>
    obtain ⟨rfl, hB', h1', h2', h3'⟩ := hcut
    clear h1 h2 h3 hB qn
    have hm := mrg_len ha hb
    have hn := mee_len ha hb
    go_upto_region 3 with fail
    go_cut [7, 8] from 11 (fun s7 s8 wx => ∃ b1 b2, s7 = .pointer (some ⟨b1, 0, none⟩) ∧ s8 = .pointer (some ⟨b2, 0, none⟩) ∧ CkAt b1 (mrg a b) wx ∧ CkAt b2 (mee a b) wx ∧ Below w.heap.size w wx ∧ CkAt w.heap.size a wx ∧ CkAt (w.heap.size + 1) b wx ∧ CkAt (w.heap.size + 2) c wx)
    case first =>
      refine wp_region_invx' (by kernel_rfl) (by kernel_rfl) (fun listed vals x => OrdJ wc a b (lstd listed) vals x) ⟨Two.start (fun j => getD_repl _ _) (Below.refl _ _).drew, fun j _ h => absurd ((getD_repl _ _).symm.trans h) (by decide), fun j _ h => absurd ((getD_repl _ _).symm.trans h) (by decide)⟩ ?_ ?_
      · intro i o ho listed vals q x ⟨hT, hA, hBb⟩ hsz hun haft hdf hb0 hbo
        have t3 : q.tmps[3]? = some (.pointer (some ⟨w.heap.size, 0, none⟩)) := by rw [hbo 3 (by kernel_rfl)]; rfl
        have t4 : q.tmps[4]? = some (.pointer (some ⟨w.heap.size + 1, 0, none⟩)) := by rw [hbo 4 (by kernel_rfl)]; rfl
        match i, ho with
        | 0, ho =>
          simp only [List.getElem?_toArray, List.getElem?_cons_zero, Option.some.injEq] at ho
          subst ho
          refine opw_load _ rfl (by simp [Act.eval, t3]) (h1'.later hT.z) ⟨_, rfl, ?_⟩
          rw [lstd_set hun]
          exact ⟨hT.go (Below.refl _ _) (by decide) (by decide) (by decide) (by decide) (fun e => absurd e (by decide)) (fun e => absurd e (by decide)), upd_keep hA (fun _ => rfl), upd_keep hBb (fun e => absurd e (by decide))⟩
        | 1, ho =>
          simp only [List.getElem?_toArray, List.getElem?_cons_succ, List.getElem?_cons_zero, Option.some.injEq] at ho
          subst ho
          refine opw_load _ rfl (by simp [Act.eval, t4]) (h2'.later hT.z) ⟨_, rfl, ?_⟩
          rw [lstd_set hun]
          exact ⟨hT.go (Below.refl _ _) (by decide) (by decide) (by decide) (by decide) (fun e => absurd e (by decide)) (fun e => absurd e (by decide)), upd_keep hA (fun e => absurd e (by decide)), upd_keep hBb (fun _ => rfl)⟩
        | 2, ho =>
          simp only [List.getElem?_toArray, List.getElem?_cons_succ, List.getElem?_cons_zero, Option.some.injEq] at ho
          subst ho
          have u0 : q.tmps[46]? = some (.agg (cv a)) := by rw [hb0 0 _ 46 rfl rfl (haft ⟨0, .data⟩ (by simp) rfl), hA 0 (by decide) (haft ⟨0, .data⟩ (by simp) rfl)]
          have u1 : q.tmps[47]? = some (.agg (cv b)) := by rw [hb0 1 _ 47 rfl rfl (haft ⟨1, .data⟩ (by simp) rfl), hBb 1 (by decide) (haft ⟨1, .data⟩ (by simp) rfl)]
          unfold Oper.wp
          simp [go_sem, u0, u1]
          refine (merge_any _ _ _ ha hb).mono ?_
          rintro e x1 ⟨rfl, hb1⟩
          refine ⟨_, rfl, ?_⟩
          rw [lstd_set hun]
          exact ⟨hT.go hb1 (by decide) (by decide) (by decide) (by decide) (fun _ => rfl) (fun e => absurd e (by decide)), upd_keep hA (fun e => absurd e (by decide)), upd_keep hBb (fun e => absurd e (by decide))⟩
        | 3, ho =>
          simp only [List.getElem?_toArray, List.getElem?_cons_succ, List.getElem?_cons_zero, Option.some.injEq] at ho
          subst ho
          refine opw_load _ rfl (by simp [Act.eval, t3]) (h1'.later hT.z) ⟨_, rfl, ?_⟩
          rw [lstd_set hun]
          exact ⟨hT.go (Below.refl _ _) (by decide) (by decide) (by decide) (by decide) (fun e => absurd e (by decide)) (fun e => absurd e (by decide)), upd_keep hA (fun _ => rfl), upd_keep hBb (fun e => absurd e (by decide))⟩
        | 4, ho =>
          simp only [List.getElem?_toArray, List.getElem?_cons_succ, List.getElem?_cons_zero, Option.some.injEq] at ho
          subst ho
          refine opw_load _ rfl (by simp [Act.eval, t4]) (h2'.later hT.z) ⟨_, rfl, ?_⟩
          rw [lstd_set hun]
          exact ⟨hT.go (Below.refl _ _) (by decide) (by decide) (by decide) (by decide) (fun e => absurd e (by decide)) (fun e => absurd e (by decide)), upd_keep hA (fun e => absurd e (by decide)), upd_keep hBb (fun _ => rfl)⟩
        | 5, ho =>
          simp only [List.getElem?_toArray, List.getElem?_cons_succ, List.getElem?_cons_zero, Option.some.injEq] at ho
          subst ho
          have u0 : q.tmps[49]? = some (.agg (cv a)) := by rw [hb0 3 _ 49 rfl rfl (haft ⟨3, .data⟩ (by simp) rfl), hA 3 (by decide) (haft ⟨3, .data⟩ (by simp) rfl)]
          have u1 : q.tmps[50]? = some (.agg (cv b)) := by rw [hb0 4 _ 50 rfl rfl (haft ⟨4, .data⟩ (by simp) rfl), hBb 4 (by decide) (haft ⟨4, .data⟩ (by simp) rfl)]
          unfold Oper.wp
          simp [go_sem, u0, u1]
          refine (meet_any _ _ _ ha hb).mono ?_
          rintro e x1 ⟨rfl, hb1⟩
          refine ⟨_, rfl, ?_⟩
          rw [lstd_set hun]
          exact ⟨hT.go hb1 (by decide) (by decide) (by decide) (by decide) (fun e => absurd e (by decide)) (fun _ => rfl), upd_keep hA (fun e => absurd e (by decide)), upd_keep hBb (fun e => absurd e (by decide))⟩
        | 6, ho =>
          simp only [List.getElem?_toArray, List.getElem?_cons_succ, List.getElem?_cons_zero, Option.some.injEq] at ho
          subst ho
          unfold Oper.wp
          simp [execOp, go_sem]
          refine ⟨_, rfl, ?_⟩
          rw [lstd_set hun]
          exact ⟨hT.new1 (getD_not hun) (by decide) (by decide) (by decide) (by decide) (by decide), upd_keep hA (fun e => absurd e (by decide)), upd_keep hBb (fun e => absurd e (by decide))⟩
        | 7, ho =>
          simp only [List.getElem?_toArray, List.getElem?_cons_succ, List.getElem?_cons_zero, Option.some.injEq] at ho
          subst ho
          unfold Oper.wp
          simp [execOp, go_sem]
          refine ⟨_, rfl, ?_⟩
          rw [lstd_set hun]
          exact ⟨hT.new2 (getD_not hun) (by decide) (by decide) (by decide) (by decide) (by decide), upd_keep hA (fun e => absurd e (by decide)), upd_keep hBb (fun e => absurd e (by decide))⟩
        | 8, ho =>
          simp only [List.getElem?_toArray, List.getElem?_cons_succ, List.getElem?_cons_zero, Option.some.injEq] at ho
          subst ho
          have lv : listed.getD 6 false = true := haft ⟨6, .data⟩ (by simp) rfl
          have lc : listed.getD 2 false = true := haft ⟨2, .data⟩ (by simp) rfl
          obtain ⟨g, e1, _, e3⟩ := hT.a lv
          have u0 : q.tmps[7]? = some (.pointer (some ⟨g, 0, none⟩)) := by rw [hb0 6 _ 7 rfl rfl lv, e1]
          have u1 : q.tmps[48]? = some (.agg (cv (mrg a b))) := by rw [hb0 2 _ 48 rfl rfl lc, hT.f lc]
          refine opw_store _ _ rfl (by simp [Act.eval, u0]) (by simp [Act.eval, u1]) e3 hm ⟨undef, rfl, ?_⟩
          rw [lstd_set hun]
          exact ⟨hT.put1 hm lv e1 _ (by decide) (by decide) (by decide) (by decide) (by decide), upd_keep hA (fun e => absurd e (by decide)), upd_keep hBb (fun e => absurd e (by decide))⟩
        | 9, ho =>
          simp only [List.getElem?_toArray, List.getElem?_cons_succ, List.getElem?_cons_zero, Option.some.injEq] at ho
          subst ho
          have lv : listed.getD 7 false = true := haft ⟨7, .data⟩ (by simp) rfl
          have lc : listed.getD 5 false = true := haft ⟨5, .data⟩ (by simp) rfl
          obtain ⟨g, e1, _, e3⟩ := hT.b lv
          have u0 : q.tmps[8]? = some (.pointer (some ⟨g, 0, none⟩)) := by rw [hb0 7 _ 8 rfl rfl lv, e1]
          have u1 : q.tmps[51]? = some (.agg (cv (mee a b))) := by rw [hb0 5 _ 51 rfl rfl lc, hT.g lc]
          refine opw_store _ _ rfl (by simp [Act.eval, u0]) (by simp [Act.eval, u1]) e3 hn ⟨undef, rfl, ?_⟩
          rw [lstd_set hun]
          exact ⟨hT.put2 hn lv e1 _ (by decide) (by decide) (by decide) (by decide) (by decide), upd_keep hA (fun e => absurd e (by decide)), upd_keep hBb (fun e => absurd e (by decide))⟩
        | i + 10, ho => simp at ho
      · intro listed vals q x hall hJ hsz hdf hb0 hbo
        obtain ⟨b1, b2, e1, e2, g1, g2, gB⟩ := hJ.two.done (fun j hj => hall j (by simp at hj; show j < 10; omega))
        obtain rfl := frame_is hsz hdf hb0 hbo
        simp only [putAll, List.setIfInBounds_toArray, List.set_cons_succ, List.set_cons_zero, e1, e2]
        go_wp2
        go_meet
        case rel => exact ⟨b1, b2, rfl, rfl, g1, g2, bgo hB' gB, h1'.later gB, h2'.later gB, h3'.later gB⟩
    case rest =>
      obtain ⟨b1, b2, rfl, rfl, h7, h8, hB, h1, h2, h3⟩ := hcut
      clear h1' h2' h3' hB'
      go_upto_region 4 with fail
      refine wp_region_cls0 ?_
      repeat (first | go_big_quiet_skip | (go_big_quiet_want; first | (refine quiet_load_ck _ rfl rfl (cls_ck h1) ?_; simp only [Act.put, List.setIfInBounds_toArray, List.set_cons_succ, List.set_cons_zero]; go_big_quiet_on) | (refine quiet_load_ck _ rfl rfl (cls_ck h2) ?_; simp only [Act.put, List.setIfInBounds_toArray, List.set_cons_succ, List.set_cons_zero]; go_big_quiet_on) | (refine quiet_load_ck _ rfl rfl (cls_ck h3) ?_; simp only [Act.put, List.setIfInBounds_toArray, List.set_cons_succ, List.set_cons_zero]; go_big_quiet_on) | (refine quiet_load_ck _ rfl rfl (cls_ck h7) ?_; simp only [Act.put, List.setIfInBounds_toArray, List.set_cons_succ, List.set_cons_zero]; go_big_quiet_on) | (refine quiet_load_ck _ rfl rfl (cls_ck h8) ?_; simp only [Act.put, List.setIfInBounds_toArray, List.set_cons_succ, List.set_cons_zero]; go_big_quiet_on) | (go_big_quiet_op; first | go_big_quiet_on | go_big_quiet_call ((go_at_call 9; first | with_reducible exact cls_of (covers_is (mrg_cov_l ha hb) _ hm ha) | with_reducible exact cls_of (covers_is (mrg_cov_r ha hb) _ hm hb) | with_reducible exact cls_of (covers_is (cov_mee_l ha hb) _ ha hn) | with_reducible exact cls_of (covers_is (cov_mee_r ha hb) _ hb hn))))))
      refine wpQuiet_nil ?_
      rintro w1 ⟨s1, e1⟩
      have hb1 := wOf_below s1
      rw [← e1] at hb1
      clear e1 s1
      replace h1 := h1.later hb1
      replace h2 := h2.later hb1
      replace h3 := h3.later hb1
      replace h7 := h7.later hb1
      replace h8 := h8.later hb1
      replace hB := bgo hB hb1
      clear hb1
      go_upto_region 6 with fail
      go_cut [99] from 11 (fun s99 wx => s99 = .bool false ∧ Below w.heap.size w wx ∧ CkAt w.heap.size a wx ∧ CkAt (w.heap.size + 1) b wx ∧ CkAt (w.heap.size + 2) c wx ∧ CkAt b1 (mrg a b) wx ∧ CkAt b2 (mee a b) wx)
      case first =>
        cases hca : cov c a
        · skip
          cases hac : cov a c
          · skip
            refine wp_region_cls (by kernel_rfl) (by kernel_rfl) ?_
            repeat (first | go_big_quiet_skip | (go_big_quiet_want; first | (refine quiet_load_ck _ rfl rfl (cls_ck h1) ?_; simp only [Act.put, List.setIfInBounds_toArray, List.set_cons_succ, List.set_cons_zero]; go_big_quiet_on) | (refine quiet_load_ck _ rfl rfl (cls_ck h2) ?_; simp only [Act.put, List.setIfInBounds_toArray, List.set_cons_succ, List.set_cons_zero]; go_big_quiet_on) | (refine quiet_load_ck _ rfl rfl (cls_ck h3) ?_; simp only [Act.put, List.setIfInBounds_toArray, List.set_cons_succ, List.set_cons_zero]; go_big_quiet_on) | (refine quiet_load_ck _ rfl rfl (cls_ck h7) ?_; simp only [Act.put, List.setIfInBounds_toArray, List.set_cons_succ, List.set_cons_zero]; go_big_quiet_on) | (refine quiet_load_ck _ rfl rfl (cls_ck h8) ?_; simp only [Act.put, List.setIfInBounds_toArray, List.set_cons_succ, List.set_cons_zero]; go_big_quiet_on) | (go_big_quiet_op; first | go_big_quiet_on | go_big_quiet_call ((go_at_call 9; first | with_reducible exact cls_of (covers_is hca _ hc ha) | with_reducible exact cls_of (covers_is hcb _ hc hb) | with_reducible exact cls_of (covers_is hcm _ hc hm) | with_reducible exact cls_of (covers_is hac _ ha hc) | with_reducible exact cls_of (covers_is hbc _ hb hc) | with_reducible exact cls_of (covers_is hnc _ hn hc))))))
            refine wpQuiet_nil ?_
            rintro w1 ⟨s1, e1⟩
            have hb1 := wOf_below s1
            rw [← e1] at hb1
            clear e1 s1
            replace h1 := h1.later hb1
            replace h2 := h2.later hb1
            replace h3 := h3.later hb1
            replace h7 := h7.later hb1
            replace h8 := h8.later hb1
            replace hB := bgo hB hb1
            clear hb1
            go_wp2
            go_meet
            case rel => exact ⟨rfl, hB, h1, h2, h3, h7, h8⟩
          · cases hbc : cov b c
            · have hnc : cov (mee a b) c = false := by rw [mee_cov ha hb, hac, hbc]; rfl
              refine wp_region_cls (by kernel_rfl) (by kernel_rfl) ?_
              repeat (first | go_big_quiet_skip | (go_big_quiet_want; first | (refine quiet_load_ck _ rfl rfl (cls_ck h1) ?_; simp only [Act.put, List.setIfInBounds_toArray, List.set_cons_succ, List.set_cons_zero]; go_big_quiet_on) | (refine quiet_load_ck _ rfl rfl (cls_ck h2) ?_; simp only [Act.put, List.setIfInBounds_toArray, List.set_cons_succ, List.set_cons_zero]; go_big_quiet_on) | (refine quiet_load_ck _ rfl rfl (cls_ck h3) ?_; simp only [Act.put, List.setIfInBounds_toArray, List.set_cons_succ, List.set_cons_zero]; go_big_quiet_on) | (refine quiet_load_ck _ rfl rfl (cls_ck h7) ?_; simp only [Act.put, List.setIfInBounds_toArray, List.set_cons_succ, List.set_cons_zero]; go_big_quiet_on) | (refine quiet_load_ck _ rfl rfl (cls_ck h8) ?_; simp only [Act.put, List.setIfInBounds_toArray, List.set_cons_succ, List.set_cons_zero]; go_big_quiet_on) | (go_big_quiet_op; first | go_big_quiet_on | go_big_quiet_call ((go_at_call 9; first | with_reducible exact cls_of (covers_is hca _ hc ha) | with_reducible exact cls_of (covers_is hcb _ hc hb) | with_reducible exact cls_of (covers_is hcm _ hc hm) | with_reducible exact cls_of (covers_is hac _ ha hc) | with_reducible exact cls_of (covers_is hbc _ hb hc) | with_reducible exact cls_of (covers_is hnc _ hn hc))))))
              refine wpQuiet_nil ?_
              rintro w1 ⟨s1, e1⟩
              have hb1 := wOf_below s1
              rw [← e1] at hb1
              clear e1 s1
              replace h1 := h1.later hb1
              replace h2 := h2.later hb1
              replace h3 := h3.later hb1
              replace h7 := h7.later hb1
              replace h8 := h8.later hb1
              replace hB := bgo hB hb1
              clear hb1
              go_wp2
              go_meet
              case rel => exact ⟨rfl, hB, h1, h2, h3, h7, h8⟩
            · have hnc : cov (mee a b) c = true := by rw [mee_cov ha hb, hac, hbc]; rfl
              refine wp_region_cls (by kernel_rfl) (by kernel_rfl) ?_
              repeat (first | go_big_quiet_skip | (go_big_quiet_want; first | (refine quiet_load_ck _ rfl rfl (cls_ck h1) ?_; simp only [Act.put, List.setIfInBounds_toArray, List.set_cons_succ, List.set_cons_zero]; go_big_quiet_on) | (refine quiet_load_ck _ rfl rfl (cls_ck h2) ?_; simp only [Act.put, List.setIfInBounds_toArray, List.set_cons_succ, List.set_cons_zero]; go_big_quiet_on) | (refine quiet_load_ck _ rfl rfl (cls_ck h3) ?_; simp only [Act.put, List.setIfInBounds_toArray, List.set_cons_succ, List.set_cons_zero]; go_big_quiet_on) | (refine quiet_load_ck _ rfl rfl (cls_ck h7) ?_; simp only [Act.put, List.setIfInBounds_toArray, List.set_cons_succ, List.set_cons_zero]; go_big_quiet_on) | (refine quiet_load_ck _ rfl rfl (cls_ck h8) ?_; simp only [Act.put, List.setIfInBounds_toArray, List.set_cons_succ, List.set_cons_zero]; go_big_quiet_on) | (go_big_quiet_op; first | go_big_quiet_on | go_big_quiet_call ((go_at_call 9; first | with_reducible exact cls_of (covers_is hca _ hc ha) | with_reducible exact cls_of (covers_is hcb _ hc hb) | with_reducible exact cls_of (covers_is hcm _ hc hm) | with_reducible exact cls_of (covers_is hac _ ha hc) | with_reducible exact cls_of (covers_is hbc _ hb hc) | with_reducible exact cls_of (covers_is hnc _ hn hc))))))
              refine wpQuiet_nil ?_
              rintro w1 ⟨s1, e1⟩
              have hb1 := wOf_below s1
              rw [← e1] at hb1
              clear e1 s1
              replace h1 := h1.later hb1
              replace h2 := h2.later hb1
              replace h3 := h3.later hb1
              replace h7 := h7.later hb1
              replace h8 := h8.later hb1
              replace hB := bgo hB hb1
              clear hb1
              go_wp2
              go_meet
              case rel => exact ⟨rfl, hB, h1, h2, h3, h7, h8⟩
        · cases hcb : cov c b
          · have hcm : cov c (mrg a b) = false := by rw [cov_of_mrg ha hb, hca, hcb]; rfl
            cases hac : cov a c
            · skip
              refine wp_region_cls (by kernel_rfl) (by kernel_rfl) ?_
              repeat (first | go_big_quiet_skip | (go_big_quiet_want; first | (refine quiet_load_ck _ rfl rfl (cls_ck h1) ?_; simp only [Act.put, List.setIfInBounds_toArray, List.set_cons_succ, List.set_cons_zero]; go_big_quiet_on) | (refine quiet_load_ck _ rfl rfl (cls_ck h2) ?_; simp only [Act.put, List.setIfInBounds_toArray, List.set_cons_succ, List.set_cons_zero]; go_big_quiet_on) | (refine quiet_load_ck _ rfl rfl (cls_ck h3) ?_; simp only [Act.put, List.setIfInBounds_toArray, List.set_cons_succ, List.set_cons_zero]; go_big_quiet_on) | (refine quiet_load_ck _ rfl rfl (cls_ck h7) ?_; simp only [Act.put, List.setIfInBounds_toArray, List.set_cons_succ, List.set_cons_zero]; go_big_quiet_on) | (refine quiet_load_ck _ rfl rfl (cls_ck h8) ?_; simp only [Act.put, List.setIfInBounds_toArray, List.set_cons_succ, List.set_cons_zero]; go_big_quiet_on) | (go_big_quiet_op; first | go_big_quiet_on | go_big_quiet_call ((go_at_call 9; first | with_reducible exact cls_of (covers_is hca _ hc ha) | with_reducible exact cls_of (covers_is hcb _ hc hb) | with_reducible exact cls_of (covers_is hcm _ hc hm) | with_reducible exact cls_of (covers_is hac _ ha hc) | with_reducible exact cls_of (covers_is hbc _ hb hc) | with_reducible exact cls_of (covers_is hnc _ hn hc))))))
              refine wpQuiet_nil ?_
              rintro w1 ⟨s1, e1⟩
              have hb1 := wOf_below s1
              rw [← e1] at hb1
              clear e1 s1
              replace h1 := h1.later hb1
              replace h2 := h2.later hb1
              replace h3 := h3.later hb1
              replace h7 := h7.later hb1
              replace h8 := h8.later hb1
              replace hB := bgo hB hb1
              clear hb1
              go_wp2
              go_meet
              case rel => exact ⟨rfl, hB, h1, h2, h3, h7, h8⟩
            · cases hbc : cov b c
              · have hnc : cov (mee a b) c = false := by rw [mee_cov ha hb, hac, hbc]; rfl
                refine wp_region_cls (by kernel_rfl) (by kernel_rfl) ?_
                repeat (first | go_big_quiet_skip | (go_big_quiet_want; first | (refine quiet_load_ck _ rfl rfl (cls_ck h1) ?_; simp only [Act.put, List.setIfInBounds_toArray, List.set_cons_succ, List.set_cons_zero]; go_big_quiet_on) | (refine quiet_load_ck _ rfl rfl (cls_ck h2) ?_; simp only [Act.put, List.setIfInBounds_toArray, List.set_cons_succ, List.set_cons_zero]; go_big_quiet_on) | (refine quiet_load_ck _ rfl rfl (cls_ck h3) ?_; simp only [Act.put, List.setIfInBounds_toArray, List.set_cons_succ, List.set_cons_zero]; go_big_quiet_on) | (refine quiet_load_ck _ rfl rfl (cls_ck h7) ?_; simp only [Act.put, List.setIfInBounds_toArray, List.set_cons_succ, List.set_cons_zero]; go_big_quiet_on) | (refine quiet_load_ck _ rfl rfl (cls_ck h8) ?_; simp only [Act.put, List.setIfInBounds_toArray, List.set_cons_succ, List.set_cons_zero]; go_big_quiet_on) | (go_big_quiet_op; first | go_big_quiet_on | go_big_quiet_call ((go_at_call 9; first | with_reducible exact cls_of (covers_is hca _ hc ha) | with_reducible exact cls_of (covers_is hcb _ hc hb) | with_reducible exact cls_of (covers_is hcm _ hc hm) | with_reducible exact cls_of (covers_is hac _ ha hc) | with_reducible exact cls_of (covers_is hbc _ hb hc) | with_reducible exact cls_of (covers_is hnc _ hn hc))))))
                refine wpQuiet_nil ?_
                rintro w1 ⟨s1, e1⟩
                have hb1 := wOf_below s1
                rw [← e1] at hb1
                clear e1 s1
                replace h1 := h1.later hb1
                replace h2 := h2.later hb1
                replace h3 := h3.later hb1
                replace h7 := h7.later hb1
                replace h8 := h8.later hb1
                replace hB := bgo hB hb1
                clear hb1
                go_wp2
                go_meet
                case rel => exact ⟨rfl, hB, h1, h2, h3, h7, h8⟩
              · have hnc : cov (mee a b) c = true := by rw [mee_cov ha hb, hac, hbc]; rfl
                refine wp_region_cls (by kernel_rfl) (by kernel_rfl) ?_
                repeat (first | go_big_quiet_skip | (go_big_quiet_want; first | (refine quiet_load_ck _ rfl rfl (cls_ck h1) ?_; simp only [Act.put, List.setIfInBounds_toArray, List.set_cons_succ, List.set_cons_zero]; go_big_quiet_on) | (refine quiet_load_ck _ rfl rfl (cls_ck h2) ?_; simp only [Act.put, List.setIfInBounds_toArray, List.set_cons_succ, List.set_cons_zero]; go_big_quiet_on) | (refine quiet_load_ck _ rfl rfl (cls_ck h3) ?_; simp only [Act.put, List.setIfInBounds_toArray, List.set_cons_succ, List.set_cons_zero]; go_big_quiet_on) | (refine quiet_load_ck _ rfl rfl (cls_ck h7) ?_; simp only [Act.put, List.setIfInBounds_toArray, List.set_cons_succ, List.set_cons_zero]; go_big_quiet_on) | (refine quiet_load_ck _ rfl rfl (cls_ck h8) ?_; simp only [Act.put, List.setIfInBounds_toArray, List.set_cons_succ, List.set_cons_zero]; go_big_quiet_on) | (go_big_quiet_op; first | go_big_quiet_on | go_big_quiet_call ((go_at_call 9; first | with_reducible exact cls_of (covers_is hca _ hc ha) | with_reducible exact cls_of (covers_is hcb _ hc hb) | with_reducible exact cls_of (covers_is hcm _ hc hm) | with_reducible exact cls_of (covers_is hac _ ha hc) | with_reducible exact cls_of (covers_is hbc _ hb hc) | with_reducible exact cls_of (covers_is hnc _ hn hc))))))
                refine wpQuiet_nil ?_
                rintro w1 ⟨s1, e1⟩
                have hb1 := wOf_below s1
                rw [← e1] at hb1
                clear e1 s1
                replace h1 := h1.later hb1
                replace h2 := h2.later hb1
                replace h3 := h3.later hb1
                replace h7 := h7.later hb1
                replace h8 := h8.later hb1
                replace hB := bgo hB hb1
                clear hb1
                go_wp2
                go_meet
                case rel => exact ⟨rfl, hB, h1, h2, h3, h7, h8⟩
          · have hcm : cov c (mrg a b) = true := by rw [cov_of_mrg ha hb, hca, hcb]; rfl
            cases hac : cov a c
            · skip
              refine wp_region_cls (by kernel_rfl) (by kernel_rfl) ?_
              repeat (first | go_big_quiet_skip | (go_big_quiet_want; first | (refine quiet_load_ck _ rfl rfl (cls_ck h1) ?_; simp only [Act.put, List.setIfInBounds_toArray, List.set_cons_succ, List.set_cons_zero]; go_big_quiet_on) | (refine quiet_load_ck _ rfl rfl (cls_ck h2) ?_; simp only [Act.put, List.setIfInBounds_toArray, List.set_cons_succ, List.set_cons_zero]; go_big_quiet_on) | (refine quiet_load_ck _ rfl rfl (cls_ck h3) ?_; simp only [Act.put, List.setIfInBounds_toArray, List.set_cons_succ, List.set_cons_zero]; go_big_quiet_on) | (refine quiet_load_ck _ rfl rfl (cls_ck h7) ?_; simp only [Act.put, List.setIfInBounds_toArray, List.set_cons_succ, List.set_cons_zero]; go_big_quiet_on) | (refine quiet_load_ck _ rfl rfl (cls_ck h8) ?_; simp only [Act.put, List.setIfInBounds_toArray, List.set_cons_succ, List.set_cons_zero]; go_big_quiet_on) | (go_big_quiet_op; first | go_big_quiet_on | go_big_quiet_call ((go_at_call 9; first | with_reducible exact cls_of (covers_is hca _ hc ha) | with_reducible exact cls_of (covers_is hcb _ hc hb) | with_reducible exact cls_of (covers_is hcm _ hc hm) | with_reducible exact cls_of (covers_is hac _ ha hc) | with_reducible exact cls_of (covers_is hbc _ hb hc) | with_reducible exact cls_of (covers_is hnc _ hn hc))))))
              refine wpQuiet_nil ?_
              rintro w1 ⟨s1, e1⟩
              have hb1 := wOf_below s1
              rw [← e1] at hb1
              clear e1 s1
              replace h1 := h1.later hb1
              replace h2 := h2.later hb1
              replace h3 := h3.later hb1
              replace h7 := h7.later hb1
              replace h8 := h8.later hb1
              replace hB := bgo hB hb1
              clear hb1
              go_wp2
              go_meet
              case rel => exact ⟨rfl, hB, h1, h2, h3, h7, h8⟩
            · cases hbc : cov b c
              · have hnc : cov (mee a b) c = false := by rw [mee_cov ha hb, hac, hbc]; rfl
                refine wp_region_cls (by kernel_rfl) (by kernel_rfl) ?_
                repeat (first | go_big_quiet_skip | (go_big_quiet_want; first | (refine quiet_load_ck _ rfl rfl (cls_ck h1) ?_; simp only [Act.put, List.setIfInBounds_toArray, List.set_cons_succ, List.set_cons_zero]; go_big_quiet_on) | (refine quiet_load_ck _ rfl rfl (cls_ck h2) ?_; simp only [Act.put, List.setIfInBounds_toArray, List.set_cons_succ, List.set_cons_zero]; go_big_quiet_on) | (refine quiet_load_ck _ rfl rfl (cls_ck h3) ?_; simp only [Act.put, List.setIfInBounds_toArray, List.set_cons_succ, List.set_cons_zero]; go_big_quiet_on) | (refine quiet_load_ck _ rfl rfl (cls_ck h7) ?_; simp only [Act.put, List.setIfInBounds_toArray, List.set_cons_succ, List.set_cons_zero]; go_big_quiet_on) | (refine quiet_load_ck _ rfl rfl (cls_ck h8) ?_; simp only [Act.put, List.setIfInBounds_toArray, List.set_cons_succ, List.set_cons_zero]; go_big_quiet_on) | (go_big_quiet_op; first | go_big_quiet_on | go_big_quiet_call ((go_at_call 9; first | with_reducible exact cls_of (covers_is hca _ hc ha) | with_reducible exact cls_of (covers_is hcb _ hc hb) | with_reducible exact cls_of (covers_is hcm _ hc hm) | with_reducible exact cls_of (covers_is hac _ ha hc) | with_reducible exact cls_of (covers_is hbc _ hb hc) | with_reducible exact cls_of (covers_is hnc _ hn hc))))))
                refine wpQuiet_nil ?_
                rintro w1 ⟨s1, e1⟩
                have hb1 := wOf_below s1
                rw [← e1] at hb1
                clear e1 s1
                replace h1 := h1.later hb1
                replace h2 := h2.later hb1
                replace h3 := h3.later hb1
                replace h7 := h7.later hb1
                replace h8 := h8.later hb1
                replace hB := bgo hB hb1
                clear hb1
                go_wp2
                go_meet
                case rel => exact ⟨rfl, hB, h1, h2, h3, h7, h8⟩
              · have hnc : cov (mee a b) c = true := by rw [mee_cov ha hb, hac, hbc]; rfl
                refine wp_region_cls (by kernel_rfl) (by kernel_rfl) ?_
                repeat (first | go_big_quiet_skip | (go_big_quiet_want; first | (refine quiet_load_ck _ rfl rfl (cls_ck h1) ?_; simp only [Act.put, List.setIfInBounds_toArray, List.set_cons_succ, List.set_cons_zero]; go_big_quiet_on) | (refine quiet_load_ck _ rfl rfl (cls_ck h2) ?_; simp only [Act.put, List.setIfInBounds_toArray, List.set_cons_succ, List.set_cons_zero]; go_big_quiet_on) | (refine quiet_load_ck _ rfl rfl (cls_ck h3) ?_; simp only [Act.put, List.setIfInBounds_toArray, List.set_cons_succ, List.set_cons_zero]; go_big_quiet_on) | (refine quiet_load_ck _ rfl rfl (cls_ck h7) ?_; simp only [Act.put, List.setIfInBounds_toArray, List.set_cons_succ, List.set_cons_zero]; go_big_quiet_on) | (refine quiet_load_ck _ rfl rfl (cls_ck h8) ?_; simp only [Act.put, List.setIfInBounds_toArray, List.set_cons_succ, List.set_cons_zero]; go_big_quiet_on) | (go_big_quiet_op; first | go_big_quiet_on | go_big_quiet_call ((go_at_call 9; first | with_reducible exact cls_of (covers_is hca _ hc ha) | with_reducible exact cls_of (covers_is hcb _ hc hb) | with_reducible exact cls_of (covers_is hcm _ hc hm) | with_reducible exact cls_of (covers_is hac _ ha hc) | with_reducible exact cls_of (covers_is hbc _ hb hc) | with_reducible exact cls_of (covers_is hnc _ hn hc))))))
                refine wpQuiet_nil ?_
                rintro w1 ⟨s1, e1⟩
                have hb1 := wOf_below s1
                rw [← e1] at hb1
                clear e1 s1
                replace h1 := h1.later hb1
                replace h2 := h2.later hb1
                replace h3 := h3.later hb1
                replace h7 := h7.later hb1
                replace h8 := h8.later hb1
                replace hB := bgo hB hb1
                clear hb1
                go_wp2
                go_meet
                case rel => exact ⟨rfl, hB, h1, h2, h3, h7, h8⟩
      case rest =>
        obtain ⟨rfl, hB', h1', h2', h3', h7', h8'⟩ := hcut
        clear h1 h2 h3 h7 h8 hB
        go_upto_region 9 with fail
        have h9 : RowAt wc.heap.size #[.int .i64 0, .int .i64 2, .int .i64 1, .int .i64 3] 56 (wc.alloc (.cells #[.int .i64 0, .int .i64 2, .int .i64 1, .int .i64 3] 56)) := heap_alloc_last wc _
        have hb9 := below_one wc (.cells #[.int .i64 0, .int .i64 2, .int .i64 1, .int .i64 3] 56)
        have h1 := h1'.later hb9
        have h2 := h2'.later hb9
        have h3 := h3'.later hb9
        have h7 := h7'.later hb9
        have h8 := h8'.later hb9
        have hB := bgo hB' hb9
        clear h1' h2' h3' h7' h8' hB' hb9
        have q0 := eqIn_ck a b ha hb
        have q1 := eqIn_ck a a ha ha
        have q2 := eqIn_ck (mrg (mrg a b) c) (mrg (mrg a b) c) (mrg_len hm hc) (mrg_len hm hc)
        have s1 : (a == a) = true := by simp
        have s2 : (mrg (mrg a b) c == mrg (mrg a b) c) = true := by simp
        cases hcab : cov a b <;> cases hcba : cov b a
        · skip
          have h0 : (a == b) = false := by rw [eq_cov ha hb, hcab, hcba]; rfl
          have hab : cmp a b = 3 := by unfold cmp; rw [hcab, hcba]; rfl
          have hba : cmp b a = 3 := by unfold cmp; rw [hcab, hcba]; rfl
          refine wp_region_cls0 ?_
          repeat (first | go_big_quiet_skip | (go_big_quiet_want; first | (refine quiet_load_ck _ rfl rfl (cls_ck h1) ?_; simp only [Act.put, List.setIfInBounds_toArray, List.set_cons_succ, List.set_cons_zero]; go_big_quiet_on) | (refine quiet_load_ck _ rfl rfl (cls_ck h2) ?_; simp only [Act.put, List.setIfInBounds_toArray, List.set_cons_succ, List.set_cons_zero]; go_big_quiet_on) | (refine quiet_load_ck _ rfl rfl (cls_ck h3) ?_; simp only [Act.put, List.setIfInBounds_toArray, List.set_cons_succ, List.set_cons_zero]; go_big_quiet_on) | (refine quiet_load_ck _ rfl rfl (cls_ck h7) ?_; simp only [Act.put, List.setIfInBounds_toArray, List.set_cons_succ, List.set_cons_zero]; go_big_quiet_on) | (refine quiet_load_ck _ rfl rfl (cls_ck h8) ?_; simp only [Act.put, List.setIfInBounds_toArray, List.set_cons_succ, List.set_cons_zero]; go_big_quiet_on) | (go_big_quiet_op; first | go_big_quiet_on | go_big_quiet_call ((go_at_call 11; with_reducible exact cls_of (cmp_is hab _ ha hb))))))
          refine wpQuiet_nil ?_
          rintro w1 ⟨s1, e1⟩
          have hb1 := wOf_below s1
          rw [← e1] at hb1
          clear e1 s1
          replace h1 := h1.later hb1
          replace h2 := h2.later hb1
          replace h3 := h3.later hb1
          replace h7 := h7.later hb1
          replace h8 := h8.later hb1
          replace h9 := h9.later hb1
          replace hB := bgo hB hb1
          clear hb1
          go_upto_region 10 with fail
          have hcell := h9.cls 3 (.int .i64 3) rfl
          refine wp_region_cls (by kernel_rfl) (by kernel_rfl) ?_
          repeat (first | go_big_quiet_skip | (go_big_quiet_want; first | (refine quiet_load_ck _ rfl rfl (cls_ck h1) ?_; simp only [Act.put, List.setIfInBounds_toArray, List.set_cons_succ, List.set_cons_zero]; go_big_quiet_on) | (refine quiet_load_ck _ rfl rfl (cls_ck h2) ?_; simp only [Act.put, List.setIfInBounds_toArray, List.set_cons_succ, List.set_cons_zero]; go_big_quiet_on) | (refine quiet_load_ck _ rfl rfl (cls_ck h3) ?_; simp only [Act.put, List.setIfInBounds_toArray, List.set_cons_succ, List.set_cons_zero]; go_big_quiet_on) | (refine quiet_load_ck _ rfl rfl (cls_ck h7) ?_; simp only [Act.put, List.setIfInBounds_toArray, List.set_cons_succ, List.set_cons_zero]; go_big_quiet_on) | (refine quiet_load_ck _ rfl rfl (cls_ck h8) ?_; simp only [Act.put, List.setIfInBounds_toArray, List.set_cons_succ, List.set_cons_zero]; go_big_quiet_on) | (go_big_quiet_op; first | go_big_quiet_on | go_big_quiet_call ((go_at_call 11; with_reducible exact cls_of (cmp_is hba _ hb ha))))))
          refine wpQuiet_nil ?_
          rintro w1 ⟨s1, e1⟩
          have hb1 := wOf_below s1
          rw [← e1] at hb1
          clear e1 s1
          replace h1 := h1.later hb1
          replace h2 := h2.later hb1
          replace h3 := h3.later hb1
          replace h7 := h7.later hb1
          replace h8 := h8.later hb1
          replace hB := bgo hB hb1
          clear hb1
          go_upto_region 12 with fail
          refine wp_region_cls (by kernel_rfl) (by kernel_rfl) ?_
          repeat (first | go_big_quiet_skip | (go_big_quiet_want; first | (refine quiet_load_ck _ rfl rfl (cls_ck h1) ?_; simp only [Act.put, List.setIfInBounds_toArray, List.set_cons_succ, List.set_cons_zero]; go_big_quiet_on) | (refine quiet_load_ck _ rfl rfl (cls_ck h2) ?_; simp only [Act.put, List.setIfInBounds_toArray, List.set_cons_succ, List.set_cons_zero]; go_big_quiet_on) | (refine quiet_load_ck _ rfl rfl (cls_ck h3) ?_; simp only [Act.put, List.setIfInBounds_toArray, List.set_cons_succ, List.set_cons_zero]; go_big_quiet_on) | (refine quiet_load_ck _ rfl rfl (cls_ck h7) ?_; simp only [Act.put, List.setIfInBounds_toArray, List.set_cons_succ, List.set_cons_zero]; go_big_quiet_on) | (refine quiet_load_ck _ rfl rfl (cls_ck h8) ?_; simp only [Act.put, List.setIfInBounds_toArray, List.set_cons_succ, List.set_cons_zero]; go_big_quiet_on) | (go_big_quiet_op; first | go_big_quiet_on | go_big_quiet_call ((first | (go_at_call 13; first | with_reducible exact cls_of (merge_is (mrg_mee ha hb) _ ha hn) | with_reducible exact cls_of (merge_is (Eq.refl (mrg a b)) _ ha hb) | with_reducible exact cls_of (merge_is (Eq.refl (mrg (mrg a b) c)) _ hm hc) | with_reducible exact cls_of (merge_is (Eq.refl (mrg b c)) _ hb hc) | with_reducible exact cls_of (merge_is (mrg_assoc ha hb hc).symm _ ha (mrg_len hb hc))) | (go_at_call 15; first | with_reducible exact cls_of (meet_is (Eq.refl (mee a b)) _ ha hb) | with_reducible exact cls_of (meet_is (mee_mrg ha hb) _ ha hm)) | (go_at_call 17; exact cls_of (wakesC_ok _)))))))
          refine wpQuiet_nil ?_
          rintro w1 ⟨s1, e1⟩
          have hb1 := wOf_below s1
          rw [← e1] at hb1
          clear e1 s1
          replace h1 := h1.later hb1
          replace h2 := h2.later hb1
          replace h3 := h3.later hb1
          replace h7 := h7.later hb1
          replace h8 := h8.later hb1
          replace hB := bgo hB hb1
          clear hb1
          go_wp2
          go_ret
          exact ⟨rfl, hB⟩
        · skip
          have h0 : (a == b) = false := by rw [eq_cov ha hb, hcab, hcba]; rfl
          have hab : cmp a b = 1 := by unfold cmp; rw [hcab, hcba]; rfl
          have hba : cmp b a = 2 := by unfold cmp; rw [hcab, hcba]; rfl
          refine wp_region_cls0 ?_
          repeat (first | go_big_quiet_skip | (go_big_quiet_want; first | (refine quiet_load_ck _ rfl rfl (cls_ck h1) ?_; simp only [Act.put, List.setIfInBounds_toArray, List.set_cons_succ, List.set_cons_zero]; go_big_quiet_on) | (refine quiet_load_ck _ rfl rfl (cls_ck h2) ?_; simp only [Act.put, List.setIfInBounds_toArray, List.set_cons_succ, List.set_cons_zero]; go_big_quiet_on) | (refine quiet_load_ck _ rfl rfl (cls_ck h3) ?_; simp only [Act.put, List.setIfInBounds_toArray, List.set_cons_succ, List.set_cons_zero]; go_big_quiet_on) | (refine quiet_load_ck _ rfl rfl (cls_ck h7) ?_; simp only [Act.put, List.setIfInBounds_toArray, List.set_cons_succ, List.set_cons_zero]; go_big_quiet_on) | (refine quiet_load_ck _ rfl rfl (cls_ck h8) ?_; simp only [Act.put, List.setIfInBounds_toArray, List.set_cons_succ, List.set_cons_zero]; go_big_quiet_on) | (go_big_quiet_op; first | go_big_quiet_on | go_big_quiet_call ((go_at_call 11; with_reducible exact cls_of (cmp_is hab _ ha hb))))))
          refine wpQuiet_nil ?_
          rintro w1 ⟨s1, e1⟩
          have hb1 := wOf_below s1
          rw [← e1] at hb1
          clear e1 s1
          replace h1 := h1.later hb1
          replace h2 := h2.later hb1
          replace h3 := h3.later hb1
          replace h7 := h7.later hb1
          replace h8 := h8.later hb1
          replace h9 := h9.later hb1
          replace hB := bgo hB hb1
          clear hb1
          go_upto_region 10 with fail
          have hcell := h9.cls 1 (.int .i64 2) rfl
          refine wp_region_cls (by kernel_rfl) (by kernel_rfl) ?_
          repeat (first | go_big_quiet_skip | (go_big_quiet_want; first | (refine quiet_load_ck _ rfl rfl (cls_ck h1) ?_; simp only [Act.put, List.setIfInBounds_toArray, List.set_cons_succ, List.set_cons_zero]; go_big_quiet_on) | (refine quiet_load_ck _ rfl rfl (cls_ck h2) ?_; simp only [Act.put, List.setIfInBounds_toArray, List.set_cons_succ, List.set_cons_zero]; go_big_quiet_on) | (refine quiet_load_ck _ rfl rfl (cls_ck h3) ?_; simp only [Act.put, List.setIfInBounds_toArray, List.set_cons_succ, List.set_cons_zero]; go_big_quiet_on) | (refine quiet_load_ck _ rfl rfl (cls_ck h7) ?_; simp only [Act.put, List.setIfInBounds_toArray, List.set_cons_succ, List.set_cons_zero]; go_big_quiet_on) | (refine quiet_load_ck _ rfl rfl (cls_ck h8) ?_; simp only [Act.put, List.setIfInBounds_toArray, List.set_cons_succ, List.set_cons_zero]; go_big_quiet_on) | (go_big_quiet_op; first | go_big_quiet_on | go_big_quiet_call ((go_at_call 11; with_reducible exact cls_of (cmp_is hba _ hb ha))))))
          refine wpQuiet_nil ?_
          rintro w1 ⟨s1, e1⟩
          have hb1 := wOf_below s1
          rw [← e1] at hb1
          clear e1 s1
          replace h1 := h1.later hb1
          replace h2 := h2.later hb1
          replace h3 := h3.later hb1
          replace h7 := h7.later hb1
          replace h8 := h8.later hb1
          replace hB := bgo hB hb1
          clear hb1
          go_upto_region 12 with fail
          refine wp_region_cls (by kernel_rfl) (by kernel_rfl) ?_
          repeat (first | go_big_quiet_skip | (go_big_quiet_want; first | (refine quiet_load_ck _ rfl rfl (cls_ck h1) ?_; simp only [Act.put, List.setIfInBounds_toArray, List.set_cons_succ, List.set_cons_zero]; go_big_quiet_on) | (refine quiet_load_ck _ rfl rfl (cls_ck h2) ?_; simp only [Act.put, List.setIfInBounds_toArray, List.set_cons_succ, List.set_cons_zero]; go_big_quiet_on) | (refine quiet_load_ck _ rfl rfl (cls_ck h3) ?_; simp only [Act.put, List.setIfInBounds_toArray, List.set_cons_succ, List.set_cons_zero]; go_big_quiet_on) | (refine quiet_load_ck _ rfl rfl (cls_ck h7) ?_; simp only [Act.put, List.setIfInBounds_toArray, List.set_cons_succ, List.set_cons_zero]; go_big_quiet_on) | (refine quiet_load_ck _ rfl rfl (cls_ck h8) ?_; simp only [Act.put, List.setIfInBounds_toArray, List.set_cons_succ, List.set_cons_zero]; go_big_quiet_on) | (go_big_quiet_op; first | go_big_quiet_on | go_big_quiet_call ((first | (go_at_call 13; first | with_reducible exact cls_of (merge_is (mrg_mee ha hb) _ ha hn) | with_reducible exact cls_of (merge_is (Eq.refl (mrg a b)) _ ha hb) | with_reducible exact cls_of (merge_is (Eq.refl (mrg (mrg a b) c)) _ hm hc) | with_reducible exact cls_of (merge_is (Eq.refl (mrg b c)) _ hb hc) | with_reducible exact cls_of (merge_is (mrg_assoc ha hb hc).symm _ ha (mrg_len hb hc))) | (go_at_call 15; first | with_reducible exact cls_of (meet_is (Eq.refl (mee a b)) _ ha hb) | with_reducible exact cls_of (meet_is (mee_mrg ha hb) _ ha hm)) | (go_at_call 17; exact cls_of (wakesC_ok _)))))))
          refine wpQuiet_nil ?_
          rintro w1 ⟨s1, e1⟩
          have hb1 := wOf_below s1
          rw [← e1] at hb1
          clear e1 s1
          replace h1 := h1.later hb1
          replace h2 := h2.later hb1
          replace h3 := h3.later hb1
          replace h7 := h7.later hb1
          replace h8 := h8.later hb1
          replace hB := bgo hB hb1
          clear hb1
          go_wp2
          go_ret
          exact ⟨rfl, hB⟩
        · skip
          have h0 : (a == b) = false := by rw [eq_cov ha hb, hcab, hcba]; rfl
          have hab : cmp a b = 2 := by unfold cmp; rw [hcab, hcba]; rfl
          have hba : cmp b a = 1 := by unfold cmp; rw [hcab, hcba]; rfl
          refine wp_region_cls0 ?_
          repeat (first | go_big_quiet_skip | (go_big_quiet_want; first | (refine quiet_load_ck _ rfl rfl (cls_ck h1) ?_; simp only [Act.put, List.setIfInBounds_toArray, List.set_cons_succ, List.set_cons_zero]; go_big_quiet_on) | (refine quiet_load_ck _ rfl rfl (cls_ck h2) ?_; simp only [Act.put, List.setIfInBounds_toArray, List.set_cons_succ, List.set_cons_zero]; go_big_quiet_on) | (refine quiet_load_ck _ rfl rfl (cls_ck h3) ?_; simp only [Act.put, List.setIfInBounds_toArray, List.set_cons_succ, List.set_cons_zero]; go_big_quiet_on) | (refine quiet_load_ck _ rfl rfl (cls_ck h7) ?_; simp only [Act.put, List.setIfInBounds_toArray, List.set_cons_succ, List.set_cons_zero]; go_big_quiet_on) | (refine quiet_load_ck _ rfl rfl (cls_ck h8) ?_; simp only [Act.put, List.setIfInBounds_toArray, List.set_cons_succ, List.set_cons_zero]; go_big_quiet_on) | (go_big_quiet_op; first | go_big_quiet_on | go_big_quiet_call ((go_at_call 11; with_reducible exact cls_of (cmp_is hab _ ha hb))))))
          refine wpQuiet_nil ?_
          rintro w1 ⟨s1, e1⟩
          have hb1 := wOf_below s1
          rw [← e1] at hb1
          clear e1 s1
          replace h1 := h1.later hb1
          replace h2 := h2.later hb1
          replace h3 := h3.later hb1
          replace h7 := h7.later hb1
          replace h8 := h8.later hb1
          replace h9 := h9.later hb1
          replace hB := bgo hB hb1
          clear hb1
          go_upto_region 10 with fail
          have hcell := h9.cls 2 (.int .i64 1) rfl
          refine wp_region_cls (by kernel_rfl) (by kernel_rfl) ?_
          repeat (first | go_big_quiet_skip | (go_big_quiet_want; first | (refine quiet_load_ck _ rfl rfl (cls_ck h1) ?_; simp only [Act.put, List.setIfInBounds_toArray, List.set_cons_succ, List.set_cons_zero]; go_big_quiet_on) | (refine quiet_load_ck _ rfl rfl (cls_ck h2) ?_; simp only [Act.put, List.setIfInBounds_toArray, List.set_cons_succ, List.set_cons_zero]; go_big_quiet_on) | (refine quiet_load_ck _ rfl rfl (cls_ck h3) ?_; simp only [Act.put, List.setIfInBounds_toArray, List.set_cons_succ, List.set_cons_zero]; go_big_quiet_on) | (refine quiet_load_ck _ rfl rfl (cls_ck h7) ?_; simp only [Act.put, List.setIfInBounds_toArray, List.set_cons_succ, List.set_cons_zero]; go_big_quiet_on) | (refine quiet_load_ck _ rfl rfl (cls_ck h8) ?_; simp only [Act.put, List.setIfInBounds_toArray, List.set_cons_succ, List.set_cons_zero]; go_big_quiet_on) | (go_big_quiet_op; first | go_big_quiet_on | go_big_quiet_call ((go_at_call 11; with_reducible exact cls_of (cmp_is hba _ hb ha))))))
          refine wpQuiet_nil ?_
          rintro w1 ⟨s1, e1⟩
          have hb1 := wOf_below s1
          rw [← e1] at hb1
          clear e1 s1
          replace h1 := h1.later hb1
          replace h2 := h2.later hb1
          replace h3 := h3.later hb1
          replace h7 := h7.later hb1
          replace h8 := h8.later hb1
          replace hB := bgo hB hb1
          clear hb1
          go_upto_region 12 with fail
          refine wp_region_cls (by kernel_rfl) (by kernel_rfl) ?_
          repeat (first | go_big_quiet_skip | (go_big_quiet_want; first | (refine quiet_load_ck _ rfl rfl (cls_ck h1) ?_; simp only [Act.put, List.setIfInBounds_toArray, List.set_cons_succ, List.set_cons_zero]; go_big_quiet_on) | (refine quiet_load_ck _ rfl rfl (cls_ck h2) ?_; simp only [Act.put, List.setIfInBounds_toArray, List.set_cons_succ, List.set_cons_zero]; go_big_quiet_on) | (refine quiet_load_ck _ rfl rfl (cls_ck h3) ?_; simp only [Act.put, List.setIfInBounds_toArray, List.set_cons_succ, List.set_cons_zero]; go_big_quiet_on) | (refine quiet_load_ck _ rfl rfl (cls_ck h7) ?_; simp only [Act.put, List.setIfInBounds_toArray, List.set_cons_succ, List.set_cons_zero]; go_big_quiet_on) | (refine quiet_load_ck _ rfl rfl (cls_ck h8) ?_; simp only [Act.put, List.setIfInBounds_toArray, List.set_cons_succ, List.set_cons_zero]; go_big_quiet_on) | (go_big_quiet_op; first | go_big_quiet_on | go_big_quiet_call ((first | (go_at_call 13; first | with_reducible exact cls_of (merge_is (mrg_mee ha hb) _ ha hn) | with_reducible exact cls_of (merge_is (Eq.refl (mrg a b)) _ ha hb) | with_reducible exact cls_of (merge_is (Eq.refl (mrg (mrg a b) c)) _ hm hc) | with_reducible exact cls_of (merge_is (Eq.refl (mrg b c)) _ hb hc) | with_reducible exact cls_of (merge_is (mrg_assoc ha hb hc).symm _ ha (mrg_len hb hc))) | (go_at_call 15; first | with_reducible exact cls_of (meet_is (Eq.refl (mee a b)) _ ha hb) | with_reducible exact cls_of (meet_is (mee_mrg ha hb) _ ha hm)) | (go_at_call 17; exact cls_of (wakesC_ok _)))))))
          refine wpQuiet_nil ?_
          rintro w1 ⟨s1, e1⟩
          have hb1 := wOf_below s1
          rw [← e1] at hb1
          clear e1 s1
          replace h1 := h1.later hb1
          replace h2 := h2.later hb1
          replace h3 := h3.later hb1
          replace h7 := h7.later hb1
          replace h8 := h8.later hb1
          replace hB := bgo hB hb1
          clear hb1
          go_wp2
          go_ret
          exact ⟨rfl, hB⟩
        · skip
          have h0 : (a == b) = true := by rw [eq_cov ha hb, hcab, hcba]; rfl
          have hab : cmp a b = 0 := by unfold cmp; rw [hcab, hcba]; rfl
          have hba : cmp b a = 0 := by unfold cmp; rw [hcab, hcba]; rfl
          refine wp_region_cls0 ?_
          repeat (first | go_big_quiet_skip | (go_big_quiet_want; first | (refine quiet_load_ck _ rfl rfl (cls_ck h1) ?_; simp only [Act.put, List.setIfInBounds_toArray, List.set_cons_succ, List.set_cons_zero]; go_big_quiet_on) | (refine quiet_load_ck _ rfl rfl (cls_ck h2) ?_; simp only [Act.put, List.setIfInBounds_toArray, List.set_cons_succ, List.set_cons_zero]; go_big_quiet_on) | (refine quiet_load_ck _ rfl rfl (cls_ck h3) ?_; simp only [Act.put, List.setIfInBounds_toArray, List.set_cons_succ, List.set_cons_zero]; go_big_quiet_on) | (refine quiet_load_ck _ rfl rfl (cls_ck h7) ?_; simp only [Act.put, List.setIfInBounds_toArray, List.set_cons_succ, List.set_cons_zero]; go_big_quiet_on) | (refine quiet_load_ck _ rfl rfl (cls_ck h8) ?_; simp only [Act.put, List.setIfInBounds_toArray, List.set_cons_succ, List.set_cons_zero]; go_big_quiet_on) | (go_big_quiet_op; first | go_big_quiet_on | go_big_quiet_call ((go_at_call 11; with_reducible exact cls_of (cmp_is hab _ ha hb))))))
          refine wpQuiet_nil ?_
          rintro w1 ⟨s1, e1⟩
          have hb1 := wOf_below s1
          rw [← e1] at hb1
          clear e1 s1
          replace h1 := h1.later hb1
          replace h2 := h2.later hb1
          replace h3 := h3.later hb1
          replace h7 := h7.later hb1
          replace h8 := h8.later hb1
          replace h9 := h9.later hb1
          replace hB := bgo hB hb1
          clear hb1
          go_upto_region 10 with fail
          have hcell := h9.cls 0 (.int .i64 0) rfl
          refine wp_region_cls (by kernel_rfl) (by kernel_rfl) ?_
          repeat (first | go_big_quiet_skip | (go_big_quiet_want; first | (refine quiet_load_ck _ rfl rfl (cls_ck h1) ?_; simp only [Act.put, List.setIfInBounds_toArray, List.set_cons_succ, List.set_cons_zero]; go_big_quiet_on) | (refine quiet_load_ck _ rfl rfl (cls_ck h2) ?_; simp only [Act.put, List.setIfInBounds_toArray, List.set_cons_succ, List.set_cons_zero]; go_big_quiet_on) | (refine quiet_load_ck _ rfl rfl (cls_ck h3) ?_; simp only [Act.put, List.setIfInBounds_toArray, List.set_cons_succ, List.set_cons_zero]; go_big_quiet_on) | (refine quiet_load_ck _ rfl rfl (cls_ck h7) ?_; simp only [Act.put, List.setIfInBounds_toArray, List.set_cons_succ, List.set_cons_zero]; go_big_quiet_on) | (refine quiet_load_ck _ rfl rfl (cls_ck h8) ?_; simp only [Act.put, List.setIfInBounds_toArray, List.set_cons_succ, List.set_cons_zero]; go_big_quiet_on) | (go_big_quiet_op; first | go_big_quiet_on | go_big_quiet_call ((go_at_call 11; with_reducible exact cls_of (cmp_is hba _ hb ha))))))
          refine wpQuiet_nil ?_
          rintro w1 ⟨s1, e1⟩
          have hb1 := wOf_below s1
          rw [← e1] at hb1
          clear e1 s1
          replace h1 := h1.later hb1
          replace h2 := h2.later hb1
          replace h3 := h3.later hb1
          replace h7 := h7.later hb1
          replace h8 := h8.later hb1
          replace hB := bgo hB hb1
          clear hb1
          go_upto_region 12 with fail
          refine wp_region_cls (by kernel_rfl) (by kernel_rfl) ?_
          repeat (first | go_big_quiet_skip | (go_big_quiet_want; first | (refine quiet_load_ck _ rfl rfl (cls_ck h1) ?_; simp only [Act.put, List.setIfInBounds_toArray, List.set_cons_succ, List.set_cons_zero]; go_big_quiet_on) | (refine quiet_load_ck _ rfl rfl (cls_ck h2) ?_; simp only [Act.put, List.setIfInBounds_toArray, List.set_cons_succ, List.set_cons_zero]; go_big_quiet_on) | (refine quiet_load_ck _ rfl rfl (cls_ck h3) ?_; simp only [Act.put, List.setIfInBounds_toArray, List.set_cons_succ, List.set_cons_zero]; go_big_quiet_on) | (refine quiet_load_ck _ rfl rfl (cls_ck h7) ?_; simp only [Act.put, List.setIfInBounds_toArray, List.set_cons_succ, List.set_cons_zero]; go_big_quiet_on) | (refine quiet_load_ck _ rfl rfl (cls_ck h8) ?_; simp only [Act.put, List.setIfInBounds_toArray, List.set_cons_succ, List.set_cons_zero]; go_big_quiet_on) | (go_big_quiet_op; first | go_big_quiet_on | go_big_quiet_call ((first | (go_at_call 13; first | with_reducible exact cls_of (merge_is (mrg_mee ha hb) _ ha hn) | with_reducible exact cls_of (merge_is (Eq.refl (mrg a b)) _ ha hb) | with_reducible exact cls_of (merge_is (Eq.refl (mrg (mrg a b) c)) _ hm hc) | with_reducible exact cls_of (merge_is (Eq.refl (mrg b c)) _ hb hc) | with_reducible exact cls_of (merge_is (mrg_assoc ha hb hc).symm _ ha (mrg_len hb hc))) | (go_at_call 15; first | with_reducible exact cls_of (meet_is (Eq.refl (mee a b)) _ ha hb) | with_reducible exact cls_of (meet_is (mee_mrg ha hb) _ ha hm)) | (go_at_call 17; exact cls_of (wakesC_ok _)))))))
          refine wpQuiet_nil ?_
          rintro w1 ⟨s1, e1⟩
          have hb1 := wOf_below s1
          rw [← e1] at hb1
          clear e1 s1
          replace h1 := h1.later hb1
          replace h2 := h2.later hb1
          replace h3 := h3.later hb1
          replace h7 := h7.later hb1
          replace h8 := h8.later hb1
          replace hB := bgo hB hb1
          clear hb1
          go_wp2
          go_ret
          exact ⟨rfl, hB⟩
end Go.Proofs.YtceahohcmhbkmaaDoor
