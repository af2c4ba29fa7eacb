
/-
  xform.Along, barrowref07.Along, barrowkeep.Ops.
-/
import Derived.Test.YtdafkakigigdeaaDoorXl4
namespace Go.Proofs.YtdafkakigigdeaaDoor
open Go.RowKit
set_option maxRecDepth 100000

theorem RowAt.row_otherL {g h : Nat} {cs c : Array Value} {t : TypeId} {w : World} (hr : RowAt h cs t w) (hn : ¬ h = g) : RowAt h cs t (w.setRow g c) := (setRow_other w g h c hn).trans hr

set_option maxHeartbeats 4000000 in
theorem along_ok {w : World} {v : Value} {l : List Xo} (a : Xo) (hl : SlO w v l) (ha : a.In) (hn : l.length ≤ 1000000) :
    Calls Tryd.prog 14 #[.agg (ov a), v] w fun r w' => r = .returned (.agg (ov (alongO a l))) ∧ Below w.heap.size w w' := by
  have r0 : RowAt w.heap.size (ov a) 37 ((w.alloc (.cells (ov a) 37)).alloc (.cells #[.int .i64 0, .int .i64 0, .int .i32 0, .int .i64 0] 37)) := (row_new w _ _).later (below_one _ _)
  have r1 : RowAt (w.heap.size + 1) #[.int .i64 0, .int .i64 0, .int .i32 0, .int .i64 0] 37 ((w.alloc (.cells (ov a) 37)).alloc (.cells #[.int .i64 0, .int .i64 0, .int .i32 0, .int .i64 0] 37)) := row_new2 w _ _ _
  have hB := below_two w (.cells (ov a) 37) (.cells #[.int .i64 0, .int .i64 0, .int .i32 0, .int .i64 0] 37)
  obtain ⟨a0, c0, rfl⟩ := hl.form
  go_enter Tryd.func14, Tryd.ntmps14
  go_upto_region 1 with fail
  generalize ((w.alloc (.cells (ov a) 37)).alloc (.cells #[.int .i64 0, .int .i64 0, .int .i32 0, .int .i64 0] 37)) = W at r0 r1 hB ⊢
  go_wp2
  go_loopw [9] (fun iv wr => ∃ p : Nat, iv = .int .i64 (p : Int) ∧ p ≤ l.length ∧ (alongO a (l.take p)).In ∧ RowAt w.heap.size (ov (alongO a (l.take p))) 37 wr ∧ RowAt (w.heap.size + 1) #[.int .i64 0, .int .i64 0, .int .i32 0, .int .i64 0] 37 wr ∧ Below w.heap.size w wr) (fun iv _ => l.length - (intOf iv).toNat)
  case atStart => exact ⟨0, rfl, Nat.zero_le _, ha, r0, r1, hB⟩
  case round =>
    clear r0 r1 hB
    obtain ⟨p, rfl, hp, hx0, r0, r1, hB⟩ := hrel
    by_cases hlt : p < l.length
    · have hpi : (p : Int) < (l.length : Int) := by omega
      obtain ⟨b, hb0⟩ : ∃ b, l[p]? = some b := ⟨_, List.getElem?_eq_getElem hlt⟩
      have hnx : Hid (alongO a (l.take (p + 1)) = tO (alongO a (l.take p)) b) := by
        show _ = _
        rw [(take_drop_at hb0).2]
        simp [alongO, List.foldl_append]
      rcases hl.later hB with ⟨h0, _⟩ | ⟨g, o_, c, hvv, hc⟩
      · exfalso; subst h0; simp at hlt
      simp only [Value.slice.injEq] at hvv
      obtain ⟨rfl, _, rfl⟩ := hvv
      have hce := hc p b hb0
      generalize alongO a (l.take p) = x0 at hx0 r0 hnx
      clear hc hb0
      have HT := hid_of' (fun x => tX_any x0 b x hx0.2.1.1)
      go_upto_region 4 with (first | (refine wpL_loadO rfl (.tmp 11) rfl rfl hce ?_) | (refine wpL_storeO (e := b) rfl (.tmp 6) _ rfl rfl rfl (row_new wr _ _) ?_))
      have rb := (row_new wr #[.int .i64 0, .int .i64 0, .int .i32 0, .int .i64 0] 37).put (ov b)
      have hbo : Below wr.heap.size wr ((wr.alloc (.cells #[.int .i64 0, .int .i64 0, .int .i32 0, .int .i64 0] 37)).setRow wr.heap.size (ov b)) := below_row (below_one wr _) (Nat.le_refl _) _
      generalize (wr.alloc (.cells #[.int .i64 0, .int .i64 0, .int .i32 0, .int .i64 0] 37)).setRow wr.heap.size (ov b) = w5 at rb hbo ⊢
      replace r0 := r0.later hbo
      replace r1 := r1.later hbo
      replace hB := bgo hB hbo
      clear hbo hce
      go_wp2_with (first | (refine wpL_loadO (e := x0) rfl (.tmp 2) rfl rfl r0.in ?_; go_simp) | (refine wpL_loadO (e := b) rfl (.tmp 6) rfl rfl rb.in ?_; go_simp) | (go_at_call 29; refine (HT.out _).mono ?_; clear HT; rintro r wt ⟨rfl, hbt⟩; have y0 := (r0.later hbt).put (ov (tO x0 b)); have y1 := (r1.later hbt).row_otherL (g := w.heap.size) (c := ov (tO x0 b)) (by omega); have yB : Below w.heap.size w (wt.setRow w.heap.size (ov (tO x0 b))) := below_row (bgo hB hbt) (Nat.le_refl _) _; have rt := r0.later hbt) | (refine wpL_storeO (e := tO x0 b) rfl (.tmp 2) _ rfl rfl rfl rt ?_; generalize wt.setRow w.heap.size (ov (tO x0 b)) = wx at y0 y1 yB ⊢))
      go_roundw
      case rel => exact ⟨p + 1, by go_num, by omega, by rw [hnx.out]; exact tO_in hx0, by rw [hnx.out]; exact y0, y1, yB⟩
      case measure => simp [intOf]; omega
    · obtain rfl : p = l.length := by omega
      rw [List.take_length] at r0
      clear hlt hx0
      go_wp2_with (first | (refine wpL_loadO rfl _ rfl rfl r0.in ?_) | (refine wpL_storeO (e := alongO a l) rfl _ _ rfl rfl rfl r1 ?_))
      exact bodyPost_ret (v := .agg (ov (alongO a l))) (results_o (fn := Tryd.f14) (p := 4) rfl rfl (r1.put _)) rfl ⟨rfl, below_row hB (by omega) _⟩

set_option maxHeartbeats 4000000 in
theorem refAlong_ok {w : World} {v : Value} {l : List Xo} (a : Xo) (hl : SlO w v l) (ha : a.In) (hn : l.length ≤ 1000000) :
    Calls Tryd.prog 15 #[.agg (ov a), v] w fun r w' => r = .returned (.agg (ov (alongO a l))) ∧ Below w.heap.size w w' := by
  have r0 : RowAt w.heap.size (ov a) 37 ((w.alloc (.cells (ov a) 37)).alloc (.cells #[.int .i64 0, .int .i64 0, .int .i32 0, .int .i64 0] 37)) := (row_new w _ _).later (below_one _ _)
  have r1 : RowAt (w.heap.size + 1) #[.int .i64 0, .int .i64 0, .int .i32 0, .int .i64 0] 37 ((w.alloc (.cells (ov a) 37)).alloc (.cells #[.int .i64 0, .int .i64 0, .int .i32 0, .int .i64 0] 37)) := row_new2 w _ _ _
  have hB := below_two w (.cells (ov a) 37) (.cells #[.int .i64 0, .int .i64 0, .int .i32 0, .int .i64 0] 37)
  obtain ⟨a0, c0, rfl⟩ := hl.form
  go_enter Tryd.func15, Tryd.ntmps15
  go_upto_region 1 with fail
  generalize ((w.alloc (.cells (ov a) 37)).alloc (.cells #[.int .i64 0, .int .i64 0, .int .i32 0, .int .i64 0] 37)) = W at r0 r1 hB ⊢
  go_wp2
  go_loopw [5] (fun iv wr => ∃ p : Nat, iv = .int .i64 (p : Int) ∧ p ≤ l.length ∧ (alongO a (l.take p)).In ∧ RowAt w.heap.size (ov (alongO a (l.take p))) 37 wr ∧ RowAt (w.heap.size + 1) #[.int .i64 0, .int .i64 0, .int .i32 0, .int .i64 0] 37 wr ∧ Below w.heap.size w wr) (fun iv _ => l.length - (intOf iv).toNat)
  case atStart => exact ⟨0, rfl, Nat.zero_le _, ha, r0, r1, hB⟩
  case round =>
    clear r0 r1 hB
    obtain ⟨p, rfl, hp, hx0, r0, r1, hB⟩ := hrel
    by_cases hlt : p < l.length
    · have hpi : (p : Int) < (l.length : Int) := by omega
      obtain ⟨b, hb0⟩ : ∃ b, l[p]? = some b := ⟨_, List.getElem?_eq_getElem hlt⟩
      have hnx : Hid (alongO a (l.take (p + 1)) = tO (alongO a (l.take p)) b) := by
        show _ = _
        rw [(take_drop_at hb0).2]
        simp [alongO, List.foldl_append]
      rcases hl.later hB with ⟨h0, _⟩ | ⟨g, o_, c, hvv, hc⟩
      · exfalso; subst h0; simp at hlt
      simp only [Value.slice.injEq] at hvv
      obtain ⟨rfl, _, rfl⟩ := hvv
      have hce := hc p b hb0
      generalize alongO a (l.take p) = x0 at hx0 r0 hnx
      clear hc hb0
      go_upto_region 4 with fail
      refine wp_region_tail 6 (by kernel_rfl) (fun _ => none) (by kernel_rfl) (by kernel_rfl) (by decide) (fun i v x => match i with
        | 0 => v = .agg (ov x0)
        | 1 => v = .slice (some ⟨g, o_, none⟩) l.length c0
        | 2 => v = .int .i64 (p : Int)
        | 3 => v = .pointer (some ⟨g, o_ + p * 4, none⟩)
        | 4 => v = .agg (ov b)
        | 5 => v = .agg (ov (tO x0 b))
        | _ => True) (fun _ => false) (fun _ _ _ _ h => by cases h) ?_ ?_ ?_
      · intro i v x x' hR hb
        match i, hR with
        | 0, h => exact h
        | 1, h => exact h
        | 2, h => exact h
        | 3, h => exact h
        | 4, h => exact h
        | 5, h => exact h
        | m + 6, h => exact h
      · intro i o hi ho q x vals hX hdep hoth
        have t1 : q.tmps[1]? = some (.slice (some ⟨g, o_, none⟩) l.length c0) := by rw [hoth 1 (by kernel_rfl)]; rfl
        have t2 : q.tmps[2]? = some (.pointer (some ⟨w.heap.size, 0, none⟩)) := by rw [hoth 2 (by kernel_rfl)]; rfl
        have t5 : q.tmps[5]? = some (.int .i64 (p : Int)) := by rw [hoth 5 (by kernel_rfl)]; rfl
        match i, hi, ho with
        | 0, _, ho =>
          simp only [List.getElem?_cons_zero, Option.some.injEq] at ho
          subst ho
          exact opw_loadO _ rfl (by simp [Act.eval, t2]) (r0.in.later hX) (came _ rfl (Below.refl _ _) rfl (fun h => absurd h (by decide)))
        | 1, _, ho =>
          simp only [List.getElem?_cons_succ, List.getElem?_cons_zero, Option.some.injEq] at ho
          subst ho
          unfold Oper.wp
          simp [execOp, go_sem, t1]
          exact came _ rfl (Below.refl _ _) rfl (fun h => absurd h (by decide))
        | 2, _, ho =>
          simp only [List.getElem?_cons_succ, List.getElem?_cons_zero, Option.some.injEq] at ho
          subst ho
          unfold Oper.wp
          simp [execOp, go_sem, t5]
          exact came _ rfl (Below.refl _ _) rfl (fun h => absurd h (by decide))
        | 3, _, ho =>
          simp only [List.getElem?_cons_succ, List.getElem?_cons_zero, Option.some.injEq] at ho
          subst ho
          obtain ⟨u1, e1⟩ := hdep ⟨1, .data⟩ (by simp) rfl _ 13 rfl rfl
          rw [show vals 1 = .slice (some ⟨g, o_, none⟩) l.length c0 from e1] at u1
          obtain ⟨u2, e2⟩ := hdep ⟨2, .data⟩ (by simp) rfl _ 14 rfl rfl
          rw [show vals 2 = .int .i64 (p : Int) from e2] at u2
          unfold Oper.wp
          simp [execOp, go_sem, u1, u2, hpi]
          exact came _ rfl (Below.refl _ _) rfl (fun h => absurd h (by decide))
        | 4, _, ho =>
          simp only [List.getElem?_cons_succ, List.getElem?_cons_zero, Option.some.injEq] at ho
          subst ho
          obtain ⟨u3, e3⟩ := hdep ⟨3, .data⟩ (by simp) rfl _ 15 rfl rfl
          rw [show vals 3 = .pointer (some ⟨g, o_ + p * 4, none⟩) from e3] at u3
          exact opw_loadO _ rfl (by simp [Act.eval, u3]) (hce.later hX) (came _ rfl (Below.refl _ _) rfl (fun h => absurd h (by decide)))
        | 5, _, ho =>
          simp only [List.getElem?_cons_succ, List.getElem?_cons_zero, Option.some.injEq] at ho
          subst ho
          obtain ⟨u0, e0⟩ := hdep ⟨0, .data⟩ (by simp) rfl _ 12 rfl rfl
          rw [show vals 0 = .agg (ov x0) from e0] at u0
          obtain ⟨u4, e4⟩ := hdep ⟨4, .data⟩ (by simp) rfl _ 16 rfl rfl
          rw [show vals 4 = .agg (ov b) from e4] at u4
          unfold Oper.wp
          simp [go_sem, u0, u4]
          refine (refT_any x0 b x hx0.2.1.1 hx0.2.1.2).mono ?_
          rintro r x1 ⟨rfl, hb1⟩
          exact came _ rfl hb1 rfl (fun h => absurd h (by decide))
        | m + 6, hi, _ => exact absurd hi (by omega)
      · intro vals wt hbt hRv _
        have q5 : vals 5 = .agg (ov (tO x0 b)) := hRv 5 (by decide)
        simp only [List.take, List.drop, putAll, q5]
        clear hRv q5
        try simp only [List.setIfInBounds_toArray, List.set_cons_succ, List.set_cons_zero]
        have rt := r0.later hbt
        have y0 := (r0.later hbt).put (ov (tO x0 b))
        have y1 := (r1.later hbt).row_otherL (g := w.heap.size) (c := ov (tO x0 b)) (by omega)
        have yB : Below w.heap.size w (wt.setRow w.heap.size (ov (tO x0 b))) := below_row (bgo hB hbt) (Nat.le_refl _) _
        go_wp2_with (refine wpL_storeO (e := tO x0 b) rfl (.tmp 2) _ rfl rfl rfl rt ?_; generalize wt.setRow w.heap.size (ov (tO x0 b)) = wx at y0 y1 yB ⊢)
        go_roundw
        case rel => exact ⟨p + 1, by go_num, by omega, by rw [hnx.out]; exact tO_in hx0, by rw [hnx.out]; exact y0, y1, yB⟩
        case measure => simp [intOf]; omega
    · obtain rfl : p = l.length := by omega
      rw [List.take_length] at r0
      clear hlt hx0
      go_wp2_with (first | (refine wpL_loadO rfl _ rfl rfl r0.in ?_) | (refine wpL_storeO (e := alongO a l) rfl _ _ rfl rfl rfl r1 ?_))
      exact bodyPost_ret (v := .agg (ov (alongO a l))) (results_o (fn := Tryd.f15) (p := 4) rfl rfl (r1.put _)) rfl ⟨rfl, below_row hB (by omega) _⟩

set_option maxHeartbeats 4000000 in
theorem ops_eq {w : World} {v u : Value} {l : List Xo} (hv : SlO w v l) (hu : SlO w u l) (hn : l.length ≤ 1000000) :
    Calls Tryd.prog 11 #[v, u] w fun r w' => r = .returned (.bool true) ∧ Below w.heap.size w w' := by
  obtain ⟨a0, c0, rfl⟩ := hv.form
  obtain ⟨b0, d0, rfl⟩ := hu.form
  go_enter Tryd.func11, Tryd.ntmps11
  go_wp2
  go_loopw [5] (fun iv wr => ∃ p : Nat, iv = .int .i64 (p : Int) ∧ p ≤ l.length ∧ Below w.heap.size w wr) (fun iv _ => l.length - (intOf iv).toNat)
  case atStart => exact ⟨0, rfl, Nat.zero_le _, Below.refl _ _⟩
  case round =>
    obtain ⟨p, rfl, hp, hB⟩ := hrel
    by_cases hlt : p < l.length
    · have hpi : (p : Int) < (l.length : Int) := by omega
      obtain ⟨b, hb0⟩ : ∃ b, l[p]? = some b := ⟨_, List.getElem?_eq_getElem hlt⟩
      rcases hv.later hB with ⟨h0, _⟩ | ⟨g, o_, c, hvv, hc⟩
      · exfalso; subst h0; simp at hlt
      rcases hu.later hB with ⟨h0, _⟩ | ⟨g', o', c', huu, hc'⟩
      · exfalso; subst h0; simp at hlt
      simp only [Value.slice.injEq] at hvv huu
      obtain ⟨rfl, _, rfl⟩ := hvv
      obtain ⟨rfl, _, rfl⟩ := huu
      have h1 := hc p b hb0
      have h2 := hc' p b hb0
      have hq := eq_O b
      clear hc hc' hb0
      go_upto_region 6 with fail
      refine wp_region_cls (by kernel_rfl) (by kernel_rfl) ?_
      repeat (first | go_big_quiet_skip | (go_big_quiet_want; first | (refine quiet_load_in _ _ rfl rfl h1.cls Tryd.underlying37 rfl (o_size b) ?_; simp only [Act.put, List.setIfInBounds_toArray, List.set_cons_succ, List.set_cons_zero]; go_big_quiet_on) | (refine quiet_load_in _ _ rfl rfl h2.cls Tryd.underlying37 rfl (o_size b) ?_; simp only [Act.put, List.setIfInBounds_toArray, List.set_cons_succ, List.set_cons_zero]; go_big_quiet_on) | (go_big_quiet_op; first | go_big_quiet_on | go_big_quiet_call ((fail)))))
      refine wpQuiet_nil ?_
      rintro w1 ⟨s1, e1⟩
      have hb1 := wOf_below s1
      rw [← e1] at hb1
      clear e1 s1
      replace hB := bgo hB hb1
      clear hb1
      go_wp2
      go_roundw
      case rel => exact ⟨p + 1, by go_num, by omega, hB⟩
      case measure => simp [intOf]; omega
    · obtain rfl : p = l.length := by omega
      go_wp2
      go_ret
      exact ⟨rfl, hB⟩
end Go.Proofs.YtdafkakigigdeaaDoor
