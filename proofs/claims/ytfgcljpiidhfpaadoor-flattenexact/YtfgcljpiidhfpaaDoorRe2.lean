
/-
  The document's Desk: New, Propose.
-/
import Derived.Test.YtfgcljpiidhfpaaDoorRe1
import Derived.Test.YtfgcljpiidhfpaaDoorFl16
namespace Go.Proofs.YtfgcljpiidhfpaaDoor
open Go.RowKit
set_option maxRecDepth 100000

theorem results_tNo {fn : Func} {t u : Tmp} {tmps : Array Value} {w : World} {g' : Nat} {cs : Array Value} (h : fn.results = #[.tmp t, .cell u 32]) (hu : tmps.getD u undef = .pointer (some ⟨g', 0, none⟩)) (hg' : RowAt g' cs 32 w) (hs : cs.size = 3) :
    (results fn tmps).run Tryd.prog w = .ok (.tuple #[tmps.getD t undef, .agg cs]) w := by
  have hu' : tmps[u]?.getD undef = .pointer (some ⟨g', 0, none⟩) := by simpa using hu
  have hi : (Tryd.prog.info? 32).map (·.size) = some cs.size := by rw [hs]; exact no_size
  simp [results, h, hu', asAddr, run_loadVar_row w g' _ _ _ _ _ hg' Tryd.underlying32 rfl hi]
theorem bldRk (n s : Int) : Tryd.prog.built 78 [(0, .int .i64 n), (1, .int .i64 s)] = some (cv (dk n s rds0)) := by kernel_rfl
set_option maxHeartbeats 1000000 in
theorem refNew_ok {n s : Int} (h1 : 1 ≤ n) (h8 : n ≤ 8) (hs : 0 ≤ s) (hsn : s < n) (w : World) :
    Calls Tryd.prog 10 #[.int .i64 n, .int .i64 s] w fun e w' => ∃ d, e = .returned (.tuple #[.pointer (some ⟨d, 0, none⟩), .agg (nov 0 none 0 0 none 0 0)]) ∧ w.heap.size ≤ d ∧ RkAt d n s rds0 w' ∧ Below w.heap.size w w' := by
  have a1 : ¬ n < 1 := by omega
  have a2 : ¬ 8 < n := by omega
  have a3 : ¬ s < 0 := by omega
  have a4 : ¬ n ≤ s := by omega
  have g0 := (RowAt.news w #[.int .i64 0, .slice none 0 0, .slice none 0 0] 32).al (.cells (cv (dk n s rds0)) 78)
  have r0 := RowAt.news (w.alloc (.cells #[.int .i64 0, .slice none 0 0, .slice none 0 0] 32)) (cv (dk n s rds0)) 78
  rw [World.size_alloc] at r0
  have hB := bgo (below_one w (.cells #[.int .i64 0, .slice none 0 0, .slice none 0 0] 32)) (below_one _ (.cells (cv (dk n s rds0)) 78))
  have hbd := bldRk n s
  clear h1 h8 hs hsn
  go_enter Tryd.func10, Tryd.ntmps10
  go_wp2_with (first | (refine wpL_bld rfl _ _ rfl _ (by simpa using hbd) ?_) | (refine wpL_storeNo rfl _ _ rfl rfl rfl g0 ?_))
  exact bodyPost_ret (v := .tuple #[.pointer (some ⟨w.heap.size + 1, 0, none⟩), .agg (nov 0 none 0 0 none 0 0)]) (results_tNo (fn := Tryd.f10) (t := 4) (u := 5) rfl rfl (g0.rowI (nov 0 none 0 0 none 0 0)) rfl) rfl ⟨w.heap.size + 1, rfl, by omega, ⟨r0.rowO (by omega) _, rds0_ok⟩, below_row hB (Nat.le_refl _) _⟩
set_option maxHeartbeats 1000000 in
theorem refNew_no {n s : Int} (hb : badN n s) (w : World) :
    Calls Tryd.prog 10 #[.int .i64 n, .int .i64 s] w fun e w' => ∃ g g', e = .returned (.tuple #[.pointer none, .agg (nov 1 (some ⟨g', 0, none⟩) 1 1 (some ⟨g, 0, none⟩) 1 1)]) ∧ CsIn g' 0 #[.string bFlat, .string bNewF, .int .i64 (place s)] w' ∧ CsIn g 0 #[.int .i64 1] w' ∧ Below w.heap.size w w' := by
  have g0 := RowAt.news w #[.int .i64 0, .slice none 0 0, .slice none 0 0] 32
  have hB := below_one w (.cells #[.int .i64 0, .slice none 0 0, .slice none 0 0] 32)
  have HS := hid_of' (say_any bFlat bNewF s 1 (w.alloc (.cells #[.int .i64 0, .slice none 0 0, .slice none 0 0] 32)) (by decide))
  have hcase : n < 1 ∨ (¬ n < 1 ∧ 8 < n) ∨ (¬ n < 1 ∧ ¬ 8 < n ∧ s < 0) ∨ (¬ n < 1 ∧ ¬ 8 < n ∧ ¬ s < 0 ∧ n ≤ s) := by unfold badN at hb; omega
  clear hb
  rcases hcase with k1 | ⟨k1, k2⟩ | ⟨k1, k2, k3⟩ | ⟨k1, k2, k3, k4⟩
  all_goals
    go_enter Tryd.func10, Tryd.ntmps10
    go_wp2_with (first | (go_at_call 28; refine HS.out.mono ?_; rintro e w1 ⟨g, g', rfl, hg', hg, hc', hc, hb1⟩; clear HS) | (refine wpL_storeNo rfl _ _ rfl rfl rfl (g0.later hb1) ?_))
    rw [World.size_alloc] at hg hg'
    exact bodyPost_ret (v := .tuple #[.pointer none, .agg (nov 1 (some ⟨g', 0, none⟩) 1 1 (some ⟨g, 0, none⟩) 1 1)]) (results_tNo (fn := Tryd.f10) (t := 4) (u := 5) rfl rfl ((g0.later hb1).rowI _) rfl) rfl ⟨g, g', rfl, hc'.other _ _ (by omega), hc.other _ _ (by omega), below_row (bgo hB hb1) (Nat.le_refl _) _⟩
set_option maxHeartbeats 4000000 in
theorem refPropose_ok {d : Nat} {n : Int} {s : Nat} {l : List Rnd} {w : World} (h : RkAt d n s l w) (hs : s < 8) {r : Rnd} (hrs : l[s]? = some r) {cut : List Int} (hcl : cut.length = 8) (hb : busyR r = false) (hlo : -9223372036854775808 ≤ r.num) :
    Calls Tryd.prog 37 #[.pointer (some ⟨d, 0, none⟩), .agg (cv cut)] w fun e w' => e = .returned (.agg (nov 0 none 0 0 none 0 0)) ∧ RkAt d n s (l.set s ⟨r.num + 1, cut, z8, 0⟩) w' ∧ Ch (fun k => k = d) w w' := by
  have hdl := h.lt
  have hsi : (s : Int) < 8 := by omega
  have hr := h.2.2 r (List.mem_of_getElem? hrs)
  have HO := fun w => hid_of' (refOpen_any r hr w)
  have hbb : openR r = false ∧ r.num < 4611686018427387904 := by simpa [busyR] using hb
  rw [hbb.1] at HO
  have hlt : ¬ 4611686018427387904 ≤ r.num := by omega
  have hwr : IntKind.i64.wrap (r.num + 1) = r.num + 1 := by have := hbb.2; rw [IntKind.wrap_i64]; omega
  clear hb hbb
  have k1 := (CkAt.new w hcl).alloc (.cells #[.int .i64 0, .slice none 0 0, .slice none 0 0] 32)
  have k2 := RowAt.news (w.alloc (.cells (cv cut) 42)) #[.int .i64 0, .slice none 0 0, .slice none 0 0] 32
  rw [World.size_alloc] at k2
  have hB1 := bgo (below_one w (.cells (cv cut) 42)) (below_one _ (.cells #[.int .i64 0, .slice none 0 0, .slice none 0 0] 32))
  have H1 := hid_of' (And.intro (h.later hB1) (And.intro k1 (And.intro hB1 k2)))
  have ok := h.2
  clear h k1 k2 hB1
  go_enter Tryd.func37, Tryd.ntmps37
  go_upto_region 1 with fail
  obtain ⟨cb, hcb⟩ : ∃ b, w.heap.size = b := ⟨_, rfl⟩
  generalize (w.alloc (.cells (cv cut) 42)).alloc (.cells #[.int .i64 0, .slice none 0 0, .slice none 0 0] 32) = W1 at H1 ⊢
  rw [hcb] at hdl ⊢
  have H1 : Hid (RkAt d n s l W1 ∧ CkAt cb cut W1 ∧ Below w.heap.size w W1 ∧ RowAt (cb + 1) #[.int .i64 0, .slice none 0 0, .slice none 0 0] 32 W1) := by
    have q := H1.out
    rw [← hcb]
    exact q
  have HB0 := hid_of' hcb
  clear hcb
  refine wp_region_tail 10 (by kernel_rfl) (fun _ => none) (by kernel_rfl) (by kernel_rfl) (by decide) (fun ii u X => match ii with
    | 0 => u = .pointer (some ⟨d, 0, none⟩)
    | 1 => u = .pointer (some ⟨d, 0, none⟩)
    | 2 => u = .pointer (some ⟨d, 0, none⟩)
    | 3 => u = .pointer (some ⟨d, 1, none⟩)
    | 4 => u = .int .i64 (s : Int)
    | 5 => u = .pointer (some ⟨d, 0, none⟩)
    | 6 => u = .pointer (some ⟨d, 2, none⟩)
    | 7 => u = .pointer (some ⟨d, 2 + s * 18, none⟩)
    | 8 => u = .agg (cv (rc r))
    | 9 => ∃ g, u = .pointer (some ⟨g, 0, none⟩) ∧ RowAt g (cv (rc rnd0)) 44 X ∧ W1.heap.size ≤ g
    | _ => True) (fun _ => false) (fun _ _ _ _ h => by cases h) ?_ ?_ ?_
  · intro ii u X X' hR hb
    match ii, hR with
    | 0, h => exact h
    | 1, h => exact h
    | 2, h => exact h
    | 3, h => exact h
    | 4, h => exact h
    | 5, h => exact h
    | 6, h => exact h
    | 7, h => exact h
    | 8, h => exact h
    | 9, h => exact (Exists.elim h fun g q => ⟨g, q.1, RowAt.later q.2.1 hb, q.2.2⟩)
    | m + 10, h => exact h
  · intro ii o hi ho qq X vals hX hdep hoth
    have t0 : qq.tmps[0]? = some (.pointer (some ⟨d, 0, none⟩)) := by rw [hoth 0 (by kernel_rfl)]; rfl
    match ii, hi, ho with
    | 0, _, ho =>
      simp only [List.getElem?_cons_zero, Option.some.injEq] at ho
      subst ho
      unfold Oper.wp
      simp [execOp, go_sem, t0]
      exact came _ rfl (Below.refl _ _) rfl (fun h => absurd h (by decide))
    | 1, _, ho =>
      simp only [List.getElem?_cons_succ, List.getElem?_cons_zero, Option.some.injEq] at ho
      subst ho
      unfold Oper.wp
      simp [execOp, go_sem, t0]
      exact came _ rfl (Below.refl _ _) rfl (fun h => absurd h (by decide))
    | 2, _, ho =>
      simp only [List.getElem?_cons_succ, List.getElem?_cons_zero, Option.some.injEq] at ho
      subst ho
      obtain ⟨u1, e1⟩ := hdep ⟨1, .data⟩ (by simp) rfl _ 7 rfl rfl
      rw [show vals 1 = .pointer (some ⟨d, 0, none⟩) from e1] at u1
      unfold Oper.wp
      simp [execOp, go_sem, u1]
      exact came _ rfl (Below.refl _ _) rfl (fun h => absurd h (by decide))
    | 3, _, ho =>
      simp only [List.getElem?_cons_succ, List.getElem?_cons_zero, Option.some.injEq] at ho
      subst ho
      obtain ⟨u2, e2⟩ := hdep ⟨2, .data⟩ (by simp) rfl _ 8 rfl rfl
      rw [show vals 2 = .pointer (some ⟨d, 0, none⟩) from e2] at u2
      unfold Oper.wp
      simp [execOp, go_sem, u2]
      exact came _ rfl (Below.refl _ _) rfl (fun h => absurd h (by decide))
    | 4, _, ho =>
      simp only [List.getElem?_cons_succ, List.getElem?_cons_zero, Option.some.injEq] at ho
      subst ho
      obtain ⟨u3, e3⟩ := hdep ⟨3, .data⟩ (by simp) rfl _ 9 rfl rfl
      rw [show vals 3 = .pointer (some ⟨d, 1, none⟩) from e3] at u3
      have cc := (RkAt.later H1.out.1 hX).c1
      unfold Oper.wp
      simp [execOp, go_sem, u3, cc]
      exact came _ rfl (Below.refl _ _) rfl (fun h => absurd h (by decide))
    | 5, _, ho =>
      simp only [List.getElem?_cons_succ, List.getElem?_cons_zero, Option.some.injEq] at ho
      subst ho
      obtain ⟨u0, e0⟩ := hdep ⟨0, .data⟩ (by simp) rfl _ 6 rfl rfl
      rw [show vals 0 = .pointer (some ⟨d, 0, none⟩) from e0] at u0
      unfold Oper.wp
      simp [execOp, go_sem, u0]
      exact came _ rfl (Below.refl _ _) rfl (fun h => absurd h (by decide))
    | 6, _, ho =>
      simp only [List.getElem?_cons_succ, List.getElem?_cons_zero, Option.some.injEq] at ho
      subst ho
      obtain ⟨u5, e5⟩ := hdep ⟨5, .data⟩ (by simp) rfl _ 11 rfl rfl
      rw [show vals 5 = .pointer (some ⟨d, 0, none⟩) from e5] at u5
      unfold Oper.wp
      simp [execOp, go_sem, u5]
      exact came _ rfl (Below.refl _ _) rfl (fun h => absurd h (by decide))
    | 7, _, ho =>
      simp only [List.getElem?_cons_succ, List.getElem?_cons_zero, Option.some.injEq] at ho
      subst ho
      obtain ⟨u6, e6⟩ := hdep ⟨6, .data⟩ (by simp) rfl _ 12 rfl rfl
      rw [show vals 6 = .pointer (some ⟨d, 2, none⟩) from e6] at u6
      obtain ⟨u4, e4⟩ := hdep ⟨4, .data⟩ (by simp) rfl _ 10 rfl rfl
      rw [show vals 4 = .int .i64 (s : Int) from e4] at u4
      unfold Oper.wp
      simp [execOp, go_sem, u6, u4, hsi]
      exact came _ rfl (Below.refl _ _) rfl (fun h => absurd h (by decide))
    | 8, _, ho =>
      simp only [List.getElem?_cons_succ, List.getElem?_cons_zero, Option.some.injEq] at ho
      subst ho
      obtain ⟨u7, e7⟩ := hdep ⟨7, .data⟩ (by simp) rfl _ 13 rfl rfl
      rw [show vals 7 = .pointer (some ⟨d, 2 + s * 18, none⟩) from e7] at u7
      exact opRnd hr _ rfl (by simp [Act.eval, u7]) ((RkAt.later H1.out.1 hX).rnd hrs) (came _ rfl (Below.refl _ _) rfl (fun h => absurd h (by decide)))
    | 9, _, ho =>
      simp only [List.getElem?_cons_succ, List.getElem?_cons_zero, Option.some.injEq] at ho
      subst ho
      refine opw_alloc _ rfl zRnd ?_
      exact came _ rfl (below_one _ _) ⟨_, rfl, RowAt.news _ _ _, hX.size⟩ (fun h => absurd h (by decide))
    | m + 10, hi, _ => exact absurd hi (by omega)
  · intro vals X hX hR _
    have e8 : vals 8 = .agg (cv (rc r)) := hR 8 (by decide)
    obtain ⟨g, e9, hg, hgl⟩ : ∃ g, vals 9 = .pointer (some ⟨g, 0, none⟩) ∧ RowAt g (cv (rc rnd0)) 44 X ∧ W1.heap.size ≤ g := hR 9 (by decide)
    have hds := H1.out.1.lt
    have hcs := H1.out.2.1.lt
    have hns := RowAt.lt H1.out.2.2.2
    have hc2 := (Ch.of (S := fun k => k = g) hX).row (g := g) (.inl rfl) (cv (rc r))
    have H2 := hid_of' (And.intro (RkAt.ch H1.out.1 hc2 (by omega)) (And.intro (hg.rowI (cv (rc r))) (And.intro (CkAt.ch H1.out.2.1 hc2 (by omega)) (And.intro (Ch.none ((Ch.of (S := fun _ => False) H1.out.2.2.1).go hc2 (fun z hz => .inr (by have := H1.out.2.2.1.size; omega))) (fun _ _ q => q)) (RowAt.ch H1.out.2.2.2 hc2 (by omega))))))
    clear hR hX hc2
    simp only [List.drop, List.take, putAll, List.setIfInBounds_toArray, List.set_cons_succ, List.set_cons_zero, e8, e9]
    clear e8 e9
    go_upto_region 2 with (refine wpL_stRow rfl _ _ _ rfl rfl rfl hg (rnd_size hr) (two_sz (by rw [rc_len hr, rc_len rnd0_ok])) (cv_one _) ?_; go_simp)
    clear hg
    generalize X.setRow g (cv (rc r)) = X2 at H2 ⊢
    have r2 := H2.out.2.1
    have hB := Below.refl X2.heap.size X2
    have q0 := r2.cls 0 _ (rcv_num r)
    refine wp_region_cls0 ?_
    repeat (first | go_big_quiet_skip | (go_big_quiet_want; first | (refine qRnd hr _ rfl rfl r2.in.cls ?_; simp only [Act.put, List.setIfInBounds_toArray, List.set_cons_succ, List.set_cons_zero]; go_big_quiet_on) | (go_big_quiet_op; first | go_big_quiet_on | go_big_quiet_call ((go_at_call 65; exact cls_of (HO _).out)))))
    refine wpQuiet_nil ?_
    rintro w1 ⟨s1, e1⟩
    have hb1 := wOf_below s1
    rw [← e1] at hb1
    clear e1 s1
    replace r2 := r2.later hb1
    replace hB := bgo hB hb1
    clear hb1
    clear q0
    have H3 := hid_of' (And.intro (H2.out.1.later hB) (And.intro (H2.out.2.1.later hB) (And.intro (H2.out.2.2.1.later hB) (And.intro (bgo H2.out.2.2.2.1 hB) (H2.out.2.2.2.2.later hB)))))
    clear H2 hB r2
    go_upto_region 4 with fail
    rename World => X3
    refine wp_region_tail 13 (by kernel_rfl) (fun _ => none) (by kernel_rfl) (by kernel_rfl) (by decide) (fun ii u X => match ii with
      | 0 => u = .pointer (some ⟨d, 0, none⟩)
      | 1 => u = .pointer (some ⟨d, 0, none⟩)
      | 2 => u = .pointer (some ⟨d, 0, none⟩)
      | 3 => u = .pointer (some ⟨d, 1, none⟩)
      | 4 => u = .int .i64 (s : Int)
      | 5 => u = .pointer (some ⟨g, 0, none⟩)
      | 6 => u = .int .i64 r.num
      | 7 => u = .int .i64 (r.num + 1)
      | 8 => u = .agg (cv cut)
      | 9 => u = .agg (cv (rc ⟨r.num + 1, cut, z8, 0⟩))
      | 10 => u = .pointer (some ⟨d, 0, none⟩)
      | 11 => u = .pointer (some ⟨d, 2, none⟩)
      | 12 => u = .pointer (some ⟨d, 2 + s * 18, none⟩)
      | _ => True) (fun _ => false) (fun _ _ _ _ h => by cases h) ?_ ?_ ?_
    · intro ii u X X' hR hb
      match ii, hR with
      | 0, h => exact h
      | 1, h => exact h
      | 2, h => exact h
      | 3, h => exact h
      | 4, h => exact h
      | 5, h => exact h
      | 6, h => exact h
      | 7, h => exact h
      | 8, h => exact h
      | 9, h => exact h
      | 10, h => exact h
      | 11, h => exact h
      | 12, h => exact h
      | m + 13, h => exact h
    · intro ii o hi ho qq X vals hX hdep hoth
      have t0 : qq.tmps[0]? = some (.pointer (some ⟨d, 0, none⟩)) := by rw [hoth 0 (by kernel_rfl)]; rfl
      have t5 : qq.tmps[5]? = some (.pointer (some ⟨g, 0, none⟩)) := by rw [hoth 5 (by kernel_rfl)]; rfl
      have t3 : qq.tmps[3]? = some (.pointer (some ⟨cb, 0, none⟩)) := by rw [hoth 3 (by kernel_rfl)]; rfl
      match ii, hi, ho with
      | 0, _, ho =>
        simp only [List.getElem?_cons_zero, Option.some.injEq] at ho
        subst ho
        unfold Oper.wp
        simp [execOp, go_sem, t0]
        exact came _ rfl (Below.refl _ _) rfl (fun h => absurd h (by decide))
      | 1, _, ho =>
        simp only [List.getElem?_cons_succ, List.getElem?_cons_zero, Option.some.injEq] at ho
        subst ho
        unfold Oper.wp
        simp [execOp, go_sem, t0]
        exact came _ rfl (Below.refl _ _) rfl (fun h => absurd h (by decide))
      | 2, _, ho =>
        simp only [List.getElem?_cons_succ, List.getElem?_cons_zero, Option.some.injEq] at ho
        subst ho
        obtain ⟨u1, e1⟩ := hdep ⟨1, .data⟩ (by simp) rfl _ 28 rfl rfl
        rw [show vals 1 = .pointer (some ⟨d, 0, none⟩) from e1] at u1
        unfold Oper.wp
        simp [execOp, go_sem, u1]
        exact came _ rfl (Below.refl _ _) rfl (fun h => absurd h (by decide))
      | 3, _, ho =>
        simp only [List.getElem?_cons_succ, List.getElem?_cons_zero, Option.some.injEq] at ho
        subst ho
        obtain ⟨u2, e2⟩ := hdep ⟨2, .data⟩ (by simp) rfl _ 29 rfl rfl
        rw [show vals 2 = .pointer (some ⟨d, 0, none⟩) from e2] at u2
        unfold Oper.wp
        simp [execOp, go_sem, u2]
        exact came _ rfl (Below.refl _ _) rfl (fun h => absurd h (by decide))
      | 4, _, ho =>
        simp only [List.getElem?_cons_succ, List.getElem?_cons_zero, Option.some.injEq] at ho
        subst ho
        obtain ⟨u3, e3⟩ := hdep ⟨3, .data⟩ (by simp) rfl _ 30 rfl rfl
        rw [show vals 3 = .pointer (some ⟨d, 1, none⟩) from e3] at u3
        have cc := (RkAt.later H3.out.1 hX).c1
        unfold Oper.wp
        simp [execOp, go_sem, u3, cc]
        exact came _ rfl (Below.refl _ _) rfl (fun h => absurd h (by decide))
      | 5, _, ho =>
        simp only [List.getElem?_cons_succ, List.getElem?_cons_zero, Option.some.injEq] at ho
        subst ho
        unfold Oper.wp
        simp [execOp, go_sem, t5]
        exact came _ rfl (Below.refl _ _) rfl (fun h => absurd h (by decide))
      | 6, _, ho =>
        simp only [List.getElem?_cons_succ, List.getElem?_cons_zero, Option.some.injEq] at ho
        subst ho
        obtain ⟨u5, e5⟩ := hdep ⟨5, .data⟩ (by simp) rfl _ 32 rfl rfl
        rw [show vals 5 = .pointer (some ⟨g, 0, none⟩) from e5] at u5
        have cc : X.cell? ⟨g, 0, none⟩ = some (.int .i64 r.num) := (RowAt.later H3.out.2.1 hX).cell 0
        unfold Oper.wp
        simp [execOp, go_sem, u5, cc]
        exact came _ rfl (Below.refl _ _) rfl (fun h => absurd h (by decide))
      | 7, _, ho =>
        simp only [List.getElem?_cons_succ, List.getElem?_cons_zero, Option.some.injEq] at ho
        subst ho
        obtain ⟨u6, e6⟩ := hdep ⟨6, .data⟩ (by simp) rfl _ 33 rfl rfl
        rw [show vals 6 = .int .i64 r.num from e6] at u6
        unfold Oper.wp
        simp [execOp, go_sem, u6, hwr]
        exact came _ rfl (Below.refl _ _) rfl (fun h => absurd h (by decide))
      | 8, _, ho =>
        simp only [List.getElem?_cons_succ, List.getElem?_cons_zero, Option.some.injEq] at ho
        subst ho
        exact opCk hcl _ rfl (by simp [Act.eval, t3]) (CkAt.later H3.out.2.2.1 hX).in (came _ rfl (Below.refl _ _) rfl (fun h => absurd h (by decide)))
      | 9, _, ho =>
        simp only [List.getElem?_cons_succ, List.getElem?_cons_zero, Option.some.injEq] at ho
        subst ho
        obtain ⟨u7, e7⟩ := hdep ⟨7, .data⟩ (by simp) rfl _ 34 rfl rfl
        rw [show vals 7 = .int .i64 (r.num + 1) from e7] at u7
        obtain ⟨u8, e8⟩ := hdep ⟨8, .data⟩ (by simp) rfl _ 35 rfl rfl
        rw [show vals 8 = .agg (cv cut) from e8] at u8
        refine opw_bld _ _ rfl _ (by simpa [Act.eval, u7, u8] using bldRnd (r.num + 1) hcl) ?_
        exact (came _ rfl (Below.refl _ _) rfl (fun h => absurd h (by decide)))
      | 10, _, ho =>
        simp only [List.getElem?_cons_succ, List.getElem?_cons_zero, Option.some.injEq] at ho
        subst ho
        obtain ⟨u0, e0⟩ := hdep ⟨0, .data⟩ (by simp) rfl _ 27 rfl rfl
        rw [show vals 0 = .pointer (some ⟨d, 0, none⟩) from e0] at u0
        unfold Oper.wp
        simp [execOp, go_sem, u0]
        exact came _ rfl (Below.refl _ _) rfl (fun h => absurd h (by decide))
      | 11, _, ho =>
        simp only [List.getElem?_cons_succ, List.getElem?_cons_zero, Option.some.injEq] at ho
        subst ho
        obtain ⟨u10, e10⟩ := hdep ⟨10, .data⟩ (by simp) rfl _ 37 rfl rfl
        rw [show vals 10 = .pointer (some ⟨d, 0, none⟩) from e10] at u10
        unfold Oper.wp
        simp [execOp, go_sem, u10]
        exact came _ rfl (Below.refl _ _) rfl (fun h => absurd h (by decide))
      | 12, _, ho =>
        simp only [List.getElem?_cons_succ, List.getElem?_cons_zero, Option.some.injEq] at ho
        subst ho
        obtain ⟨u11, e11⟩ := hdep ⟨11, .data⟩ (by simp) rfl _ 38 rfl rfl
        rw [show vals 11 = .pointer (some ⟨d, 2, none⟩) from e11] at u11
        obtain ⟨u4, e4⟩ := hdep ⟨4, .data⟩ (by simp) rfl _ 31 rfl rfl
        rw [show vals 4 = .int .i64 (s : Int) from e4] at u4
        unfold Oper.wp
        simp [execOp, go_sem, u11, u4, hsi]
        exact came _ rfl (Below.refl _ _) rfl (fun h => absurd h (by decide))
      | m + 13, hi, _ => exact absurd hi (by omega)
    · intro vals Y hY hR _
      have e9 : vals 9 = .agg (cv (rc ⟨r.num + 1, cut, z8, 0⟩)) := hR 9 (by decide)
      have e12 : vals 12 = .pointer (some ⟨d, 2 + s * 18, none⟩) := hR 12 (by decide)
      have hdY := RkAt.later H3.out.1 hY
      have ho2 : Rnd.Ok ⟨r.num + 1, cut, z8, 0⟩ := ⟨hcl, rfl⟩
      have hp := hdY.1.putC (o := 2 + s * 18) (y := rc ⟨r.num + 1, cut, z8, 0⟩) (by rw [dk_len n s hdY.2, rc_len ho2]; omega)
      rw [dk_put n s hdY.2 (by omega) ho2] at hp
      have hc := Ch.cells (S := fun k => k = d) (a := w) (g := d) (.inl rfl) (cv (rc ⟨r.num + 1, cut, z8, 0⟩)).toList (2 + s * 18) Y (Ch.of (bgo H3.out.2.2.2.1 hY))
      have hno := RowAt.cellsOther (b := cb + 1) (g := d) (by omega) (cv (rc ⟨r.num + 1, cut, z8, 0⟩)).toList (2 + s * 18) (RowAt.later H3.out.2.2.2.2 hY)
      have HF := hid_of' (And.intro hp hc)
      clear hR hY hp hc
      simp only [List.drop, List.take, putAll, List.setIfInBounds_toArray, List.set_cons_succ, List.set_cons_zero, e9, e12]
      clear e9 e12
      go_wp2_with (first | (refine stRnd rfl _ _ rfl rfl ho2 rfl hdY.1 (by rw [dk_len n s hdY.2]; omega) ?_) | (refine wpL_storeNo rfl _ _ rfl rfl rfl hno ?_))
      have hrow := HF.out.1.rowO (g := cb + 1) (by omega) (nov 0 none 0 0 none 0 0)
      exact bodyPost_ret (v := .agg (nov 0 none 0 0 none 0 0)) (results_cell_row rfl _ _ (cb + 1) _ _ _ _ rfl (hno.rowI (nov 0 none 0 0 none 0 0)) Tryd.underlying32 rfl no_size) rfl ⟨rfl, ⟨hrow, ok.set s ho2⟩, HF.out.2.row (g := cb + 1) (.inr (by have := HB0.out; omega)) (nov 0 none 0 0 none 0 0)⟩
set_option maxHeartbeats 4000000 in
theorem refPropose_no {d : Nat} {n : Int} {s : Nat} {l : List Rnd} {w : World} (h : RkAt d n s l w) (hs : s < 8) {r : Rnd} (hrs : l[s]? = some r) {cut : List Int} (hcl : cut.length = 8) (hb : busyR r = true) :
    Calls Tryd.prog 37 #[.pointer (some ⟨d, 0, none⟩), .agg (cv cut)] w fun e w' => ∃ g g', e = .returned (.agg (nov 11 (some ⟨g', 0, none⟩) 1 1 (some ⟨g, 0, none⟩) 1 1)) ∧ CsIn g' 0 #[.string bFlat, .string bProp, .int .i64 (s : Int)] w' ∧ CsIn g 0 #[.int .i64 11] w' ∧ Below w.heap.size w w' ∧ w.heap.size ≤ g ∧ w.heap.size ≤ g' := by
  have hdl := h.lt
  have hsi : (s : Int) < 8 := by omega
  have hr := h.2.2 r (List.mem_of_getElem? hrs)
  have HO := fun w => hid_of' (refOpen_any r hr w)
  have k1 := (CkAt.new w hcl).alloc (.cells #[.int .i64 0, .slice none 0 0, .slice none 0 0] 32)
  have k2 := RowAt.news (w.alloc (.cells (cv cut) 42)) #[.int .i64 0, .slice none 0 0, .slice none 0 0] 32
  rw [World.size_alloc] at k2
  have hB1 := bgo (below_one w (.cells (cv cut) 42)) (below_one _ (.cells #[.int .i64 0, .slice none 0 0, .slice none 0 0] 32))
  have H1 := hid_of' (And.intro (h.later hB1) (And.intro k1 (And.intro hB1 k2)))
  have ok := h.2
  clear h k1 k2 hB1
  go_enter Tryd.func37, Tryd.ntmps37
  go_upto_region 1 with fail
  obtain ⟨cb, hcb⟩ : ∃ b, w.heap.size = b := ⟨_, rfl⟩
  generalize (w.alloc (.cells (cv cut) 42)).alloc (.cells #[.int .i64 0, .slice none 0 0, .slice none 0 0] 32) = W1 at H1 ⊢
  rw [hcb] at hdl ⊢
  have H1 : Hid (RkAt d n s l W1 ∧ CkAt cb cut W1 ∧ Below w.heap.size w W1 ∧ RowAt (cb + 1) #[.int .i64 0, .slice none 0 0, .slice none 0 0] 32 W1) := by
    have q := H1.out
    rw [← hcb]
    exact q
  have HB0 := hid_of' hcb
  clear hcb
  refine wp_region_tail 10 (by kernel_rfl) (fun _ => none) (by kernel_rfl) (by kernel_rfl) (by decide) (fun ii u X => match ii with
    | 0 => u = .pointer (some ⟨d, 0, none⟩)
    | 1 => u = .pointer (some ⟨d, 0, none⟩)
    | 2 => u = .pointer (some ⟨d, 0, none⟩)
    | 3 => u = .pointer (some ⟨d, 1, none⟩)
    | 4 => u = .int .i64 (s : Int)
    | 5 => u = .pointer (some ⟨d, 0, none⟩)
    | 6 => u = .pointer (some ⟨d, 2, none⟩)
    | 7 => u = .pointer (some ⟨d, 2 + s * 18, none⟩)
    | 8 => u = .agg (cv (rc r))
    | 9 => ∃ g, u = .pointer (some ⟨g, 0, none⟩) ∧ RowAt g (cv (rc rnd0)) 44 X ∧ W1.heap.size ≤ g
    | _ => True) (fun _ => false) (fun _ _ _ _ h => by cases h) ?_ ?_ ?_
  · intro ii u X X' hR hb
    match ii, hR with
    | 0, h => exact h
    | 1, h => exact h
    | 2, h => exact h
    | 3, h => exact h
    | 4, h => exact h
    | 5, h => exact h
    | 6, h => exact h
    | 7, h => exact h
    | 8, h => exact h
    | 9, h => exact (Exists.elim h fun g q => ⟨g, q.1, RowAt.later q.2.1 hb, q.2.2⟩)
    | m + 10, h => exact h
  · intro ii o hi ho qq X vals hX hdep hoth
    have t0 : qq.tmps[0]? = some (.pointer (some ⟨d, 0, none⟩)) := by rw [hoth 0 (by kernel_rfl)]; rfl
    match ii, hi, ho with
    | 0, _, ho =>
      simp only [List.getElem?_cons_zero, Option.some.injEq] at ho
      subst ho
      unfold Oper.wp
      simp [execOp, go_sem, t0]
      exact came _ rfl (Below.refl _ _) rfl (fun h => absurd h (by decide))
    | 1, _, ho =>
      simp only [List.getElem?_cons_succ, List.getElem?_cons_zero, Option.some.injEq] at ho
      subst ho
      unfold Oper.wp
      simp [execOp, go_sem, t0]
      exact came _ rfl (Below.refl _ _) rfl (fun h => absurd h (by decide))
    | 2, _, ho =>
      simp only [List.getElem?_cons_succ, List.getElem?_cons_zero, Option.some.injEq] at ho
      subst ho
      obtain ⟨u1, e1⟩ := hdep ⟨1, .data⟩ (by simp) rfl _ 7 rfl rfl
      rw [show vals 1 = .pointer (some ⟨d, 0, none⟩) from e1] at u1
      unfold Oper.wp
      simp [execOp, go_sem, u1]
      exact came _ rfl (Below.refl _ _) rfl (fun h => absurd h (by decide))
    | 3, _, ho =>
      simp only [List.getElem?_cons_succ, List.getElem?_cons_zero, Option.some.injEq] at ho
      subst ho
      obtain ⟨u2, e2⟩ := hdep ⟨2, .data⟩ (by simp) rfl _ 8 rfl rfl
      rw [show vals 2 = .pointer (some ⟨d, 0, none⟩) from e2] at u2
      unfold Oper.wp
      simp [execOp, go_sem, u2]
      exact came _ rfl (Below.refl _ _) rfl (fun h => absurd h (by decide))
    | 4, _, ho =>
      simp only [List.getElem?_cons_succ, List.getElem?_cons_zero, Option.some.injEq] at ho
      subst ho
      obtain ⟨u3, e3⟩ := hdep ⟨3, .data⟩ (by simp) rfl _ 9 rfl rfl
      rw [show vals 3 = .pointer (some ⟨d, 1, none⟩) from e3] at u3
      have cc := (RkAt.later H1.out.1 hX).c1
      unfold Oper.wp
      simp [execOp, go_sem, u3, cc]
      exact came _ rfl (Below.refl _ _) rfl (fun h => absurd h (by decide))
    | 5, _, ho =>
      simp only [List.getElem?_cons_succ, List.getElem?_cons_zero, Option.some.injEq] at ho
      subst ho
      obtain ⟨u0, e0⟩ := hdep ⟨0, .data⟩ (by simp) rfl _ 6 rfl rfl
      rw [show vals 0 = .pointer (some ⟨d, 0, none⟩) from e0] at u0
      unfold Oper.wp
      simp [execOp, go_sem, u0]
      exact came _ rfl (Below.refl _ _) rfl (fun h => absurd h (by decide))
    | 6, _, ho =>
      simp only [List.getElem?_cons_succ, List.getElem?_cons_zero, Option.some.injEq] at ho
      subst ho
      obtain ⟨u5, e5⟩ := hdep ⟨5, .data⟩ (by simp) rfl _ 11 rfl rfl
      rw [show vals 5 = .pointer (some ⟨d, 0, none⟩) from e5] at u5
      unfold Oper.wp
      simp [execOp, go_sem, u5]
      exact came _ rfl (Below.refl _ _) rfl (fun h => absurd h (by decide))
    | 7, _, ho =>
      simp only [List.getElem?_cons_succ, List.getElem?_cons_zero, Option.some.injEq] at ho
      subst ho
      obtain ⟨u6, e6⟩ := hdep ⟨6, .data⟩ (by simp) rfl _ 12 rfl rfl
      rw [show vals 6 = .pointer (some ⟨d, 2, none⟩) from e6] at u6
      obtain ⟨u4, e4⟩ := hdep ⟨4, .data⟩ (by simp) rfl _ 10 rfl rfl
      rw [show vals 4 = .int .i64 (s : Int) from e4] at u4
      unfold Oper.wp
      simp [execOp, go_sem, u6, u4, hsi]
      exact came _ rfl (Below.refl _ _) rfl (fun h => absurd h (by decide))
    | 8, _, ho =>
      simp only [List.getElem?_cons_succ, List.getElem?_cons_zero, Option.some.injEq] at ho
      subst ho
      obtain ⟨u7, e7⟩ := hdep ⟨7, .data⟩ (by simp) rfl _ 13 rfl rfl
      rw [show vals 7 = .pointer (some ⟨d, 2 + s * 18, none⟩) from e7] at u7
      exact opRnd hr _ rfl (by simp [Act.eval, u7]) ((RkAt.later H1.out.1 hX).rnd hrs) (came _ rfl (Below.refl _ _) rfl (fun h => absurd h (by decide)))
    | 9, _, ho =>
      simp only [List.getElem?_cons_succ, List.getElem?_cons_zero, Option.some.injEq] at ho
      subst ho
      refine opw_alloc _ rfl zRnd ?_
      exact came _ rfl (below_one _ _) ⟨_, rfl, RowAt.news _ _ _, hX.size⟩ (fun h => absurd h (by decide))
    | m + 10, hi, _ => exact absurd hi (by omega)
  · intro vals X hX hR _
    have e8 : vals 8 = .agg (cv (rc r)) := hR 8 (by decide)
    obtain ⟨g, e9, hg, hgl⟩ : ∃ g, vals 9 = .pointer (some ⟨g, 0, none⟩) ∧ RowAt g (cv (rc rnd0)) 44 X ∧ W1.heap.size ≤ g := hR 9 (by decide)
    have hds := H1.out.1.lt
    have hcs := H1.out.2.1.lt
    have hns := RowAt.lt H1.out.2.2.2
    have hc2 := (Ch.of (S := fun k => k = g) hX).row (g := g) (.inl rfl) (cv (rc r))
    have H2 := hid_of' (And.intro (RkAt.ch H1.out.1 hc2 (by omega)) (And.intro (hg.rowI (cv (rc r))) (And.intro (CkAt.ch H1.out.2.1 hc2 (by omega)) (And.intro (Ch.none ((Ch.of (S := fun _ => False) H1.out.2.2.1).go hc2 (fun z hz => .inr (by have := H1.out.2.2.1.size; omega))) (fun _ _ q => q)) (RowAt.ch H1.out.2.2.2 hc2 (by omega))))))
    clear hR hX hc2
    simp only [List.drop, List.take, putAll, List.setIfInBounds_toArray, List.set_cons_succ, List.set_cons_zero, e8, e9]
    clear e8 e9
    go_upto_region 2 with (refine wpL_stRow rfl _ _ _ rfl rfl rfl hg (rnd_size hr) (two_sz (by rw [rc_len hr, rc_len rnd0_ok])) (cv_one _) ?_; go_simp)
    clear hg
    generalize X.setRow g (cv (rc r)) = X2 at H2 ⊢
    have r2 := H2.out.2.1
    have hB := Below.refl X2.heap.size X2
    have q0 := r2.cls 0 _ (rcv_num r)
    have HSy := fun X => hid_of' (say_any bFlat bProp (s : Int) 11 X (by decide))
    rw [place_nat] at HSy
    cases ho : openR r
    · rw [ho] at HO
      have hlt : 4611686018427387904 ≤ r.num := by simpa [busyR, ho] using hb
      clear hb ho
      refine wp_region_cls0 ?_
      repeat (first | go_big_quiet_skip | (go_big_quiet_want; first | (refine qRnd hr _ rfl rfl r2.in.cls ?_; simp only [Act.put, List.setIfInBounds_toArray, List.set_cons_succ, List.set_cons_zero]; go_big_quiet_on) | (go_big_quiet_op; first | go_big_quiet_on | go_big_quiet_call ((go_at_call 65; exact cls_of (HO _).out)))))
      refine wpQuiet_nil ?_
      rintro w1 ⟨s1, e1⟩
      have hb1 := wOf_below s1
      rw [← e1] at hb1
      clear e1 s1
      replace r2 := r2.later hb1
      replace hB := bgo hB hb1
      clear hb1
      clear q0
      have H3 := hid_of' (And.intro (H2.out.1.later hB) (And.intro (H2.out.2.1.later hB) (And.intro (H2.out.2.2.1.later hB) (And.intro (bgo H2.out.2.2.2.1 hB) (H2.out.2.2.2.2.later hB)))))
      clear H2 hB r2
      rename World => X3
      have c1 := H3.out.1.c1
      have hno := H3.out.2.2.2.2
      have hs3 := H3.out.2.2.2.1.size
      have hn3 := hno.lt
      go_wp2_with (first | (go_at_call 28; refine (HSy _).out.mono ?_; rintro e w4 ⟨g1, g1', rfl, hg1', hg1, hcs', hcs1, hb4⟩; clear HSy) | (refine wpL_storeNo rfl _ _ rfl rfl rfl (hno.later hb4) ?_))
      exact bodyPost_ret (v := .agg (nov 11 (some ⟨g1', 0, none⟩) 1 1 (some ⟨g1, 0, none⟩) 1 1)) (results_cell_row rfl _ _ (cb + 1) _ _ _ _ rfl ((hno.later hb4).rowI _) Tryd.underlying32 rfl no_size) rfl ⟨g1, g1', rfl, hcs'.other _ _ (by omega), hcs1.other _ _ (by omega), below_row (bgo H3.out.2.2.2.1 hb4) (by have := HB0.out; omega) _, by omega, by omega⟩
    · rw [ho] at HO
      clear hb ho
      refine wp_region_cls0 ?_
      repeat (first | go_big_quiet_skip | (go_big_quiet_want; first | (refine qRnd hr _ rfl rfl r2.in.cls ?_; simp only [Act.put, List.setIfInBounds_toArray, List.set_cons_succ, List.set_cons_zero]; go_big_quiet_on) | (go_big_quiet_op; first | go_big_quiet_on | go_big_quiet_call ((go_at_call 65; exact cls_of (HO _).out)))))
      refine wpQuiet_nil ?_
      rintro w1 ⟨s1, e1⟩
      have hb1 := wOf_below s1
      rw [← e1] at hb1
      clear e1 s1
      replace r2 := r2.later hb1
      replace hB := bgo hB hb1
      clear hb1
      clear q0
      have H3 := hid_of' (And.intro (H2.out.1.later hB) (And.intro (H2.out.2.1.later hB) (And.intro (H2.out.2.2.1.later hB) (And.intro (bgo H2.out.2.2.2.1 hB) (H2.out.2.2.2.2.later hB)))))
      clear H2 hB r2
      rename World => X3
      have c1 := H3.out.1.c1
      have hno := H3.out.2.2.2.2
      have hs3 := H3.out.2.2.2.1.size
      have hn3 := hno.lt
      go_wp2_with (first | (go_at_call 28; refine (HSy _).out.mono ?_; rintro e w4 ⟨g1, g1', rfl, hg1', hg1, hcs', hcs1, hb4⟩; clear HSy) | (refine wpL_storeNo rfl _ _ rfl rfl rfl (hno.later hb4) ?_))
      exact bodyPost_ret (v := .agg (nov 11 (some ⟨g1', 0, none⟩) 1 1 (some ⟨g1, 0, none⟩) 1 1)) (results_cell_row rfl _ _ (cb + 1) _ _ _ _ rfl ((hno.later hb4).rowI _) Tryd.underlying32 rfl no_size) rfl ⟨g1, g1', rfl, hcs'.other _ _ (by omega), hcs1.other _ _ (by omega), below_row (bgo H3.out.2.2.2.1 hb4) (by have := HB0.out; omega) _, by omega, by omega⟩
end Go.Proofs.YtfgcljpiidhfpaaDoor
