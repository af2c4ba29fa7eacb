
/-
  A message of the kind 2 is read.
-/
import Derived.Test.YtpjanipodigamaaDoorPkM0
namespace Go.Proofs.YtpjanipodigamaaDoor
open Go.RowKit
set_option maxRecDepth 100000

set_option maxHeartbeats 8000000 in
theorem msg2_rd {ad : Nat → Addr} {rb g : Nat} {bs : List UInt8} {pl q1 q2 q3 : Nat} {f_ e_ : Int} {w : World} (L : Lw ad w) (h : RdAt rb g bs pl .nilIface w) (p0 : pKind 4 bs pl = .ok (2, q1)) (p1 : pNum 7 bs q1 = .ok (f_, q2)) (p2 : pNum mx63 bs q2 = .ok (e_, q3)) :
    Calls Tryd.prog 29 #[rgv rb] w (RdM ad rb g bs w (pMsgE bs pl)) := by
  have S0 := Rst.start L h (mv (0, 0, 0, zero8, [], zeroRs) (.slice none 0 0)) 30
  have hz : (Tryd.prog.info? 30).bind (·.zero) = some (.agg (mv (0, 0, 0, zero8, [], zeroRs) (.slice none 0 0))) := zero_ms'
  have H0 := hid_of' p0
  have H1 := hid_of' p1
  have H2 := hid_of' p2
  have HMe := hid_of' (fun x (hb : pBody 2 bs q3 = .error x) => (pSeq_err2 p0 (pSeq_err2 p1 (pSeq_err2 p2 hb)) : pMsg bs pl = .error x))
  have HMo := hid_of' (fun y q (hb : pBody 2 bs q3 = .ok (y, q)) => (pSeq_ok p0 (pSeq_ok p1 (pSeq_ok p2 hb)) : pMsg bs pl = .ok ((2, f_, e_, y), q)))
  clear L h p0 p1 p2
  cases p3 : pRow mx63 bs q3 with
  | error x =>
    have H3 := hid_of' p3
    have HM := hid_of' (HMe.out x (pSeq_err (by rw [if_pos rfl]; exact p3)))
    clear p3
    go_enter Tryd.func29, Tryd.ntmps29
    go_upto_region 1 with (refine wpL_alloc rfl _ rfl hz ?_)
    go_simp
    go_upto_region 2 with (first | (refine ld_rg rfl _ rfl rfl S0.box ?_) | (go_at_call 45; have hh := kind_rd S0.lw S0.rd 4; (with_reducible refine hh.mono ?_); clear hh; intro e w1 h1; obtain ⟨hk1, rfl, hr1⟩ := h1.ok H0.out; have T1 := S0.go hk1 hr1; clear h1 hk1 hr1; have d1 := T1.cell 0 (.int .i64 0) rfl; have f1 := T1.froz 0))
    have S1 := T1.set 0 (.int .i64 2)
    rw [mv_set0] at S1
    clear T1 d1 f1
    clear S0
    go_upto_region 3 with (first | (refine ld_rg rfl _ rfl rfl S1.box ?_) | (go_at_call 46; have hh := number_rd S1.lw S1.rd 7; (with_reducible refine hh.mono ?_); clear hh; intro e w2 h2; obtain ⟨hk2, rfl, hr2⟩ := h2.ok H1.out; have T2 := S1.go hk2 hr2; clear h2 hk2 hr2; have d2 := T2.cell 1 (.int .i64 0) rfl; have f2 := T2.froz 1))
    have S2 := T2.set 1 (.int .i64 f_)
    rw [mv_set1] at S2
    clear T2 d2 f2
    clear S1
    go_upto_region 4 with (first | (refine ld_rg rfl _ rfl rfl S2.box ?_) | (go_at_call 46; have hh := number_rd S2.lw S2.rd 9223372036854775807; (with_reducible refine hh.mono ?_); clear hh; intro e w3 h3; obtain ⟨hk3, rfl, hr3⟩ := h3.ok H2.out; have T3 := S2.go hk3 hr3; clear h3 hk3 hr3; have d3 := T3.cell 2 (.int .i64 0) rfl; have f3 := T3.froz 2))
    have S3 := T3.set 2 (.int .i64 e_)
    rw [mv_set2] at S3
    clear T3 d3 f3
    clear S2
    have dk := S3.cell 0 (.int .i64 2) rfl
    go_wp2_with (first | (refine ld_rg rfl _ rfl rfl S3.box ?_) | (go_at_call 48; have hh := row_rd S3.lw S3.rd 9223372036854775807; (with_reducible refine hh.mono ?_); clear hh; intro e w4 h4; obtain ⟨hk4, f, hf, rfl, hp⟩ := h4.err H3.out))
    exact ⟨rfl, RdM.mkErr (msgE_err HM.out) (S3.kp.trans hk4) (by have := S3.kp.size; omega) hp⟩
  | ok y =>
    obtain ⟨c, q4⟩ := y
    have hc8 := pRow_len (Int.le_refl _) (by decide) p3
    have H3 := hid_of' p3
    have HM := hid_of' (HMo.out (c, [], zeroRs) q4 (pSeq_ok (a := c) (k := q4) (by rw [if_pos rfl]; exact p3) (pSeq_ok (a := []) (k := q4) rfl rfl)))
    clear p3 HMe HMo
    cases pe : endR (bs.drop q4) with
    | error c9 =>
      have HE := hid_of' (And.intro (show (endR (bs.drop q4)).map (fun x => (Value.nilIface, x.2)) = .error c9 by rw [pe]; rfl) pe)
      clear pe
      go_enter Tryd.func29, Tryd.ntmps29
      go_upto_region 1 with (refine wpL_alloc rfl _ rfl hz ?_)
      go_simp
      go_upto_region 2 with (first | (refine ld_rg rfl _ rfl rfl S0.box ?_) | (go_at_call 45; have hh := kind_rd S0.lw S0.rd 4; (with_reducible refine hh.mono ?_); clear hh; intro e w1 h1; obtain ⟨hk1, rfl, hr1⟩ := h1.ok H0.out; have T1 := S0.go hk1 hr1; clear h1 hk1 hr1; have d1 := T1.cell 0 (.int .i64 0) rfl; have f1 := T1.froz 0))
      have S1 := T1.set 0 (.int .i64 2)
      rw [mv_set0] at S1
      clear T1 d1 f1
      clear S0
      go_upto_region 3 with (first | (refine ld_rg rfl _ rfl rfl S1.box ?_) | (go_at_call 46; have hh := number_rd S1.lw S1.rd 7; (with_reducible refine hh.mono ?_); clear hh; intro e w2 h2; obtain ⟨hk2, rfl, hr2⟩ := h2.ok H1.out; have T2 := S1.go hk2 hr2; clear h2 hk2 hr2; have d2 := T2.cell 1 (.int .i64 0) rfl; have f2 := T2.froz 1))
      have S2 := T2.set 1 (.int .i64 f_)
      rw [mv_set1] at S2
      clear T2 d2 f2
      clear S1
      go_upto_region 4 with (first | (refine ld_rg rfl _ rfl rfl S2.box ?_) | (go_at_call 46; have hh := number_rd S2.lw S2.rd 9223372036854775807; (with_reducible refine hh.mono ?_); clear hh; intro e w3 h3; obtain ⟨hk3, rfl, hr3⟩ := h3.ok H2.out; have T3 := S2.go hk3 hr3; clear h3 hk3 hr3; have d3 := T3.cell 2 (.int .i64 0) rfl; have f3 := T3.froz 2))
      have S3 := T3.set 2 (.int .i64 e_)
      rw [mv_set2] at S3
      clear T3 d3 f3
      clear S2
      have dk := S3.cell 0 (.int .i64 2) rfl
      go_upto_region 13 with (first | (refine ld_rg rfl _ rfl rfl S3.box ?_) | (go_at_call 48; have hh := row_rd S3.lw S3.rd 9223372036854775807; (with_reducible refine hh.mono ?_); clear hh; intro e w4 h4; obtain ⟨hk4, rfl, hr4⟩ := h4.ok H3.out; have T4 := S3.go hk4 hr4; clear h4 hk4 hr4) | (refine wpList_store_mid rfl _ _ _ rfl _ _ _ rfl rfl (by rw [cv_sz8 hc8]; exact T4.there (by rw [mv_sz (shM0 _ _ _)]; decide)) (ck_size hc8) (cv_one c) ?_))
      try simp only [Act.put]
      have S4 := T4.sets 3 (cv c).toList
      rw [mv_putC (shM0 _ _ _) hc8] at S4
      clear T4 S3
      generalize w4.setCells (w.heap.size + 1) 3 (cv c).toList = x4 at S4 ⊢
      clear dk
      refine wp_region_invx' (by kernel_rfl) (by kernel_rfl) (Jer ad rb g bs w q4 c9 (mv (2, f_, e_, c, [], zeroRs) (.slice none 0 0))) (Jer.start S4.drew) ?_ ?_
      · intro i o ho listed vals b x hJ hsz hun haft hdf hb hu
        have hJ' := hJ
        obtain ⟨j0, j1, j2, j3, j4, hbx, hkp, j5⟩ := hJ
        have t1 : b.tmps[1]? = some (.pointer (some ⟨w.heap.size, 0, none⟩)) := by rw [hu 1 (by kernel_rfl)]; rfl
        have c1 := ptr_rd hbx
        match i, ho with
        | 0, ho =>
          simp only [List.getElem?_toArray, List.getElem?_cons_zero, Option.some.injEq] at ho
          subst ho
          exact opw_rg _ rfl (k := w.heap.size) (by simp [Act.eval, t1]) hbx ⟨_, rfl, hJ'.step 0 _ (by decide) (fun _ => rfl) (fun h => by cases h) (fun h => by cases h)⟩
        | 1, ho =>
          simp only [List.getElem?_toArray, List.getElem?_cons_succ, List.getElem?_cons_zero, Option.some.injEq] at ho
          subst ho
          unfold Oper.wp
          simp [execOp, go_sem, t1]
          exact ⟨_, rfl, hJ'.step 1 _ (by decide) (fun h => by cases h) (fun _ => rfl) (fun h => by cases h)⟩
        | 2, ho =>
          simp only [List.getElem?_toArray, List.getElem?_cons_succ, List.getElem?_cons_zero, Option.some.injEq] at ho
          subst ho
          have t35 : b.tmps[35]? = some (vals 1) := hb 1 _ 35 rfl rfl (haft ⟨1, .data⟩ (by simp) rfl)
          rw [j1 (haft ⟨1, .data⟩ (by simp) rfl)] at t35
          unfold Oper.wp
          simp [execOp, go_sem, t35, c1]
          exact ⟨_, rfl, hJ'.step 2 _ (by decide) (fun h => by cases h) (fun h => by cases h) (fun _ => rfl)⟩
        | 3, ho =>
          simp only [List.getElem?_toArray, List.getElem?_cons_succ, List.getElem?_cons_zero, Option.some.injEq] at ho
          subst ho
          have t36 : b.tmps[36]? = some (vals 2) := hb 2 _ 36 rfl rfl (haft ⟨2, .data⟩ (by simp) rfl)
          rw [j2 (haft ⟨2, .data⟩ (by simp) rfl)] at t36
          have hS := j3 (not_listed hun)
          unfold Oper.wp
          simp [go_sem, t36]
          refine (End_any hS.lw hS.rd).mono ?_
          intro e y h2
          obtain ⟨f2, hf2, rfl, hr2, hl2, hk2⟩ := rdOut_err h2 HE.out.1
          exact ⟨_, rfl, hJ'.end3 hsz hS f2 hr2 hl2 hk2⟩
        | 4, ho =>
          simp only [List.getElem?_toArray, List.getElem?_cons_succ, List.getElem?_cons_zero, Option.some.injEq] at ho
          subst ho
          have l3 : listed.getD 3 false = true := haft ⟨3, .data⟩ (by simp) rfl
          obtain ⟨f2, e2, hr2, hl2⟩ := j4 l3
          have t34 : b.tmps[34]? = some (vals 0) := hb 0 _ 34 rfl rfl (haft ⟨0, .data⟩ (by simp) rfl)
          rw [j0 (haft ⟨0, .data⟩ (by simp) rfl)] at t34
          have t37 : b.tmps[37]? = some (vals 3) := hb 3 _ 37 rfl rfl l3
          rw [e2] at t37
          unfold Oper.wp
          simp [go_sem, t34, t37]
          refine (checkP_err hr2 f2 _ c9 hl2).mono ?_
          rintro e y ⟨f, hf, rfl, hp, hk3⟩
          exact ⟨hdf, RdM.mkErr (msgE_end HM.out HE.out.2) (hkp.go hk3 (by simp)) (by have := hkp.size; omega) hp⟩
        | m + 5, ho => simp at ho
      · intro listed vals b x hall hJ hbs hbd hbv hbu
        obtain ⟨j0, j1, j2, j3, j4, hbx, hkp, j5⟩ := hJ
        have := hall 4 (by decide)
        rw [j5] at this
        cases this
    | ok u9 =>
      have hu9 : u9.2 = 0 := by
        cases hd : bs.drop q4 with
        | nil => rw [hd] at pe; simp [endR] at pe; rw [← pe]
        | cons b r => rw [hd] at pe; simp [endR] at pe
      have HE := hid_of' (And.intro (show (endR (bs.drop q4)).map (fun x => (Value.nilIface, x.2)) = .ok (.nilIface, 0) by rw [pe, ← hu9]; rfl) pe)
      clear pe hu9
      go_enter Tryd.func29, Tryd.ntmps29
      go_upto_region 1 with (refine wpL_alloc rfl _ rfl hz ?_)
      go_simp
      go_upto_region 2 with (first | (refine ld_rg rfl _ rfl rfl S0.box ?_) | (go_at_call 45; have hh := kind_rd S0.lw S0.rd 4; (with_reducible refine hh.mono ?_); clear hh; intro e w1 h1; obtain ⟨hk1, rfl, hr1⟩ := h1.ok H0.out; have T1 := S0.go hk1 hr1; clear h1 hk1 hr1; have d1 := T1.cell 0 (.int .i64 0) rfl; have f1 := T1.froz 0))
      have S1 := T1.set 0 (.int .i64 2)
      rw [mv_set0] at S1
      clear T1 d1 f1
      clear S0
      go_upto_region 3 with (first | (refine ld_rg rfl _ rfl rfl S1.box ?_) | (go_at_call 46; have hh := number_rd S1.lw S1.rd 7; (with_reducible refine hh.mono ?_); clear hh; intro e w2 h2; obtain ⟨hk2, rfl, hr2⟩ := h2.ok H1.out; have T2 := S1.go hk2 hr2; clear h2 hk2 hr2; have d2 := T2.cell 1 (.int .i64 0) rfl; have f2 := T2.froz 1))
      have S2 := T2.set 1 (.int .i64 f_)
      rw [mv_set1] at S2
      clear T2 d2 f2
      clear S1
      go_upto_region 4 with (first | (refine ld_rg rfl _ rfl rfl S2.box ?_) | (go_at_call 46; have hh := number_rd S2.lw S2.rd 9223372036854775807; (with_reducible refine hh.mono ?_); clear hh; intro e w3 h3; obtain ⟨hk3, rfl, hr3⟩ := h3.ok H2.out; have T3 := S2.go hk3 hr3; clear h3 hk3 hr3; have d3 := T3.cell 2 (.int .i64 0) rfl; have f3 := T3.froz 2))
      have S3 := T3.set 2 (.int .i64 e_)
      rw [mv_set2] at S3
      clear T3 d3 f3
      clear S2
      have dk := S3.cell 0 (.int .i64 2) rfl
      go_upto_region 13 with (first | (refine ld_rg rfl _ rfl rfl S3.box ?_) | (go_at_call 48; have hh := row_rd S3.lw S3.rd 9223372036854775807; (with_reducible refine hh.mono ?_); clear hh; intro e w4 h4; obtain ⟨hk4, rfl, hr4⟩ := h4.ok H3.out; have T4 := S3.go hk4 hr4; clear h4 hk4 hr4) | (refine wpList_store_mid rfl _ _ _ rfl _ _ _ rfl rfl (by rw [cv_sz8 hc8]; exact T4.there (by rw [mv_sz (shM0 _ _ _)]; decide)) (ck_size hc8) (cv_one c) ?_))
      try simp only [Act.put]
      have S4 := T4.sets 3 (cv c).toList
      rw [mv_putC (shM0 _ _ _) hc8] at S4
      clear T4 S3
      generalize w4.setCells (w.heap.size + 1) 3 (cv c).toList = x4 at S4 ⊢
      clear dk
      refine wp_region_invx' (by kernel_rfl) (by kernel_rfl) (Jok ad rb g bs w q4 (mv (2, f_, e_, c, [], zeroRs) (.slice none 0 0)) (fun _ => True)) (Jok.start S4.drew trivial) ?_ ?_
      · intro i o ho listed vals b x hJ hsz hun haft hdf hb hu
        have hJ' := hJ
        obtain ⟨j0, j1, j2, j3, hS, hG⟩ := hJ
        have t1 : b.tmps[1]? = some (.pointer (some ⟨w.heap.size, 0, none⟩)) := by rw [hu 1 (by kernel_rfl)]; rfl
        have c1 := ptr_rd hS.box
        match i, ho with
        | 0, ho =>
          simp only [List.getElem?_toArray, List.getElem?_cons_zero, Option.some.injEq] at ho
          subst ho
          exact opw_rg _ rfl (k := w.heap.size) (by simp [Act.eval, t1]) hS.box ⟨_, rfl, hJ'.step 0 _ (fun _ => rfl) (fun h => by cases h) (fun h => by cases h) (fun h => by cases h) hS hG⟩
        | 1, ho =>
          simp only [List.getElem?_toArray, List.getElem?_cons_succ, List.getElem?_cons_zero, Option.some.injEq] at ho
          subst ho
          unfold Oper.wp
          simp [execOp, go_sem, t1]
          exact ⟨_, rfl, hJ'.step 1 _ (fun h => by cases h) (fun _ => rfl) (fun h => by cases h) (fun h => by cases h) hS hG⟩
        | 2, ho =>
          simp only [List.getElem?_toArray, List.getElem?_cons_succ, List.getElem?_cons_zero, Option.some.injEq] at ho
          subst ho
          have t35 : b.tmps[35]? = some (vals 1) := hb 1 _ 35 rfl rfl (haft ⟨1, .data⟩ (by simp) rfl)
          rw [j1 (haft ⟨1, .data⟩ (by simp) rfl)] at t35
          unfold Oper.wp
          simp [execOp, go_sem, t35, c1]
          exact ⟨_, rfl, hJ'.step 2 _ (fun h => by cases h) (fun h => by cases h) (fun _ => rfl) (fun h => by cases h) hS hG⟩
        | 3, ho =>
          simp only [List.getElem?_toArray, List.getElem?_cons_succ, List.getElem?_cons_zero, Option.some.injEq] at ho
          subst ho
          have t36 : b.tmps[36]? = some (vals 2) := hb 2 _ 36 rfl rfl (haft ⟨2, .data⟩ (by simp) rfl)
          rw [j2 (haft ⟨2, .data⟩ (by simp) rfl)] at t36
          unfold Oper.wp
          simp [go_sem, t36]
          refine (End_any hS.lw hS.rd).mono ?_
          intro e y h2
          obtain ⟨rfl, hr2, hk2⟩ := rdOut_ok h2 HE.out.1
          exact ⟨_, rfl, hJ'.step 3 _ (fun h => by cases h) (fun h => by cases h) (fun h => by cases h) (fun _ => rfl) (hS.go hk2 hr2) trivial⟩
        | 4, ho =>
          simp only [List.getElem?_toArray, List.getElem?_cons_succ, List.getElem?_cons_zero, Option.some.injEq] at ho
          subst ho
          have t34 : b.tmps[34]? = some (vals 0) := hb 0 _ 34 rfl rfl (haft ⟨0, .data⟩ (by simp) rfl)
          rw [j0 (haft ⟨0, .data⟩ (by simp) rfl)] at t34
          have t37 : b.tmps[37]? = some (vals 3) := hb 3 _ 37 rfl rfl (haft ⟨3, .data⟩ (by simp) rfl)
          rw [j3 (haft ⟨3, .data⟩ (by simp) rfl)] at t37
          unfold Oper.wp
          simp [go_sem, t34, t37]
          refine (checkP_nil rb _).mono ?_
          rintro e y ⟨rfl, rfl⟩
          have ka : Kept [rb] x (x.alloc (.cells #[.pointer (some ⟨rb, 0, none⟩)] 59)) := (Kept.refl _ _).alloc _
          exact ⟨_, rfl, hJ'.step 4 _ (fun h => by cases h) (fun h => by cases h) (fun h => by cases h) (fun h => by cases h) (hS.go ka (hS.rd.kept (S := []) ((Kept.refl _ _).alloc _) (by simp) (by simp))) trivial⟩
        | m + 5, ho => simp at ho
      · intro listed vals b x hall hJ hbs hbd hbv hbu
        obtain ⟨j0, j1, j2, j3, hS, hG⟩ := hJ
        clear j0 j1 j2 j3
        obtain rfl := frame_is hbs hbd hbv hbu
        clear hbs hbd hbv hbu hall
        simp only [putAll]
        try simp only [List.setIfInBounds_toArray, List.set_cons_succ, List.set_cons_zero]
        clear S4
        have S9i := hS.res.in
        have hsm : shM (2, f_, e_, c, [], zeroRs) := okMsg_sh ((fits_msg.sound _ _ _ _ HM.out).1)
        go_wp2_with (first | (refine ld_ms hsm rfl _ rfl rfl S9i ?_) | (refine wpList_store_row rfl _ _ _ rfl _ _ rfl rfl _ _ hS.res (mv_size hsm) rfl (mv_one _ rfl) ?_))
        refine bodyPost_ret (results_cell_row (fn := Tryd.f29) (p := 2) rfl _ _ _ _ _ _ _ rfl (setRow_heap _ _ _ _ _ _ hS.res) Tryd.underlying30 rfl (mv_size hsm)) rfl ?_
        exact RdM.mkOk (m := (2, f_, e_, c, [], zeroRs)) (msgE_ok HM.out HE.out.2) hS.row.kp (⟨rfl, .inl ⟨rfl, rfl⟩⟩) hsm
end Go.Proofs.YtpjanipodigamaaDoor
