
/-
  Acts and rounds are read.
-/
import Derived.Test.YteffpnjgchihpaaGreatDoorPB33
namespace Go.Proofs.YteffpnjgchihpaaGreatDoor
open Go.RowKit
set_option maxRecDepth 100000

def zeroA : Pac := ((0, 0, 0, 0), 0, zero8)
theorem zeroA_sh : shA zeroA := rfl
theorem zero_act : (Tryz.prog.info? 60).bind (·.zero) = some (.agg (acv zeroA)) := by kernel_rfl
theorem zero_rnd : (Tryz.prog.info? 27).bind (·.zero) = some (.agg (rnv zeroR)) := by kernel_rfl
theorem zero_rnds : (Tryz.prog.info? 29).bind (·.zero) = some (.agg (rsv zeroRs)) := by kernel_rfl
theorem acv_putO (o o' : Pop) (n : Int) (c : List Int) : putA (acv (o, n, c)) 0 (opv o').toList = acv (o', n, c) :=
  putA_list (opv o').toList (opv o).toList [] (.int .i64 n :: c.map (Value.int .i64)) rfl
theorem acv_setN (o : Pop) (n n' : Int) (c : List Int) : (acv (o, n, c)).setIfInBounds 4 (.int .i64 n') = acv (o, n', c) := by
  simp only [acv, acl, List.setIfInBounds_toArray, List.set_cons_succ, List.set_cons_zero]
theorem acv_putC (o : Pop) (n : Int) (c : List Int) {c' : List Int} (h : c.length = 8) (h' : c'.length = 8) : putA (acv (o, n, c)) 5 (cv c').toList = acv (o, n, c') := by
  have := putA_list (c'.map (Value.int .i64)) (c.map (Value.int .i64)) [.int .i64 o.1, .int .i64 o.2.2.1, .int .i32 o.2.2.2, .int .i64 o.2.1, .int .i64 n] [] (by simp [h, h'])
  simp only [List.append_nil] at this
  exact this
theorem rnv_putC (n d : Int) (c v : List Int) {c' : List Int} (h : c.length = 8) (h' : c'.length = 8) : putA (rnv (n, c, v, d)) 1 (cv c').toList = rnv (n, c', v, d) :=
  putA_list (c'.map (Value.int .i64)) (c.map (Value.int .i64)) [Value.int .i64 n] (v.map (Value.int .i64) ++ [Value.int .i64 d]) (by simp [h, h'])
theorem rnv_putV (n d : Int) (c v : List Int) {v' : List Int} (hc : c.length = 8) (h : v.length = 8) (h' : v'.length = 8) : putA (rnv (n, c, v, d)) 9 (cv v').toList = rnv (n, c, v', d) := by
  have := putA_list (v'.map (Value.int .i64)) (v.map (Value.int .i64)) (.int .i64 n :: c.map (Value.int .i64)) [Value.int .i64 d] (by simp [h, h'])
  have hl : (.int .i64 n :: c.map (Value.int .i64)).length = 9 := by simp [hc]
  rw [hl] at this
  exact this
theorem rnv_setD (n d d' : Int) (c v : List Int) (hc : c.length = 8) (hv : v.length = 8) : (rnv (n, c, v, d)).setIfInBounds 17 (.int .i64 d') = rnv (n, c, v, d') := by
  have e : (c.map (Value.int .i64) ++ (v.map (Value.int .i64) ++ [Value.int .i64 d])).set 16 (.int .i64 d') = c.map (Value.int .i64) ++ (v.map (Value.int .i64) ++ [Value.int .i64 d']) := by
    rw [List.set_append_right _ _ (by simp [hc]), List.set_append_right _ _ (by simp [hc, hv])]
    simp [hc, hv]
  simp only [rnv, rnl, List.setIfInBounds_toArray, List.set_cons_succ, e]
theorem pRow_len {most : Int} (hm : most ≤ mx63) (h0 : 0 ≤ most) {bs : List UInt8} {pl q : Nat} {l : List Int} (h : pRow most bs pl = .ok (l, q)) : l.length = 8 := ((fits_rowI most hm h0).sound _ _ _ _ h).1.1

/-- A clock. -/
theorem clock_rd {ad : Nat → Addr} {rb sb g : Nat} {bs : List UInt8} {pl : Nat} {w : World} (L : Lw ad w) (h : RdAt rb g bs pl .nilIface w) (hs : SdAt sb rb w) :
    Calls Tryz.prog 75 #[rgv sb] w (RdV ad rb g bs w (fun l => .agg (cv l)) (pRow mx63 bs pl)) := by
  have S0 := Rst.start L h hs (cv zero8) 24
  have hz : (Tryz.prog.info? 24).bind (·.zero) = some (.agg (cv zero8)) := by kernel_rfl
  clear L h hs
  cases p0 : pRow mx63 bs pl with
  | error x =>
    have H0 := hid_of' p0
    clear p0
    go_enter Tryz.func75, Tryz.ntmps75
    go_upto_region 1 with (refine wpL_alloc rfl _ rfl hz ?_)
    go_simp
    go_wp2_with (go_at_call 93; have hh := row_rd S0.lw S0.rd S0.sd 9223372036854775807; (with_reducible refine hh.mono ?_); clear hh; intro e w1 h1; obtain ⟨hk1, f, hf, rfl, hp⟩ := h1.err H0.out)
    exact ⟨rfl, RdV.mkErr rfl (S0.kp.trans hk1) (by have := S0.kp.size; omega) hp⟩
  | ok y =>
    obtain ⟨c, q1⟩ := y
    have hc8 := pRow_len (Int.le_refl _) (by decide) p0
    have H0 := hid_of' p0
    clear p0
    go_enter Tryz.func75, Tryz.ntmps75
    go_upto_region 1 with (refine wpL_alloc rfl _ rfl hz ?_)
    go_simp
    go_wp2_with (first | (go_at_call 93; have hh := row_rd S0.lw S0.rd S0.sd 9223372036854775807; (with_reducible refine hh.mono ?_); clear hh; intro e w1 h1; obtain ⟨hk1, rfl, hr1⟩ := h1.ok H0.out; have T1 := S0.go hk1 hr1; clear h1 hk1 hr1) | (refine wpList_store_row rfl _ _ _ rfl _ _ rfl rfl _ _ T1.res (ck_size hc8) (by simp [cv, hc8, zero8]) (cv_one c) ?_))
    have S1 := T1.own (cs' := cv c) (by decide) (y := w1.setRow w.heap.size (cv c)) ⟨rfl, rfl, rfl, by simp, fun k _ hn => setRow_other _ _ _ _ (by simpa using hn)⟩ (setRow_heap _ _ _ _ _ _ T1.res)
    refine bodyPost_ret (results_cell_row (fn := Tryz.f75) (p := 2) rfl _ _ _ _ _ _ _ rfl S1.res Tryz.underlying24 rfl (ck_size hc8)) rfl ?_
    exact RdV.mkOk rfl S1.kp S1.rd

set_option maxHeartbeats 4000000 in
theorem act_rd {ad : Nat → Addr} {rb sb g : Nat} {bs : List UInt8} {pl : Nat} {w : World} (L : Lw ad w) (h : RdAt rb g bs pl .nilIface w) (hs : SdAt sb rb w) :
    Calls Tryz.prog 92 #[rgv sb] w (RdV ad rb g bs w (fun a => .agg (acv a)) (pAct bs pl)) := by
  have S0 := Rst.start L h hs (acv ((0, 0, 0, 0), 0, zero8)) 60
  have hz : (Tryz.prog.info? 60).bind (·.zero) = some (.agg (acv ((0, 0, 0, 0), 0, zero8))) := zero_act
  have hP : pAct bs pl = pSeq pOp (fun _ => pSeq (pNz mx63) fun _ => pRow mx63) bs pl := rfl
  rw [hP]
  clear L h hs hP
  cases p0 : pOp bs pl with
  | error x =>
    have H0 := hid_of' p0
    clear p0
    go_enter Tryz.func92, Tryz.ntmps92
    go_upto_region 1 with (refine wpL_alloc rfl _ rfl hz ?_)
    go_simp
    go_wp2_with (first | (go_at_call 106; have hh := op_rd S0.lw S0.rd S0.sd; (with_reducible refine hh.mono ?_); clear hh; intro e w1 h1; obtain ⟨hk1, f, hf, rfl, hp⟩ := h1.err H0.out))
    exact ⟨rfl, RdV.mkErr (pSeq_err H0.out) (S0.kp.trans hk1) (by have := S0.kp.size; omega) hp⟩
  | ok y =>
    obtain ⟨o, q1⟩ := y
    have H0 := hid_of' p0
    clear p0
    cases p1 : pNz mx63 bs q1 with
    | error x =>
      have H1 := hid_of' p1
      clear p1
      go_enter Tryz.func92, Tryz.ntmps92
      go_upto_region 1 with (refine wpL_alloc rfl _ rfl hz ?_)
      go_simp
      go_upto_region 2 with (first | (go_at_call 106; have hh := op_rd S0.lw S0.rd S0.sd; (with_reducible refine hh.mono ?_); clear hh; intro e w1 h1; obtain ⟨hk1, rfl, hr1⟩ := h1.ok H0.out; have T1 := S0.go hk1 hr1; clear h1 hk1 hr1) | (refine wpList_store_mid rfl _ _ _ rfl _ _ _ rfl rfl (T1.there (n := 4) (by rw [acv_sz (a := ((0, 0, 0, 0), 0, zero8)) rfl]; decide)) (opv_size o) (opv_one o) ?_))
      try simp only [Act.put]
      have S1 := T1.sets 0 (opv o).toList
      rw [acv_putO] at S1
      clear T1
      generalize w1.setCells (w.heap.size) 0 (opv o).toList = x1 at S1 ⊢
      clear S0
      go_wp2_with (first | (go_at_call 107; have hh := notZero_rd S1.lw S1.rd S1.sd 9223372036854775807; (with_reducible refine hh.mono ?_); clear hh; intro e w2 h2; obtain ⟨hk2, f, hf, rfl, hp⟩ := h2.err H1.out))
      exact ⟨rfl, RdV.mkErr (pSeq_err2 H0.out (pSeq_err H1.out)) (S1.kp.trans hk2) (by have := S1.kp.size; omega) hp⟩
    | ok y =>
      obtain ⟨n, q2⟩ := y
      have H1 := hid_of' p1
      clear p1
      cases p2 : pRow mx63 bs q2 with
      | error x =>
        have H2 := hid_of' p2
        clear p2
        go_enter Tryz.func92, Tryz.ntmps92
        go_upto_region 1 with (refine wpL_alloc rfl _ rfl hz ?_)
        go_simp
        go_upto_region 2 with (first | (go_at_call 106; have hh := op_rd S0.lw S0.rd S0.sd; (with_reducible refine hh.mono ?_); clear hh; intro e w1 h1; obtain ⟨hk1, rfl, hr1⟩ := h1.ok H0.out; have T1 := S0.go hk1 hr1; clear h1 hk1 hr1) | (refine wpList_store_mid rfl _ _ _ rfl _ _ _ rfl rfl (T1.there (n := 4) (by rw [acv_sz (a := ((0, 0, 0, 0), 0, zero8)) rfl]; decide)) (opv_size o) (opv_one o) ?_))
        try simp only [Act.put]
        have S1 := T1.sets 0 (opv o).toList
        rw [acv_putO] at S1
        clear T1
        generalize w1.setCells (w.heap.size) 0 (opv o).toList = x1 at S1 ⊢
        clear S0
        go_upto_region 3 with (first | (go_at_call 107; have hh := notZero_rd S1.lw S1.rd S1.sd 9223372036854775807; (with_reducible refine hh.mono ?_); clear hh; intro e w2 h2; obtain ⟨hk2, rfl, hr2⟩ := h2.ok H1.out; have T2 := S1.go hk2 hr2; clear h2 hk2 hr2; have d2 := T2.cell 4 (.int .i64 0) rfl; have f2 := T2.froz 4))
        have S2 := T2.set 4 (.int .i64 n)
        rw [acv_setN] at S2
        clear T2 d2 f2
        clear S1
        go_wp2_with (first | (go_at_call 75; have hh := clock_rd S2.lw S2.rd S2.sd; (with_reducible refine hh.mono ?_); clear hh; intro e w3 h3; obtain ⟨hk3, f, hf, rfl, hp⟩ := h3.err H2.out))
        exact ⟨rfl, RdV.mkErr (pSeq_err2 H0.out (pSeq_err2 H1.out H2.out)) (S2.kp.trans hk3) (by have := S2.kp.size; omega) hp⟩
      | ok y =>
        obtain ⟨c, q3⟩ := y
        have hc8 := pRow_len (Int.le_refl _) (by decide) p2
        have H2 := hid_of' p2
        clear p2
        go_enter Tryz.func92, Tryz.ntmps92
        go_upto_region 1 with (refine wpL_alloc rfl _ rfl hz ?_)
        go_simp
        go_upto_region 2 with (first | (go_at_call 106; have hh := op_rd S0.lw S0.rd S0.sd; (with_reducible refine hh.mono ?_); clear hh; intro e w1 h1; obtain ⟨hk1, rfl, hr1⟩ := h1.ok H0.out; have T1 := S0.go hk1 hr1; clear h1 hk1 hr1) | (refine wpList_store_mid rfl _ _ _ rfl _ _ _ rfl rfl (T1.there (n := 4) (by rw [acv_sz (a := ((0, 0, 0, 0), 0, zero8)) rfl]; decide)) (opv_size o) (opv_one o) ?_))
        try simp only [Act.put]
        have S1 := T1.sets 0 (opv o).toList
        rw [acv_putO] at S1
        clear T1
        generalize w1.setCells (w.heap.size) 0 (opv o).toList = x1 at S1 ⊢
        clear S0
        go_upto_region 3 with (first | (go_at_call 107; have hh := notZero_rd S1.lw S1.rd S1.sd 9223372036854775807; (with_reducible refine hh.mono ?_); clear hh; intro e w2 h2; obtain ⟨hk2, rfl, hr2⟩ := h2.ok H1.out; have T2 := S1.go hk2 hr2; clear h2 hk2 hr2; have d2 := T2.cell 4 (.int .i64 0) rfl; have f2 := T2.froz 4))
        have S2 := T2.set 4 (.int .i64 n)
        rw [acv_setN] at S2
        clear T2 d2 f2
        clear S1
        go_upto_region 4 with (first | (go_at_call 75; have hh := clock_rd S2.lw S2.rd S2.sd; (with_reducible refine hh.mono ?_); clear hh; intro e w3 h3; obtain ⟨hk3, rfl, hr3⟩ := h3.ok H2.out; have T3 := S2.go hk3 hr3; clear h3 hk3 hr3) | (refine wpList_store_mid rfl _ _ _ rfl _ _ _ rfl rfl (by rw [cv_sz8 hc8]; exact T3.there (by rw [acv_sz (a := (o, n, zero8)) rfl]; decide)) (ck_size hc8) (cv_one c) ?_))
        try simp only [Act.put]
        have S3 := T3.sets 5 (cv c).toList
        rw [acv_putC _ _ _ rfl hc8] at S3
        clear T3
        generalize w3.setCells (w.heap.size) 5 (cv c).toList = x3 at S3 ⊢
        clear S2
        have S9i := S3.res.in
        go_wp2_with (first | (refine ld_act (a0 := (o, n, c)) hc8 rfl _ rfl rfl S9i ?_) | (refine wpList_store_row rfl _ _ _ rfl _ _ rfl rfl _ _ S3.res (acv_size (a := (o, n, c)) hc8) rfl (acv_one _) ?_))
        refine bodyPost_ret (results_cell_row (fn := Tryz.f92) (p := 2) rfl _ _ _ _ _ _ _ rfl (setRow_heap _ _ _ _ _ _ S3.res) Tryz.underlying60 rfl (acv_size (a := (o, n, c)) hc8)) rfl ?_
        exact RdV.mkOk (a := (o, n, c)) (pSeq_ok H0.out (pSeq_ok H1.out H2.out)) S3.row.kp S3.row.rd

set_option maxHeartbeats 4000000 in
theorem round_rd {ad : Nat → Addr} {rb sb g : Nat} {bs : List UInt8} {pl : Nat} {w : World} (L : Lw ad w) (h : RdAt rb g bs pl .nilIface w) (hs : SdAt sb rb w) (last : Bool) :
    Calls Tryz.prog 94 #[rgv sb, .bool last] w (RdV ad rb g bs w (fun r => .agg (rnv r)) (pRnd last bs pl)) := by
  have S0 := Rst.start L h hs (rnv (0, zero8, zero8, 0)) 27
  have hz : (Tryz.prog.info? 27).bind (·.zero) = some (.agg (rnv (0, zero8, zero8, 0))) := zero_rnd
  have hP : pRnd last bs pl = pSeq (pEntry mx63 last) (fun n => if n = 0 then pPure (zero8, zero8, 0) else pSeq (pRow mx63) fun _ => pSeq (pRow 2) fun _ => pNum 2) bs pl := rfl
  rw [hP]
  clear L h hs hP
  cases p0 : pEntry mx63 last bs pl with
  | error x =>
    have H0 := hid_of' p0
    clear p0
    go_enter Tryz.func94, Tryz.ntmps94
    go_upto_region 1 with (refine wpL_alloc rfl _ rfl hz ?_)
    go_simp
    go_wp2_with (first | (go_at_call 108; have hh := entry_rd S0.lw S0.rd S0.sd last 9223372036854775807; (with_reducible refine hh.mono ?_); clear hh; intro e w1 h1; obtain ⟨hk1, f, hf, rfl, hp⟩ := h1.err H0.out))
    exact ⟨rfl, RdV.mkErr (pSeq_err H0.out) (S0.kp.trans hk1) (by have := S0.kp.size; omega) hp⟩
  | ok y =>
    obtain ⟨n, q1⟩ := y
    have H0 := hid_of' p0
    clear p0
    by_cases k0 : n = 0
    · subst k0
      go_enter Tryz.func94, Tryz.ntmps94
      go_upto_region 1 with (refine wpL_alloc rfl _ rfl hz ?_)
      go_simp
      go_upto_region 2 with (first | (go_at_call 108; have hh := entry_rd S0.lw S0.rd S0.sd last 9223372036854775807; (with_reducible refine hh.mono ?_); clear hh; intro e w1 h1; obtain ⟨hk1, rfl, hr1⟩ := h1.ok H0.out; have T1 := S0.go hk1 hr1; clear h1 hk1 hr1; have d1 := T1.cell 0 (.int .i64 0) rfl; have f1 := T1.froz 0))
      have S1 := T1.set 0 (.int .i64 0)
      replace S1 : Rst ad rb sb g bs w q1 (rnv (0, zero8, zero8, 0)) 27 _ := S1
      clear T1 d1 f1
      clear S0
      have dk := S1.cell 0 (.int .i64 0) rfl
      have S9i := S1.res.in
      go_wp2_with (first | (refine ld_rnd (r := (0, zero8, zero8, 0)) ⟨rfl, rfl⟩ rfl _ rfl rfl S9i ?_) | (refine wpList_store_row rfl _ _ _ rfl _ _ rfl rfl _ _ S1.res (rnv_size (r := (0, zero8, zero8, 0)) ⟨rfl, rfl⟩) rfl (rnv_one _) ?_))
      refine bodyPost_ret (results_cell_row (fn := Tryz.f94) (p := 4) rfl _ _ _ _ _ _ _ rfl (setRow_heap _ _ _ _ _ _ S1.res) Tryz.underlying27 rfl (rnv_size (r := (0, zero8, zero8, 0)) ⟨rfl, rfl⟩)) rfl ?_
      exact RdV.mkOk (a := (0, zero8, zero8, 0)) (pSeq_ok H0.out (by rw [if_pos rfl]; rfl)) S1.row.kp S1.row.rd
    · have k0' : (n == 0) = false := by simpa using k0
      have K0 := hid_of' k0
      clear k0
      cases p1 : pRow mx63 bs q1 with
      | error x =>
        have H1 := hid_of' p1
        clear p1
        go_enter Tryz.func94, Tryz.ntmps94
        go_upto_region 1 with (refine wpL_alloc rfl _ rfl hz ?_)
        go_simp
        go_upto_region 2 with (first | (go_at_call 108; have hh := entry_rd S0.lw S0.rd S0.sd last 9223372036854775807; (with_reducible refine hh.mono ?_); clear hh; intro e w1 h1; obtain ⟨hk1, rfl, hr1⟩ := h1.ok H0.out; have T1 := S0.go hk1 hr1; clear h1 hk1 hr1; have d1 := T1.cell 0 (.int .i64 0) rfl; have f1 := T1.froz 0))
        have S1 := T1.set 0 (.int .i64 n)
        replace S1 : Rst ad rb sb g bs w q1 (rnv (n, zero8, zero8, 0)) 27 _ := S1
        clear T1 d1 f1
        clear S0
        have dk := S1.cell 0 (.int .i64 n) rfl
        go_wp2_with (first | (go_at_call 75; have hh := clock_rd S1.lw S1.rd S1.sd; (with_reducible refine hh.mono ?_); clear hh; intro e w2 h2; obtain ⟨hk2, f, hf, rfl, hp⟩ := h2.err H1.out))
        exact ⟨rfl, RdV.mkErr (pSeq_err2 H0.out (by rw [if_neg K0.out]; exact pSeq_err H1.out)) (S1.kp.trans hk2) (by have := S1.kp.size; omega) hp⟩
      | ok y =>
        obtain ⟨c, q2⟩ := y
        have hc8 := pRow_len (Int.le_refl _) (by decide) p1
        have H1 := hid_of' p1
        clear p1
        cases p2 : pRow 2 bs q2 with
        | error x =>
          have H2 := hid_of' p2
          clear p2
          go_enter Tryz.func94, Tryz.ntmps94
          go_upto_region 1 with (refine wpL_alloc rfl _ rfl hz ?_)
          go_simp
          go_upto_region 2 with (first | (go_at_call 108; have hh := entry_rd S0.lw S0.rd S0.sd last 9223372036854775807; (with_reducible refine hh.mono ?_); clear hh; intro e w1 h1; obtain ⟨hk1, rfl, hr1⟩ := h1.ok H0.out; have T1 := S0.go hk1 hr1; clear h1 hk1 hr1; have d1 := T1.cell 0 (.int .i64 0) rfl; have f1 := T1.froz 0))
          have S1 := T1.set 0 (.int .i64 n)
          replace S1 : Rst ad rb sb g bs w q1 (rnv (n, zero8, zero8, 0)) 27 _ := S1
          clear T1 d1 f1
          clear S0
          have dk := S1.cell 0 (.int .i64 n) rfl
          go_upto_region 5 with (first | (go_at_call 75; have hh := clock_rd S1.lw S1.rd S1.sd; (with_reducible refine hh.mono ?_); clear hh; intro e w2 h2; obtain ⟨hk2, rfl, hr2⟩ := h2.ok H1.out; have T2 := S1.go hk2 hr2; clear h2 hk2 hr2) | (refine wpList_store_mid rfl _ _ _ rfl _ _ _ rfl rfl (by rw [cv_sz8 hc8]; exact T2.there (by rw [rnv_sz (r := (n, zero8, zero8, 0)) ⟨rfl, rfl⟩]; decide)) (ck_size hc8) (cv_one c) ?_))
          try simp only [Act.put]
          have S2 := T2.sets 1 (cv c).toList
          rw [rnv_putC _ _ _ _ rfl hc8] at S2
          clear T2
          generalize w2.setCells (w.heap.size) 1 (cv c).toList = x2 at S2 ⊢
          clear S1
          go_wp2_with (first | (go_at_call 93; have hh := row_rd S2.lw S2.rd S2.sd 2; (with_reducible refine hh.mono ?_); clear hh; intro e w3 h3; obtain ⟨hk3, f, hf, rfl, hp⟩ := h3.err H2.out))
          exact ⟨rfl, RdV.mkErr (pSeq_err2 H0.out (by rw [if_neg K0.out]; exact pSeq_err2 H1.out (pSeq_err H2.out))) (S2.kp.trans hk3) (by have := S2.kp.size; omega) hp⟩
        | ok y =>
          obtain ⟨v, q3⟩ := y
          have hv8 := pRow_len (by decide) (by decide) p2
          have H2 := hid_of' p2
          clear p2
          cases p3 : pNum 2 bs q3 with
          | error x =>
            have H3 := hid_of' p3
            clear p3
            go_enter Tryz.func94, Tryz.ntmps94
            go_upto_region 1 with (refine wpL_alloc rfl _ rfl hz ?_)
            go_simp
            go_upto_region 2 with (first | (go_at_call 108; have hh := entry_rd S0.lw S0.rd S0.sd last 9223372036854775807; (with_reducible refine hh.mono ?_); clear hh; intro e w1 h1; obtain ⟨hk1, rfl, hr1⟩ := h1.ok H0.out; have T1 := S0.go hk1 hr1; clear h1 hk1 hr1; have d1 := T1.cell 0 (.int .i64 0) rfl; have f1 := T1.froz 0))
            have S1 := T1.set 0 (.int .i64 n)
            replace S1 : Rst ad rb sb g bs w q1 (rnv (n, zero8, zero8, 0)) 27 _ := S1
            clear T1 d1 f1
            clear S0
            have dk := S1.cell 0 (.int .i64 n) rfl
            go_upto_region 5 with (first | (go_at_call 75; have hh := clock_rd S1.lw S1.rd S1.sd; (with_reducible refine hh.mono ?_); clear hh; intro e w2 h2; obtain ⟨hk2, rfl, hr2⟩ := h2.ok H1.out; have T2 := S1.go hk2 hr2; clear h2 hk2 hr2) | (refine wpList_store_mid rfl _ _ _ rfl _ _ _ rfl rfl (by rw [cv_sz8 hc8]; exact T2.there (by rw [rnv_sz (r := (n, zero8, zero8, 0)) ⟨rfl, rfl⟩]; decide)) (ck_size hc8) (cv_one c) ?_))
            try simp only [Act.put]
            have S2 := T2.sets 1 (cv c).toList
            rw [rnv_putC _ _ _ _ rfl hc8] at S2
            clear T2
            generalize w2.setCells (w.heap.size) 1 (cv c).toList = x2 at S2 ⊢
            clear S1
            go_upto_region 6 with (first | (go_at_call 93; have hh := row_rd S2.lw S2.rd S2.sd 2; (with_reducible refine hh.mono ?_); clear hh; intro e w3 h3; obtain ⟨hk3, rfl, hr3⟩ := h3.ok H2.out; have T3 := S2.go hk3 hr3; clear h3 hk3 hr3) | (refine wpList_store_mid rfl _ _ _ rfl _ _ _ rfl rfl (by rw [cv_sz8 hv8]; exact T3.there (by rw [rnv_sz (r := (n, c, zero8, 0)) ⟨hc8, rfl⟩]; decide)) (row_size hv8) (cv_one v) ?_))
            try simp only [Act.put]
            have S3 := T3.sets 9 (cv v).toList
            rw [rnv_putV _ _ _ _ hc8 rfl hv8] at S3
            clear T3
            generalize w3.setCells (w.heap.size) 9 (cv v).toList = x3 at S3 ⊢
            clear S2
            go_wp2_with (first | (go_at_call 73; have hh := number_rd S3.lw S3.rd S3.sd 2; (with_reducible refine hh.mono ?_); clear hh; intro e w4 h4; obtain ⟨hk4, f, hf, rfl, hp⟩ := h4.err H3.out))
            exact ⟨rfl, RdV.mkErr (pSeq_err2 H0.out (by rw [if_neg K0.out]; exact pSeq_err2 H1.out (pSeq_err2 H2.out H3.out))) (S3.kp.trans hk4) (by have := S3.kp.size; omega) hp⟩
          | ok y =>
            obtain ⟨d, q4⟩ := y
            have H3 := hid_of' p3
            clear p3
            go_enter Tryz.func94, Tryz.ntmps94
            go_upto_region 1 with (refine wpL_alloc rfl _ rfl hz ?_)
            go_simp
            go_upto_region 2 with (first | (go_at_call 108; have hh := entry_rd S0.lw S0.rd S0.sd last 9223372036854775807; (with_reducible refine hh.mono ?_); clear hh; intro e w1 h1; obtain ⟨hk1, rfl, hr1⟩ := h1.ok H0.out; have T1 := S0.go hk1 hr1; clear h1 hk1 hr1; have d1 := T1.cell 0 (.int .i64 0) rfl; have f1 := T1.froz 0))
            have S1 := T1.set 0 (.int .i64 n)
            replace S1 : Rst ad rb sb g bs w q1 (rnv (n, zero8, zero8, 0)) 27 _ := S1
            clear T1 d1 f1
            clear S0
            have dk := S1.cell 0 (.int .i64 n) rfl
            go_upto_region 5 with (first | (go_at_call 75; have hh := clock_rd S1.lw S1.rd S1.sd; (with_reducible refine hh.mono ?_); clear hh; intro e w2 h2; obtain ⟨hk2, rfl, hr2⟩ := h2.ok H1.out; have T2 := S1.go hk2 hr2; clear h2 hk2 hr2) | (refine wpList_store_mid rfl _ _ _ rfl _ _ _ rfl rfl (by rw [cv_sz8 hc8]; exact T2.there (by rw [rnv_sz (r := (n, zero8, zero8, 0)) ⟨rfl, rfl⟩]; decide)) (ck_size hc8) (cv_one c) ?_))
            try simp only [Act.put]
            have S2 := T2.sets 1 (cv c).toList
            rw [rnv_putC _ _ _ _ rfl hc8] at S2
            clear T2
            generalize w2.setCells (w.heap.size) 1 (cv c).toList = x2 at S2 ⊢
            clear S1
            go_upto_region 6 with (first | (go_at_call 93; have hh := row_rd S2.lw S2.rd S2.sd 2; (with_reducible refine hh.mono ?_); clear hh; intro e w3 h3; obtain ⟨hk3, rfl, hr3⟩ := h3.ok H2.out; have T3 := S2.go hk3 hr3; clear h3 hk3 hr3) | (refine wpList_store_mid rfl _ _ _ rfl _ _ _ rfl rfl (by rw [cv_sz8 hv8]; exact T3.there (by rw [rnv_sz (r := (n, c, zero8, 0)) ⟨hc8, rfl⟩]; decide)) (row_size hv8) (cv_one v) ?_))
            try simp only [Act.put]
            have S3 := T3.sets 9 (cv v).toList
            rw [rnv_putV _ _ _ _ hc8 rfl hv8] at S3
            clear T3
            generalize w3.setCells (w.heap.size) 9 (cv v).toList = x3 at S3 ⊢
            clear S2
            go_upto_region 7 with (first | (go_at_call 73; have hh := number_rd S3.lw S3.rd S3.sd 2; (with_reducible refine hh.mono ?_); clear hh; intro e w4 h4; obtain ⟨hk4, rfl, hr4⟩ := h4.ok H3.out; have T4 := S3.go hk4 hr4; clear h4 hk4 hr4; have d4 := T4.cell 17 (.int .i64 0) (rnv_dec (r := (n, c, v, 0)) ⟨hc8, hv8⟩); have f4 := T4.froz 17))
            have S4 := T4.set 17 (.int .i64 d)
            rw [rnv_setD _ _ _ _ _ hc8 hv8] at S4
            clear T4 d4 f4
            clear S3
            have S9i := S4.res.in
            go_wp2_with (first | (refine ld_rnd (r := (n, c, v, d)) ⟨hc8, hv8⟩ rfl _ rfl rfl S9i ?_) | (refine wpList_store_row rfl _ _ _ rfl _ _ rfl rfl _ _ S4.res (rnv_size (r := (n, c, v, d)) ⟨hc8, hv8⟩) rfl (rnv_one _) ?_))
            refine bodyPost_ret (results_cell_row (fn := Tryz.f94) (p := 4) rfl _ _ _ _ _ _ _ rfl (setRow_heap _ _ _ _ _ _ S4.res) Tryz.underlying27 rfl (rnv_size (r := (n, c, v, d)) ⟨hc8, hv8⟩)) rfl ?_
            exact RdV.mkOk (a := (n, c, v, d)) (pSeq_ok H0.out (by rw [if_neg K0.out]; exact pSeq_ok H1.out (pSeq_ok H2.out H3.out))) S4.row.kp S4.row.rd
end Go.Proofs.YteffpnjgchihpaaGreatDoor
