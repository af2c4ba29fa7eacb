
/-
  A message of the kind 4 is read. A message is read.
-/
import Derived.Test.YteffpnjgchihpaaGreatDoorPB37
import Derived.Test.YteffpnjgchihpaaGreatDoorPB38
namespace Go.Proofs.YteffpnjgchihpaaGreatDoor
open Go.RowKit
set_option maxRecDepth 100000

set_option maxHeartbeats 8000000 in
theorem msg4_rd {ad : Nat → Addr} {rb sb g : Nat} {bs : List UInt8} {pl q1 q2 q3 : Nat} {f_ e_ : Int} {w : World} (L : Lw ad w) (h : RdAt rb g bs pl .nilIface w) (hs : SdAt sb rb w) (p0 : pKind 4 bs pl = .ok (4, q1)) (p1 : pNum 7 bs q1 = .ok (f_, q2)) (p2 : pNum mx63 bs q2 = .ok (e_, q3)) :
    Calls Tryz.prog 58 #[rgv sb] w (RdM ad rb g bs w (pMsg bs pl)) := by
  have S0 := Rst.start L h hs (mv (0, 0, 0, zero8, [], zeroRs) (.slice none 0 0)) 31
  have hz : (Tryz.prog.info? 31).bind (·.zero) = some (.agg (mv (0, 0, 0, zero8, [], zeroRs) (.slice none 0 0))) := zero_ms'
  have H0 := hid_of' p0
  have H1 := hid_of' p1
  have H2 := hid_of' p2
  have HMe := hid_of' (fun x (hb : pBody 4 bs q3 = .error x) => (pSeq_err2 p0 (pSeq_err2 p1 (pSeq_err2 p2 hb)) : pMsg bs pl = .error x))
  have HMo := hid_of' (fun y q (hb : pBody 4 bs q3 = .ok (y, q)) => (pSeq_ok p0 (pSeq_ok p1 (pSeq_ok p2 hb)) : pMsg bs pl = .ok ((4, f_, e_, y), q)))
  clear L h hs p0 p1 p2
  cases p3 : pRnds bs q3 with
  | error x =>
    have H3 := hid_of' p3
    have HM := hid_of' (HMe.out x (pSeq_err2 (a := zero8) (k := q3) rfl (pSeq_err2 (a := []) (k := q3) rfl (by rw [if_pos (.inr rfl)]; exact p3))))
    clear p3
    go_enter Tryz.func58, Tryz.ntmps58
    go_upto_region 1 with (refine wpL_alloc rfl _ rfl hz ?_)
    go_simp
    go_upto_region 2 with (first | (go_at_call 72; have hh := kind_rd S0.lw S0.rd S0.sd 4; (with_reducible refine hh.mono ?_); clear hh; intro e w1 h1; obtain ⟨hk1, rfl, hr1⟩ := h1.ok H0.out; have T1 := S0.go hk1 hr1; clear h1 hk1 hr1; have d1 := T1.cell 0 (.int .i64 0) rfl; have f1 := T1.froz 0))
    have S1 := T1.set 0 (.int .i64 4)
    rw [mv_set0] at S1
    clear T1 d1 f1
    clear S0
    go_upto_region 3 with (first | (go_at_call 73; have hh := number_rd S1.lw S1.rd S1.sd 7; (with_reducible refine hh.mono ?_); clear hh; intro e w2 h2; obtain ⟨hk2, rfl, hr2⟩ := h2.ok H1.out; have T2 := S1.go hk2 hr2; clear h2 hk2 hr2; have d2 := T2.cell 1 (.int .i64 0) rfl; have f2 := T2.froz 1))
    have S2 := T2.set 1 (.int .i64 f_)
    rw [mv_set1] at S2
    clear T2 d2 f2
    clear S1
    go_upto_region 4 with (first | (go_at_call 73; have hh := number_rd S2.lw S2.rd S2.sd 9223372036854775807; (with_reducible refine hh.mono ?_); clear hh; intro e w3 h3; obtain ⟨hk3, rfl, hr3⟩ := h3.ok H2.out; have T3 := S2.go hk3 hr3; clear h3 hk3 hr3; have d3 := T3.cell 2 (.int .i64 0) rfl; have f3 := T3.froz 2))
    have S3 := T3.set 2 (.int .i64 e_)
    rw [mv_set2] at S3
    clear T3 d3 f3
    clear S2
    have dk := S3.cell 0 (.int .i64 4) rfl
    go_wp2_with (first | (go_at_call 76; have hh := rounds_rd S3.lw S3.rd S3.sd; (with_reducible refine hh.mono ?_); clear hh; intro e w4 h4; obtain ⟨hk4, f, hf, rfl, hp⟩ := h4.err H3.out))
    exact ⟨rfl, RdM.mkErr (HM.out) (S3.kp.trans hk4) (by have := S3.kp.size; omega) hp⟩
  | ok y =>
    obtain ⟨R, q4⟩ := y
    have hR8 : shRs R := ⟨(fits_rnds.sound _ _ _ _ p3).1.1, fun r hr => okRnd_sh ((fits_rnds.sound _ _ _ _ p3).1.2 r hr)⟩
    have H3 := hid_of' p3
    have HM := hid_of' (HMo.out (zero8, [], R) q4 (pSeq_ok (a := zero8) (k := q3) rfl (pSeq_ok (a := []) (k := q3) rfl (by rw [if_pos (.inr rfl)]; exact p3))))
    clear p3 HMe HMo
    go_enter Tryz.func58, Tryz.ntmps58
    go_upto_region 1 with (refine wpL_alloc rfl _ rfl hz ?_)
    go_simp
    go_upto_region 2 with (first | (go_at_call 72; have hh := kind_rd S0.lw S0.rd S0.sd 4; (with_reducible refine hh.mono ?_); clear hh; intro e w1 h1; obtain ⟨hk1, rfl, hr1⟩ := h1.ok H0.out; have T1 := S0.go hk1 hr1; clear h1 hk1 hr1; have d1 := T1.cell 0 (.int .i64 0) rfl; have f1 := T1.froz 0))
    have S1 := T1.set 0 (.int .i64 4)
    rw [mv_set0] at S1
    clear T1 d1 f1
    clear S0
    go_upto_region 3 with (first | (go_at_call 73; have hh := number_rd S1.lw S1.rd S1.sd 7; (with_reducible refine hh.mono ?_); clear hh; intro e w2 h2; obtain ⟨hk2, rfl, hr2⟩ := h2.ok H1.out; have T2 := S1.go hk2 hr2; clear h2 hk2 hr2; have d2 := T2.cell 1 (.int .i64 0) rfl; have f2 := T2.froz 1))
    have S2 := T2.set 1 (.int .i64 f_)
    rw [mv_set1] at S2
    clear T2 d2 f2
    clear S1
    go_upto_region 4 with (first | (go_at_call 73; have hh := number_rd S2.lw S2.rd S2.sd 9223372036854775807; (with_reducible refine hh.mono ?_); clear hh; intro e w3 h3; obtain ⟨hk3, rfl, hr3⟩ := h3.ok H2.out; have T3 := S2.go hk3 hr3; clear h3 hk3 hr3; have d3 := T3.cell 2 (.int .i64 0) rfl; have f3 := T3.froz 2))
    have S3 := T3.set 2 (.int .i64 e_)
    rw [mv_set2] at S3
    clear T3 d3 f3
    clear S2
    have dk := S3.cell 0 (.int .i64 4) rfl
    go_upto_region 13 with (first | (go_at_call 76; have hh := rounds_rd S3.lw S3.rd S3.sd; (with_reducible refine hh.mono ?_); clear hh; intro e w4 h4; obtain ⟨hk4, rfl, hr4⟩ := h4.ok H3.out; have T4 := S3.go hk4 hr4; clear h4 hk4 hr4) | (refine wpList_store_mid rfl _ _ _ rfl _ _ _ rfl rfl (by rw [show (rsv R).size = 144 by simp [rsv, rsl_len R hR8.2, hR8.1]]; exact T4.there (by rw [mv_sz (shM0 _ _ _)]; decide)) (rsv_size hR8) (rsv_one R) ?_))
    try simp only [Act.put]
    have S4 := T4.sets 12 (rsv R).toList
    rw [mv_putR (shM0 _ _ _) hR8] at S4
    clear T4 S3
    generalize w4.setCells (w.heap.size) 12 (rsv R).toList = x4 at S4 ⊢
    clear dk
    have S9i := S4.res.in
    have hsm : shM (4, f_, e_, zero8, [], R) := okMsg_sh ((fits_msg.sound _ _ _ _ HM.out).1)
    go_wp2_with (first | (refine ld_ms hsm rfl _ rfl rfl S9i ?_) | (refine wpList_store_row rfl _ _ _ rfl _ _ rfl rfl _ _ S4.res (mv_size hsm) rfl (mv_one _ rfl) ?_))
    refine bodyPost_ret (results_cell_row (fn := Tryz.f58) (p := 2) rfl _ _ _ _ _ _ _ rfl (setRow_heap _ _ _ _ _ _ S4.res) Tryz.underlying31 rfl (mv_size hsm)) rfl ?_
    exact RdM.mkOk (m := (4, f_, e_, zero8, [], R)) HM.out S4.row.kp S4.row.rd (⟨rfl, .inl ⟨rfl, rfl⟩⟩) hsm
end Go.Proofs.YteffpnjgchihpaaGreatDoor
namespace Go.Proofs.YteffpnjgchihpaaGreatDoor
open Go.RowKit
set_option maxRecDepth 100000

set_option maxHeartbeats 4000000 in
theorem message_rd {ad : Nat → Addr} {rb sb g : Nat} {bs : List UInt8} {pl : Nat} {w : World} (L : Lw ad w) (h : RdAt rb g bs pl .nilIface w) (hs : SdAt sb rb w) :
    Calls Tryz.prog 58 #[rgv sb] w (RdM ad rb g bs w (pMsg bs pl)) := by
  have L0 := L
  have h0 := h
  have S0 := Rst.start L h hs (mv (0, 0, 0, zero8, [], zeroRs) (.slice none 0 0)) 31
  have hz : (Tryz.prog.info? 31).bind (·.zero) = some (.agg (mv (0, 0, 0, zero8, [], zeroRs) (.slice none 0 0))) := zero_ms'
  have hs0 := hs
  clear L h hs
  cases p0 : pKind 4 bs pl with
  | error x =>
    have H0 := hid_of' p0
    clear p0 L0 h0 hs0
    go_enter Tryz.func58, Tryz.ntmps58
    go_upto_region 1 with (refine wpL_alloc rfl _ rfl hz ?_)
    go_simp
    go_wp2_with (first | (go_at_call 72; have hh := kind_rd S0.lw S0.rd S0.sd 4; (with_reducible refine hh.mono ?_); clear hh; intro e w1 h1; obtain ⟨hk1, f, hf, rfl, hp⟩ := h1.err H0.out))
    exact ⟨rfl, RdM.mkErr (pSeq_err H0.out) (S0.kp.trans hk1) (by have := S0.kp.size; omega) hp⟩
  | ok y =>
    obtain ⟨k, q1⟩ := y
    cases p1 : pNum 7 bs q1 with
    | error x =>
      have H1 := hid_of' p1
      have H0 := hid_of' p0
      clear p0 p1 L0 h0 hs0
      go_enter Tryz.func58, Tryz.ntmps58
      go_upto_region 1 with (refine wpL_alloc rfl _ rfl hz ?_)
      go_simp
      go_upto_region 2 with (first | (go_at_call 72; have hh := kind_rd S0.lw S0.rd S0.sd 4; (with_reducible refine hh.mono ?_); clear hh; intro e w1 h1; obtain ⟨hk1, rfl, hr1⟩ := h1.ok H0.out; have T1 := S0.go hk1 hr1; clear h1 hk1 hr1; have d1 := T1.cell 0 (.int .i64 0) rfl; have f1 := T1.froz 0))
      have S1 := T1.set 0 (.int .i64 k)
      rw [mv_set0] at S1
      clear T1 d1 f1
      clear S0
      go_wp2_with (first | (go_at_call 73; have hh := number_rd S1.lw S1.rd S1.sd 7; (with_reducible refine hh.mono ?_); clear hh; intro e w2 h2; obtain ⟨hk2, f, hf, rfl, hp⟩ := h2.err H1.out))
      exact ⟨rfl, RdM.mkErr (pSeq_err2 H0.out (pSeq_err H1.out)) (S1.kp.trans hk2) (by have := S1.kp.size; omega) hp⟩
    | ok y =>
      obtain ⟨f_, q2⟩ := y
      cases p2 : pNum mx63 bs q2 with
      | error x =>
        have H2 := hid_of' p2
        have H0 := hid_of' p0
        have H1 := hid_of' p1
        clear p0 p1 p2 L0 h0 hs0
        go_enter Tryz.func58, Tryz.ntmps58
        go_upto_region 1 with (refine wpL_alloc rfl _ rfl hz ?_)
        go_simp
        go_upto_region 2 with (first | (go_at_call 72; have hh := kind_rd S0.lw S0.rd S0.sd 4; (with_reducible refine hh.mono ?_); clear hh; intro e w1 h1; obtain ⟨hk1, rfl, hr1⟩ := h1.ok H0.out; have T1 := S0.go hk1 hr1; clear h1 hk1 hr1; have d1 := T1.cell 0 (.int .i64 0) rfl; have f1 := T1.froz 0))
        have S1 := T1.set 0 (.int .i64 k)
        rw [mv_set0] at S1
        clear T1 d1 f1
        clear S0
        go_upto_region 3 with (first | (go_at_call 73; have hh := number_rd S1.lw S1.rd S1.sd 7; (with_reducible refine hh.mono ?_); clear hh; intro e w2 h2; obtain ⟨hk2, rfl, hr2⟩ := h2.ok H1.out; have T2 := S1.go hk2 hr2; clear h2 hk2 hr2; have d2 := T2.cell 1 (.int .i64 0) rfl; have f2 := T2.froz 1))
        have S2 := T2.set 1 (.int .i64 f_)
        rw [mv_set1] at S2
        clear T2 d2 f2
        clear S1
        go_wp2_with (first | (go_at_call 73; have hh := number_rd S2.lw S2.rd S2.sd 9223372036854775807; (with_reducible refine hh.mono ?_); clear hh; intro e w3 h3; obtain ⟨hk3, f, hf, rfl, hp⟩ := h3.err H2.out))
        exact ⟨rfl, RdM.mkErr (pSeq_err2 H0.out (pSeq_err2 H1.out (pSeq_err H2.out))) (S2.kp.trans hk3) (by have := S2.kp.size; omega) hp⟩
      | ok y =>
        obtain ⟨e_, q3⟩ := y
        have hk := ((fits_kind 4 (by decide)).sound _ _ _ _ p0).1
        have hk4 : k = 1 ∨ k = 2 ∨ k = 3 ∨ k = 4 := by omega
        rcases hk4 with rfl | rfl | rfl | rfl
        · exact msg1_rd L0 h0 hs0 p0 p1 p2
        · exact msg2_rd L0 h0 hs0 p0 p1 p2
        · exact msg3_rd L0 h0 hs0 p0 p1 p2
        · exact msg4_rd L0 h0 hs0 p0 p1 p2
end Go.Proofs.YteffpnjgchihpaaGreatDoor
