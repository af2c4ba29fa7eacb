
/-
  A message is read.
-/
import Derived.Test.YtpjanipodigamaaDoorPkM1
import Derived.Test.YtpjanipodigamaaDoorPkM2
import Derived.Test.YtpjanipodigamaaDoorPkM3
import Derived.Test.YtpjanipodigamaaDoorPkM4
namespace Go.Proofs.YtpjanipodigamaaDoor
open Go.RowKit
set_option maxRecDepth 100000

set_option maxHeartbeats 4000000 in
theorem message_rd {ad : Nat → Addr} {rb g : Nat} {bs : List UInt8} {pl : Nat} {w : World} (L : Lw ad w) (h : RdAt rb g bs pl .nilIface w) :
    Calls Tryd.prog 29 #[rgv rb] w (RdM ad rb g bs w (pMsgE bs pl)) := by
  have L0 := L
  have h0 := h
  have S0 := Rst.start L h (mv (0, 0, 0, zero8, [], zeroRs) (.slice none 0 0)) 30
  have hz : (Tryd.prog.info? 30).bind (·.zero) = some (.agg (mv (0, 0, 0, zero8, [], zeroRs) (.slice none 0 0))) := zero_ms'
  clear L h
  cases p0 : pKind 4 bs pl with
  | error x =>
    have H0 := hid_of' p0
    clear p0 L0 h0
    go_enter Tryd.func29, Tryd.ntmps29
    go_upto_region 1 with (refine wpL_alloc rfl _ rfl hz ?_)
    go_simp
    go_wp2_with (first | (refine ld_rg rfl _ rfl rfl S0.box ?_) | (go_at_call 45; have hh := kind_rd S0.lw S0.rd 4; (with_reducible refine hh.mono ?_); clear hh; intro e w1 h1; obtain ⟨hk1, f, hf, rfl, hp⟩ := h1.err H0.out))
    exact ⟨rfl, RdM.mkErr (msgE_err (pSeq_err H0.out)) (S0.kp.trans hk1) (by have := S0.kp.size; omega) hp⟩
  | ok y =>
    obtain ⟨k, q1⟩ := y
    cases p1 : pNum 7 bs q1 with
    | error x =>
      have H1 := hid_of' p1
      have H0 := hid_of' p0
      clear p0 p1 L0 h0
      go_enter Tryd.func29, Tryd.ntmps29
      go_upto_region 1 with (refine wpL_alloc rfl _ rfl hz ?_)
      go_simp
      go_upto_region 2 with (first | (refine ld_rg rfl _ rfl rfl S0.box ?_) | (go_at_call 45; have hh := kind_rd S0.lw S0.rd 4; (with_reducible refine hh.mono ?_); clear hh; intro e w1 h1; obtain ⟨hk1, rfl, hr1⟩ := h1.ok H0.out; have T1 := S0.go hk1 hr1; clear h1 hk1 hr1; have d1 := T1.cell 0 (.int .i64 0) rfl; have f1 := T1.froz 0))
      have S1 := T1.set 0 (.int .i64 k)
      rw [mv_set0] at S1
      clear T1 d1 f1
      clear S0
      go_wp2_with (first | (refine ld_rg rfl _ rfl rfl S1.box ?_) | (go_at_call 46; have hh := number_rd S1.lw S1.rd 7; (with_reducible refine hh.mono ?_); clear hh; intro e w2 h2; obtain ⟨hk2, f, hf, rfl, hp⟩ := h2.err H1.out))
      exact ⟨rfl, RdM.mkErr (msgE_err (pSeq_err2 H0.out (pSeq_err H1.out))) (S1.kp.trans hk2) (by have := S1.kp.size; omega) hp⟩
    | ok y =>
      obtain ⟨f_, q2⟩ := y
      cases p2 : pNum mx63 bs q2 with
      | error x =>
        have H2 := hid_of' p2
        have H0 := hid_of' p0
        have H1 := hid_of' p1
        clear p0 p1 p2 L0 h0
        go_enter Tryd.func29, Tryd.ntmps29
        go_upto_region 1 with (refine wpL_alloc rfl _ rfl hz ?_)
        go_simp
        go_upto_region 2 with (first | (refine ld_rg rfl _ rfl rfl S0.box ?_) | (go_at_call 45; have hh := kind_rd S0.lw S0.rd 4; (with_reducible refine hh.mono ?_); clear hh; intro e w1 h1; obtain ⟨hk1, rfl, hr1⟩ := h1.ok H0.out; have T1 := S0.go hk1 hr1; clear h1 hk1 hr1; have d1 := T1.cell 0 (.int .i64 0) rfl; have f1 := T1.froz 0))
        have S1 := T1.set 0 (.int .i64 k)
        rw [mv_set0] at S1
        clear T1 d1 f1
        clear S0
        go_upto_region 3 with (first | (refine ld_rg rfl _ rfl rfl S1.box ?_) | (go_at_call 46; have hh := number_rd S1.lw S1.rd 7; (with_reducible refine hh.mono ?_); clear hh; intro e w2 h2; obtain ⟨hk2, rfl, hr2⟩ := h2.ok H1.out; have T2 := S1.go hk2 hr2; clear h2 hk2 hr2; have d2 := T2.cell 1 (.int .i64 0) rfl; have f2 := T2.froz 1))
        have S2 := T2.set 1 (.int .i64 f_)
        rw [mv_set1] at S2
        clear T2 d2 f2
        clear S1
        go_wp2_with (first | (refine ld_rg rfl _ rfl rfl S2.box ?_) | (go_at_call 46; have hh := number_rd S2.lw S2.rd 9223372036854775807; (with_reducible refine hh.mono ?_); clear hh; intro e w3 h3; obtain ⟨hk3, f, hf, rfl, hp⟩ := h3.err H2.out))
        exact ⟨rfl, RdM.mkErr (msgE_err (pSeq_err2 H0.out (pSeq_err2 H1.out (pSeq_err H2.out)))) (S2.kp.trans hk3) (by have := S2.kp.size; omega) hp⟩
      | ok y =>
        obtain ⟨e_, q3⟩ := y
        have hk := ((fits_kind 4 (by decide)).sound _ _ _ _ p0).1
        have hk4 : k = 1 ∨ k = 2 ∨ k = 3 ∨ k = 4 := by omega
        rcases hk4 with rfl | rfl | rfl | rfl
        · exact msg1_rd L0 h0 p0 p1 p2
        · exact msg2_rd L0 h0 p0 p1 p2
        · exact msg3_rd L0 h0 p0 p1 p2
        · exact msg4_rd L0 h0 p0 p1 p2
end Go.Proofs.YtpjanipodigamaaDoor
