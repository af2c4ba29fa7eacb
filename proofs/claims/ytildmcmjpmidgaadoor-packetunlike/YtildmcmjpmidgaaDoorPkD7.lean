
/-
  A message is read.
-/
import Derived.Test.YtildmcmjpmidgaaDoorPkM1
import Derived.Test.YtildmcmjpmidgaaDoorPkM2
import Derived.Test.YtildmcmjpmidgaaDoorPkM3
import Derived.Test.YtildmcmjpmidgaaDoorPkM4
namespace Go.Proofs.YtildmcmjpmidgaaDoor
open Go.RowKit
set_option maxRecDepth 100000

set_option maxHeartbeats 4000000 in
theorem message_rd {ad : Nat → Addr} {rb sb g : Nat} {bs : List UInt8} {pl : Nat} {w : World} (L : Lw ad w) (h : RdAt rb g bs pl .nilIface w) (hs : SdAt sb rb w) :
    Calls Tryd.prog 27 #[rgv sb] w (RdM ad rb g bs w (pMsg bs pl)) := by
  have L0 := L
  have h0 := h
  have S0 := Rst.start L h hs (mv (0, 0, 0, zero8, [], zeroRs) (.slice none 0 0)) 30
  have hz : (Tryd.prog.info? 30).bind (·.zero) = some (.agg (mv (0, 0, 0, zero8, [], zeroRs) (.slice none 0 0))) := zero_ms'
  have hs0 := hs
  clear L h hs
  cases p0 : pKind 4 bs pl with
  | error x =>
    have H0 := hid_of' p0
    clear p0 L0 h0 hs0
    go_enter Tryd.func27, Tryd.ntmps27
    go_upto_region 1 with (refine wpL_alloc rfl _ rfl hz ?_)
    go_simp
    go_wp2_with (first | (go_at_call 46; have hh := kind_rd S0.lw S0.rd S0.sd 4; (with_reducible refine hh.mono ?_); clear hh; intro e w1 h1; obtain ⟨hk1, f, hf, rfl, hp⟩ := h1.err H0.out))
    exact ⟨rfl, RdM.mkErr (pSeq_err H0.out) (S0.kp.trans hk1) (by have := S0.kp.size; omega) hp⟩
  | ok y =>
    obtain ⟨k, q1⟩ := y
    cases p1 : pNum 7 bs q1 with
    | error x =>
      have H1 := hid_of' p1
      have H0 := hid_of' p0
      clear p0 p1 L0 h0 hs0
      go_enter Tryd.func27, Tryd.ntmps27
      go_upto_region 1 with (refine wpL_alloc rfl _ rfl hz ?_)
      go_simp
      go_upto_region 2 with (first | (go_at_call 46; have hh := kind_rd S0.lw S0.rd S0.sd 4; (with_reducible refine hh.mono ?_); clear hh; intro e w1 h1; obtain ⟨hk1, rfl, hr1⟩ := h1.ok H0.out; have T1 := S0.go hk1 hr1; clear h1 hk1 hr1; have d1 := T1.cell 0 (.int .i64 0) rfl; have f1 := T1.froz 0))
      have S1 := T1.set 0 (.int .i64 k)
      rw [mv_set0] at S1
      clear T1 d1 f1
      clear S0
      go_wp2_with (first | (go_at_call 47; have hh := number_rd S1.lw S1.rd S1.sd 7; (with_reducible refine hh.mono ?_); clear hh; intro e w2 h2; obtain ⟨hk2, f, hf, rfl, hp⟩ := h2.err H1.out))
      exact ⟨rfl, RdM.mkErr (pSeq_err2 H0.out (pSeq_err H1.out)) (S1.kp.trans hk2) (by have := S1.kp.size; omega) hp⟩
    | ok y =>
      obtain ⟨f_, q2⟩ := y
      cases p2 : pNum mx63 bs q2 with
      | error x =>
        have H2 := hid_of' p2
        have H0 := hid_of' p0
        have H1 := hid_of' p1
        clear p0 p1 p2 L0 h0 hs0
        go_enter Tryd.func27, Tryd.ntmps27
        go_upto_region 1 with (refine wpL_alloc rfl _ rfl hz ?_)
        go_simp
        go_upto_region 2 with (first | (go_at_call 46; have hh := kind_rd S0.lw S0.rd S0.sd 4; (with_reducible refine hh.mono ?_); clear hh; intro e w1 h1; obtain ⟨hk1, rfl, hr1⟩ := h1.ok H0.out; have T1 := S0.go hk1 hr1; clear h1 hk1 hr1; have d1 := T1.cell 0 (.int .i64 0) rfl; have f1 := T1.froz 0))
        have S1 := T1.set 0 (.int .i64 k)
        rw [mv_set0] at S1
        clear T1 d1 f1
        clear S0
        go_upto_region 3 with (first | (go_at_call 47; have hh := number_rd S1.lw S1.rd S1.sd 7; (with_reducible refine hh.mono ?_); clear hh; intro e w2 h2; obtain ⟨hk2, rfl, hr2⟩ := h2.ok H1.out; have T2 := S1.go hk2 hr2; clear h2 hk2 hr2; have d2 := T2.cell 1 (.int .i64 0) rfl; have f2 := T2.froz 1))
        have S2 := T2.set 1 (.int .i64 f_)
        rw [mv_set1] at S2
        clear T2 d2 f2
        clear S1
        go_wp2_with (first | (go_at_call 47; have hh := number_rd S2.lw S2.rd S2.sd 9223372036854775807; (with_reducible refine hh.mono ?_); clear hh; intro e w3 h3; obtain ⟨hk3, f, hf, rfl, hp⟩ := h3.err H2.out))
        exact ⟨rfl, RdM.mkErr (pSeq_err2 H0.out (pSeq_err2 H1.out (pSeq_err H2.out))) (S2.kp.trans hk3) (by have := S2.kp.size; omega) hp⟩
      | ok y =>
        obtain ⟨e_, q3⟩ := y
        have hk := ((fits_kind 4 (by decide)).sound _ _ _ _ p0).1
        have hk4 : k = 1 ∨ k = 2 ∨ k = 3 ∨ k = 4 := by omega
        rcases hk4 with rfl | rfl | rfl | rfl
        · exact msg1_rd L0 h0 hs0 p0 p1 p2
        · exact msg2_rd L0 h0 hs0 p0 p1 p2
        · exact msg3_rd L0 h0 hs0 p0 p1 p2
        · exact msg4_rd L0 h0 hs0 p0 p1 p2
end Go.Proofs.YtildmcmjpmidgaaDoor
