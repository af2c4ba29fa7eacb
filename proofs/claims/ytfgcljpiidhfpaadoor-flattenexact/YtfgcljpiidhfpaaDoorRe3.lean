
/-
  The document's Desk: Settle.
-/
import Derived.Test.YtfgcljpiidhfpaaDoorRe2
import Derived.Test.YtfgcljpiidhfpaaDoorFl13
import Derived.Test.YtfgcljpiidhfpaaDoorFx
namespace Go.Proofs.YtfgcljpiidhfpaaDoor
open Go.RowKit
set_option maxRecDepth 100000

theorem goneR_stl' {N : Nat} (h1 : 1 ≤ N) (h8 : N ≤ 8) {s c : Nat} {hv : List Int} {r : Rnd} : goneR (N : Int) s c hv r = stlR N s c hv r := by
  have hvd : ∀ y, verdI y (N : Int) = verdR y N := fun y => by
    unfold verdI
    rw [if_neg (by omega), show (min (N : Int) 8).toNat = N by omega]
  have hoy : openR (votedR s hv r) = openR r := by unfold votedR; split <;> rfl
  by_cases ho : openR r = false
  · have hv1 : votedR s hv r = r := if_neg (fun q => by rw [ho] at q; cases q.1)
    unfold goneR stlR
    rw [if_pos ho, hv1]
    split
    · exact (if_neg (by rw [ho]; decide)).symm
    · rfl
  · have ho' : openR r = true := by simpa using ho
    have hy : (if en r.vot s = 0 then { r with vot := r.vot.set s (voteR r.cut hv) } else r) = votedR s hv r := by
      unfold votedR
      by_cases h0 : en r.vot s = 0
      · rw [if_pos h0, if_pos ⟨ho', h0⟩]
      · rw [if_neg h0, if_neg (fun q => h0 q.2)]
    unfold goneR stlR
    rw [if_neg ho, hy]
    split
    · unfold decR
      rw [if_pos (hoy.trans ho'), hvd]
    · rfl
theorem votedR_ok {s : Nat} {hv : List Int} {r : Rnd} (h : r.Ok) : (votedR s hv r).Ok := by
  unfold votedR
  split
  · exact ⟨h.1, by show (r.vot.set s _).length = 8; rw [List.length_set]; exact h.2⟩
  · exact h
theorem decR_ok {n : Nat} {r : Rnd} (h : r.Ok) : (decR n r).Ok := by
  unfold decR
  split
  · exact h
  · exact h
theorem rk_cut {d : Nat} {n s : Int} {l : List Rnd} {w : World} (h : RkAt d n s l w) {c : Nat} {r : Rnd} (hr : l[c]? = some r) : CsIn d (2 + c * 18 + 1) (cv r.cut) w := by
  have hro := h.2.2 r (List.mem_of_getElem? hr)
  refine (h.rnd hr).sub 1 fun j v hv => ?_
  have hj : j < 8 := by have := (Array.getElem?_eq_some_iff.1 hv).1; rw [cv_size, hro.1] at this; exact this
  rw [cv_get (by rw [hro.1]; exact hj)] at hv
  rw [cv_get (by rw [rc_len hro]; omega), rc_cut hro hj]
  exact hv
/-- All votes of s. -/
def vtF (s : Nat) (hv : List Int) (_ : Nat) (r : Rnd) : Rnd := votedR s hv r
/-- Votes, then a decision: as the program settles. -/
theorem settle_eq {N s : Nat} (h1 : 1 ≤ N) (h8 : N ≤ 8) (hsN : s < N) {hv : List Int} {l : List Rnd} (ok : OkL l) {y : Rnd} (hy : (updK (vtF s hv) l N)[s]? = some y) : (updK (vtF s hv) l N).set s (decR N y) = setK N s hv l N := by
  have ou := updK_ok ok (f := vtF s hv) (fun c r h => votedR_ok (ok.2 r (List.mem_of_getElem? h))) N
  refine rl_ext (by rw [List.length_set]; exact ou.1) (setK_ok ok N).1 fun i a b ha hb => ?_
  have hi : i < 8 := by have := (List.getElem?_eq_some_iff.1 hb).1; rw [(setK_ok ok N).1] at this; exact this
  obtain ⟨r, hr, _⟩ := ok.at hi
  rw [setK_get hr, goneR_stl' h1 h8] at hb
  have hb := Option.some.inj hb
  rw [List.getElem?_set] at ha
  by_cases e : s = i
  · subst e
    rw [updK_get hr, if_pos hsN] at hy
    have hy := Option.some.inj hy
    rw [if_pos rfl, if_pos (by rw [ou.1]; exact hi)] at ha
    have ha := Option.some.inj ha
    rw [← ha, ← hb, if_pos hsN, ← hy]
    unfold stlR vtF
    rw [if_pos rfl]
  · rw [if_neg e, updK_get hr] at ha
    have ha := Option.some.inj ha
    rw [← ha, ← hb]
    by_cases hn : i < N
    · rw [if_pos hn, if_pos hn]
      unfold stlR vtF
      rw [if_neg (fun q => e q.symm)]
    · rw [if_neg hn, if_neg hn]
set_option maxHeartbeats 8000000 in
theorem refSettle_any {d : Nat} {N s : Nat} {l : List Rnd} {w : World} (h : RkAt d N s l w) (hsN : s < N) (h8 : N ≤ 8) {hv : List Int} (hh : hv.length = 8) :
    Calls Tryd.prog 39 #[.pointer (some ⟨d, 0, none⟩), .agg (cv hv)] w fun e w' => e = .returned (.bool (!(setK N s hv l N == l))) ∧ RkAt d N s (setK N s hv l N) w' ∧ Ch (fun k => k = d) w w' := by
  have hdl := h.lt
  have hs : s < 8 := by omega
  have hsi : (s : Int) < 8 := by omega
  have hB1 := below_one w (.cells (cv hv) 42)
  have k1 := CkAt.new w hh
  have h1 := h.later hB1
  have ok := h.2
  clear h
  go_enter Tryd.func39, Tryd.ntmps39
  go_upto_region 1 with fail
  obtain ⟨hb, hbe⟩ : ∃ b, w.heap.size = b := ⟨_, rfl⟩
  generalize w.alloc (.cells (cv hv) 42) = W1 at *
  rw [hbe] at hdl k1 ⊢
  have HB0 := hid_of' hbe
  clear hbe
  have hlt := k1.lt
  go_upto_region 2 with (first | (refine ldRnds ok rfl _ rfl rfl h1.rounds ?_) | (refine wpL_alloc rfl _ rfl zRnds ?_) | (refine wpL_stRow rfl _ _ _ rfl rfl rfl (RowAt.news W1 _ _) (rnds_size ok) (two_sz (by rw [rs_len ok, rs_len rds0_ok])) (cv_one _) ?_))
  obtain ⟨sb, hsb⟩ : ∃ b, W1.heap.size = b := ⟨_, rfl⟩
  have hB2 := below_row (below_one W1 (.cells (cv (rs rds0)) 46)) (Nat.le_refl W1.heap.size) (cv (rs l))
  have r2 := (RowAt.news W1 (cv (rs rds0)) 46).rowI (cv (rs l))
  have H2 := hid_of' (And.intro (h1.later hB2) (And.intro r2 (And.intro (k1.later hB2) (bgo hB1 hB2))))
  clear r2 k1 hB1 h1 hB2
  generalize (W1.alloc (.cells (cv (rs rds0)) 46)).setRow W1.heap.size (cv (rs l)) = W2 at H2 ⊢
  rw [hsb] at H2 hlt ⊢
  clear hsb
  go_upto_region 3 with fail
  have hne : ¬ sb = d := by omega
  have hne2 : ¬ hb = d := by omega
  have hvo : ∀ c r, l[c]? = some r → (vtF s hv c r).Ok := fun c r hr => votedR_ok (ok.2 r (List.mem_of_getElem? hr))
  go_loopw [6] (fun i wr => ∃ k : Nat, i = .int .i64 (k : Int) ∧ k ≤ N ∧ RkAt d N s (updK (vtF s hv) l k) wr ∧ RowAt sb (cv (rs l)) 46 wr ∧ CkAt hb hv wr ∧ Ch (fun k => k = d) w wr) (fun i _ => N - (intOf i).toNat)
  case atStart => exact ⟨0, rfl, by omega, by rw [updK_zero]; exact H2.out.1, H2.out.2.1, H2.out.2.2.1, Ch.of H2.out.2.2.2⟩
  case round =>
    rename World => wr
    clear H2
    obtain ⟨k, rfl, hk, hd, hr0, hck, hC⟩ := hrel
    have c0 := hd.c0
    have okK := updK_ok ok hvo k
    by_cases hlt2 : k < N
    · have hki : (k : Int) < (N : Int) := by omega
      have hk8 : (k : Int) < 8 := by omega
      obtain ⟨r, hrl, hro⟩ := ok.at (i := k) (by omega)
      have hr := updK_get (f := vtF s hv) (k := k) hrl
      rw [if_neg (by omega)] at hr
      have hnx := updK_next (f := vtF s hv) hrl
      have hvd : vtF s hv k r = if openR r = true ∧ en r.vot s = 0 then { r with vot := r.vot.set s (voteR r.cut hv) } else r := rfl
      obtain ⟨LK, hLK⟩ : ∃ L, updK (vtF s hv) l k = L := ⟨_, rfl⟩
      rw [hLK] at hr hnx hd okK
      clear hLK hrl
      have hin := hd.rnd hr
      have q1 : ∀ z : Wld wr, (wOf z).cell? ⟨d, 1, none⟩ = some (.int .i64 (s : Int)) := fun z => (hd.later (wOf_below z)).c1
      have q2 : ∀ z : Wld wr, (wOf z).cell? ⟨d, 2 + k * 18 + 9 + s, none⟩ = some (.int .i64 (en r.vot s)) := fun z => by
        have := (hd.later (wOf_below z)).cell hr (k := 9 + s) (by omega)
        rw [rc_vot hro hs] at this
        rw [show 2 + k * 18 + 9 + s = 2 + k * 18 + (9 + s) by omega]
        exact this
      have HO := fun w => hid_of' (refOpen_any r hro w)
      have hB := Below.refl wr.heap.size wr
      have hskip : vtF s hv k r = r → LK.set k (vtF s hv k r) = LK := fun e => by
        rw [e]
        apply List.ext_getElem?
        intro i
        rw [List.getElem?_set]
        split
        · rename_i q; subst q; rw [hr]; split
          · rfl
          · rename_i q; exact absurd (List.getElem?_eq_some_iff.1 hr).1 q
        · rfl
      cases ho : openR r
      · rw [ho] at HO hvd
        rw [if_neg (fun q => by cases q.1)] at hvd
        have HNX := hid_of' ((hskip hvd).symm.trans hnx)
        have HCC := hid_of' hC
        clear ho hvd hskip hnx hC
        go_upto_region 5 with fail
        clear c0
        refine wp_region_cls (by kernel_rfl) (by kernel_rfl) ?_
        repeat (first | go_big_quiet_skip | (go_big_quiet_want; first | (refine qRnd hro _ rfl rfl hin.cls ?_; simp only [Act.put, List.setIfInBounds_toArray, List.set_cons_succ, List.set_cons_zero]; go_big_quiet_on) | (go_big_quiet_op; first | go_big_quiet_on | go_big_quiet_call ((go_at_call 65; exact cls_of (HO _).out)))))
        refine wpQuiet_nil ?_
        rintro w1 ⟨s1, e1⟩
        have hb1 := wOf_below s1
        rw [← e1] at hb1
        clear e1 s1
        replace hd := hd.later hb1
        replace hr0 := hr0.later hb1
        replace hck := hck.later hb1
        replace hB := bgo hB hb1
        clear hb1
        clear q1 q2 hin
        go_wp2
        go_roundw
        case rel => exact ⟨k + 1, by go_num, by omega, by rw [← HNX.out]; exact hd, hr0, hck, HCC.out.later hB⟩
        case measure => simp [intOf]; omega
      · rw [ho] at HO hvd
        by_cases hv0 : en r.vot s = 0
        · have hv0' : (en r.vot s == 0) = true := by simpa using hv0
          rw [if_pos ⟨rfl, hv0⟩] at hvd
          rw [hvd] at hnx
          have HNX := hid_of' hnx
          have HCC := hid_of' hC
          clear ho hvd hskip hnx hC hv0
          go_upto_region 5 with fail
          clear c0
          refine wp_region_cls (by kernel_rfl) (by kernel_rfl) ?_
          repeat (first | go_big_quiet_skip | (go_big_quiet_want; first | (refine qRnd hro _ rfl rfl hin.cls ?_; simp only [Act.put, List.setIfInBounds_toArray, List.set_cons_succ, List.set_cons_zero]; go_big_quiet_on) | (go_big_quiet_op; first | go_big_quiet_on | go_big_quiet_call ((go_at_call 65; exact cls_of (HO _).out)))))
          refine wpQuiet_nil ?_
          rintro w1 ⟨s1, e1⟩
          have hb1 := wOf_below s1
          rw [← e1] at hb1
          clear e1 s1
          replace hd := hd.later hb1
          replace hr0 := hr0.later hb1
          replace hck := hck.later hb1
          replace hB := bgo hB hb1
          clear hb1
          clear q1 q2 hin
          rename World => w3
          have H3 := hid_of' (And.intro hd (And.intro hck (And.intro hr0 (HCC.out.later hB))))
          clear hd hck hr0 hB HCC
          go_upto_region 6 with fail
          refine wp_region_tail 20 (by kernel_rfl) (fun _ => none) (by kernel_rfl) (by kernel_rfl) (by decide) (fun ii u X => match ii with
            | 0 => u = .pointer (some ⟨d, 0, none⟩)
            | 1 => u = .int .i64 (k : Int)
            | 2 => u = .pointer (some ⟨d, 0, none⟩)
            | 3 => u = .pointer (some ⟨d, 0, none⟩)
            | 4 => u = .pointer (some ⟨d, 1, none⟩)
            | 5 => u = .int .i64 (s : Int)
            | 6 => u = .pointer (some ⟨d, 0, none⟩)
            | 7 => u = .int .i64 (k : Int)
            | 8 => u = .pointer (some ⟨d, 0, none⟩)
            | 9 => u = .pointer (some ⟨d, 2, none⟩)
            | 10 => u = .pointer (some ⟨d, 2 + k * 18, none⟩)
            | 11 => u = .pointer (some ⟨d, 2 + k * 18 + 1, none⟩)
            | 12 => u = .agg (cv r.cut)
            | 13 => u = .agg (cv hv)
            | 14 => u = .int .i64 (voteR r.cut hv)
            | 15 => u = .pointer (some ⟨d, 0, none⟩)
            | 16 => u = .pointer (some ⟨d, 2, none⟩)
            | 17 => u = .pointer (some ⟨d, 2 + k * 18, none⟩)
            | 18 => u = .pointer (some ⟨d, 2 + k * 18 + 9, none⟩)
            | 19 => u = .pointer (some ⟨d, 2 + k * 18 + 9 + s, none⟩)
            | _ => True) (fun _ => false) (fun _ _ _ _ h => by cases h) ?_ ?_ ?_
          · intro ii u X X' hR hb
            match ii, hR with
            | 0, h => exact h
            | 1, h => exact h
            | 2, h => exact h
            | 3, h => exact h
            | 4, h => exact h
            | 5, h => exact h
            | 6, h => exact h
            | 7, h => exact h
            | 8, h => exact h
            | 9, h => exact h
            | 10, h => exact h
            | 11, h => exact h
            | 12, h => exact h
            | 13, h => exact h
            | 14, h => exact h
            | 15, h => exact h
            | 16, h => exact h
            | 17, h => exact h
            | 18, h => exact h
            | 19, h => exact h
            | m + 20, h => exact h
          · intro ii o hi ho qq X vals hX hdep hoth
            have t0 : qq.tmps[0]? = some (.pointer (some ⟨d, 0, none⟩)) := by rw [hoth 0 (by kernel_rfl)]; rfl
            have t6 : qq.tmps[6]? = some (.int .i64 (k : Int)) := by rw [hoth 6 (by kernel_rfl)]; rfl
            have t3 : qq.tmps[3]? = some (.pointer (some ⟨hb, 0, none⟩)) := by rw [hoth 3 (by kernel_rfl)]; rfl
            match ii, hi, ho with
            | 0, _, ho =>
              simp only [List.getElem?_cons_zero, Option.some.injEq] at ho
              subst ho
              unfold Oper.wp
              simp [execOp, go_sem, t0]
              exact came _ rfl (Below.refl _ _) rfl (fun h => absurd h (by decide))
            | 1, _, ho =>
              simp only [List.getElem?_cons_succ, List.getElem?_cons_zero, Option.some.injEq] at ho
              subst ho
              unfold Oper.wp
              simp [execOp, go_sem, t6]
              exact came _ rfl (Below.refl _ _) rfl (fun h => absurd h (by decide))
            | 2, _, ho =>
              simp only [List.getElem?_cons_succ, List.getElem?_cons_zero, Option.some.injEq] at ho
              subst ho
              unfold Oper.wp
              simp [execOp, go_sem, t0]
              exact came _ rfl (Below.refl _ _) rfl (fun h => absurd h (by decide))
            | 3, _, ho =>
              simp only [List.getElem?_cons_succ, List.getElem?_cons_zero, Option.some.injEq] at ho
              subst ho
              obtain ⟨u2, e2⟩ := hdep ⟨2, .data⟩ (by simp) rfl _ 43 rfl rfl
              rw [show vals 2 = .pointer (some ⟨d, 0, none⟩) from e2] at u2
              unfold Oper.wp
              simp [execOp, go_sem, u2]
              exact came _ rfl (Below.refl _ _) rfl (fun h => absurd h (by decide))
            | 4, _, ho =>
              simp only [List.getElem?_cons_succ, List.getElem?_cons_zero, Option.some.injEq] at ho
              subst ho
              obtain ⟨u3, e3⟩ := hdep ⟨3, .data⟩ (by simp) rfl _ 44 rfl rfl
              rw [show vals 3 = .pointer (some ⟨d, 0, none⟩) from e3] at u3
              unfold Oper.wp
              simp [execOp, go_sem, u3]
              exact came _ rfl (Below.refl _ _) rfl (fun h => absurd h (by decide))
            | 5, _, ho =>
              simp only [List.getElem?_cons_succ, List.getElem?_cons_zero, Option.some.injEq] at ho
              subst ho
              obtain ⟨u4, e4⟩ := hdep ⟨4, .data⟩ (by simp) rfl _ 45 rfl rfl
              rw [show vals 4 = .pointer (some ⟨d, 1, none⟩) from e4] at u4
              have cc := (RkAt.later H3.out.1 hX).c1
              unfold Oper.wp
              simp [execOp, go_sem, u4, cc]
              exact came _ rfl (Below.refl _ _) rfl (fun h => absurd h (by decide))
            | 6, _, ho =>
              simp only [List.getElem?_cons_succ, List.getElem?_cons_zero, Option.some.injEq] at ho
              subst ho
              unfold Oper.wp
              simp [execOp, go_sem, t0]
              exact came _ rfl (Below.refl _ _) rfl (fun h => absurd h (by decide))
            | 7, _, ho =>
              simp only [List.getElem?_cons_succ, List.getElem?_cons_zero, Option.some.injEq] at ho
              subst ho
              unfold Oper.wp
              simp [execOp, go_sem, t6]
              exact came _ rfl (Below.refl _ _) rfl (fun h => absurd h (by decide))
            | 8, _, ho =>
              simp only [List.getElem?_cons_succ, List.getElem?_cons_zero, Option.some.injEq] at ho
              subst ho
              obtain ⟨u6, e6⟩ := hdep ⟨6, .data⟩ (by simp) rfl _ 47 rfl rfl
              rw [show vals 6 = .pointer (some ⟨d, 0, none⟩) from e6] at u6
              unfold Oper.wp
              simp [execOp, go_sem, u6]
              exact came _ rfl (Below.refl _ _) rfl (fun h => absurd h (by decide))
            | 9, _, ho =>
              simp only [List.getElem?_cons_succ, List.getElem?_cons_zero, Option.some.injEq] at ho
              subst ho
              obtain ⟨u8, e8⟩ := hdep ⟨8, .data⟩ (by simp) rfl _ 49 rfl rfl
              rw [show vals 8 = .pointer (some ⟨d, 0, none⟩) from e8] at u8
              unfold Oper.wp
              simp [execOp, go_sem, u8]
              exact came _ rfl (Below.refl _ _) rfl (fun h => absurd h (by decide))
            | 10, _, ho =>
              simp only [List.getElem?_cons_succ, List.getElem?_cons_zero, Option.some.injEq] at ho
              subst ho
              obtain ⟨u9, e9⟩ := hdep ⟨9, .data⟩ (by simp) rfl _ 50 rfl rfl
              rw [show vals 9 = .pointer (some ⟨d, 2, none⟩) from e9] at u9
              obtain ⟨u7, e7⟩ := hdep ⟨7, .data⟩ (by simp) rfl _ 48 rfl rfl
              rw [show vals 7 = .int .i64 (k : Int) from e7] at u7
              unfold Oper.wp
              simp [execOp, go_sem, u9, u7, hk8]
              exact came _ rfl (Below.refl _ _) rfl (fun h => absurd h (by decide))
            | 11, _, ho =>
              simp only [List.getElem?_cons_succ, List.getElem?_cons_zero, Option.some.injEq] at ho
              subst ho
              obtain ⟨u10, e10⟩ := hdep ⟨10, .data⟩ (by simp) rfl _ 51 rfl rfl
              rw [show vals 10 = .pointer (some ⟨d, 2 + k * 18, none⟩) from e10] at u10
              unfold Oper.wp
              simp [execOp, go_sem, u10]
              exact came _ rfl (Below.refl _ _) rfl (fun h => absurd h (by decide))
            | 12, _, ho =>
              simp only [List.getElem?_cons_succ, List.getElem?_cons_zero, Option.some.injEq] at ho
              subst ho
              obtain ⟨u11, e11⟩ := hdep ⟨11, .data⟩ (by simp) rfl _ 52 rfl rfl
              rw [show vals 11 = .pointer (some ⟨d, 2 + k * 18 + 1, none⟩) from e11] at u11
              exact opCk hro.1 _ rfl (by simp [Act.eval, u11]) (rk_cut (RkAt.later H3.out.1 hX) hr) (came _ rfl (Below.refl _ _) rfl (fun h => absurd h (by decide)))
            | 13, _, ho =>
              simp only [List.getElem?_cons_succ, List.getElem?_cons_zero, Option.some.injEq] at ho
              subst ho
              exact opCk hh _ rfl (by simp [Act.eval, t3]) (CkAt.later H3.out.2.1 hX).in (came _ rfl (Below.refl _ _) rfl (fun h => absurd h (by decide)))
            | 14, _, ho =>
              simp only [List.getElem?_cons_succ, List.getElem?_cons_zero, Option.some.injEq] at ho
              subst ho
              obtain ⟨u12, e12⟩ := hdep ⟨12, .data⟩ (by simp) rfl _ 53 rfl rfl
              rw [show vals 12 = .agg (cv r.cut) from e12] at u12
              obtain ⟨u13, e13⟩ := hdep ⟨13, .data⟩ (by simp) rfl _ 54 rfl rfl
              rw [show vals 13 = .agg (cv hv) from e13] at u13
              unfold Oper.wp
              simp [go_sem, u12, u13]
              refine (refVote_any r.cut hv X hro.1 hh).mono ?_
              rintro r x1 ⟨rfl, hb1⟩
              exact came _ rfl hb1 rfl (fun h => absurd h (by decide))
            | 15, _, ho =>
              simp only [List.getElem?_cons_succ, List.getElem?_cons_zero, Option.some.injEq] at ho
              subst ho
              obtain ⟨u0, e0⟩ := hdep ⟨0, .data⟩ (by simp) rfl _ 41 rfl rfl
              rw [show vals 0 = .pointer (some ⟨d, 0, none⟩) from e0] at u0
              unfold Oper.wp
              simp [execOp, go_sem, u0]
              exact came _ rfl (Below.refl _ _) rfl (fun h => absurd h (by decide))
            | 16, _, ho =>
              simp only [List.getElem?_cons_succ, List.getElem?_cons_zero, Option.some.injEq] at ho
              subst ho
              obtain ⟨u15, e15⟩ := hdep ⟨15, .data⟩ (by simp) rfl _ 56 rfl rfl
              rw [show vals 15 = .pointer (some ⟨d, 0, none⟩) from e15] at u15
              unfold Oper.wp
              simp [execOp, go_sem, u15]
              exact came _ rfl (Below.refl _ _) rfl (fun h => absurd h (by decide))
            | 17, _, ho =>
              simp only [List.getElem?_cons_succ, List.getElem?_cons_zero, Option.some.injEq] at ho
              subst ho
              obtain ⟨u16, e16⟩ := hdep ⟨16, .data⟩ (by simp) rfl _ 57 rfl rfl
              rw [show vals 16 = .pointer (some ⟨d, 2, none⟩) from e16] at u16
              obtain ⟨u1, e1⟩ := hdep ⟨1, .data⟩ (by simp) rfl _ 42 rfl rfl
              rw [show vals 1 = .int .i64 (k : Int) from e1] at u1
              unfold Oper.wp
              simp [execOp, go_sem, u16, u1, hk8]
              exact came _ rfl (Below.refl _ _) rfl (fun h => absurd h (by decide))
            | 18, _, ho =>
              simp only [List.getElem?_cons_succ, List.getElem?_cons_zero, Option.some.injEq] at ho
              subst ho
              obtain ⟨u17, e17⟩ := hdep ⟨17, .data⟩ (by simp) rfl _ 58 rfl rfl
              rw [show vals 17 = .pointer (some ⟨d, 2 + k * 18, none⟩) from e17] at u17
              unfold Oper.wp
              simp [execOp, go_sem, u17]
              exact came _ rfl (Below.refl _ _) rfl (fun h => absurd h (by decide))
            | 19, _, ho =>
              simp only [List.getElem?_cons_succ, List.getElem?_cons_zero, Option.some.injEq] at ho
              subst ho
              obtain ⟨u18, e18⟩ := hdep ⟨18, .data⟩ (by simp) rfl _ 59 rfl rfl
              rw [show vals 18 = .pointer (some ⟨d, 2 + k * 18 + 9, none⟩) from e18] at u18
              obtain ⟨u5, e5⟩ := hdep ⟨5, .data⟩ (by simp) rfl _ 46 rfl rfl
              rw [show vals 5 = .int .i64 (s : Int) from e5] at u5
              unfold Oper.wp
              simp [execOp, go_sem, u18, u5, hsi]
              exact came _ rfl (Below.refl _ _) rfl (fun h => absurd h (by decide))
            | m + 20, hi, _ => exact absurd hi (by omega)
          · intro vals X hX hR _
            have e14 : vals 14 = .int .i64 (voteR r.cut hv) := hR 14 (by decide)
            have e19 : vals 19 = .pointer (some ⟨d, 2 + k * 18 + 9 + s, none⟩) := hR 19 (by decide)
            have hdX := RkAt.later H3.out.1 hX
            have cX := hdX.cell hr (k := 9 + s) (by omega)
            rw [show 2 + k * 18 + (9 + s) = 2 + k * 18 + 9 + s by omega] at cX
            have fX := hdX.1.frz (2 + k * 18 + 9 + s)
            have hro2 : Rnd.Ok { r with vot := r.vot.set s (voteR r.cut hv) } := ⟨hro.1, by show (r.vot.set s _).length = 8; rw [List.length_set]; exact hro.2⟩
            have p := hdX.1.setI (2 + k * 18 + 9 + s) (voteR r.cut hv)
            rw [show 2 + k * 18 + 9 + s = 2 + (k * 18 + (9 + s)) by omega, dk_set N s hdX.2 hr (by omega) _ hro2 (rc_setVot hro hs _), HNX.out, show 2 + (k * 18 + (9 + s)) = 2 + k * 18 + 9 + s by omega] at p
            have hcs := (Ch.refl (fun k => k = d) X).set (p := ⟨d, 2 + k * 18 + 9 + s, none⟩) (.inl rfl) (.int .i64 (voteR r.cut hv))
            have H4 := hid_of' (And.intro p (And.intro (RowAt.ch (RowAt.later H3.out.2.2.1 hX) hcs hne) (And.intro (CkAt.ch (CkAt.later H3.out.2.1 hX) hcs hne2) ((H3.out.2.2.2.later hX).trans hcs))))
            clear hR hX p hcs hdX
            simp only [List.drop, List.take, putAll, List.setIfInBounds_toArray, List.set_cons_succ, List.set_cons_zero, e14, e19]
            clear e14 e19
            go_upto_region 4 with fail
            clear cX fX
            generalize X.setCell ⟨d, 2 + k * 18 + 9 + s, none⟩ (.int .i64 (voteR r.cut hv)) = X4 at H4 ⊢
            go_wp2
            go_roundw
            case rel => exact ⟨k + 1, by go_num, by omega, ⟨H4.out.1, updK_ok ok hvo (k + 1)⟩, H4.out.2.1, H4.out.2.2.1, H4.out.2.2.2⟩
            case measure => simp [intOf]; omega
        · have hv0' : (en r.vot s == 0) = false := by simpa using hv0
          rw [if_neg (fun q => hv0 q.2)] at hvd
          have HNX := hid_of' ((hskip hvd).symm.trans hnx)
          have HCC := hid_of' hC
          clear ho hvd hskip hnx hC hv0
          go_upto_region 5 with fail
          clear c0
          refine wp_region_cls (by kernel_rfl) (by kernel_rfl) ?_
          repeat (first | go_big_quiet_skip | (go_big_quiet_want; first | (refine qRnd hro _ rfl rfl hin.cls ?_; simp only [Act.put, List.setIfInBounds_toArray, List.set_cons_succ, List.set_cons_zero]; go_big_quiet_on) | (go_big_quiet_op; first | go_big_quiet_on | go_big_quiet_call ((go_at_call 65; exact cls_of (HO _).out)))))
          refine wpQuiet_nil ?_
          rintro w1 ⟨s1, e1⟩
          have hb1 := wOf_below s1
          rw [← e1] at hb1
          clear e1 s1
          replace hd := hd.later hb1
          replace hr0 := hr0.later hb1
          replace hck := hck.later hb1
          replace hB := bgo hB hb1
          clear hb1
          clear q1 q2 hin
          go_wp2
          go_roundw
          case rel => exact ⟨k + 1, by go_num, by omega, by rw [← HNX.out]; exact hd, hr0, hck, HCC.out.later hB⟩
          case measure => simp [intOf]; omega
    · have hki : ¬ (k : Int) < (N : Int) := by omega
      obtain rfl : N = k := by omega
      obtain ⟨r, hr, hro⟩ := okK.at hs
      have hse := settle_eq (by omega) h8 hsN ok hr
      obtain ⟨LK, hLK⟩ : ∃ L, updK (vtF s hv) l N = L := ⟨_, rfl⟩
      rw [hLK] at hr hse hd okK
      clear hLK
      have hin := hd.rnd hr
      have q1 : ∀ z : Wld wr, (wOf z).cell? ⟨d, 1, none⟩ = some (.int .i64 (s : Int)) := fun z => (hd.later (wOf_below z)).c1
      have HO := fun w => hid_of' (refOpen_any r hro w)
      have hB := Below.refl wr.heap.size wr
      have HCC := hid_of' hC
      clear hC
      cases ho : openR r
      · rw [ho] at HO
        have hdr : decR N r = r := if_neg (by rw [ho]; decide)
        have hm : setK N s hv l N = LK := by
          rw [← hse, hdr]
          apply List.ext_getElem?
          intro i
          rw [List.getElem?_set]
          split
          · rename_i q; subst q; rw [hr]; split
            · rfl
            · rename_i q; exact absurd (List.getElem?_eq_some_iff.1 hr).1 q
          · rfl
        have HM := hid_of' hm
        clear ho hdr hse hm
        go_upto_region 7 with fail
        clear c0
        refine wp_region_cls (by kernel_rfl) (by kernel_rfl) ?_
        repeat (first | go_big_quiet_skip | (go_big_quiet_want; first | (refine qRnd hro _ rfl rfl hin.cls ?_; simp only [Act.put, List.setIfInBounds_toArray, List.set_cons_succ, List.set_cons_zero]; go_big_quiet_on) | (go_big_quiet_op; first | go_big_quiet_on | go_big_quiet_call ((go_at_call 65; exact cls_of (HO _).out)))))
        refine wpQuiet_nil ?_
        rintro w1 ⟨s1, e1⟩
        have hb1 := wOf_below s1
        rw [← e1] at hb1
        clear e1 s1
        replace hd := hd.later hb1
        replace hr0 := hr0.later hb1
        replace hB := bgo hB hb1
        clear hb1
        clear q1 hin
        rename World => W5
        obtain ⟨m, hmm⟩ : ∃ m, LK = m := ⟨_, rfl⟩
        rw [hmm] at HM hd
        have HMm := hid_of' HM.out
        have H5 := hid_of' (And.intro hd (And.intro hr0 (HCC.out.later hB)))
        clear hmm hd hr0 HCC hB HM hr okK
        go_upto_region 9 with fail
        have hq := eqInRnds 9995 H5.out.1.2 ok
        have hg := rnds_guard
        have r5 := H5.out.2.1
        have h5 := H5.out.1
        have hB := Below.refl W5.heap.size W5
        cases hlm : (m == l)
        · rw [hlm] at hq
          refine wp_region_cls (by kernel_rfl) (by kernel_rfl) ?_
          repeat (first | go_big_quiet_skip | (go_big_quiet_want; first | (refine qRnds h5.2 _ rfl rfl h5.rounds.cls ?_; simp only [Act.put, List.setIfInBounds_toArray, List.set_cons_succ, List.set_cons_zero]; go_big_quiet_on) | (refine qRnds ok _ rfl rfl r5.in.cls ?_; simp only [Act.put, List.setIfInBounds_toArray, List.set_cons_succ, List.set_cons_zero]; go_big_quiet_on) | (go_big_quiet_op; first | go_big_quiet_on | go_big_quiet_call ((fail)))))
          refine wpQuiet_nil ?_
          rintro w1 ⟨s1, e1⟩
          have hb1 := wOf_below s1
          rw [← e1] at hb1
          clear e1 s1
          replace h5 := h5.later hb1
          replace r5 := r5.later hb1
          replace hB := bgo hB hb1
          clear hb1
          go_wp2
          go_ret
          exact ⟨by rw [HMm.out, hlm]; rfl, by rw [HMm.out]; exact h5, H5.out.2.2.later hB⟩
        · rw [hlm] at hq
          refine wp_region_cls (by kernel_rfl) (by kernel_rfl) ?_
          repeat (first | go_big_quiet_skip | (go_big_quiet_want; first | (refine qRnds h5.2 _ rfl rfl h5.rounds.cls ?_; simp only [Act.put, List.setIfInBounds_toArray, List.set_cons_succ, List.set_cons_zero]; go_big_quiet_on) | (refine qRnds ok _ rfl rfl r5.in.cls ?_; simp only [Act.put, List.setIfInBounds_toArray, List.set_cons_succ, List.set_cons_zero]; go_big_quiet_on) | (go_big_quiet_op; first | go_big_quiet_on | go_big_quiet_call ((fail)))))
          refine wpQuiet_nil ?_
          rintro w1 ⟨s1, e1⟩
          have hb1 := wOf_below s1
          rw [← e1] at hb1
          clear e1 s1
          replace h5 := h5.later hb1
          replace r5 := r5.later hb1
          replace hB := bgo hB hb1
          clear hb1
          go_wp2
          go_ret
          exact ⟨by rw [HMm.out, hlm]; rfl, by rw [HMm.out]; exact h5, H5.out.2.2.later hB⟩
      · rw [ho] at HO
        have hdr : decR N r = { r with dec := verdI r N } := by
          have hvd : verdI r (N : Int) = verdR r N := by
            unfold verdI
            rw [if_neg (by omega), show (min (N : Int) 8).toNat = N by omega]
          rw [hvd]
          exact if_pos ho
        rw [hdr] at hse
        have HM := hid_of' hse
        clear ho hdr hse
        go_upto_region 7 with fail
        clear c0
        refine wp_region_cls (by kernel_rfl) (by kernel_rfl) ?_
        repeat (first | go_big_quiet_skip | (go_big_quiet_want; first | (refine qRnd hro _ rfl rfl hin.cls ?_; simp only [Act.put, List.setIfInBounds_toArray, List.set_cons_succ, List.set_cons_zero]; go_big_quiet_on) | (go_big_quiet_op; first | go_big_quiet_on | go_big_quiet_call ((go_at_call 65; exact cls_of (HO _).out)))))
        refine wpQuiet_nil ?_
        rintro w1 ⟨s1, e1⟩
        have hb1 := wOf_below s1
        rw [← e1] at hb1
        clear e1 s1
        replace hd := hd.later hb1
        replace hr0 := hr0.later hb1
        replace hB := bgo hB hb1
        clear hb1
        clear q1 hin
        rename World => w3
        have H3 := hid_of' (And.intro hd (And.intro hr0 (HCC.out.later hB)))
        clear hd hr0 HCC hB
        go_upto_region 8 with fail
        refine wp_region_tail 23 (by kernel_rfl) (fun _ => none) (by kernel_rfl) (by kernel_rfl) (by decide) (fun ii u X => match ii with
          | 0 => u = .pointer (some ⟨d, 0, none⟩)
          | 1 => u = .pointer (some ⟨d, 0, none⟩)
          | 2 => u = .pointer (some ⟨d, 0, none⟩)
          | 3 => u = .pointer (some ⟨d, 1, none⟩)
          | 4 => u = .int .i64 (s : Int)
          | 5 => u = .pointer (some ⟨d, 0, none⟩)
          | 6 => u = .pointer (some ⟨d, 0, none⟩)
          | 7 => u = .pointer (some ⟨d, 0, none⟩)
          | 8 => u = .pointer (some ⟨d, 1, none⟩)
          | 9 => u = .int .i64 (s : Int)
          | 10 => u = .pointer (some ⟨d, 0, none⟩)
          | 11 => u = .pointer (some ⟨d, 2, none⟩)
          | 12 => u = .pointer (some ⟨d, 2 + s * 18, none⟩)
          | 13 => u = .agg (cv (rc r))
          | 14 => u = .pointer (some ⟨d, 0, none⟩)
          | 15 => u = .pointer (some ⟨d, 0, none⟩)
          | 16 => u = .pointer (some ⟨d, 0, none⟩)
          | 17 => u = .int .i64 (N : Int)
          | 18 => u = .int .i64 (verdI r N)
          | 19 => u = .pointer (some ⟨d, 0, none⟩)
          | 20 => u = .pointer (some ⟨d, 2, none⟩)
          | 21 => u = .pointer (some ⟨d, 2 + s * 18, none⟩)
          | 22 => u = .pointer (some ⟨d, 2 + s * 18 + 17, none⟩)
          | _ => True) (fun _ => false) (fun _ _ _ _ h => by cases h) ?_ ?_ ?_
        · intro ii u X X' hR hb
          match ii, hR with
          | 0, h => exact h
          | 1, h => exact h
          | 2, h => exact h
          | 3, h => exact h
          | 4, h => exact h
          | 5, h => exact h
          | 6, h => exact h
          | 7, h => exact h
          | 8, h => exact h
          | 9, h => exact h
          | 10, h => exact h
          | 11, h => exact h
          | 12, h => exact h
          | 13, h => exact h
          | 14, h => exact h
          | 15, h => exact h
          | 16, h => exact h
          | 17, h => exact h
          | 18, h => exact h
          | 19, h => exact h
          | 20, h => exact h
          | 21, h => exact h
          | 22, h => exact h
          | m + 23, h => exact h
        · intro ii o hi ho qq X vals hX hdep hoth
          have t0 : qq.tmps[0]? = some (.pointer (some ⟨d, 0, none⟩)) := by rw [hoth 0 (by kernel_rfl)]; rfl
          match ii, hi, ho with
          | 0, _, ho =>
            simp only [List.getElem?_cons_zero, Option.some.injEq] at ho
            subst ho
            unfold Oper.wp
            simp [execOp, go_sem, t0]
            exact came _ rfl (Below.refl _ _) rfl (fun h => absurd h (by decide))
          | 1, _, ho =>
            simp only [List.getElem?_cons_succ, List.getElem?_cons_zero, Option.some.injEq] at ho
            subst ho
            unfold Oper.wp
            simp [execOp, go_sem, t0]
            exact came _ rfl (Below.refl _ _) rfl (fun h => absurd h (by decide))
          | 2, _, ho =>
            simp only [List.getElem?_cons_succ, List.getElem?_cons_zero, Option.some.injEq] at ho
            subst ho
            obtain ⟨u1, e1⟩ := hdep ⟨1, .data⟩ (by simp) rfl _ 72 rfl rfl
            rw [show vals 1 = .pointer (some ⟨d, 0, none⟩) from e1] at u1
            unfold Oper.wp
            simp [execOp, go_sem, u1]
            exact came _ rfl (Below.refl _ _) rfl (fun h => absurd h (by decide))
          | 3, _, ho =>
            simp only [List.getElem?_cons_succ, List.getElem?_cons_zero, Option.some.injEq] at ho
            subst ho
            obtain ⟨u2, e2⟩ := hdep ⟨2, .data⟩ (by simp) rfl _ 73 rfl rfl
            rw [show vals 2 = .pointer (some ⟨d, 0, none⟩) from e2] at u2
            unfold Oper.wp
            simp [execOp, go_sem, u2]
            exact came _ rfl (Below.refl _ _) rfl (fun h => absurd h (by decide))
          | 4, _, ho =>
            simp only [List.getElem?_cons_succ, List.getElem?_cons_zero, Option.some.injEq] at ho
            subst ho
            obtain ⟨u3, e3⟩ := hdep ⟨3, .data⟩ (by simp) rfl _ 74 rfl rfl
            rw [show vals 3 = .pointer (some ⟨d, 1, none⟩) from e3] at u3
            have cc := (RkAt.later H3.out.1 hX).c1
            unfold Oper.wp
            simp [execOp, go_sem, u3, cc]
            exact came _ rfl (Below.refl _ _) rfl (fun h => absurd h (by decide))
          | 5, _, ho =>
            simp only [List.getElem?_cons_succ, List.getElem?_cons_zero, Option.some.injEq] at ho
            subst ho
            unfold Oper.wp
            simp [execOp, go_sem, t0]
            exact came _ rfl (Below.refl _ _) rfl (fun h => absurd h (by decide))
          | 6, _, ho =>
            simp only [List.getElem?_cons_succ, List.getElem?_cons_zero, Option.some.injEq] at ho
            subst ho
            unfold Oper.wp
            simp [execOp, go_sem, t0]
            exact came _ rfl (Below.refl _ _) rfl (fun h => absurd h (by decide))
          | 7, _, ho =>
            simp only [List.getElem?_cons_succ, List.getElem?_cons_zero, Option.some.injEq] at ho
            subst ho
            obtain ⟨u6, e6⟩ := hdep ⟨6, .data⟩ (by simp) rfl _ 77 rfl rfl
            rw [show vals 6 = .pointer (some ⟨d, 0, none⟩) from e6] at u6
            unfold Oper.wp
            simp [execOp, go_sem, u6]
            exact came _ rfl (Below.refl _ _) rfl (fun h => absurd h (by decide))
          | 8, _, ho =>
            simp only [List.getElem?_cons_succ, List.getElem?_cons_zero, Option.some.injEq] at ho
            subst ho
            obtain ⟨u7, e7⟩ := hdep ⟨7, .data⟩ (by simp) rfl _ 78 rfl rfl
            rw [show vals 7 = .pointer (some ⟨d, 0, none⟩) from e7] at u7
            unfold Oper.wp
            simp [execOp, go_sem, u7]
            exact came _ rfl (Below.refl _ _) rfl (fun h => absurd h (by decide))
          | 9, _, ho =>
            simp only [List.getElem?_cons_succ, List.getElem?_cons_zero, Option.some.injEq] at ho
            subst ho
            obtain ⟨u8, e8⟩ := hdep ⟨8, .data⟩ (by simp) rfl _ 79 rfl rfl
            rw [show vals 8 = .pointer (some ⟨d, 1, none⟩) from e8] at u8
            have cc := (RkAt.later H3.out.1 hX).c1
            unfold Oper.wp
            simp [execOp, go_sem, u8, cc]
            exact came _ rfl (Below.refl _ _) rfl (fun h => absurd h (by decide))
          | 10, _, ho =>
            simp only [List.getElem?_cons_succ, List.getElem?_cons_zero, Option.some.injEq] at ho
            subst ho
            obtain ⟨u5, e5⟩ := hdep ⟨5, .data⟩ (by simp) rfl _ 76 rfl rfl
            rw [show vals 5 = .pointer (some ⟨d, 0, none⟩) from e5] at u5
            unfold Oper.wp
            simp [execOp, go_sem, u5]
            exact came _ rfl (Below.refl _ _) rfl (fun h => absurd h (by decide))
          | 11, _, ho =>
            simp only [List.getElem?_cons_succ, List.getElem?_cons_zero, Option.some.injEq] at ho
            subst ho
            obtain ⟨u10, e10⟩ := hdep ⟨10, .data⟩ (by simp) rfl _ 81 rfl rfl
            rw [show vals 10 = .pointer (some ⟨d, 0, none⟩) from e10] at u10
            unfold Oper.wp
            simp [execOp, go_sem, u10]
            exact came _ rfl (Below.refl _ _) rfl (fun h => absurd h (by decide))
          | 12, _, ho =>
            simp only [List.getElem?_cons_succ, List.getElem?_cons_zero, Option.some.injEq] at ho
            subst ho
            obtain ⟨u11, e11⟩ := hdep ⟨11, .data⟩ (by simp) rfl _ 82 rfl rfl
            rw [show vals 11 = .pointer (some ⟨d, 2, none⟩) from e11] at u11
            obtain ⟨u9, e9⟩ := hdep ⟨9, .data⟩ (by simp) rfl _ 80 rfl rfl
            rw [show vals 9 = .int .i64 (s : Int) from e9] at u9
            unfold Oper.wp
            simp [execOp, go_sem, u11, u9, hsi]
            exact came _ rfl (Below.refl _ _) rfl (fun h => absurd h (by decide))
          | 13, _, ho =>
            simp only [List.getElem?_cons_succ, List.getElem?_cons_zero, Option.some.injEq] at ho
            subst ho
            obtain ⟨u12, e12⟩ := hdep ⟨12, .data⟩ (by simp) rfl _ 83 rfl rfl
            rw [show vals 12 = .pointer (some ⟨d, 2 + s * 18, none⟩) from e12] at u12
            exact opRnd hro _ rfl (by simp [Act.eval, u12]) ((RkAt.later H3.out.1 hX).rnd hr) (came _ rfl (Below.refl _ _) rfl (fun h => absurd h (by decide)))
          | 14, _, ho =>
            simp only [List.getElem?_cons_succ, List.getElem?_cons_zero, Option.some.injEq] at ho
            subst ho
            unfold Oper.wp
            simp [execOp, go_sem, t0]
            exact came _ rfl (Below.refl _ _) rfl (fun h => absurd h (by decide))
          | 15, _, ho =>
            simp only [List.getElem?_cons_succ, List.getElem?_cons_zero, Option.some.injEq] at ho
            subst ho
            obtain ⟨u14, e14⟩ := hdep ⟨14, .data⟩ (by simp) rfl _ 85 rfl rfl
            rw [show vals 14 = .pointer (some ⟨d, 0, none⟩) from e14] at u14
            unfold Oper.wp
            simp [execOp, go_sem, u14]
            exact came _ rfl (Below.refl _ _) rfl (fun h => absurd h (by decide))
          | 16, _, ho =>
            simp only [List.getElem?_cons_succ, List.getElem?_cons_zero, Option.some.injEq] at ho
            subst ho
            obtain ⟨u15, e15⟩ := hdep ⟨15, .data⟩ (by simp) rfl _ 86 rfl rfl
            rw [show vals 15 = .pointer (some ⟨d, 0, none⟩) from e15] at u15
            unfold Oper.wp
            simp [execOp, go_sem, u15]
            exact came _ rfl (Below.refl _ _) rfl (fun h => absurd h (by decide))
          | 17, _, ho =>
            simp only [List.getElem?_cons_succ, List.getElem?_cons_zero, Option.some.injEq] at ho
            subst ho
            obtain ⟨u16, e16⟩ := hdep ⟨16, .data⟩ (by simp) rfl _ 87 rfl rfl
            rw [show vals 16 = .pointer (some ⟨d, 0, none⟩) from e16] at u16
            have cc := (RkAt.later H3.out.1 hX).c0
            unfold Oper.wp
            simp [execOp, go_sem, u16, cc]
            exact came _ rfl (Below.refl _ _) rfl (fun h => absurd h (by decide))
          | 18, _, ho =>
            simp only [List.getElem?_cons_succ, List.getElem?_cons_zero, Option.some.injEq] at ho
            subst ho
            obtain ⟨u13, e13⟩ := hdep ⟨13, .data⟩ (by simp) rfl _ 84 rfl rfl
            rw [show vals 13 = .agg (cv (rc r)) from e13] at u13
            obtain ⟨u17, e17⟩ := hdep ⟨17, .data⟩ (by simp) rfl _ 88 rfl rfl
            rw [show vals 17 = .int .i64 (N : Int) from e17] at u17
            unfold Oper.wp
            simp [go_sem, u13, u17]
            refine (refVerdict_any r N hro X).mono ?_
            rintro r x1 ⟨rfl, hb1⟩
            exact came _ rfl hb1 rfl (fun h => absurd h (by decide))
          | 19, _, ho =>
            simp only [List.getElem?_cons_succ, List.getElem?_cons_zero, Option.some.injEq] at ho
            subst ho
            obtain ⟨u0, e0⟩ := hdep ⟨0, .data⟩ (by simp) rfl _ 71 rfl rfl
            rw [show vals 0 = .pointer (some ⟨d, 0, none⟩) from e0] at u0
            unfold Oper.wp
            simp [execOp, go_sem, u0]
            exact came _ rfl (Below.refl _ _) rfl (fun h => absurd h (by decide))
          | 20, _, ho =>
            simp only [List.getElem?_cons_succ, List.getElem?_cons_zero, Option.some.injEq] at ho
            subst ho
            obtain ⟨u19, e19⟩ := hdep ⟨19, .data⟩ (by simp) rfl _ 90 rfl rfl
            rw [show vals 19 = .pointer (some ⟨d, 0, none⟩) from e19] at u19
            unfold Oper.wp
            simp [execOp, go_sem, u19]
            exact came _ rfl (Below.refl _ _) rfl (fun h => absurd h (by decide))
          | 21, _, ho =>
            simp only [List.getElem?_cons_succ, List.getElem?_cons_zero, Option.some.injEq] at ho
            subst ho
            obtain ⟨u20, e20⟩ := hdep ⟨20, .data⟩ (by simp) rfl _ 91 rfl rfl
            rw [show vals 20 = .pointer (some ⟨d, 2, none⟩) from e20] at u20
            obtain ⟨u4, e4⟩ := hdep ⟨4, .data⟩ (by simp) rfl _ 75 rfl rfl
            rw [show vals 4 = .int .i64 (s : Int) from e4] at u4
            unfold Oper.wp
            simp [execOp, go_sem, u20, u4, hsi]
            exact came _ rfl (Below.refl _ _) rfl (fun h => absurd h (by decide))
          | 22, _, ho =>
            simp only [List.getElem?_cons_succ, List.getElem?_cons_zero, Option.some.injEq] at ho
            subst ho
            obtain ⟨u21, e21⟩ := hdep ⟨21, .data⟩ (by simp) rfl _ 92 rfl rfl
            rw [show vals 21 = .pointer (some ⟨d, 2 + s * 18, none⟩) from e21] at u21
            unfold Oper.wp
            simp [execOp, go_sem, u21]
            exact came _ rfl (Below.refl _ _) rfl (fun h => absurd h (by decide))
          | m + 23, hi, _ => exact absurd hi (by omega)
        · intro vals X hX hR _
          have e18 : vals 18 = .int .i64 (verdI r N) := hR 18 (by decide)
          have e22 : vals 22 = .pointer (some ⟨d, 2 + s * 18 + 17, none⟩) := hR 22 (by decide)
          have hdX := RkAt.later H3.out.1 hX
          have cX := hdX.cell hr (k := 17) (by omega)
          have fX := hdX.1.frz (2 + s * 18 + 17)
          have hro2 : Rnd.Ok { r with dec := verdI r N } := hro
          have p := hdX.1.setI (2 + s * 18 + 17) (verdI r N)
          rw [show 2 + s * 18 + 17 = 2 + (s * 18 + 17) by omega, dk_set N s hdX.2 hr (by omega) _ hro2 (rc_setDec hro _), HM.out, show 2 + (s * 18 + 17) = 2 + s * 18 + 17 by omega] at p
          have hcs := (Ch.refl (fun k => k = d) X).set (p := ⟨d, 2 + s * 18 + 17, none⟩) (.inl rfl) (.int .i64 (verdI r N))
          obtain ⟨m, hmm⟩ : ∃ m, setK N s hv l N = m := ⟨_, rfl⟩
          rw [hmm] at p
          have om : OkL m := hmm ▸ setK_ok ok N
          have HMm := hid_of' hmm
          have H5 := hid_of' (And.intro (show RkAt d N s m _ from ⟨p, om⟩) (And.intro (RowAt.ch (RowAt.later H3.out.2.1 hX) hcs hne) ((H3.out.2.2.later hX).trans hcs)))
          clear hR hX p hcs hdX hmm om
          simp only [List.drop, List.take, putAll, List.setIfInBounds_toArray, List.set_cons_succ, List.set_cons_zero, e18, e22]
          clear e18 e22
          go_upto_region 9 with fail
          clear cX fX
          generalize X.setCell ⟨d, 2 + s * 18 + 17, none⟩ (.int .i64 (verdI r N)) = W5 at H5 ⊢
          have hq := eqInRnds 9995 H5.out.1.2 ok
          have hg := rnds_guard
          have r5 := H5.out.2.1
          have h5 := H5.out.1
          have hB := Below.refl W5.heap.size W5
          cases hlm : (m == l)
          · rw [hlm] at hq
            refine wp_region_cls (by kernel_rfl) (by kernel_rfl) ?_
            repeat (first | go_big_quiet_skip | (go_big_quiet_want; first | (refine qRnds h5.2 _ rfl rfl h5.rounds.cls ?_; simp only [Act.put, List.setIfInBounds_toArray, List.set_cons_succ, List.set_cons_zero]; go_big_quiet_on) | (refine qRnds ok _ rfl rfl r5.in.cls ?_; simp only [Act.put, List.setIfInBounds_toArray, List.set_cons_succ, List.set_cons_zero]; go_big_quiet_on) | (go_big_quiet_op; first | go_big_quiet_on | go_big_quiet_call ((fail)))))
            refine wpQuiet_nil ?_
            rintro w1 ⟨s1, e1⟩
            have hb1 := wOf_below s1
            rw [← e1] at hb1
            clear e1 s1
            replace h5 := h5.later hb1
            replace r5 := r5.later hb1
            replace hB := bgo hB hb1
            clear hb1
            go_wp2
            go_ret
            exact ⟨by rw [HMm.out, hlm]; rfl, by rw [HMm.out]; exact h5, H5.out.2.2.later hB⟩
          · rw [hlm] at hq
            refine wp_region_cls (by kernel_rfl) (by kernel_rfl) ?_
            repeat (first | go_big_quiet_skip | (go_big_quiet_want; first | (refine qRnds h5.2 _ rfl rfl h5.rounds.cls ?_; simp only [Act.put, List.setIfInBounds_toArray, List.set_cons_succ, List.set_cons_zero]; go_big_quiet_on) | (refine qRnds ok _ rfl rfl r5.in.cls ?_; simp only [Act.put, List.setIfInBounds_toArray, List.set_cons_succ, List.set_cons_zero]; go_big_quiet_on) | (go_big_quiet_op; first | go_big_quiet_on | go_big_quiet_call ((fail)))))
            refine wpQuiet_nil ?_
            rintro w1 ⟨s1, e1⟩
            have hb1 := wOf_below s1
            rw [← e1] at hb1
            clear e1 s1
            replace h5 := h5.later hb1
            replace r5 := r5.later hb1
            replace hB := bgo hB hb1
            clear hb1
            go_wp2
            go_ret
            exact ⟨by rw [HMm.out, hlm]; rfl, by rw [HMm.out]; exact h5, H5.out.2.2.later hB⟩
end Go.Proofs.YtfgcljpiidhfpaaDoor
