/-
  barrowlaw03.ClockTicks answers true.
-/
import Derived.Test.YtceahohcmhbkmaaDoorCkTicks
import Derived.Test.YtceahohcmhbkmaaDoorCkLists
import Derived.Deep.CutRange
namespace Go.Proofs.YtceahohcmhbkmaaDoor
open Go.RowKit Go.Extern.Stop Go.Stop Go.Extern
set_option maxRecDepth 100000

theorem lagT_is {a b : List Int} {v : Int} (h : lagC a b = v) (w : World) (ha : Ck a) (hb : Ck b) :
    Calls Tryd.prog 23 #[.agg (cv a), .agg (cv b)] w fun e w' => e = .returned (.int .i64 v) ∧ Below w.heap.size w w' := h ▸ lag_any a b w ha hb

set_option maxHeartbeats 8000000 in
theorem ticksC_ok {ad : Nat → Addr} (l : List Ak) (g o_ c : Nat) (w : World) (L0 : Laid ad w) (hl : SlQ w g o_ l) :
    Calls Tryd.prog 4 #[.slice (some ⟨g, o_, none⟩) l.length c] w fun e w' => e = .returned (.bool true) ∧ Below w.heap.size w w' := by
  have hmx := hl.1
  unfold maxLen at hmx
  go_enter Tryd.func4, Tryd.ntmps4
  go_wp2
  go_loopw [3, 4, 5, 6, 7] (fun i _ _ _ _ wr => ∃ k : Nat, i = .int .i64 (k : Int) ∧ k ≤ l.length ∧ Below w.heap.size w wr) (fun i _ _ _ _ _ => l.length - (intOf i).toNat)
  case atStart => exact ⟨0, rfl, by omega, Below.refl _ _⟩
  case round =>
  obtain ⟨k, rfl, hk, hB⟩ := hrel
  by_cases hlt : k < l.length
  · have hki : (k : Int) < (l.length : Int) := by omega
    obtain ⟨x, hx⟩ : ∃ x, l[k]? = some x := ⟨_, List.getElem?_eq_getElem hlt⟩
    obtain ⟨hkx, hcx⟩ := hl.2 k x hx
    replace hcx := hcx.later hB
    have hxl : x.a.length = 8 := hkx.1
    have hkx' : Ck x.a := hkx
    have hAx : CsIn g (o_ + k * 10) (cv x.a) wr := ⟨hcx.1, fun j v hv => hcx.2 j v (akv_ck x j v hv)⟩
    have xr := akv_r x hxl
    have xn := akv_n x hxl
    have L : Laid ad wr := L0.below hB
    have hzl := tkz_len x.r hxl
    clear hx hl
    go_upto_region 4 with fail
    go_cut [4, 5] from 8 to 105 (fun s4 s5 wx => ∃ b4, s4 = .pointer (some ⟨b4, 0, none⟩) ∧ CkAt b4 (tkz x.a x.r) wx ∧ TE ad (tkOk x.a x.r) x.r s5 wx ∧ Below wr.heap.size wr wx)
    case first =>
      refine wp_region_float (by kernel_rfl) (by kernel_rfl) (fun i v y => match i with
        | 0 => v = .slice (some ⟨g, o_, none⟩) l.length c
        | 1 => v = .int .i64 (k : Int)
        | 2 => v = .pointer (some ⟨g, o_ + k * 10, none⟩)
        | 3 => v = .pointer (some ⟨g, o_ + k * 10, none⟩)
        | 4 => v = .agg (cv x.a)
        | 5 => v = .slice (some ⟨g, o_, none⟩) l.length c
        | 6 => v = .int .i64 (k : Int)
        | 7 => v = .pointer (some ⟨g, o_ + k * 10, none⟩)
        | 8 => v = .pointer (some ⟨g, o_ + k * 10 + 8, none⟩)
        | 9 => v = .int .i64 x.r
        | 10 => ∃ ev, v = .tuple #[.agg (cv (tkz x.a x.r)), ev] ∧ TE ad (tkOk x.a x.r) x.r ev y
        | 11 => ∃ ev, v = .tuple #[.agg (cv (tkz x.a x.r)), ev] ∧ TE ad (tkOk x.a x.r) x.r ev y
        | 12 => v = .agg (cv (tkz x.a x.r))
        | 13 => TE ad (tkOk x.a x.r) x.r v y
        | 16 => TE ad (tkOk x.a x.r) x.r v y
        | _ => True) (fun i => match i with | 14 => some (23, 8) | _ => none) (fun i => match i with | 15 => some (14, 12) | _ => none) ?_ ?_ ?_ ?_ ?_ ?_ ?_
      · intro kk f s h
        match kk, h with
        | 15, h => cases h; exact ⟨rfl, (by intro h; cases h), rfl, rfl, _, _, _, _, _, ⟨14, .data⟩, ⟨12, .data⟩, rfl, rfl, rfl, rfl, rfl, (by simp), rfl, rfl, (by simp), rfl, rfl⟩
        | 0, h | 1, h | 2, h | 3, h | 4, h | 5, h | 6, h | 7, h | 8, h | 9, h | 10, h | 11, h | 12, h | 13, h | 14, h => cases h
        | n + 16, h => cases h
      · intro i t n h
        match i, h with
        | 14, h => rfl
        | 15, h => cases h
        | 0, h | 1, h | 2, h | 3, h | 4, h | 5, h | 6, h | 7, h | 8, h | 9, h | 10, h | 11, h | 12, h | 13, h => cases h
        | n + 16, h => cases h
      · intro p q f s s' h1 h2
        have e1 : (p = 15 ∧ f = 14) := by
          match p, h1 with
          | 15, h => cases h; simp
          | 0, h | 1, h | 2, h | 3, h | 4, h | 5, h | 6, h | 7, h | 8, h | 9, h | 10, h | 11, h | 12, h | 13, h | 14, h => cases h
          | n + 16, h => cases h
        have e2 : (q = 15 ∧ f = 14) := by
          match q, h2 with
          | 15, h => cases h; simp
          | 0, h | 1, h | 2, h | 3, h | 4, h | 5, h | 6, h | 7, h | 8, h | 9, h | 10, h | 11, h | 12, h | 13, h | 14, h => cases h
          | n + 16, h => cases h
        omega
      · intro i o ho hA hK q y vals S hX hS hdep hoth
        have t0 : q.tmps[0]? = some (.slice (some ⟨g, o_, none⟩) l.length c) := by rw [hoth 0 (by kernel_rfl)]; rfl
        have t3 : q.tmps[3]? = some (.int .i64 (k : Int)) := by rw [hoth 3 (by kernel_rfl)]; rfl
        match i, ho, hA, hK with
        | 0, ho, hA, hK =>
          simp only [List.getElem?_cons_zero, Option.some.injEq] at ho
          subst ho
          unfold Oper.wp
          simp [execOp, go_sem, t0]
          exact cameF _ rfl (Below.refl _ _) (fun _ _ => rfl)
        | 1, ho, hA, hK =>
          simp only [List.getElem?_cons_succ, List.getElem?_cons_zero, Option.some.injEq] at ho
          subst ho
          unfold Oper.wp
          simp [execOp, go_sem, t3]
          exact cameF _ rfl (Below.refl _ _) (fun _ _ => rfl)
        | 2, ho, hA, hK =>
          simp only [List.getElem?_cons_succ, List.getElem?_cons_zero, Option.some.injEq] at ho
          subst ho
          obtain ⟨u0, e0⟩ := hdep ⟨0, .data⟩ (by simp) rfl _ 15 rfl rfl
          rw [show vals 0 = .slice (some ⟨g, o_, none⟩) l.length c from e0 rfl rfl y (KeptP.refl _ _)] at u0
          obtain ⟨u1, e1⟩ := hdep ⟨1, .data⟩ (by simp) rfl _ 16 rfl rfl
          rw [show vals 1 = .int .i64 (k : Int) from e1 rfl rfl y (KeptP.refl _ _)] at u1
          unfold Oper.wp
          simp [execOp, go_sem, u0, u1, hki]
          exact cameF _ rfl (Below.refl _ _) (fun _ _ => rfl)
        | 3, ho, hA, hK =>
          simp only [List.getElem?_cons_succ, List.getElem?_cons_zero, Option.some.injEq] at ho
          subst ho
          obtain ⟨u2, e2⟩ := hdep ⟨2, .data⟩ (by simp) rfl _ 17 rfl rfl
          rw [show vals 2 = .pointer (some ⟨g, o_ + k * 10, none⟩) from e2 rfl rfl y (KeptP.refl _ _)] at u2
          unfold Oper.wp
          simp [execOp, go_sem, u2]
          exact cameF _ rfl (Below.refl _ _) (fun _ _ => rfl)
        | 4, ho, hA, hK =>
          simp only [List.getElem?_cons_succ, List.getElem?_cons_zero, Option.some.injEq] at ho
          subst ho
          obtain ⟨u3, e3⟩ := hdep ⟨3, .data⟩ (by simp) rfl _ 18 rfl rfl
          rw [show vals 3 = .pointer (some ⟨g, o_ + k * 10, none⟩) from e3 rfl rfl y (KeptP.refl _ _)] at u3
          exact opw_loadIn _ rfl (by simp [Act.eval, u3]) (hAx.later hX) hxl (cameF _ rfl (Below.refl _ _) (fun _ _ => rfl))
        | 5, ho, hA, hK =>
          simp only [List.getElem?_cons_succ, List.getElem?_cons_zero, Option.some.injEq] at ho
          subst ho
          unfold Oper.wp
          simp [execOp, go_sem, t0]
          exact cameF _ rfl (Below.refl _ _) (fun _ _ => rfl)
        | 6, ho, hA, hK =>
          simp only [List.getElem?_cons_succ, List.getElem?_cons_zero, Option.some.injEq] at ho
          subst ho
          unfold Oper.wp
          simp [execOp, go_sem, t3]
          exact cameF _ rfl (Below.refl _ _) (fun _ _ => rfl)
        | 7, ho, hA, hK =>
          simp only [List.getElem?_cons_succ, List.getElem?_cons_zero, Option.some.injEq] at ho
          subst ho
          obtain ⟨u5, e5⟩ := hdep ⟨5, .data⟩ (by simp) rfl _ 20 rfl rfl
          rw [show vals 5 = .slice (some ⟨g, o_, none⟩) l.length c from e5 rfl rfl y (KeptP.refl _ _)] at u5
          obtain ⟨u6, e6⟩ := hdep ⟨6, .data⟩ (by simp) rfl _ 21 rfl rfl
          rw [show vals 6 = .int .i64 (k : Int) from e6 rfl rfl y (KeptP.refl _ _)] at u6
          unfold Oper.wp
          simp [execOp, go_sem, u5, u6, hki]
          exact cameF _ rfl (Below.refl _ _) (fun _ _ => rfl)
        | 8, ho, hA, hK =>
          simp only [List.getElem?_cons_succ, List.getElem?_cons_zero, Option.some.injEq] at ho
          subst ho
          obtain ⟨u7, e7⟩ := hdep ⟨7, .data⟩ (by simp) rfl _ 22 rfl rfl
          rw [show vals 7 = .pointer (some ⟨g, o_ + k * 10, none⟩) from e7 rfl rfl y (KeptP.refl _ _)] at u7
          unfold Oper.wp
          simp [execOp, go_sem, u7]
          exact cameF _ rfl (Below.refl _ _) (fun _ _ => rfl)
        | 9, ho, hA, hK =>
          simp only [List.getElem?_cons_succ, List.getElem?_cons_zero, Option.some.injEq] at ho
          subst ho
          obtain ⟨u8, e8⟩ := hdep ⟨8, .data⟩ (by simp) rfl _ 23 rfl rfl
          rw [show vals 8 = .pointer (some ⟨g, o_ + k * 10 + 8, none⟩) from e8 rfl rfl y (KeptP.refl _ _)] at u8
          have cc := (hcx.later hX).2 8 _ xr
          unfold Oper.wp
          simp [execOp, go_sem, u8, cc]
          exact cameF _ rfl (Below.refl _ _) (fun _ _ => rfl)
        | 10, ho, hA, hK =>
          simp only [List.getElem?_cons_succ, List.getElem?_cons_zero, Option.some.injEq] at ho
          subst ho
          obtain ⟨u4, e4⟩ := hdep ⟨4, .data⟩ (by simp) rfl _ 19 rfl rfl
          rw [show vals 4 = .agg (cv x.a) from e4 rfl rfl y (KeptP.refl _ _)] at u4
          obtain ⟨u9, e9⟩ := hdep ⟨9, .data⟩ (by simp) rfl _ 24 rfl rfl
          rw [show vals 9 = .int .i64 x.r from e9 rfl rfl y (KeptP.refl _ _)] at u9
          unfold Oper.wp
          simp [go_sem, u4, u9]
          refine (tick_any x.a x.r y (L.below hX) hkx').mono ?_
          rintro e x1 ⟨ev, rfl, hev, hnew, hb1⟩
          exact cameF _ rfl hb1 (fun x'' hk => ⟨ev, rfl, hev.keptP hnew (fun s hs => (hS s hs).1) hk⟩)
        | 11, ho, hA, hK =>
          simp only [List.getElem?_cons_succ, List.getElem?_cons_zero, Option.some.injEq] at ho
          subst ho
          obtain ⟨u10, e10⟩ := hdep ⟨10, .data⟩ (by simp) rfl _ 25 rfl rfl
          unfold Oper.wp
          simp [execOp, go_sem, u10]
          exact cameF _ rfl (Below.refl _ _) (fun x'' hk => e10 rfl rfl x'' hk)
        | 12, ho, hA, hK =>
          simp only [List.getElem?_cons_succ, List.getElem?_cons_zero, Option.some.injEq] at ho
          subst ho
          obtain ⟨u11, e11⟩ := hdep ⟨11, .data⟩ (by simp) rfl _ 14 rfl rfl
          obtain ⟨ev, e0, _⟩ := e11 rfl rfl y (KeptP.refl _ _)
          rw [e0] at u11
          unfold Oper.wp
          simp [execOp, go_sem, u11]
          exact cameF _ rfl (Below.refl _ _) (fun _ _ => rfl)
        | 13, ho, hA, hK =>
          simp only [List.getElem?_cons_succ, List.getElem?_cons_zero, Option.some.injEq] at ho
          subst ho
          obtain ⟨u11, e11⟩ := hdep ⟨11, .data⟩ (by simp) rfl _ 14 rfl rfl
          obtain ⟨ev, e0, _⟩ := e11 rfl rfl y (KeptP.refl _ _)
          rw [e0] at u11
          unfold Oper.wp
          simp [execOp, go_sem, u11]
          exact cameF _ rfl (Below.refl _ _) (fun x'' hk => by obtain ⟨ev', e', h'⟩ := e11 rfl rfl x'' hk; have e2 := e0.symm.trans e'; cases e2; exact h')
        | 14, ho, hA, hK => cases hA
        | 15, ho, hA, hK => cases hK
        | 16, ho, hA, hK =>
          simp only [List.getElem?_cons_succ, List.getElem?_cons_zero, Option.some.injEq] at ho
          subst ho
          obtain ⟨u13, e13⟩ := hdep ⟨13, .data⟩ (by simp) rfl _ 27 rfl rfl
          unfold Oper.wp
          simp [execOp, go_sem, u13]
          exact cameF _ rfl (Below.refl _ _) (fun x'' hk => e13 rfl rfl x'' hk)
        | i + 17, ho, hA, hK => simp at ho
      · intro i o t n ho hA q y
        match i, ho, hA with
        | 14, ho, hA =>
          cases hA
          simp only [List.getElem?_cons_succ, List.getElem?_cons_zero, Option.some.injEq] at ho
          subst ho
          unfold Oper.wp
          simp [execOp, go_sem]
          exact ⟨_, rfl, rfl, rfl⟩
        | 0, ho, hA | 1, ho, hA | 2, ho, hA | 3, ho, hA | 4, ho, hA | 5, ho, hA | 6, ho, hA | 7, ho, hA | 8, ho, hA | 9, ho, hA | 10, ho, hA | 11, ho, hA | 12, ho, hA | 13, ho, hA | 15, ho, hA => cases hA
        | n + 16, ho, hA => cases hA
      · intro i o of os f s n g' t df ds sv ho hK hA hf hs hdf hds q y cs0 sf ss hR hg hn
        match i, ho, hK with
        | 15, ho, hK =>
          cases hK
          cases hA
          simp only [List.getElem?_cons_succ, List.getElem?_cons_zero, Option.some.injEq] at ho hf hs
          subst ho hf hs
          cases hdf
          cases hds
          obtain rfl : sv = .agg (cv (tkz x.a x.r)) := hR
          have hz := tkz_len x.r hxl
          exact wp_store_row _ _ _ rfl g' (cv (tkz x.a x.r)) (by simp [Act.eval, sf]) (by simp [Act.eval, ss]) _ cs0 hg (ck_size hz) (by rw [hn, cv_size, hz]) (by simp [cv, Value.oneCell']) ⟨undef, cv (tkz x.a x.r), rfl, rfl, by rw [cv_size, hz], rfl⟩
        | 0, ho, hK | 1, ho, hK | 2, ho, hK | 3, ho, hK | 4, ho, hK | 5, ho, hK | 6, ho, hK | 7, ho, hK | 8, ho, hK | 9, ho, hK | 10, ho, hK | 11, ho, hK | 12, ho, hK | 13, ho, hK | 14, ho, hK => cases hK
        | n + 16, ho, hK => cases hK
      · intro vals y hX hR hBk
        obtain ⟨b4, cs, e14, _, h14, _, hst⟩ := hBk 14 _ _ (by decide) rfl
        have e12 : vals 12 = .agg (cv (tkz x.a x.r)) := hR 12 (by decide) rfl rfl
        have h16 : TE ad (tkOk x.a x.r) x.r (vals 16) y := hR 16 (by decide) rfl rfl
        have ecs : cs = cv (tkz x.a x.r) := by have := (hst 15 12 (by decide) rfl).symm.trans e12; cases this; rfl
        subst ecs
        simp only [putAll, List.setIfInBounds_toArray, List.set_cons_succ, List.set_cons_zero, e14]
        go_wp2
        go_meet
        case rel => exact ⟨b4, rfl, ⟨h14, hzl⟩, h16, hX⟩
    case rest =>
      obtain ⟨b4, rfl, h4, hTE, hX4⟩ := hcut
      replace hAx := hAx.later hX4
      replace hcx := hcx.later hX4
      replace L := L.below hX4
      replace hB := bgo hB hX4
      clear hX4
      go_upto_region 5 with fail
      go_cut [6, 7] from 8 to 105 (fun s6 s7 wx => ∃ b6 b7 cs, s6 = .pointer (some ⟨b6, 0, none⟩) ∧ s7 = .pointer (some ⟨b7, 0, none⟩) ∧ CkAt b6 (tkz x.a x.r) wx ∧ RowAt b7 cs 38 wx ∧ cs.size = 3 ∧ TN (tkOk x.a x.r) x.r (.agg cs) wx ∧ Below wc.heap.size wc wx)
      case first =>
        refine wp_region_float (by kernel_rfl) (by kernel_rfl) (fun i v y => match i with
          | 0 => v = .slice (some ⟨g, o_, none⟩) l.length c
          | 1 => v = .int .i64 (k : Int)
          | 2 => v = .pointer (some ⟨g, o_ + k * 10, none⟩)
          | 3 => v = .pointer (some ⟨g, o_ + k * 10, none⟩)
          | 4 => v = .agg (cv x.a)
          | 5 => v = .slice (some ⟨g, o_, none⟩) l.length c
          | 6 => v = .int .i64 (k : Int)
          | 7 => v = .pointer (some ⟨g, o_ + k * 10, none⟩)
          | 8 => v = .pointer (some ⟨g, o_ + k * 10 + 8, none⟩)
          | 9 => v = .int .i64 x.r
          | 10 => ∃ ev, v = .tuple #[.agg (cv (tkz x.a x.r)), ev] ∧ TN (tkOk x.a x.r) x.r ev y
          | 11 => ∃ ev, v = .tuple #[.agg (cv (tkz x.a x.r)), ev] ∧ TN (tkOk x.a x.r) x.r ev y
          | 12 => v = .agg (cv (tkz x.a x.r))
          | 13 => TN (tkOk x.a x.r) x.r v y
          | _ => True) (fun i => match i with | 14 => some (23, 8) | 15 => some (38, 3) | _ => none) (fun i => match i with | 16 => some (14, 12) | 17 => some (15, 13) | _ => none) ?_ ?_ ?_ ?_ ?_ ?_ ?_
        · intro kk f s h
          match kk, h with
          | 16, h => cases h; exact ⟨rfl, (by intro h; cases h), rfl, rfl, _, _, _, _, _, ⟨14, .data⟩, ⟨12, .data⟩, rfl, rfl, rfl, rfl, rfl, (by simp), rfl, rfl, (by simp), rfl, rfl⟩
          | 17, h => cases h; exact ⟨rfl, (by intro h; cases h), rfl, rfl, _, _, _, _, _, ⟨15, .data⟩, ⟨13, .data⟩, rfl, rfl, rfl, rfl, rfl, (by simp), rfl, rfl, (by simp), rfl, rfl⟩
          | 0, h | 1, h | 2, h | 3, h | 4, h | 5, h | 6, h | 7, h | 8, h | 9, h | 10, h | 11, h | 12, h | 13, h | 14, h | 15, h => cases h
          | n + 18, h => cases h
        · intro i t n h
          match i, h with
          | 14, h => rfl
          | 15, h => rfl
          | 0, h | 1, h | 2, h | 3, h | 4, h | 5, h | 6, h | 7, h | 8, h | 9, h | 10, h | 11, h | 12, h | 13, h => cases h
          | n + 16, h => cases h
        · intro p q f s s' h1 h2
          have e1 : (p = 16 ∧ f = 14) ∨ (p = 17 ∧ f = 15) := by
            match p, h1 with
            | 16, h => cases h; simp
            | 17, h => cases h; simp
            | 0, h | 1, h | 2, h | 3, h | 4, h | 5, h | 6, h | 7, h | 8, h | 9, h | 10, h | 11, h | 12, h | 13, h | 14, h | 15, h => cases h
            | n + 18, h => cases h
          have e2 : (q = 16 ∧ f = 14) ∨ (q = 17 ∧ f = 15) := by
            match q, h2 with
            | 16, h => cases h; simp
            | 17, h => cases h; simp
            | 0, h | 1, h | 2, h | 3, h | 4, h | 5, h | 6, h | 7, h | 8, h | 9, h | 10, h | 11, h | 12, h | 13, h | 14, h | 15, h => cases h
            | n + 18, h => cases h
          omega
        · intro i o ho hA hK q y vals S hX hS hdep hoth
          have t0 : q.tmps[0]? = some (.slice (some ⟨g, o_, none⟩) l.length c) := by rw [hoth 0 (by kernel_rfl)]; rfl
          have t3 : q.tmps[3]? = some (.int .i64 (k : Int)) := by rw [hoth 3 (by kernel_rfl)]; rfl
          match i, ho, hA, hK with
          | 0, ho, hA, hK =>
            simp only [List.getElem?_cons_zero, Option.some.injEq] at ho
            subst ho
            unfold Oper.wp
            simp [execOp, go_sem, t0]
            exact cameF _ rfl (Below.refl _ _) (fun _ _ => rfl)
          | 1, ho, hA, hK =>
            simp only [List.getElem?_cons_succ, List.getElem?_cons_zero, Option.some.injEq] at ho
            subst ho
            unfold Oper.wp
            simp [execOp, go_sem, t3]
            exact cameF _ rfl (Below.refl _ _) (fun _ _ => rfl)
          | 2, ho, hA, hK =>
            simp only [List.getElem?_cons_succ, List.getElem?_cons_zero, Option.some.injEq] at ho
            subst ho
            obtain ⟨u0, e0⟩ := hdep ⟨0, .data⟩ (by simp) rfl _ 29 rfl rfl
            rw [show vals 0 = .slice (some ⟨g, o_, none⟩) l.length c from e0 rfl rfl y (KeptP.refl _ _)] at u0
            obtain ⟨u1, e1⟩ := hdep ⟨1, .data⟩ (by simp) rfl _ 30 rfl rfl
            rw [show vals 1 = .int .i64 (k : Int) from e1 rfl rfl y (KeptP.refl _ _)] at u1
            unfold Oper.wp
            simp [execOp, go_sem, u0, u1, hki]
            exact cameF _ rfl (Below.refl _ _) (fun _ _ => rfl)
          | 3, ho, hA, hK =>
            simp only [List.getElem?_cons_succ, List.getElem?_cons_zero, Option.some.injEq] at ho
            subst ho
            obtain ⟨u2, e2⟩ := hdep ⟨2, .data⟩ (by simp) rfl _ 31 rfl rfl
            rw [show vals 2 = .pointer (some ⟨g, o_ + k * 10, none⟩) from e2 rfl rfl y (KeptP.refl _ _)] at u2
            unfold Oper.wp
            simp [execOp, go_sem, u2]
            exact cameF _ rfl (Below.refl _ _) (fun _ _ => rfl)
          | 4, ho, hA, hK =>
            simp only [List.getElem?_cons_succ, List.getElem?_cons_zero, Option.some.injEq] at ho
            subst ho
            obtain ⟨u3, e3⟩ := hdep ⟨3, .data⟩ (by simp) rfl _ 32 rfl rfl
            rw [show vals 3 = .pointer (some ⟨g, o_ + k * 10, none⟩) from e3 rfl rfl y (KeptP.refl _ _)] at u3
            exact opw_loadIn _ rfl (by simp [Act.eval, u3]) (hAx.later hX) hxl (cameF _ rfl (Below.refl _ _) (fun _ _ => rfl))
          | 5, ho, hA, hK =>
            simp only [List.getElem?_cons_succ, List.getElem?_cons_zero, Option.some.injEq] at ho
            subst ho
            unfold Oper.wp
            simp [execOp, go_sem, t0]
            exact cameF _ rfl (Below.refl _ _) (fun _ _ => rfl)
          | 6, ho, hA, hK =>
            simp only [List.getElem?_cons_succ, List.getElem?_cons_zero, Option.some.injEq] at ho
            subst ho
            unfold Oper.wp
            simp [execOp, go_sem, t3]
            exact cameF _ rfl (Below.refl _ _) (fun _ _ => rfl)
          | 7, ho, hA, hK =>
            simp only [List.getElem?_cons_succ, List.getElem?_cons_zero, Option.some.injEq] at ho
            subst ho
            obtain ⟨u5, e5⟩ := hdep ⟨5, .data⟩ (by simp) rfl _ 34 rfl rfl
            rw [show vals 5 = .slice (some ⟨g, o_, none⟩) l.length c from e5 rfl rfl y (KeptP.refl _ _)] at u5
            obtain ⟨u6, e6⟩ := hdep ⟨6, .data⟩ (by simp) rfl _ 35 rfl rfl
            rw [show vals 6 = .int .i64 (k : Int) from e6 rfl rfl y (KeptP.refl _ _)] at u6
            unfold Oper.wp
            simp [execOp, go_sem, u5, u6, hki]
            exact cameF _ rfl (Below.refl _ _) (fun _ _ => rfl)
          | 8, ho, hA, hK =>
            simp only [List.getElem?_cons_succ, List.getElem?_cons_zero, Option.some.injEq] at ho
            subst ho
            obtain ⟨u7, e7⟩ := hdep ⟨7, .data⟩ (by simp) rfl _ 36 rfl rfl
            rw [show vals 7 = .pointer (some ⟨g, o_ + k * 10, none⟩) from e7 rfl rfl y (KeptP.refl _ _)] at u7
            unfold Oper.wp
            simp [execOp, go_sem, u7]
            exact cameF _ rfl (Below.refl _ _) (fun _ _ => rfl)
          | 9, ho, hA, hK =>
            simp only [List.getElem?_cons_succ, List.getElem?_cons_zero, Option.some.injEq] at ho
            subst ho
            obtain ⟨u8, e8⟩ := hdep ⟨8, .data⟩ (by simp) rfl _ 37 rfl rfl
            rw [show vals 8 = .pointer (some ⟨g, o_ + k * 10 + 8, none⟩) from e8 rfl rfl y (KeptP.refl _ _)] at u8
            have cc := (hcx.later hX).2 8 _ xr
            unfold Oper.wp
            simp [execOp, go_sem, u8, cc]
            exact cameF _ rfl (Below.refl _ _) (fun _ _ => rfl)
          | 10, ho, hA, hK =>
            simp only [List.getElem?_cons_succ, List.getElem?_cons_zero, Option.some.injEq] at ho
            subst ho
            obtain ⟨u4, e4⟩ := hdep ⟨4, .data⟩ (by simp) rfl _ 33 rfl rfl
            rw [show vals 4 = .agg (cv x.a) from e4 rfl rfl y (KeptP.refl _ _)] at u4
            obtain ⟨u9, e9⟩ := hdep ⟨9, .data⟩ (by simp) rfl _ 38 rfl rfl
            rw [show vals 9 = .int .i64 x.r from e9 rfl rfl y (KeptP.refl _ _)] at u9
            unfold Oper.wp
            simp [go_sem, u4, u9]
            refine (refTick_any x.a x.r y hkx').mono ?_
            rintro e x1 ⟨ev, rfl, hev, hnew, hb1⟩
            exact cameF _ rfl hb1 (fun x'' hk => ⟨ev, rfl, hev.keptP hnew (fun s hs => (hS s hs).1) hk⟩)
          | 11, ho, hA, hK =>
            simp only [List.getElem?_cons_succ, List.getElem?_cons_zero, Option.some.injEq] at ho
            subst ho
            obtain ⟨u10, e10⟩ := hdep ⟨10, .data⟩ (by simp) rfl _ 39 rfl rfl
            unfold Oper.wp
            simp [execOp, go_sem, u10]
            exact cameF _ rfl (Below.refl _ _) (fun x'' hk => e10 rfl rfl x'' hk)
          | 12, ho, hA, hK =>
            simp only [List.getElem?_cons_succ, List.getElem?_cons_zero, Option.some.injEq] at ho
            subst ho
            obtain ⟨u11, e11⟩ := hdep ⟨11, .data⟩ (by simp) rfl _ 28 rfl rfl
            obtain ⟨ev, e0, _⟩ := e11 rfl rfl y (KeptP.refl _ _)
            rw [e0] at u11
            unfold Oper.wp
            simp [execOp, go_sem, u11]
            exact cameF _ rfl (Below.refl _ _) (fun _ _ => rfl)
          | 13, ho, hA, hK =>
            simp only [List.getElem?_cons_succ, List.getElem?_cons_zero, Option.some.injEq] at ho
            subst ho
            obtain ⟨u11, e11⟩ := hdep ⟨11, .data⟩ (by simp) rfl _ 28 rfl rfl
            obtain ⟨ev, e0, _⟩ := e11 rfl rfl y (KeptP.refl _ _)
            rw [e0] at u11
            unfold Oper.wp
            simp [execOp, go_sem, u11]
            exact cameF _ rfl (Below.refl _ _) (fun x'' hk => by obtain ⟨ev', e', h'⟩ := e11 rfl rfl x'' hk; have e2 := e0.symm.trans e'; cases e2; exact h')
          | 14, ho, hA, hK => cases hA
          | 15, ho, hA, hK => cases hA
          | 16, ho, hA, hK => cases hK
          | 17, ho, hA, hK => cases hK
          | i + 18, ho, hA, hK => simp at ho
        · intro i o t n ho hA q y
          match i, ho, hA with
          | 14, ho, hA =>
            cases hA
            simp only [List.getElem?_cons_succ, List.getElem?_cons_zero, Option.some.injEq] at ho
            subst ho
            unfold Oper.wp
            simp [execOp, go_sem]
            exact ⟨_, rfl, rfl, rfl⟩
          | 15, ho, hA =>
            cases hA
            simp only [List.getElem?_cons_succ, List.getElem?_cons_zero, Option.some.injEq] at ho
            subst ho
            unfold Oper.wp
            simp [execOp, go_sem]
            exact ⟨_, rfl, rfl, rfl⟩
          | 0, ho, hA | 1, ho, hA | 2, ho, hA | 3, ho, hA | 4, ho, hA | 5, ho, hA | 6, ho, hA | 7, ho, hA | 8, ho, hA | 9, ho, hA | 10, ho, hA | 11, ho, hA | 12, ho, hA | 13, ho, hA => cases hA
          | n + 16, ho, hA => cases hA
        · intro i o of os f s n g' t df ds sv ho hK hA hf hs hdf hds q y cs0 sf ss hR hg hn
          match i, ho, hK with
          | 16, ho, hK =>
            cases hK
            cases hA
            simp only [List.getElem?_cons_succ, List.getElem?_cons_zero, Option.some.injEq] at ho hf hs
            subst ho hf hs
            cases hdf
            cases hds
            obtain rfl : sv = .agg (cv (tkz x.a x.r)) := hR
            have hz := tkz_len x.r hxl
            exact wp_store_row _ _ _ rfl g' (cv (tkz x.a x.r)) (by simp [Act.eval, sf]) (by simp [Act.eval, ss]) _ cs0 hg (ck_size hz) (by rw [hn, cv_size, hz]) (by simp [cv, Value.oneCell']) ⟨undef, cv (tkz x.a x.r), rfl, rfl, by rw [cv_size, hz], rfl⟩
          | 17, ho, hK =>
            cases hK
            cases hA
            simp only [List.getElem?_cons_succ, List.getElem?_cons_zero, Option.some.injEq] at ho hf hs
            subst ho hf hs
            cases hdf
            cases hds
            obtain ⟨code, a1, n1, c1, a2, n2, c2, rfl⟩ := TN.nov hR
            exact wp_store_row _ _ _ rfl g' (nov code a1 n1 c1 a2 n2 c2) (by simp [Act.eval, sf]) (by simp [Act.eval, ss]) _ cs0 hg no_size (by rw [hn]; rfl) (by simp [nov, Value.oneCell']) ⟨undef, nov code a1 n1 c1 a2 n2 c2, rfl, rfl, rfl, rfl⟩
          | 0, ho, hK | 1, ho, hK | 2, ho, hK | 3, ho, hK | 4, ho, hK | 5, ho, hK | 6, ho, hK | 7, ho, hK | 8, ho, hK | 9, ho, hK | 10, ho, hK | 11, ho, hK | 12, ho, hK | 13, ho, hK | 14, ho, hK | 15, ho, hK => cases hK
          | n + 18, ho, hK => cases hK
        · intro vals y hX hR hBk
          obtain ⟨b6, cs6, e14, _, h14, _, hst6⟩ := hBk 14 _ _ (by decide) rfl
          obtain ⟨b7, cs7, e15, _, h15, n15, hst7⟩ := hBk 15 _ _ (by decide) rfl
          have e12 : vals 12 = .agg (cv (tkz x.a x.r)) := hR 12 (by decide) rfl rfl
          have h13 : TN (tkOk x.a x.r) x.r (vals 13) y := hR 13 (by decide) rfl rfl
          have ecs : cs6 = cv (tkz x.a x.r) := by have := (hst6 16 12 (by decide) rfl).symm.trans e12; cases this; rfl
          rw [hst7 17 13 (by decide) rfl] at h13
          subst ecs
          simp only [putAll, List.setIfInBounds_toArray, List.set_cons_succ, List.set_cons_zero, e14, e15]
          go_wp2
          go_meet
          case rel => exact ⟨b6, b7, cs7, rfl, rfl, ⟨h14, hzl⟩, h15, n15, h13, hX⟩
      case rest =>
        obtain ⟨b6, b7, cs, rfl, rfl, h6, h7, hcs, hTN, hX6⟩ := hcut
        replace hAx := hAx.later hX6
        replace hcx := hcx.later hX6
        replace L := L.below hX6
        replace hB := bgo hB hX6
        replace h4 := h4.later hX6
        replace hTE := hTE.later hX6
        clear hX6
        have hzk := tkz_ck (r := x.r) hkx'
        have gd := ck_guard
        have RF : Hid (∀ w', Below wc.heap.size wc w' → Calls Tryd.prog 20 #[u5, .agg cs] w' fun e w'' => e = .returned (.bool true) ∧ Below w'.heap.size w' w'') := fun w' hb => refusedT (L.below hb) (hTE.later hb) (hTN.later hb)
        obtain ⟨code, a1, n1, c1, a2, n2, c2, ecs⟩ := TN.nov hTN
        clear hTN
        obtain ⟨ok, hok⟩ : ∃ ok, tkOk x.a x.r = ok := ⟨_, rfl⟩
        have TC : Hid (ok = true → cmp x.a (tkz x.a x.r) = 1 ∧ lagC x.a (tkz x.a x.r) = 1) := fun h => ⟨tk_cmp hxl (hok.trans h), tk_lag hxl (hok.trans h)⟩
        have q1 := eqIn_ck (tkz x.a x.r) (tkz x.a x.r) hzl hzl
        obtain ⟨z, hz⟩ : ∃ z, tkz x.a x.r = z := ⟨_, rfl⟩
        rw [hz] at h4 h6 hzl hzk TC q1
        rw [hok] at hTE
        clear hz hok
        have s1 : (z == z) = true := by simp
        cases ecs
        cases ok with
        | true =>
          obtain rfl : u5 = .nilIface := hTE
          obtain ⟨t1, t2⟩ := TC.out rfl
          clear TC
          go_upto_region 6 with fail
          refine wp_region_cls0 ?_
          repeat (first | go_big_quiet_skip | (go_big_quiet_want; first | (refine quiet_load_ck _ rfl rfl (cls_ck h4) ?_; simp only [Act.put, List.setIfInBounds_toArray, List.set_cons_succ, List.set_cons_zero]; go_big_quiet_on) | (refine quiet_load_ck _ rfl rfl (cls_ck h6) ?_; simp only [Act.put, List.setIfInBounds_toArray, List.set_cons_succ, List.set_cons_zero]; go_big_quiet_on) | (refine quiet_load_in _ _ rfl rfl h7.in.cls Tryd.underlying38 rfl no_size ?_; simp only [Act.put, List.setIfInBounds_toArray, List.set_cons_succ, List.set_cons_zero]; go_big_quiet_on) | (go_big_quiet_op; first | go_big_quiet_on | go_big_quiet_call ((go_at_call 20; exact cls_of (RF.out _ (wOf_below _)))))))
          refine wpQuiet_nil ?_
          rintro w1 ⟨s1, e1⟩
          have hb1 := wOf_below s1
          rw [← e1] at hb1
          clear e1 s1
          replace h4 := h4.later hb1
          replace h6 := h6.later hb1
          replace hAx := hAx.later hb1
          replace hcx := hcx.later hb1
          replace hB := bgo hB hb1
          clear hb1
          clear RF h7
          go_upto_region 8 with fail
          have c8 : ∀ s : Wld w1, (wOf s).cell? ⟨g, o_ + k * 10 + 8, none⟩ = some (.int .i64 x.r) := fun s => (hcx.later (wOf_below s)).2 8 _ xr
          have c9 : ∀ s : Wld w1, (wOf s).cell? ⟨g, o_ + k * 10 + 9, none⟩ = some (.int .i64 x.n) := fun s => (hcx.later (wOf_below s)).2 9 _ xn
          refine wp_region_cls (by kernel_rfl) (by kernel_rfl) ?_
          repeat (first | go_big_quiet_skip | (go_big_quiet_want; first | (refine quiet_load_ck _ rfl rfl (cls_ck h4) ?_; simp only [Act.put, List.setIfInBounds_toArray, List.set_cons_succ, List.set_cons_zero]; go_big_quiet_on) | (refine quiet_load_ck _ rfl rfl (cls_ck h6) ?_; simp only [Act.put, List.setIfInBounds_toArray, List.set_cons_succ, List.set_cons_zero]; go_big_quiet_on) | (refine quiet_load_in _ _ rfl rfl hAx.cls Tryd.underlying23 rfl (ck_size hxl) ?_; simp only [Act.put, List.setIfInBounds_toArray, List.set_cons_succ, List.set_cons_zero]; go_big_quiet_on) | (go_big_quiet_op; first | go_big_quiet_on | go_big_quiet_call ((first | (go_at_call 21; exact cls_of (has_any _ _ _ _ hxl)) | (go_at_call 22; exact cls_of (refHas_any _ _ _ _ hxl)))))))
          refine wpQuiet_nil ?_
          rintro w1 ⟨s1, e1⟩
          have hb1 := wOf_below s1
          rw [← e1] at hb1
          clear e1 s1
          replace h4 := h4.later hb1
          replace h6 := h6.later hb1
          replace hAx := hAx.later hb1
          replace hB := bgo hB hb1
          clear hb1
          clear c8 c9
          go_upto_region 10 with fail
          refine wp_region_cls (by kernel_rfl) (by kernel_rfl) ?_
          repeat (first | go_big_quiet_skip | (go_big_quiet_want; first | (refine quiet_load_ck _ rfl rfl (cls_ck h4) ?_; simp only [Act.put, List.setIfInBounds_toArray, List.set_cons_succ, List.set_cons_zero]; go_big_quiet_on) | (refine quiet_load_ck _ rfl rfl (cls_ck h6) ?_; simp only [Act.put, List.setIfInBounds_toArray, List.set_cons_succ, List.set_cons_zero]; go_big_quiet_on) | (refine quiet_load_in _ _ rfl rfl hAx.cls Tryd.underlying23 rfl (ck_size hxl) ?_; simp only [Act.put, List.setIfInBounds_toArray, List.set_cons_succ, List.set_cons_zero]; go_big_quiet_on) | (go_big_quiet_op; first | go_big_quiet_on | go_big_quiet_call ((first | (go_at_call 11; exact cls_of (cmp_is t1 _ hxl hzl)) | (go_at_call 23; exact cls_of (lagT_is t2 _ hkx' hzk)))))))
          refine wpQuiet_nil ?_
          rintro w1 ⟨s1, e1⟩
          have hb1 := wOf_below s1
          rw [← e1] at hb1
          clear e1 s1
          replace h4 := h4.later hb1
          replace h6 := h6.later hb1
          replace hAx := hAx.later hb1
          replace hB := bgo hB hb1
          clear hb1
          go_wp2
          go_roundw
          case rel => exact ⟨k + 1, by go_num, by omega, hB⟩
          case measure => simp [intOf]; omega
        | false =>
          obtain ⟨bb, rfl, hbb⟩ := hTE
          clear hbb
          clear TC
          go_upto_region 6 with fail
          refine wp_region_cls0 ?_
          repeat (first | go_big_quiet_skip | (go_big_quiet_want; first | (refine quiet_load_ck _ rfl rfl (cls_ck h4) ?_; simp only [Act.put, List.setIfInBounds_toArray, List.set_cons_succ, List.set_cons_zero]; go_big_quiet_on) | (refine quiet_load_ck _ rfl rfl (cls_ck h6) ?_; simp only [Act.put, List.setIfInBounds_toArray, List.set_cons_succ, List.set_cons_zero]; go_big_quiet_on) | (refine quiet_load_in _ _ rfl rfl h7.in.cls Tryd.underlying38 rfl no_size ?_; simp only [Act.put, List.setIfInBounds_toArray, List.set_cons_succ, List.set_cons_zero]; go_big_quiet_on) | (go_big_quiet_op; first | go_big_quiet_on | go_big_quiet_call ((go_at_call 20; exact cls_of (RF.out _ (wOf_below _)))))))
          refine wpQuiet_nil ?_
          rintro w1 ⟨s1, e1⟩
          have hb1 := wOf_below s1
          rw [← e1] at hb1
          clear e1 s1
          replace h4 := h4.later hb1
          replace h6 := h6.later hb1
          replace hAx := hAx.later hb1
          replace hcx := hcx.later hb1
          replace hB := bgo hB hb1
          clear hb1
          clear RF h7
          go_upto_region 8 with fail
          have c8 : ∀ s : Wld w1, (wOf s).cell? ⟨g, o_ + k * 10 + 8, none⟩ = some (.int .i64 x.r) := fun s => (hcx.later (wOf_below s)).2 8 _ xr
          have c9 : ∀ s : Wld w1, (wOf s).cell? ⟨g, o_ + k * 10 + 9, none⟩ = some (.int .i64 x.n) := fun s => (hcx.later (wOf_below s)).2 9 _ xn
          refine wp_region_cls (by kernel_rfl) (by kernel_rfl) ?_
          repeat (first | go_big_quiet_skip | (go_big_quiet_want; first | (refine quiet_load_ck _ rfl rfl (cls_ck h4) ?_; simp only [Act.put, List.setIfInBounds_toArray, List.set_cons_succ, List.set_cons_zero]; go_big_quiet_on) | (refine quiet_load_ck _ rfl rfl (cls_ck h6) ?_; simp only [Act.put, List.setIfInBounds_toArray, List.set_cons_succ, List.set_cons_zero]; go_big_quiet_on) | (refine quiet_load_in _ _ rfl rfl hAx.cls Tryd.underlying23 rfl (ck_size hxl) ?_; simp only [Act.put, List.setIfInBounds_toArray, List.set_cons_succ, List.set_cons_zero]; go_big_quiet_on) | (go_big_quiet_op; first | go_big_quiet_on | go_big_quiet_call ((first | (go_at_call 21; exact cls_of (has_any _ _ _ _ hxl)) | (go_at_call 22; exact cls_of (refHas_any _ _ _ _ hxl)))))))
          refine wpQuiet_nil ?_
          rintro w1 ⟨s1, e1⟩
          have hb1 := wOf_below s1
          rw [← e1] at hb1
          clear e1 s1
          replace h4 := h4.later hb1
          replace h6 := h6.later hb1
          replace hAx := hAx.later hb1
          replace hB := bgo hB hb1
          clear hb1
          clear c8 c9
          go_upto_region 10 with fail
          refine wp_region_cls (by kernel_rfl) (by kernel_rfl) ?_
          repeat (first | go_big_quiet_skip | (go_big_quiet_want; first | (refine quiet_load_ck _ rfl rfl (cls_ck h4) ?_; simp only [Act.put, List.setIfInBounds_toArray, List.set_cons_succ, List.set_cons_zero]; go_big_quiet_on) | (refine quiet_load_ck _ rfl rfl (cls_ck h6) ?_; simp only [Act.put, List.setIfInBounds_toArray, List.set_cons_succ, List.set_cons_zero]; go_big_quiet_on) | (refine quiet_load_in _ _ rfl rfl hAx.cls Tryd.underlying23 rfl (ck_size hxl) ?_; simp only [Act.put, List.setIfInBounds_toArray, List.set_cons_succ, List.set_cons_zero]; go_big_quiet_on) | (go_big_quiet_op; first | go_big_quiet_on | go_big_quiet_call ((fail)))))
          refine wpQuiet_nil ?_
          rintro w1 ⟨s1, e1⟩
          have hb1 := wOf_below s1
          rw [← e1] at hb1
          clear e1 s1
          replace h4 := h4.later hb1
          replace h6 := h6.later hb1
          replace hAx := hAx.later hb1
          replace hB := bgo hB hb1
          clear hb1
          go_wp2
          go_roundw
          case rel => exact ⟨k + 1, by go_num, by omega, hB⟩
          case measure => simp [intOf]; omega
  · have hki : ¬ (k : Int) < (l.length : Int) := by omega
    go_wp2_with (go_at_call 17; refine (wakesC_ok _).mono ?_; rintro e w1 ⟨rfl, hb1⟩)
    go_ret
    exact ⟨rfl, bgo hB hb1⟩
end Go.Proofs.YtceahohcmhbkmaaDoor
