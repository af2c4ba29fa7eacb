
/-
  Package flatten: joined, Join.
-/
import Derived.Test.YtfgcljpiidhfpaaDoorFl11
namespace Go.Proofs.YtfgcljpiidhfpaaDoor
open Go.RowKit
set_option maxRecDepth 100000

theorem three_boxes (w : World) (a b c : Array Value) (t : TypeId) :
    RowAt w.heap.size a t (((w.alloc (.cells a t)).alloc (.cells b t)).alloc (.cells c t)) ∧ RowAt (w.heap.size + 1) b t (((w.alloc (.cells a t)).alloc (.cells b t)).alloc (.cells c t)) ∧ RowAt (w.heap.size + 2) c t (((w.alloc (.cells a t)).alloc (.cells b t)).alloc (.cells c t)) ∧ Below w.heap.size w (((w.alloc (.cells a t)).alloc (.cells b t)).alloc (.cells c t)) := by
  obtain ⟨h1, h2, h3⟩ := two_boxes w a b t
  have h4 := RowAt.news ((w.alloc (.cells a t)).alloc (.cells b t)) c t
  simp only [World.size_alloc] at h4
  exact ⟨h1.al _, h2.al _, h4, bgo h3 (below_one _ _)⟩
theorem max_mx (a b : Int) : max a b = mx a b := by unfold mx; split <;> omega
theorem RowAt.subRs {b : Nat} {t : TypeId} {w : World} {l : List Rnd} (h : RowAt b (cv (rs l)) t w) (ok : OkL l) {c : Nat} {r : Rnd} (hr : l[c]? = some r) : CsIn b (c * 18) (cv (rc r)) w := by
  have hc : c < 8 := by have := (List.getElem?_eq_some_iff.1 hr).1; rw [ok.1] at this; exact this
  have := h.subI (c * 18) 18 (by rw [rs_len ok]; omega)
  rw [sub_rs ok hr] at this
  exact this
theorem rc_putCut {r : Rnd} (h : r.Ok) {c : List Int} (hc : c.length = 8) : putI (rc r) 1 c = rc { r with cut := c } := by
  have hl : 1 + c.length ≤ (rc r).length := by rw [hc, rc_len h]; decide
  have h2 : Rnd.Ok { r with cut := c } := ⟨hc, h.2⟩
  refine en_ext (by rw [putI_len hl, rc_len h, rc_len h2]) fun k hk => ?_
  rw [putI_len hl, rc_len h] at hk
  rw [en_putI hl, hc]
  by_cases h0 : k < 1
  · rw [if_pos h0]
    obtain rfl : k = 0 := by omega
    rfl
  · rw [if_neg h0]
    by_cases h9 : k < 1 + 8
    · rw [if_pos h9]
      obtain ⟨j, rfl⟩ : ∃ j, k = 1 + j := ⟨k - 1, by omega⟩
      rw [rc_cut h2 (by omega), Nat.add_sub_cancel_left]
    · rw [if_neg h9]
      by_cases h17 : k < 17
      · obtain ⟨j, rfl⟩ : ∃ j, k = 9 + j := ⟨k - 9, by omega⟩
        rw [rc_vot h (by omega), rc_vot h2 (by omega)]
      · obtain rfl : k = 17 := by omega
        rw [rc_dec h, rc_dec h2]

set_option maxHeartbeats 1000000 in
theorem joined_gt {a b : Rnd} (ha : a.Ok) (hb : b.Ok) (w : World) (hj : b.num < a.num) :
    Calls Tryd.prog 46 #[.agg (cv (rc a)), .agg (cv (rc b))] w fun e w' => e = .returned (.agg (cv (rc (joinR a b)))) ∧ Below w.heap.size w w' := by
  obtain ⟨r1, r2, r3, hB⟩ := three_boxes w (cv (rc a)) (cv (rc b)) (cv (rc rnd0)) 44
  have HV : Hid (joinR a b = a) := joinR_lt hj
  go_enter Tryd.func46, Tryd.ntmps46
  go_upto_region 1 with (refine wpL_alloc rfl _ rfl zRnd ?_)
  simp only [World.size_alloc]
  obtain ⟨A, hA⟩ : ∃ A, w.heap.size = A := ⟨_, rfl⟩
  generalize ((w.alloc (.cells (cv (rc a)) 44)).alloc (.cells (cv (rc b)) 44)).alloc (.cells (cv (rc rnd0)) 44) = W at *
  rw [hA] at r1 r2 r3 ⊢
  have HA0 := hid_of' hA
  clear hA
  have n1 := r1.int (k := 0) (by rw [rc_len ha]; decide)
  have n2 := r2.int (k := 0) (by rw [rc_len hb]; decide)
  rw [rc_num] at n1 n2
  go_wp2_with (first | (refine ldRnd ha rfl _ rfl rfl r1.in ?_) | (refine wpL_stRow rfl _ _ _ rfl rfl rfl r3 (rnd_size ha) (two_sz (by rw [rc_len ha, rc_len rnd0_ok])) (cv_one _) ?_))
  exact bodyPost_ret (v := .agg (cv (rc a))) (results_cell_row rfl _ _ (A + 2) _ _ _ _ rfl (r3.rowI (cv (rc a))) Tryd.underlying44 rfl (rnd_size ha)) rfl ⟨by rw [HV.out], below_row hB (by have := HA0.out; omega) _⟩
set_option maxHeartbeats 1000000 in
theorem joined_lt {a b : Rnd} (ha : a.Ok) (hb : b.Ok) (w : World) (hj : a.num < b.num) :
    Calls Tryd.prog 46 #[.agg (cv (rc a)), .agg (cv (rc b))] w fun e w' => e = .returned (.agg (cv (rc (joinR a b)))) ∧ Below w.heap.size w w' := by
  obtain ⟨r1, r2, r3, hB⟩ := three_boxes w (cv (rc a)) (cv (rc b)) (cv (rc rnd0)) 44
  have HV : Hid (joinR a b = b) := joinR_gt hj
  have hj2 : ¬ b.num < a.num := by omega
  go_enter Tryd.func46, Tryd.ntmps46
  go_upto_region 1 with (refine wpL_alloc rfl _ rfl zRnd ?_)
  simp only [World.size_alloc]
  obtain ⟨A, hA⟩ : ∃ A, w.heap.size = A := ⟨_, rfl⟩
  generalize ((w.alloc (.cells (cv (rc a)) 44)).alloc (.cells (cv (rc b)) 44)).alloc (.cells (cv (rc rnd0)) 44) = W at *
  rw [hA] at r1 r2 r3 ⊢
  have HA0 := hid_of' hA
  clear hA
  have n1 := r1.int (k := 0) (by rw [rc_len ha]; decide)
  have n2 := r2.int (k := 0) (by rw [rc_len hb]; decide)
  rw [rc_num] at n1 n2
  go_wp2_with (first | (refine ldRnd hb rfl _ rfl rfl r2.in ?_) | (refine wpL_stRow rfl _ _ _ rfl rfl rfl r3 (rnd_size hb) (two_sz (by rw [rc_len hb, rc_len rnd0_ok])) (cv_one _) ?_))
  exact bodyPost_ret (v := .agg (cv (rc b))) (results_cell_row rfl _ _ (A + 2) _ _ _ _ rfl (r3.rowI (cv (rc b))) Tryd.underlying44 rfl (rnd_size hb)) rfl ⟨by rw [HV.out], below_row hB (by have := HA0.out; omega) _⟩
set_option maxHeartbeats 4000000 in
theorem joined_eq {a b : Rnd} (ha : a.Ok) (hb : b.Ok) (w : World) (hj : a.num = b.num) :
    Calls Tryd.prog 46 #[.agg (cv (rc a)), .agg (cv (rc b))] w fun e w' => e = .returned (.agg (cv (rc (joinR a b)))) ∧ Below w.heap.size w w' := by
  obtain ⟨r1, r2, r3, hB⟩ := three_boxes w (cv (rc a)) (cv (rc b)) (cv (rc rnd0)) 44
  have HV : Hid (joinR a b = ⟨a.num, mrg a.cut b.cut, mrg a.vot b.vot, mx a.dec b.dec⟩) := joinR_eq hj.symm
  have hj1 : ¬ b.num < a.num := by omega
  have hj2 : ¬ a.num < b.num := by omega
  clear hj
  have hml := mrg_len ha.1 hb.1
  go_enter Tryd.func46, Tryd.ntmps46
  go_upto_region 1 with (refine wpL_alloc rfl _ rfl zRnd ?_)
  simp only [World.size_alloc]
  obtain ⟨A, hA⟩ : ∃ A, w.heap.size = A := ⟨_, rfl⟩
  generalize ((w.alloc (.cells (cv (rc a)) 44)).alloc (.cells (cv (rc b)) 44)).alloc (.cells (cv (rc rnd0)) 44) = W at *
  rw [hA] at r1 r2 r3 ⊢
  have HA0 := hid_of' hA
  clear hA
  have n1 := r1.int (k := 0) (by rw [rc_len ha]; decide)
  have n2 := r2.int (k := 0) (by rw [rc_len hb]; decide)
  rw [rc_num] at n1 n2
  have HM1 := fun X => hid_of' (merge_any a.cut b.cut X ha.1 hb.1)
  go_upto_region 5 with fail
  clear n1 n2
  have i1 := rnd_cutIn ha r1
  have i2 := rnd_cutIn hb r2
  go_upto_region 6 with (first | (refine ldCk ha.1 rfl _ rfl rfl i1 ?_) | (refine ldCk hb.1 rfl _ rfl rfl i2 ?_) | (go_at_call 66; refine (HM1 _).out.mono ?_; rintro e w3 ⟨rfl, hb3⟩; have r13 := r1.later hb3) | (refine stCk rfl _ _ rfl rfl hml rfl r13 (by rw [rc_len ha]; decide) ?_))
  have hp := r13.putC (o := 1) (y := mrg a.cut b.cut) (by rw [hml, rc_len ha]; decide)
  rw [rc_putCut ha hml] at hp
  have hcc := Ch.cells (S := fun k => k = A) (a := w3) (g := A) (.inl rfl) (cv (mrg a.cut b.cut)).toList 1 w3 (Ch.refl _ _)
  have H3 := hid_of' (And.intro hp (And.intro ((r2.later hb3).ch hcc (by omega)) (And.intro ((r3.later hb3).ch hcc (by omega)) (Ch.none ((Ch.of (S := fun _ => False) (bgo hB hb3)).go hcc (fun z hz => .inr (by have := HA0.out; omega))) (fun _ _ q => q)))))
  clear hp hcc r13 r1 r2 r3 hB i1 i2 HM1 hb3
  generalize w3.setCells A 1 (cv (mrg a.cut b.cut)).toList = W3 at H3 ⊢
  go_upto_region 7 with fail
  obtain ⟨num, hnum⟩ : ∃ n, a.num = n := ⟨_, rfl⟩
  obtain ⟨dec, hdec⟩ : ∃ n, a.dec = n := ⟨_, rfl⟩
  rw [show ({ a with cut := mrg a.cut b.cut } : Rnd) = ⟨num, mrg a.cut b.cut, a.vot, dec⟩ by rw [← hnum, ← hdec]] at H3
  rw [hnum, hdec] at HV
  clear hnum hdec hj1 hj2
  go_loopw [26] (fun i wr => ∃ (k : Nat) (x : List Int), i = .int .i64 (k : Int) ∧ k ≤ 8 ∧ upTo mx a.vot b.vot k x ∧ RowAt A (cv (rc ⟨num, mrg a.cut b.cut, x, dec⟩)) 44 wr ∧ RowAt (A + 1) (cv (rc b)) 44 wr ∧ RowAt (A + 2) (cv (rc rnd0)) 44 wr ∧ Below w.heap.size w wr) (fun i _ => 8 - (intOf i).toNat)
  case atStart => exact ⟨0, a.vot, rfl, by omega, upTo.zero ha.2, H3.out.1, H3.out.2.1, H3.out.2.2.1, H3.out.2.2.2⟩
  case round =>
    rename World => wr
    clear H3
    obtain ⟨k, x, rfl, hk, hu, r1, r2, r3, hB⟩ := hrel
    have ho1 : Rnd.Ok ⟨num, mrg a.cut b.cut, x, dec⟩ := ⟨hml, hu.1⟩
    by_cases hlt : k < 8
    · have hki : (k : Int) < 8 := by omega
      have hk8 : (k : Int) < 8 := by omega
      have HC1 : Hid (∀ X, Below wr.heap.size wr X → X.cell? ⟨A, 9 + k, none⟩ = some (.int .i64 (en x k))) := fun X hX => by
        rw [(r1.later hX).int (k := 9 + k) (by rw [rc_len ho1]; omega), rc_vot ho1 hlt]
      have HC2 : Hid (∀ X, Below wr.heap.size wr X → X.cell? ⟨A + 1, 9 + k, none⟩ = some (.int .i64 (en b.vot k))) := fun X hX => by
        rw [(r2.later hX).int (k := 9 + k) (by rw [rc_len hb]; omega), rc_vot hb hlt]
      have HM := hid_of' (max_mx (en x k) (en b.vot k))
      go_upto_region 9 with fail
      refine wp_region_tail 12 (by kernel_rfl) (fun _ => none) (by kernel_rfl) (by kernel_rfl) (by decide) (fun ii u X => match ii with
        | 0 => u = .int .i64 (k : Int)
        | 1 => u = .int .i64 (k : Int)
        | 2 => u = .pointer (some ⟨A, 9, none⟩)
        | 3 => u = .pointer (some ⟨A, 9 + k, none⟩)
        | 4 => u = .int .i64 (en x k)
        | 5 => u = .int .i64 (k : Int)
        | 6 => u = .pointer (some ⟨A + 1, 9, none⟩)
        | 7 => u = .pointer (some ⟨A + 1, 9 + k, none⟩)
        | 8 => u = .int .i64 (en b.vot k)
        | 9 => u = .int .i64 (mx (en x k) (en b.vot k))
        | 10 => u = .pointer (some ⟨A, 9, none⟩)
        | 11 => u = .pointer (some ⟨A, 9 + k, none⟩)
        | _ => True) (fun _ => false) (fun _ _ _ _ h => by cases h) ?_ ?_ ?_
      · intro ii u X X' hR hb
        match ii, hR with
        | 0, h => exact h
        | 1, h => exact h
        | 2, h => exact h
        | 3, h => exact h
        | 4, h => exact h
        | 5, h => exact h
        | 6, h => exact h
        | 7, h => exact h
        | 8, h => exact h
        | 9, h => exact h
        | 10, h => exact h
        | 11, h => exact h
        | m + 12, h => exact h
      · intro ii o hi ho qq X vals hX hdep hoth
        have t5 : qq.tmps[5]? = some (.int .i64 (k : Int)) := by rw [hoth 5 (by kernel_rfl)]; rfl
        have t2 : qq.tmps[2]? = some (.pointer (some ⟨A, 0, none⟩)) := by rw [hoth 2 (by kernel_rfl)]; rfl
        have t3 : qq.tmps[3]? = some (.pointer (some ⟨A + 1, 0, none⟩)) := by rw [hoth 3 (by kernel_rfl)]; rfl
        match ii, hi, ho with
        | 0, _, ho =>
          simp only [List.getElem?_cons_zero, Option.some.injEq] at ho
          subst ho
          unfold Oper.wp
          simp [execOp, go_sem, t5]
          exact came _ rfl (Below.refl _ _) rfl (fun h => absurd h (by decide))
        | 1, _, ho =>
          simp only [List.getElem?_cons_succ, List.getElem?_cons_zero, Option.some.injEq] at ho
          subst ho
          unfold Oper.wp
          simp [execOp, go_sem, t5]
          exact came _ rfl (Below.refl _ _) rfl (fun h => absurd h (by decide))
        | 2, _, ho =>
          simp only [List.getElem?_cons_succ, List.getElem?_cons_zero, Option.some.injEq] at ho
          subst ho
          unfold Oper.wp
          simp [execOp, go_sem, t2]
          exact came _ rfl (Below.refl _ _) rfl (fun h => absurd h (by decide))
        | 3, _, ho =>
          simp only [List.getElem?_cons_succ, List.getElem?_cons_zero, Option.some.injEq] at ho
          subst ho
          obtain ⟨u2, e2⟩ := hdep ⟨2, .data⟩ (by simp) rfl _ 31 rfl rfl
          rw [show vals 2 = .pointer (some ⟨A, 9, none⟩) from e2] at u2
          obtain ⟨u1, e1⟩ := hdep ⟨1, .data⟩ (by simp) rfl _ 30 rfl rfl
          rw [show vals 1 = .int .i64 (k : Int) from e1] at u1
          unfold Oper.wp
          simp [execOp, go_sem, u2, u1, hk8]
          exact came _ rfl (Below.refl _ _) rfl (fun h => absurd h (by decide))
        | 4, _, ho =>
          simp only [List.getElem?_cons_succ, List.getElem?_cons_zero, Option.some.injEq] at ho
          subst ho
          obtain ⟨u3, e3⟩ := hdep ⟨3, .data⟩ (by simp) rfl _ 32 rfl rfl
          rw [show vals 3 = .pointer (some ⟨A, 9 + k, none⟩) from e3] at u3
          have cc : X.cell? ⟨A, 9 + k, none⟩ = some (.int .i64 (en x k)) := HC1.out X hX
          unfold Oper.wp
          simp [execOp, go_sem, u3, cc]
          exact came _ rfl (Below.refl _ _) rfl (fun h => absurd h (by decide))
        | 5, _, ho =>
          simp only [List.getElem?_cons_succ, List.getElem?_cons_zero, Option.some.injEq] at ho
          subst ho
          unfold Oper.wp
          simp [execOp, go_sem, t5]
          exact came _ rfl (Below.refl _ _) rfl (fun h => absurd h (by decide))
        | 6, _, ho =>
          simp only [List.getElem?_cons_succ, List.getElem?_cons_zero, Option.some.injEq] at ho
          subst ho
          unfold Oper.wp
          simp [execOp, go_sem, t3]
          exact came _ rfl (Below.refl _ _) rfl (fun h => absurd h (by decide))
        | 7, _, ho =>
          simp only [List.getElem?_cons_succ, List.getElem?_cons_zero, Option.some.injEq] at ho
          subst ho
          obtain ⟨u6, e6⟩ := hdep ⟨6, .data⟩ (by simp) rfl _ 35 rfl rfl
          rw [show vals 6 = .pointer (some ⟨A + 1, 9, none⟩) from e6] at u6
          obtain ⟨u5, e5⟩ := hdep ⟨5, .data⟩ (by simp) rfl _ 34 rfl rfl
          rw [show vals 5 = .int .i64 (k : Int) from e5] at u5
          unfold Oper.wp
          simp [execOp, go_sem, u6, u5, hk8]
          exact came _ rfl (Below.refl _ _) rfl (fun h => absurd h (by decide))
        | 8, _, ho =>
          simp only [List.getElem?_cons_succ, List.getElem?_cons_zero, Option.some.injEq] at ho
          subst ho
          obtain ⟨u7, e7⟩ := hdep ⟨7, .data⟩ (by simp) rfl _ 36 rfl rfl
          rw [show vals 7 = .pointer (some ⟨A + 1, 9 + k, none⟩) from e7] at u7
          have cc : X.cell? ⟨A + 1, 9 + k, none⟩ = some (.int .i64 (en b.vot k)) := HC2.out X hX
          unfold Oper.wp
          simp [execOp, go_sem, u7, cc]
          exact came _ rfl (Below.refl _ _) rfl (fun h => absurd h (by decide))
        | 9, _, ho =>
          simp only [List.getElem?_cons_succ, List.getElem?_cons_zero, Option.some.injEq] at ho
          subst ho
          obtain ⟨u4, e4⟩ := hdep ⟨4, .data⟩ (by simp) rfl _ 33 rfl rfl
          rw [show vals 4 = .int .i64 (en x k) from e4] at u4
          obtain ⟨u8, e8⟩ := hdep ⟨8, .data⟩ (by simp) rfl _ 37 rfl rfl
          rw [show vals 8 = .int .i64 (en b.vot k) from e8] at u8
          unfold Oper.wp
          simp [go_sem, u4, u8, HM.out]
          exact came _ rfl (Below.refl _ _) rfl (fun h => absurd h (by decide))
        | 10, _, ho =>
          simp only [List.getElem?_cons_succ, List.getElem?_cons_zero, Option.some.injEq] at ho
          subst ho
          unfold Oper.wp
          simp [execOp, go_sem, t2]
          exact came _ rfl (Below.refl _ _) rfl (fun h => absurd h (by decide))
        | 11, _, ho =>
          simp only [List.getElem?_cons_succ, List.getElem?_cons_zero, Option.some.injEq] at ho
          subst ho
          obtain ⟨u10, e10⟩ := hdep ⟨10, .data⟩ (by simp) rfl _ 39 rfl rfl
          rw [show vals 10 = .pointer (some ⟨A, 9, none⟩) from e10] at u10
          obtain ⟨u0, e0⟩ := hdep ⟨0, .data⟩ (by simp) rfl _ 29 rfl rfl
          rw [show vals 0 = .int .i64 (k : Int) from e0] at u0
          unfold Oper.wp
          simp [execOp, go_sem, u10, u0, hk8]
          exact came _ rfl (Below.refl _ _) rfl (fun h => absurd h (by decide))
        | m + 12, hi, _ => exact absurd hi (by omega)
      · intro vals X hX hR _
        have e9 : vals 9 = .int .i64 (mx (en x k) (en b.vot k)) := hR 9 (by decide)
        have e11 : vals 11 = .pointer (some ⟨A, 9 + k, none⟩) := hR 11 (by decide)
        have q2 := r1.later hX
        have c2 := HC1.out X hX
        have f2 := q2.frz (9 + k)
        have p2 := q2.setI (9 + k) (mx (en x k) (en b.vot k))
        rw [rc_setVot ho1 hlt] at p2
        have HZ := hid_of' (And.intro p2 (And.intro ((r2.later hX).otherI ⟨A, 9 + k, none⟩ (.int .i64 (mx (en x k) (en b.vot k))) (by show ¬ A + 1 = A; omega)) (And.intro ((r3.later hX).otherI ⟨A, 9 + k, none⟩ (.int .i64 (mx (en x k) (en b.vot k))) (by show ¬ A + 2 = A; omega)) (And.intro ((bgo hB hX).setCell (p := ⟨A, 9 + k, none⟩) (by show w.heap.size ≤ A; have := HA0.out; omega) (.int .i64 (mx (en x k) (en b.vot k)))) (hu.next hlt)))))
        clear hR hX q2 p2 r1 r2 r3 hB hu HC1 HC2
        simp only [List.drop, List.take, putAll, List.setIfInBounds_toArray, List.set_cons_succ, List.set_cons_zero, e9, e11]
        clear e9 e11
        go_upto_region 10 with fail
        clear c2 f2
        generalize X.setCell ⟨A, 9 + k, none⟩ (.int .i64 (mx (en x k) (en b.vot k))) = X4 at HZ ⊢
        go_wp2
        go_roundw
        case rel => exact ⟨k + 1, _, by go_num, by omega, HZ.out.2.2.2.2, HZ.out.1, HZ.out.2.1, HZ.out.2.2.1, HZ.out.2.2.2.1⟩
        case measure => simp [intOf]; omega
    · have hki : ¬ (k : Int) < 8 := by omega
      obtain rfl : k = 8 := by omega
      obtain rfl := hu.mrg ha.2 hb.2
      clear hu
      have c1 := r1.int (k := 17) (by rw [rc_len ho1]; decide)
      have c2 := r2.int (k := 17) (by rw [rc_len hb]; decide)
      rw [rc_dec ho1] at c1
      rw [rc_dec hb] at c2
      have f1 := r1.frz 17
      have HM := max_mx dec b.dec
      go_upto_region 12 with fail
      clear c1 c2 f1 HM
      have p := r1.setI 17 (mx dec b.dec)
      rw [rc_setDec ho1] at p
      have ho2 : Rnd.Ok ⟨num, mrg a.cut b.cut, mrg a.vot b.vot, mx dec b.dec⟩ := ho1
      have HZ := hid_of' (And.intro p (And.intro (r3.otherI ⟨A, 17, none⟩ (.int .i64 (mx dec b.dec)) (by show ¬ A + 2 = A; omega)) (hB.setCell (p := ⟨A, 17, none⟩) (by show w.heap.size ≤ A; have := HA0.out; omega) (.int .i64 (mx dec b.dec)))))
      clear p r1 r2 r3 hB
      generalize wr.setCell ⟨A, 17, none⟩ (.int .i64 (mx dec b.dec)) = W5 at HZ ⊢
      obtain ⟨r1, r3, hB⟩ := HZ.out
      go_wp2_with (first | (refine ldRnd ho2 rfl _ rfl rfl r1.in ?_) | (refine wpL_stRow rfl _ _ _ rfl rfl rfl r3 (rnd_size ho2) (two_sz (by rw [rc_len ho2, rc_len rnd0_ok])) (cv_one _) ?_))
      exact bodyPost_ret (v := .agg (cv (rc (⟨num, mrg a.cut b.cut, mrg a.vot b.vot, mx dec b.dec⟩ : Rnd)))) (results_cell_row rfl _ _ (A + 2) _ _ _ _ rfl (r3.rowI (cv (rc (⟨num, mrg a.cut b.cut, mrg a.vot b.vot, mx dec b.dec⟩ : Rnd)))) Tryd.underlying44 rfl (rnd_size ho2)) rfl ⟨by rw [HV.out], below_row hB (by have := HA0.out; omega) _⟩

theorem joined_any {a b : Rnd} (ha : a.Ok) (hb : b.Ok) (w : World) :
    Calls Tryd.prog 46 #[.agg (cv (rc a)), .agg (cv (rc b))] w fun e w' => e = .returned (.agg (cv (rc (joinR a b)))) ∧ Below w.heap.size w w' := by
  rcases Int.lt_trichotomy a.num b.num with h | h | h
  · exact joined_lt ha hb w h
  · exact joined_eq ha hb w h
  · exact joined_gt ha hb w h

/-- A list, the first k of it changed. -/
def updK (f : Nat → Rnd → Rnd) (l : List Rnd) (k : Nat) : List Rnd := l.mapIdx fun c r => if c < k then f c r else r
theorem updK_get {f : Nat → Rnd → Rnd} {l : List Rnd} {k c : Nat} {r : Rnd} (h : l[c]? = some r) : (updK f l k)[c]? = some (if c < k then f c r else r) := by
  unfold updK; rw [List.getElem?_mapIdx, h]; rfl
theorem updK_zero (f : Nat → Rnd → Rnd) (l : List Rnd) : updK f l 0 = l := by
  apply List.ext_getElem?
  intro i
  unfold updK
  rw [List.getElem?_mapIdx]
  cases l[i]? <;> simp
theorem updK_next {f : Nat → Rnd → Rnd} {l : List Rnd} {k : Nat} {r : Rnd} (h : l[k]? = some r) : (updK f l k).set k (f k r) = updK f l (k + 1) := by
  have hk := (List.getElem?_eq_some_iff.1 h).1
  apply List.ext_getElem?
  intro i
  rw [List.getElem?_set]
  by_cases e : k = i
  · subst e
    rw [if_pos rfl, if_pos (by unfold updK; rw [List.length_mapIdx]; exact hk), updK_get h, if_pos (by omega)]
  · rw [if_neg e]
    unfold updK
    rw [List.getElem?_mapIdx, List.getElem?_mapIdx]
    cases l[i]? with
    | none => rfl
    | some x =>
      simp only [Option.map_some]
      by_cases e1 : i < k
      · rw [if_pos e1, if_pos (by omega)]
      · rw [if_neg e1, if_neg (by omega)]
theorem updK_ok {f : Nat → Rnd → Rnd} {l : List Rnd} (ok : OkL l) (hf : ∀ c r, l[c]? = some r → (f c r).Ok) (k : Nat) : OkL (updK f l k) := by
  refine ⟨by unfold updK; rw [List.length_mapIdx]; exact ok.1, fun r hr => ?_⟩
  obtain ⟨c, hc⟩ := List.getElem?_of_mem hr
  have hc8 : c < 8 := by
    have := (List.getElem?_eq_some_iff.1 hc).1
    unfold updK at this
    rw [List.length_mapIdx, ok.1] at this
    exact this
  obtain ⟨x, hx, ox⟩ := ok.at hc8
  rw [updK_get hx] at hc
  cases hc
  split
  · exact hf c x hx
  · exact ox
/-- Joined with the rounds of b. -/
def jnF (b : List Rnd) (c : Nat) (r : Rnd) : Rnd := joinR r (b.getD c rnd0)
theorem jnF_at {b : List Rnd} {c : Nat} {y : Rnd} (h : b[c]? = some y) (r : Rnd) : jnF b c r = joinR r y := by unfold jnF; rw [List.getD_eq_getElem?_getD, h]; rfl
theorem jnF_ok {a b : List Rnd} (oa : OkL a) (ob : OkL b) : ∀ c r, a[c]? = some r → (jnF b c r).Ok := fun c r h => by
  have hc : c < 8 := by have := (List.getElem?_eq_some_iff.1 h).1; rw [oa.1] at this; exact this
  obtain ⟨y, hy, oy⟩ := ob.at hc
  rw [jnF_at hy]
  exact joinR_ok (oa.2 r (List.mem_of_getElem? h)) oy
theorem jn_all {a b : List Rnd} (oa : OkL a) (ob : OkL b) : updK (jnF b) a 8 = joinL a b := by
  refine rl_ext (updK_ok oa (jnF_ok oa ob) 8).1 (joinL_ok oa ob).1 fun i x y hx hy => ?_
  have hi : i < 8 := by have := (List.getElem?_eq_some_iff.1 hy).1; rw [(joinL_ok oa ob).1] at this; exact this
  obtain ⟨p, hp, _⟩ := oa.at hi
  obtain ⟨q, hq, _⟩ := ob.at hi
  rw [updK_get hp, if_pos hi, jnF_at hq] at hx
  rw [joinL_get hp hq] at hy
  rw [← Option.some.inj hx, ← Option.some.inj hy]
set_option maxHeartbeats 4000000 in
theorem join_any {a b : List Rnd} (oa : OkL a) (ob : OkL b) (w : World) :
    Calls Tryd.prog 15 #[.agg (cv (rs a)), .agg (cv (rs b))] w fun e w' => e = .returned (.agg (cv (rs (joinL a b)))) ∧ Below w.heap.size w w' := by
  obtain ⟨r1, r2, r3, hB⟩ := three_boxes w (cv (rs a)) (cv (rs b)) (cv (rs rds0)) 46
  have HJ := hid_of' (jn_all oa ob)
  go_enter Tryd.func15, Tryd.ntmps15
  go_upto_region 1 with (refine wpL_alloc rfl _ rfl zRnds ?_)
  simp only [World.size_alloc]
  obtain ⟨A, hA⟩ : ∃ A, w.heap.size = A := ⟨_, rfl⟩
  generalize ((w.alloc (.cells (cv (rs a)) 46)).alloc (.cells (cv (rs b)) 46)).alloc (.cells (cv (rs rds0)) 46) = W at *
  rw [hA] at r1 r2 r3 ⊢
  have HA0 := hid_of' hA
  clear hA
  go_upto_region 2 with fail
  go_loopw [6] (fun i wr => ∃ k : Nat, i = .int .i64 (k : Int) ∧ k ≤ 8 ∧ RowAt A (cv (rs (updK (jnF b) a k))) 46 wr ∧ RowAt (A + 1) (cv (rs b)) 46 wr ∧ RowAt (A + 2) (cv (rs rds0)) 46 wr ∧ Below w.heap.size w wr) (fun i _ => 8 - (intOf i).toNat)
  case atStart => exact ⟨0, rfl, by omega, by rw [updK_zero]; exact r1, r2, r3, hB⟩
  case round =>
    rename World => wr
    clear r1 r2 r3 hB
    obtain ⟨k, rfl, hk, r1, r2, r3, hB⟩ := hrel
    have hLo := updK_ok oa (jnF_ok oa ob) k
    by_cases hlt : k < 8
    · have hki : (k : Int) < 8 := by omega
      have hk8 : (k : Int) < 8 := by omega
      obtain ⟨x, hxk, hxo⟩ := oa.at hlt
      obtain ⟨y, hyk, hyo⟩ := ob.at hlt
      have hxL := updK_get (f := jnF b) (k := k) hxk
      rw [if_neg (by omega)] at hxL
      have hnx := updK_next (f := jnF b) hxk
      rw [jnF_at hyk] at hnx
      obtain ⟨L, hL⟩ : ∃ L, updK (jnF b) a k = L := ⟨_, rfl⟩
      rw [hL] at hLo hxL hnx r1
      have HA := hid_of' r1
      have HB2 := hid_of' r2
      have HX := hid_of' (And.intro hnx hL)
      clear hL hnx hxk
      go_upto_region 4 with fail
      refine wp_region_tail 9 (by kernel_rfl) (fun _ => none) (by kernel_rfl) (by kernel_rfl) (by decide) (fun ii u X => match ii with
        | 0 => u = .int .i64 (k : Int)
        | 1 => u = .int .i64 (k : Int)
        | 2 => u = .pointer (some ⟨A, k * 18, none⟩)
        | 3 => u = .agg (cv (rc x))
        | 4 => u = .int .i64 (k : Int)
        | 5 => u = .pointer (some ⟨A + 1, k * 18, none⟩)
        | 6 => u = .agg (cv (rc y))
        | 7 => u = .agg (cv (rc (joinR x y)))
        | 8 => u = .pointer (some ⟨A, k * 18, none⟩)
        | _ => True) (fun _ => false) (fun _ _ _ _ h => by cases h) ?_ ?_ ?_
      · intro ii u X X' hR hb
        match ii, hR with
        | 0, h => exact h
        | 1, h => exact h
        | 2, h => exact h
        | 3, h => exact h
        | 4, h => exact h
        | 5, h => exact h
        | 6, h => exact h
        | 7, h => exact h
        | 8, h => exact h
        | m + 9, h => exact h
      · intro ii o hi ho qq X vals hX hdep hoth
        have t5 : qq.tmps[5]? = some (.int .i64 (k : Int)) := by rw [hoth 5 (by kernel_rfl)]; rfl
        have t2 : qq.tmps[2]? = some (.pointer (some ⟨A, 0, none⟩)) := by rw [hoth 2 (by kernel_rfl)]; rfl
        have t3 : qq.tmps[3]? = some (.pointer (some ⟨A + 1, 0, none⟩)) := by rw [hoth 3 (by kernel_rfl)]; rfl
        match ii, hi, ho with
        | 0, _, ho =>
          simp only [List.getElem?_cons_zero, Option.some.injEq] at ho
          subst ho
          unfold Oper.wp
          simp [execOp, go_sem, t5]
          exact came _ rfl (Below.refl _ _) rfl (fun h => absurd h (by decide))
        | 1, _, ho =>
          simp only [List.getElem?_cons_succ, List.getElem?_cons_zero, Option.some.injEq] at ho
          subst ho
          unfold Oper.wp
          simp [execOp, go_sem, t5]
          exact came _ rfl (Below.refl _ _) rfl (fun h => absurd h (by decide))
        | 2, _, ho =>
          simp only [List.getElem?_cons_succ, List.getElem?_cons_zero, Option.some.injEq] at ho
          subst ho
          obtain ⟨u1, e1⟩ := hdep ⟨1, .data⟩ (by simp) rfl _ 10 rfl rfl
          rw [show vals 1 = .int .i64 (k : Int) from e1] at u1
          unfold Oper.wp
          simp [execOp, go_sem, u1, t2, hk8]
          exact came _ rfl (Below.refl _ _) rfl (fun h => absurd h (by decide))
        | 3, _, ho =>
          simp only [List.getElem?_cons_succ, List.getElem?_cons_zero, Option.some.injEq] at ho
          subst ho
          obtain ⟨u2, e2⟩ := hdep ⟨2, .data⟩ (by simp) rfl _ 11 rfl rfl
          rw [show vals 2 = .pointer (some ⟨A, k * 18, none⟩) from e2] at u2
          exact opRnd hxo _ rfl (by simp [Act.eval, u2]) ((RowAt.later HA.out hX).subRs hLo hxL) (came _ rfl (Below.refl _ _) rfl (fun h => absurd h (by decide)))
        | 4, _, ho =>
          simp only [List.getElem?_cons_succ, List.getElem?_cons_zero, Option.some.injEq] at ho
          subst ho
          unfold Oper.wp
          simp [execOp, go_sem, t5]
          exact came _ rfl (Below.refl _ _) rfl (fun h => absurd h (by decide))
        | 5, _, ho =>
          simp only [List.getElem?_cons_succ, List.getElem?_cons_zero, Option.some.injEq] at ho
          subst ho
          obtain ⟨u4, e4⟩ := hdep ⟨4, .data⟩ (by simp) rfl _ 13 rfl rfl
          rw [show vals 4 = .int .i64 (k : Int) from e4] at u4
          unfold Oper.wp
          simp [execOp, go_sem, u4, t3, hk8]
          exact came _ rfl (Below.refl _ _) rfl (fun h => absurd h (by decide))
        | 6, _, ho =>
          simp only [List.getElem?_cons_succ, List.getElem?_cons_zero, Option.some.injEq] at ho
          subst ho
          obtain ⟨u5, e5⟩ := hdep ⟨5, .data⟩ (by simp) rfl _ 14 rfl rfl
          rw [show vals 5 = .pointer (some ⟨A + 1, k * 18, none⟩) from e5] at u5
          exact opRnd hyo _ rfl (by simp [Act.eval, u5]) ((RowAt.later HB2.out hX).subRs ob hyk) (came _ rfl (Below.refl _ _) rfl (fun h => absurd h (by decide)))
        | 7, _, ho =>
          simp only [List.getElem?_cons_succ, List.getElem?_cons_zero, Option.some.injEq] at ho
          subst ho
          obtain ⟨u3, e3⟩ := hdep ⟨3, .data⟩ (by simp) rfl _ 12 rfl rfl
          rw [show vals 3 = .agg (cv (rc x)) from e3] at u3
          obtain ⟨u6, e6⟩ := hdep ⟨6, .data⟩ (by simp) rfl _ 15 rfl rfl
          rw [show vals 6 = .agg (cv (rc y)) from e6] at u6
          unfold Oper.wp
          simp [go_sem, u3, u6]
          refine (joined_any hxo hyo X).mono ?_
          rintro r x1 ⟨rfl, hb1⟩
          exact came _ rfl hb1 rfl (fun h => absurd h (by decide))
        | 8, _, ho =>
          simp only [List.getElem?_cons_succ, List.getElem?_cons_zero, Option.some.injEq] at ho
          subst ho
          obtain ⟨u0, e0⟩ := hdep ⟨0, .data⟩ (by simp) rfl _ 9 rfl rfl
          rw [show vals 0 = .int .i64 (k : Int) from e0] at u0
          unfold Oper.wp
          simp [execOp, go_sem, u0, t2, hk8]
          exact came _ rfl (Below.refl _ _) rfl (fun h => absurd h (by decide))
        | m + 9, hi, _ => exact absurd hi (by omega)
      · intro vals X hX hR _
        have e7 : vals 7 = .agg (cv (rc (joinR x y))) := hR 7 (by decide)
        have e8 : vals 8 = .pointer (some ⟨A, k * 18, none⟩) := hR 8 (by decide)
        have hjo := joinR_ok hxo hyo
        have q2 := r1.later hX
        have p2 := q2.putC (o := k * 18) (y := rc (joinR x y)) (by rw [rc_len hjo, rs_len hLo]; omega)
        rw [rs_put hLo hlt hjo, HX.out.1] at p2
        have hcc := Ch.cells (S := fun j => j = A) (a := X) (g := A) (.inl rfl) (cv (rc (joinR x y))).toList (k * 18) X (Ch.refl _ _)
        have HZ := hid_of' (And.intro p2 (And.intro ((r2.later hX).ch hcc (by omega)) (And.intro ((r3.later hX).ch hcc (by omega)) (Ch.none ((Ch.of (S := fun _ => False) (bgo hB hX)).go hcc (fun z hz => .inr (by have := HA0.out; omega))) (fun _ _ q => q)))))
        clear hR hX p2 r1 r2 r3 hB HA HB2 hcc
        simp only [List.drop, List.take, putAll, List.setIfInBounds_toArray, List.set_cons_succ, List.set_cons_zero, e7, e8]
        clear e7 e8
        go_upto_region 5 with (refine stRnd rfl _ _ rfl rfl hjo rfl q2 (by rw [rs_len hLo]; omega) ?_)
        clear q2
        generalize X.setCells A (k * 18) (cv (rc (joinR x y))).toList = X4 at HZ ⊢
        go_wp2
        go_roundw
        case rel => exact ⟨k + 1, by go_num, by omega, HZ.out.1, HZ.out.2.1, HZ.out.2.2.1, HZ.out.2.2.2⟩
        case measure => simp [intOf]; omega
    · have hki : ¬ (k : Int) < 8 := by omega
      obtain rfl : k = 8 := by omega
      rw [HJ.out] at hLo r1
      go_wp2_with (first | (refine ldRnds hLo rfl _ rfl rfl r1.in ?_) | (refine wpL_stRow rfl _ _ _ rfl rfl rfl r3 (rnds_size hLo) (two_sz (by rw [rs_len hLo, rs_len rds0_ok])) (cv_one _) ?_))
      exact bodyPost_ret (v := .agg (cv (rs (joinL a b)))) (results_cell_row rfl _ _ (A + 2) _ _ _ _ rfl (r3.rowI (cv (rs (joinL a b)))) Tryd.underlying46 rfl (rnds_size hLo)) rfl ⟨rfl, below_row hB (by have := HA0.out; omega) _⟩
end Go.Proofs.YtfgcljpiidhfpaaDoor
