
/-
  barrowlaw07.XformThree: three ways, all six orders.
-/
import Derived.Test.YtbcilnbjhjepgaaDoorXr4
import Derived.Test.YtbcilnbjhjepgaaDoorInvF
namespace Go.Proofs.YtbcilnbjhjepgaaDoor
open Go.RowKit
set_option maxRecDepth 100000

set_option maxHeartbeats 1600000 in
theorem xformThree_all {W : World} {v : Value} {l0 : List El} {a0 b0 c0 : Xo} {n : Int} (hv : SlE W v l0) (hin : ∀ e ∈ l0, e.In) (hml : l0.length ≤ 9223372036854775807) (ha0 : a0.In) (hb0 : b0.In) (hc0 : c0.In) (hn : In64 n) :
    Calls Tryd.prog 6 #[.agg (tv v a0 b0 c0 n)] W fun r w' => r = .returned (.bool true) ∧ Below W.heap.size W w' := by
  obtain ⟨va, vc, rfl⟩ := hv.form
  have HW := hid_of' wakes7_ok
  have r0 := row_new W (tv (.slice va l0.length vc) a0 b0 c0 n) 35
  have hB := below_one W (.cells (tv (.slice va l0.length vc) a0 b0 c0 n) 35)
  go_enter Tryd.func6, Tryd.ntmps6
  go_upto_region 1 with fail
  generalize W.alloc (.cells (tv (.slice va l0.length vc) a0 b0 c0 n) 35) = W1 at r0 hB ⊢
  generalize W.heap.size = g0 at r0 ⊢
  have HRw := hid_of' (row7_ok (hv.later hB) hin hml)
  have d0 : W1.cell? ⟨g0, 0, none⟩ = some (.slice va l0.length vc) := r0.cell 0
  go_upto_region 2 with (go_at_call 16; refine HRw.out.mono ?_; clear HRw; rintro r w2 ⟨u, out, k, rfl, hO, hR, hk, hb2⟩; obtain ⟨ua, uc, hu⟩ := hO.sl.form; subst hu)
  replace hB := bgo hB hb2
  replace r0 := r0.later hb2
  have hS := hO.sl
  clear hO hb2 d0 hv hin hml
  have d13 : w2.cell? ⟨g0, 13, none⟩ = some (.int .i64 n) := r0.cell 13
  have H3 := hid_of' (three_ok n hn w2)
  go_upto_region 3 with (first | (go_at_call 17; refine H3.out.mono ?_; clear H3; rintro r w3 ⟨ra, rb, rc, rfl, q1, q2, q3, q4, q5, q6, hb3⟩) | (refine wpL_store3 rfl _ _ rfl rfl rfl (row_new w3 _ _) ?_))
  have r3 := (row_new w3 #[.int .i64 0, .int .i64 0, .int .i64 0] 37).put #[.int .i64 (ra : Int), .int .i64 (rb : Int), .int .i64 (rc : Int)]
  have hb4 : Below w2.heap.size w2 ((w3.alloc (.cells #[.int .i64 0, .int .i64 0, .int .i64 0] 37)).setRow w3.heap.size #[.int .i64 (ra : Int), .int .i64 (rb : Int), .int .i64 (rc : Int)]) := bgo hb3 (below_row (below_one w3 _) (Nat.le_refl _) _)
  generalize (w3.alloc (.cells #[.int .i64 0, .int .i64 0, .int .i64 0] 37)).setRow w3.heap.size #[.int .i64 (ra : Int), .int .i64 (rb : Int), .int .i64 (rc : Int)] = w4 at r3 hb4 ⊢
  generalize w3.heap.size = g3 at r3 ⊢
  replace hB := bgo hB hb4
  replace r0 := r0.later hb4
  replace hS := hS.later hb4
  clear hb3 hb4 d13 w3
  have hol := hR.len
  have d3 : w4.cell? ⟨g3, 0, none⟩ = some (.int .i64 (ra : Int)) := r3.cell 0
  have HF := hid_of' (fun x => fit_ok a0 ha0 out.length ra (by omega) q1 x)
  go_upto_region 4 with (first | (refine wpL_loadO rfl _ rfl rfl (tv_a r0) ?_) | (go_at_call 18; refine (HF.out _).mono ?_; clear HF; rintro r w5 ⟨xa, pa, rfl, va1, va2, va3, hb5⟩) | (refine wpL_storeO (e := xa) rfl _ _ rfl rfl rfl (row_new w5 _ _) ?_))
  have rA := (row_new w5 #[.int .i64 0, .int .i64 0, .int .i32 0, .int .i64 0] 24).put (ov xa)
  have hb6 : Below w4.heap.size w4 ((w5.alloc (.cells #[.int .i64 0, .int .i64 0, .int .i32 0, .int .i64 0] 24)).setRow w5.heap.size (ov xa)) := bgo hb5 (below_row (below_one w5 _) (Nat.le_refl _) _)
  generalize (w5.alloc (.cells #[.int .i64 0, .int .i64 0, .int .i32 0, .int .i64 0] 24)).setRow w5.heap.size (ov xa) = w6 at rA hb6 ⊢
  generalize w5.heap.size = rAg at rA ⊢
  replace hB := bgo hB hb6
  replace r0 := r0.later hb6
  replace r3 := r3.later hb6
  replace hS := hS.later hb6
  clear hb5 hb6 d3 w5
  have d3 : w6.cell? ⟨g3, 1, none⟩ = some (.int .i64 (rb : Int)) := r3.cell 1
  have HF := hid_of' (fun x => fit_ok b0 hb0 out.length rb (by omega) q2 x)
  go_upto_region 5 with (first | (refine wpL_loadO rfl _ rfl rfl (tv_b r0) ?_) | (go_at_call 18; refine (HF.out _).mono ?_; clear HF; rintro r w7 ⟨xb, pb, rfl, vb1, vb2, vb3, hb7⟩) | (refine wpL_storeO (e := xb) rfl _ _ rfl rfl rfl (row_new w7 _ _) ?_))
  have rB := (row_new w7 #[.int .i64 0, .int .i64 0, .int .i32 0, .int .i64 0] 24).put (ov xb)
  have hb8 : Below w6.heap.size w6 ((w7.alloc (.cells #[.int .i64 0, .int .i64 0, .int .i32 0, .int .i64 0] 24)).setRow w7.heap.size (ov xb)) := bgo hb7 (below_row (below_one w7 _) (Nat.le_refl _) _)
  generalize (w7.alloc (.cells #[.int .i64 0, .int .i64 0, .int .i32 0, .int .i64 0] 24)).setRow w7.heap.size (ov xb) = w8 at rB hb8 ⊢
  generalize w7.heap.size = rBg at rB ⊢
  replace hB := bgo hB hb8
  replace r0 := r0.later hb8
  replace r3 := r3.later hb8
  replace rA := rA.later hb8
  replace hS := hS.later hb8
  clear hb7 hb8 d3 w7
  have d3 : w8.cell? ⟨g3, 2, none⟩ = some (.int .i64 (rc : Int)) := r3.cell 2
  have HF := hid_of' (fun x => fit_ok c0 hc0 out.length rc (by omega) q3 x)
  go_upto_region 6 with (first | (refine wpL_loadO rfl _ rfl rfl (tv_c r0) ?_) | (go_at_call 18; refine (HF.out _).mono ?_; clear HF; rintro r w9 ⟨xc, pc, rfl, vc1, vc2, vc3, hb9⟩) | (refine wpL_storeO (e := xc) rfl _ _ rfl rfl rfl (row_new w9 _ _) ?_))
  have rC := (row_new w9 #[.int .i64 0, .int .i64 0, .int .i32 0, .int .i64 0] 24).put (ov xc)
  have hb10 : Below w8.heap.size w8 ((w9.alloc (.cells #[.int .i64 0, .int .i64 0, .int .i32 0, .int .i64 0] 24)).setRow w9.heap.size (ov xc)) := bgo hb9 (below_row (below_one w9 _) (Nat.le_refl _) _)
  generalize (w9.alloc (.cells #[.int .i64 0, .int .i64 0, .int .i32 0, .int .i64 0] 24)).setRow w9.heap.size (ov xc) = w10 at rC hb10 ⊢
  generalize w9.heap.size = rCg at rC ⊢
  replace hB := bgo hB hb10
  replace rA := rA.later hb10
  replace rB := rB.later hb10
  replace hS := hS.later hb10
  clear hb9 hb10 d3 w9 r0 r3
  cases pa with
  | false =>
    go_wp2_with (go_at_call 9; refine (HW.out _).mono ?_; rintro r w9 ⟨rfl, hb9⟩)
    go_ret
    exact ⟨rfl, bgo hB hb9⟩
  | true =>
    cases pb with
    | false =>
      go_wp2_with (go_at_call 9; refine (HW.out _).mono ?_; rintro r w9 ⟨rfl, hb9⟩)
      go_ret
      exact ⟨rfl, bgo hB hb9⟩
    | true =>
      cases pc with
      | false =>
        go_wp2_with (go_at_call 9; refine (HW.out _).mono ?_; rintro r w9 ⟨rfl, hb9⟩)
        go_ret
        exact ⟨rfl, bgo hB hb9⟩
      | true =>
        have hva := va1 rfl
        have hvb := vb1 rfl
        have hvc := vc1 rfl
        have pA := validO_place hva
        have pB := validO_place hvb
        have pC := validO_place hvc
        have HTri : Hid (Tri out xa xb xc) := ⟨hva, hvb, hvc, by omega, by omega, by omega⟩
        have h3 : ∀ e ∈ out, e.ep = 3 := fun e he => (hR.ep e he).1
        obtain ⟨Z, hZ⟩ : ∃ Z, tO (tO xc xa) (tO xb xa) = Z := ⟨_, rfl⟩
        have hZ2 : tO (tO xc xb) (tO xa xb) = Z := by rw [← hZ]; exact (three_way (rightO_kind (validO_right hva)) (rightO_kind (validO_right hvb)) (rightO_kind (validO_right hvc)) (by omega) (by omega) (by omega) HTri.out.xy HTri.out.xz HTri.out.yz).symm
        have g1 := tO_ge xc xa
        have g2 := tO_ge xb xa
        have g3' := tO_ge xc xb
        have g4 := tO_ge xa xb
        have hq := eq_O Z
        go_upto_region 8 with fail
        refine wp_region_cls (by kernel_rfl) (by kernel_rfl) ?_
        repeat (first | go_big_quiet_skip | (go_big_quiet_want; first | (refine quiet_load_in _ _ rfl rfl rA.in.cls Tryd.underlying24 rfl (o_size xa) ?_; simp only [Act.put, List.setIfInBounds_toArray, List.set_cons_succ, List.set_cons_zero]; go_big_quiet_on) | (refine quiet_load_in _ _ rfl rfl rB.in.cls Tryd.underlying24 rfl (o_size xb) ?_; simp only [Act.put, List.setIfInBounds_toArray, List.set_cons_succ, List.set_cons_zero]; go_big_quiet_on) | (refine quiet_load_in _ _ rfl rfl rC.in.cls Tryd.underlying24 rfl (o_size xc) ?_; simp only [Act.put, List.setIfInBounds_toArray, List.set_cons_succ, List.set_cons_zero]; go_big_quiet_on) | (go_big_quiet_op; first | go_big_quiet_on | go_big_quiet_call ((go_at_call 7; first | with_reducible exact cls_of (tX_any xc xa _ (by omega)) | with_reducible exact cls_of (tX_any xb xa _ (by omega)) | with_reducible exact cls_of (tX_any xc xb _ (by omega)) | with_reducible exact cls_of (tX_any xa xb _ (by omega)) | with_reducible exact cls_of (tX_is hZ _ (by omega)) | with_reducible exact cls_of (tX_is hZ2 _ (by omega)))))))
        refine wpQuiet_nil ?_
        rintro w1 ⟨s1, e1⟩
        have hb1 := wOf_below s1
        rw [← e1] at hb1
        clear e1 s1
        replace rA := rA.later hb1
        replace rB := rB.later hb1
        replace rC := rC.later hb1
        replace hS := hS.later hb1
        replace hB := bgo hB hb1
        clear hb1
        clear hq hZ hZ2
        go_upto_region 10 with fail
        clear g1 g2 g3' g4 pA pB pC hva hvb hvc va1 va2 va3 vb1 vb2 vb3 vc1 vc2 vc3
        have iA : InX _ xa w1 := ⟨rA.in⟩
        have iB : InX _ xb w1 := ⟨rB.in⟩
        have iC : InX _ xc w1 := ⟨rC.in⟩
        go_upto_region 11 with (first | (refine wpL_loadX rfl (.tmp 5) rfl rfl iA ?_; go_simp) | (refine wpL_loadX rfl (.tmp 7) rfl rfl iB ?_; go_simp) | (refine wpL_loadX rfl (.tmp 9) rfl rfl iC ?_; go_simp) | (refine wpL_build3 rfl _ _ _ rfl rfl rfl rfl ?_; go_simp) | (refine wpL_build6 rfl _ _ _ _ _ _ rfl rfl rfl rfl rfl rfl rfl ?_; go_simp) | (refine wpL_storeX rfl _ _ rfl rfl rfl rfl rfl ?_; intro wS gS hgS rS hbS; go_simp; rw [← hgS]))
        clear iA iB iC
        have osS := (os_row rS)
        replace hB := bgo hB hbS
        replace hS := hS.later hbS
        clear rS hgS hbS rA rB rC
        obtain ⟨RR, hRR⟩ : ∃ RR, runs out (named (way xa xb xc)) = RR := ⟨_, rfl⟩
        have hrl : RR.length ≤ 1000 := by
          have h1 := (runs_len (named (way xa xb xc)) out (way_ask HTri.out (by omega) h3).1).1
          have h2 : (named (way xa xb xc)).length = 3 := rfl
          rw [← hRR]
          omega
        go_upto_region 13 with fail
        go_loopw [12, 13] (fun fv iv wr => ∃ (k : Nat) (fa : Option Addr) (fn fc : Nat), fv = .slice fa fn fc ∧ iv = .int .i64 (k : Int) ∧ k ≤ 6 ∧ (k ≠ 0 → SlE wr (.slice fa fn fc) RR) ∧ Below wS.heap.size wS wr) (fun _ iv _ => 6 - (intOf iv).toNat)
        case atStart => exact ⟨0, _, _, _, rfl, rfl, by omega, fun h => absurd rfl h, Below.refl _ _⟩
        obtain ⟨k, fa, fn, fc, rfl, rfl, hk, hfv, hBr⟩ := hrel
        by_cases hlt : k < 6
        · have hk6 : (k : Int) < 6 := by omega
          have hkt : (k : Int).toNat = k := by omega
          obtain ⟨ox, oy, oz, hx, hy, hz, hT, hrun⟩ := six_all HTri.out (by omega) k hlt
          have cX : CsIn gS (k * 12) (ov ox) wr := by
            have := (osS.later hBr) (k * 3) ox hx
            rwa [show 0 + k * 3 * 4 = k * 12 by omega] at this
          have cY : CsIn gS (k * 12 + 4) (ov oy) wr := by
            have := (osS.later hBr) (k * 3 + 1) oy hy
            rwa [show 0 + (k * 3 + 1) * 4 = k * 12 + 4 by omega] at this
          have cZ : CsIn gS (k * 12 + 8) (ov oz) wr := by
            have := (osS.later hBr) (k * 3 + 2) oz hz
            rwa [show 0 + (k * 3 + 2) * 4 = k * 12 + 8 by omega] at this
          have pX := validO_place hT.vx
          have pY := validO_place hT.vy
          have pZ := validO_place hT.vz
          have gZX := tO_ge oz ox
          have ask := way_ask hT (by omega) h3
          go_upto_region 15 with fail
          refine wp_region_float (by kernel_rfl) (by kernel_rfl) (fun i v x => match i with
            | 0 => v = .int .i64 (k : Int)
            | 1 => v = .pointer (some ⟨gS, k * 12, none⟩)
            | 2 => v = .pointer (some ⟨gS, k * 12, none⟩)
            | 3 => v = .agg (ov ox)
            | 4 => v = .int .i64 (k : Int)
            | 5 => v = .pointer (some ⟨gS, k * 12, none⟩)
            | 6 => v = .pointer (some ⟨gS, k * 12 + 4, none⟩)
            | 7 => v = .agg (ov oy)
            | 8 => v = .int .i64 (k : Int)
            | 9 => v = .pointer (some ⟨gS, k * 12, none⟩)
            | 10 => v = .pointer (some ⟨gS, k * 12 + 8, none⟩)
            | 11 => v = .agg (ov oz)
            | _ => True) (fun i => match i with | 12 => some (24, 4) | 13 => some (24, 4) | 14 => some (24, 4) | _ => none) (fun i => match i with | 15 => some (12, 3) | 16 => some (13, 7) | 17 => some (14, 11) | _ => none) ?_ ?_ ?_ ?_ ?_ ?_ ?_
          · intro kk f s h
            match kk, h with
            | 15, h => cases h; exact ⟨rfl, (by intro h; cases h), rfl, rfl, _, _, _, _, _, ⟨12, .data⟩, ⟨3, .data⟩, rfl, rfl, rfl, rfl, rfl, (by simp), rfl, rfl, (by simp), rfl, rfl⟩
            | 16, h => cases h; exact ⟨rfl, (by intro h; cases h), rfl, rfl, _, _, _, _, _, ⟨13, .data⟩, ⟨7, .data⟩, rfl, rfl, rfl, rfl, rfl, (by simp), rfl, rfl, (by simp), rfl, rfl⟩
            | 17, h => cases h; exact ⟨rfl, (by intro h; cases h), rfl, rfl, _, _, _, _, _, ⟨14, .data⟩, ⟨11, .data⟩, rfl, rfl, rfl, rfl, rfl, (by simp), rfl, rfl, (by simp), rfl, rfl⟩
            | 0, h | 1, h | 2, h | 3, h | 4, h | 5, h | 6, h | 7, h | 8, h | 9, h | 10, h | 11, h | 12, h | 13, h | 14, h => cases h
            | m + 18, h => cases h
          · intro i t n h
            match i, h with
            | 12, h => rfl
            | 13, h => rfl
            | 14, h => rfl
            | 0, h | 1, h | 2, h | 3, h | 4, h | 5, h | 6, h | 7, h | 8, h | 9, h | 10, h | 11, h | 15, h | 16, h | 17, h => cases h
            | m + 18, h => cases h
          · intro p q f s s' h1 h2
            have e1 : (p = 15 ∧ f = 12) ∨ (p = 16 ∧ f = 13) ∨ (p = 17 ∧ f = 14) := by
              match p, h1 with
              | 15, h => cases h; simp
              | 16, h => cases h; simp
              | 17, h => cases h; simp
              | 0, h | 1, h | 2, h | 3, h | 4, h | 5, h | 6, h | 7, h | 8, h | 9, h | 10, h | 11, h | 12, h | 13, h | 14, h => cases h
              | m + 18, h => cases h
            have e2 : (q = 15 ∧ f = 12) ∨ (q = 16 ∧ f = 13) ∨ (q = 17 ∧ f = 14) := by
              match q, h2 with
              | 15, h => cases h; simp
              | 16, h => cases h; simp
              | 17, h => cases h; simp
              | 0, h | 1, h | 2, h | 3, h | 4, h | 5, h | 6, h | 7, h | 8, h | 9, h | 10, h | 11, h | 12, h | 13, h | 14, h => cases h
              | m + 18, h => cases h
            omega
          · intro i o ho hA hK q x vals S hX hS hdep hoth
            have t11 : q.tmps[11]? = some (.pointer (some ⟨gS, 0, none⟩)) := by rw [hoth 11 (by kernel_rfl)]; rfl
            have t13 : q.tmps[13]? = some (.int .i64 (k : Int)) := by rw [hoth 13 (by kernel_rfl)]; rfl
            match i, ho, hA, hK with
            | 0, ho, hA, hK =>
              simp only [List.getElem?_cons_zero, Option.some.injEq] at ho
              subst ho
              unfold Oper.wp
              simp [execOp, go_sem, t13]
              exact cameF _ rfl (Below.refl _ _) (fun _ _ => rfl)
            | 1, ho, hA, hK =>
              simp only [List.getElem?_cons_succ, List.getElem?_cons_zero, Option.some.injEq] at ho
              subst ho
              obtain ⟨u0, e0⟩ := hdep ⟨0, .data⟩ (by simp) rfl _ 111 rfl rfl
              rw [show vals 0 = .int .i64 (k : Int) from e0 rfl rfl x (KeptP.refl _ _)] at u0
              unfold Oper.wp
              simp [execOp, go_sem, u0, t11, hk6, hkt]
              exact cameF _ rfl (Below.refl _ _) (fun _ _ => rfl)
            | 2, ho, hA, hK =>
              simp only [List.getElem?_cons_succ, List.getElem?_cons_zero, Option.some.injEq] at ho
              subst ho
              obtain ⟨u1, e1⟩ := hdep ⟨1, .data⟩ (by simp) rfl _ 112 rfl rfl
              rw [show vals 1 = .pointer (some ⟨gS, k * 12, none⟩) from e1 rfl rfl x (KeptP.refl _ _)] at u1
              unfold Oper.wp
              simp [execOp, go_sem, u1]
              exact cameF _ rfl (Below.refl _ _) (fun _ _ => rfl)
            | 3, ho, hA, hK =>
              simp only [List.getElem?_cons_succ, List.getElem?_cons_zero, Option.some.injEq] at ho
              subst ho
              obtain ⟨u2, e2⟩ := hdep ⟨2, .data⟩ (by simp) rfl _ 113 rfl rfl
              rw [show vals 2 = .pointer (some ⟨gS, k * 12, none⟩) from e2 rfl rfl x (KeptP.refl _ _)] at u2
              exact opw_loadO _ rfl (by simp [Act.eval, u2]) (cX.later hX) (cameF _ rfl (Below.refl _ _) (fun _ _ => rfl))
            | 4, ho, hA, hK =>
              simp only [List.getElem?_cons_succ, List.getElem?_cons_zero, Option.some.injEq] at ho
              subst ho
              unfold Oper.wp
              simp [execOp, go_sem, t13]
              exact cameF _ rfl (Below.refl _ _) (fun _ _ => rfl)
            | 5, ho, hA, hK =>
              simp only [List.getElem?_cons_succ, List.getElem?_cons_zero, Option.some.injEq] at ho
              subst ho
              obtain ⟨u4, e4⟩ := hdep ⟨4, .data⟩ (by simp) rfl _ 115 rfl rfl
              rw [show vals 4 = .int .i64 (k : Int) from e4 rfl rfl x (KeptP.refl _ _)] at u4
              unfold Oper.wp
              simp [execOp, go_sem, u4, t11, hk6, hkt]
              exact cameF _ rfl (Below.refl _ _) (fun _ _ => rfl)
            | 6, ho, hA, hK =>
              simp only [List.getElem?_cons_succ, List.getElem?_cons_zero, Option.some.injEq] at ho
              subst ho
              obtain ⟨u5, e5⟩ := hdep ⟨5, .data⟩ (by simp) rfl _ 116 rfl rfl
              rw [show vals 5 = .pointer (some ⟨gS, k * 12, none⟩) from e5 rfl rfl x (KeptP.refl _ _)] at u5
              unfold Oper.wp
              simp [execOp, go_sem, u5]
              exact cameF _ rfl (Below.refl _ _) (fun _ _ => rfl)
            | 7, ho, hA, hK =>
              simp only [List.getElem?_cons_succ, List.getElem?_cons_zero, Option.some.injEq] at ho
              subst ho
              obtain ⟨u6, e6⟩ := hdep ⟨6, .data⟩ (by simp) rfl _ 117 rfl rfl
              rw [show vals 6 = .pointer (some ⟨gS, k * 12 + 4, none⟩) from e6 rfl rfl x (KeptP.refl _ _)] at u6
              exact opw_loadO _ rfl (by simp [Act.eval, u6]) (cY.later hX) (cameF _ rfl (Below.refl _ _) (fun _ _ => rfl))
            | 8, ho, hA, hK =>
              simp only [List.getElem?_cons_succ, List.getElem?_cons_zero, Option.some.injEq] at ho
              subst ho
              unfold Oper.wp
              simp [execOp, go_sem, t13]
              exact cameF _ rfl (Below.refl _ _) (fun _ _ => rfl)
            | 9, ho, hA, hK =>
              simp only [List.getElem?_cons_succ, List.getElem?_cons_zero, Option.some.injEq] at ho
              subst ho
              obtain ⟨u8, e8⟩ := hdep ⟨8, .data⟩ (by simp) rfl _ 119 rfl rfl
              rw [show vals 8 = .int .i64 (k : Int) from e8 rfl rfl x (KeptP.refl _ _)] at u8
              unfold Oper.wp
              simp [execOp, go_sem, u8, t11, hk6, hkt]
              exact cameF _ rfl (Below.refl _ _) (fun _ _ => rfl)
            | 10, ho, hA, hK =>
              simp only [List.getElem?_cons_succ, List.getElem?_cons_zero, Option.some.injEq] at ho
              subst ho
              obtain ⟨u9, e9⟩ := hdep ⟨9, .data⟩ (by simp) rfl _ 120 rfl rfl
              rw [show vals 9 = .pointer (some ⟨gS, k * 12, none⟩) from e9 rfl rfl x (KeptP.refl _ _)] at u9
              unfold Oper.wp
              simp [execOp, go_sem, u9]
              exact cameF _ rfl (Below.refl _ _) (fun _ _ => rfl)
            | 11, ho, hA, hK =>
              simp only [List.getElem?_cons_succ, List.getElem?_cons_zero, Option.some.injEq] at ho
              subst ho
              obtain ⟨u10, e10⟩ := hdep ⟨10, .data⟩ (by simp) rfl _ 121 rfl rfl
              rw [show vals 10 = .pointer (some ⟨gS, k * 12 + 8, none⟩) from e10 rfl rfl x (KeptP.refl _ _)] at u10
              exact opw_loadO _ rfl (by simp [Act.eval, u10]) (cZ.later hX) (cameF _ rfl (Below.refl _ _) (fun _ _ => rfl))
            | 12, ho, hA, hK => cases hA
            | 13, ho, hA, hK => cases hA
            | 14, ho, hA, hK => cases hA
            | 15, ho, hA, hK => cases hK
            | 16, ho, hA, hK => cases hK
            | 17, ho, hA, hK => cases hK
            | m + 18, ho, hA, hK => simp at ho
          · intro i o t n ho hA q x
            match i, ho, hA with
            | 12, ho, hA =>
              cases hA
              simp only [List.getElem?_cons_succ, List.getElem?_cons_zero, Option.some.injEq] at ho
              subst ho
              unfold Oper.wp
              simp [execOp, go_sem]
              exact ⟨_, rfl, rfl, rfl⟩
            | 13, ho, hA =>
              cases hA
              simp only [List.getElem?_cons_succ, List.getElem?_cons_zero, Option.some.injEq] at ho
              subst ho
              unfold Oper.wp
              simp [execOp, go_sem]
              exact ⟨_, rfl, rfl, rfl⟩
            | 14, ho, hA =>
              cases hA
              simp only [List.getElem?_cons_succ, List.getElem?_cons_zero, Option.some.injEq] at ho
              subst ho
              unfold Oper.wp
              simp [execOp, go_sem]
              exact ⟨_, rfl, rfl, rfl⟩
            | 0, ho, hA | 1, ho, hA | 2, ho, hA | 3, ho, hA | 4, ho, hA | 5, ho, hA | 6, ho, hA | 7, ho, hA | 8, ho, hA | 9, ho, hA | 10, ho, hA | 11, ho, hA | 15, ho, hA | 16, ho, hA | 17, ho, hA => cases hA
            | m + 18, ho, hA => cases hA
          · intro i o of os_ f s n g' t df ds sv ho hK hA hf hs hdf hds q x cs0 sf ss hR hg hn
            match i, ho, hK with
            | 15, ho, hK =>
              cases hK
              cases hA
              simp only [List.getElem?_cons_succ, List.getElem?_cons_zero, Option.some.injEq] at ho hf hs
              subst ho hf hs
              cases hdf
              cases hds
              obtain rfl : sv = .agg (ov ox) := hR
              exact wp_store_row _ _ _ rfl g' ((ov ox)) (by simp [Act.eval, sf]) (by simp [Act.eval, ss]) _ cs0 hg (o_size ox) (by rw [hn]; rfl) (by simp [Value.oneCell', ov]) ⟨undef, (ov ox), rfl, rfl, rfl, rfl⟩
            | 16, ho, hK =>
              cases hK
              cases hA
              simp only [List.getElem?_cons_succ, List.getElem?_cons_zero, Option.some.injEq] at ho hf hs
              subst ho hf hs
              cases hdf
              cases hds
              obtain rfl : sv = .agg (ov oy) := hR
              exact wp_store_row _ _ _ rfl g' ((ov oy)) (by simp [Act.eval, sf]) (by simp [Act.eval, ss]) _ cs0 hg (o_size oy) (by rw [hn]; rfl) (by simp [Value.oneCell', ov]) ⟨undef, (ov oy), rfl, rfl, rfl, rfl⟩
            | 17, ho, hK =>
              cases hK
              cases hA
              simp only [List.getElem?_cons_succ, List.getElem?_cons_zero, Option.some.injEq] at ho hf hs
              subst ho hf hs
              cases hdf
              cases hds
              obtain rfl : sv = .agg (ov oz) := hR
              exact wp_store_row _ _ _ rfl g' ((ov oz)) (by simp [Act.eval, sf]) (by simp [Act.eval, ss]) _ cs0 hg (o_size oz) (by rw [hn]; rfl) (by simp [Value.oneCell', ov]) ⟨undef, (ov oz), rfl, rfl, rfl, rfl⟩
            | 0, ho, hK | 1, ho, hK | 2, ho, hK | 3, ho, hK | 4, ho, hK | 5, ho, hK | 6, ho, hK | 7, ho, hK | 8, ho, hK | 9, ho, hK | 10, ho, hK | 11, ho, hK | 12, ho, hK | 13, ho, hK | 14, ho, hK => cases hK
            | m + 18, ho, hK => cases hK
          · intro vals w5 hb5 hR5 hBk
            obtain ⟨gX, csX, qX, _, hrX, _, hstX⟩ := hBk 12 _ _ (by decide) rfl
            obtain ⟨gY, csY, qY, _, hrY, _, hstY⟩ := hBk 13 _ _ (by decide) rfl
            obtain ⟨gZ, csZ, qZ, _, hrZ, _, hstZ⟩ := hBk 14 _ _ (by decide) rfl
            have v3 : vals 3 = .agg (ov ox) := hR5 3 (by decide) rfl rfl
            have v7 : vals 7 = .agg (ov oy) := hR5 7 (by decide) rfl rfl
            have v11 : vals 11 = .agg (ov oz) := hR5 11 (by decide) rfl rfl
            have eX : csX = ov ox := by have := (hstX 15 3 (by decide) rfl).symm.trans v3; exact Value.agg.inj this
            have eY : csY = ov oy := by have := (hstY 16 7 (by decide) rfl).symm.trans v7; exact Value.agg.inj this
            have eZ : csZ = ov oz := by have := (hstZ 17 11 (by decide) rfl).symm.trans v11; exact Value.agg.inj this
            subst eX eY eZ
            have rX : RowAt gX (ov ox) 24 w5 := hrX
            have rY : RowAt gY (ov oy) 24 w5 := hrY
            have rZ : RowAt gZ (ov oz) 24 w5 := hrZ
            simp only [putAll, qX, qY, qZ, List.setIfInBounds_toArray, List.set_cons_succ, List.set_cons_zero]
            clear hrX hrY hrZ hR5 hBk hstX hstY hstZ v3 v7 v11 qX qY qZ cX cY cZ
            generalize vals 0 = z0
            generalize vals 1 = z1
            generalize vals 2 = z2
            generalize vals 3 = z3
            generalize vals 4 = z4
            generalize vals 5 = z5
            generalize vals 6 = z6
            generalize vals 7 = z7
            generalize vals 8 = z8
            generalize vals 9 = z9
            generalize vals 10 = z10
            generalize vals 11 = z11
            replace hBr := bgo hBr hb5
            have hfv5 : k ≠ 0 → SlE w5 (.slice fa fn fc) RR := fun h => (hfv h).later hb5
            clear hb5 hfv vals
            go_upto_region 17 with (first | (refine wpL_loadO rfl (.tmp 15) rfl rfl rY.in ?_; go_simp) | (refine wpL_loadO rfl (.tmp 14) rfl rfl rX.in ?_; go_simp) | (go_at_call 7; refine (tX_any oy ox _ (by omega)).mono ?_; rintro r w6 ⟨rfl, hb6⟩) | (refine wpL_storeO (e := tO oy ox) rfl _ _ rfl rfl rfl (row_new w6 _ _) ?_))
            have rT := (row_new w6 #[.int .i64 0, .int .i64 0, .int .i32 0, .int .i64 0] 24).put (ov (tO oy ox))
            have hb7 : Below w5.heap.size w5 ((w6.alloc (.cells #[.int .i64 0, .int .i64 0, .int .i32 0, .int .i64 0] 24)).setRow w6.heap.size (ov (tO oy ox))) := bgo hb6 (below_row (below_one w6 _) (Nat.le_refl _) _)
            generalize (w6.alloc (.cells #[.int .i64 0, .int .i64 0, .int .i32 0, .int .i64 0] 24)).setRow w6.heap.size (ov (tO oy ox)) = w7 at rT hb7 ⊢
            generalize w6.heap.size = gT at rT ⊢
            replace hBr := bgo hBr hb7
            replace rX := rX.later hb7
            replace rZ := rZ.later hb7
            have hfv7 : k ≠ 0 → SlE w7 (.slice fa fn fc) RR := fun h => (hfv5 h).later hb7
            clear hb6 hb7 hfv5 rY w6 w5
            have hr2 := hrun.trans hRR
            have HD : Hid (∀ x, Below w7.heap.size w7 x → ∀ g : Nat, SlO x (.slice (some ⟨g, 0, none⟩) 3 3) [ox, tO oy ox, tO (tO oz ox) (tO oy ox)] → Calls Tryd.prog 19 #[.slice ua out.length uc, .slice (some ⟨g, 0, none⟩) 3 3] x fun r w' => ∃ q, r = .returned (.tuple #[q, .bool true]) ∧ OwnE x.heap.size q RR w' ∧ Below x.heap.size x w') := fun x hX g h => by
              rw [← hr2]
              exact done_ok (hS.later (bgo hBr hX)) h (show out.length + 3 ≤ 1000 by omega) hR.ok (by decide) (by decide) ask.1 ask.2
            refine wp_region_tail 15 (by kernel_rfl) (fun _ => none) (by kernel_rfl) (by kernel_rfl) (by decide) (fun i v x => match i with
              | 0 => v = .slice ua out.length uc
              | 1 => v = .agg (ov ox)
              | 2 => v = .agg (ov (tO oy ox))
              | 3 => v = .agg (ov oz)
              | 4 => v = .agg (ov ox)
              | 5 => v = .agg (ov (tO oz ox))
              | 6 => v = .agg (ov (tO oy ox))
              | 7 => v = .agg (ov (tO (tO oz ox) (tO oy ox)))
              | 8 => SoW ox (tO oy ox) (tO (tO oz ox) (tO oy ox)) v x
              | 9 => DnV RR v x
              | 10 => DnV RR v x
              | 11 => SlE x v RR
              | 12 => v = .bool true
              | 13 => SlE x v RR
              | 14 => v = .bool true
              | _ => True) (fun _ => false) (fun _ _ _ _ h => by cases h) ?_ ?_ ?_
            · intro i v x x' hR hb
              match i, hR with
              | 0, h => exact h
              | 1, h => exact h
              | 2, h => exact h
              | 3, h => exact h
              | 4, h => exact h
              | 5, h => exact h
              | 6, h => exact h
              | 7, h => exact h
              | 8, h => exact h.later hb
              | 9, h => exact h.later hb
              | 10, h => exact h.later hb
              | 11, h => exact h.later hb
              | 12, h => exact h
              | 13, h => exact h.later hb
              | 14, h => exact h
              | m + 15, h => exact h
            · intro i o hi ho q x vals hX hdep hoth
              have t3 : q.tmps[3]? = some (.slice ua out.length uc) := by rw [hoth 3 (by kernel_rfl)]; rfl
              have t14 : q.tmps[14]? = some (.pointer (some ⟨gX, 0, none⟩)) := by rw [hoth 14 (by kernel_rfl)]; rfl
              have t16 : q.tmps[16]? = some (.pointer (some ⟨gZ, 0, none⟩)) := by rw [hoth 16 (by kernel_rfl)]; rfl
              have t17 : q.tmps[17]? = some (.pointer (some ⟨gT, 0, none⟩)) := by rw [hoth 17 (by kernel_rfl)]; rfl
              match i, hi, ho with
              | 0, _, ho =>
                simp only [List.getElem?_cons_zero, Option.some.injEq] at ho
                subst ho
                unfold Oper.wp
                simp [execOp, go_sem, t3]
                exact came _ rfl (Below.refl _ _) rfl (fun h => absurd h (by decide))
              | 1, _, ho =>
                simp only [List.getElem?_cons_succ, List.getElem?_cons_zero, Option.some.injEq] at ho
                subst ho
                exact opw_loadO _ rfl (by simp [Act.eval, t14]) (rX.in.later hX) (came _ rfl (Below.refl _ _) rfl (fun h => absurd h (by decide)))
              | 2, _, ho =>
                simp only [List.getElem?_cons_succ, List.getElem?_cons_zero, Option.some.injEq] at ho
                subst ho
                exact opw_loadO _ rfl (by simp [Act.eval, t17]) (rT.in.later hX) (came _ rfl (Below.refl _ _) rfl (fun h => absurd h (by decide)))
              | 3, _, ho =>
                simp only [List.getElem?_cons_succ, List.getElem?_cons_zero, Option.some.injEq] at ho
                subst ho
                exact opw_loadO _ rfl (by simp [Act.eval, t16]) (rZ.in.later hX) (came _ rfl (Below.refl _ _) rfl (fun h => absurd h (by decide)))
              | 4, _, ho =>
                simp only [List.getElem?_cons_succ, List.getElem?_cons_zero, Option.some.injEq] at ho
                subst ho
                exact opw_loadO _ rfl (by simp [Act.eval, t14]) (rX.in.later hX) (came _ rfl (Below.refl _ _) rfl (fun h => absurd h (by decide)))
              | 5, _, ho =>
                simp only [List.getElem?_cons_succ, List.getElem?_cons_zero, Option.some.injEq] at ho
                subst ho
                obtain ⟨u3, e3⟩ := hdep ⟨3, .data⟩ (by simp) rfl _ 130 rfl rfl
                rw [show vals 3 = .agg (ov oz) from e3] at u3
                obtain ⟨u4, e4⟩ := hdep ⟨4, .data⟩ (by simp) rfl _ 131 rfl rfl
                rw [show vals 4 = .agg (ov ox) from e4] at u4
                unfold Oper.wp
                simp [go_sem, u3, u4]
                refine (tX_any oz ox x (by omega)).mono ?_
                rintro r x1 ⟨rfl, hb1⟩
                exact came _ rfl hb1 rfl (fun h => absurd h (by decide))
              | 6, _, ho =>
                simp only [List.getElem?_cons_succ, List.getElem?_cons_zero, Option.some.injEq] at ho
                subst ho
                exact opw_loadO _ rfl (by simp [Act.eval, t17]) (rT.in.later hX) (came _ rfl (Below.refl _ _) rfl (fun h => absurd h (by decide)))
              | 7, _, ho =>
                simp only [List.getElem?_cons_succ, List.getElem?_cons_zero, Option.some.injEq] at ho
                subst ho
                obtain ⟨u5, e5⟩ := hdep ⟨5, .data⟩ (by simp) rfl _ 132 rfl rfl
                rw [show vals 5 = .agg (ov (tO oz ox)) from e5] at u5
                obtain ⟨u6, e6⟩ := hdep ⟨6, .data⟩ (by simp) rfl _ 133 rfl rfl
                rw [show vals 6 = .agg (ov (tO oy ox)) from e6] at u6
                unfold Oper.wp
                simp [go_sem, u5, u6]
                refine (tX_any (tO oz ox) (tO oy ox) x (by omega)).mono ?_
                rintro r x1 ⟨rfl, hb1⟩
                exact came _ rfl hb1 rfl (fun h => absurd h (by decide))
              | 8, _, ho =>
                simp only [List.getElem?_cons_succ, List.getElem?_cons_zero, Option.some.injEq] at ho
                subst ho
                obtain ⟨u1, e1⟩ := hdep ⟨1, .data⟩ (by simp) rfl _ 128 rfl rfl
                rw [show vals 1 = .agg (ov ox) from e1] at u1
                obtain ⟨u2, e2⟩ := hdep ⟨2, .data⟩ (by simp) rfl _ 129 rfl rfl
                rw [show vals 2 = .agg (ov (tO oy ox)) from e2] at u2
                obtain ⟨u7, e7⟩ := hdep ⟨7, .data⟩ (by simp) rfl _ 134 rfl rfl
                rw [show vals 7 = .agg (ov (tO (tO oz ox) (tO oy ox))) from e7] at u7
                unfold ov at u1 u2 u7
                unfold Oper.wp
                simp [execOp, go_sem, u1, u2, u7]
                exact came _ rfl (below_one _ _) (sow_new x ox (tO oy ox) (tO (tO oz ox) (tO oy ox))) (fun h => absurd h (by decide))
              | 9, _, ho =>
                simp only [List.getElem?_cons_succ, List.getElem?_cons_zero, Option.some.injEq] at ho
                subst ho
                obtain ⟨u0, e0⟩ := hdep ⟨0, .data⟩ (by simp) rfl _ 127 rfl rfl
                rw [show vals 0 = .slice ua out.length uc from e0] at u0
                obtain ⟨u8, e8⟩ := hdep ⟨8, .data⟩ (by simp) rfl _ 135 rfl rfl
                obtain ⟨q6, g6, q7⟩ : SoW ox (tO oy ox) (tO (tO oz ox) (tO oy ox)) (vals 8) x := e8
                rw [q7] at q6
                rw [show vals (Edge.on ⟨8, .data⟩) = _ from q7] at u8
                unfold Oper.wp
                simp [go_sem, u0, u8]
                refine (HD.out x hX g6 q6).mono ?_
                rintro r x1 ⟨q, rfl, ho9, hb1⟩
                exact came _ rfl hb1 ⟨q, rfl, ho9.sl⟩ (fun h => absurd h (by decide))
              | 10, _, ho =>
                simp only [List.getElem?_cons_succ, List.getElem?_cons_zero, Option.some.injEq] at ho
                subst ho
                obtain ⟨u9, e9⟩ := hdep ⟨9, .data⟩ (by simp) rfl _ 136 rfl rfl
                have e9b : DnV RR (vals 9) x := e9
                obtain ⟨q, hq, _⟩ := id e9b
                unfold Oper.wp
                simp [execOp, go_sem, u9]
                exact came _ rfl (Below.refl _ _) e9b (fun h => absurd h (by decide))
              | 11, _, ho =>
                simp only [List.getElem?_cons_succ, List.getElem?_cons_zero, Option.some.injEq] at ho
                subst ho
                obtain ⟨u10, e10⟩ := hdep ⟨10, .data⟩ (by simp) rfl _ 126 rfl rfl
                obtain ⟨q, hq, hs⟩ : DnV RR (vals 10) x := e10
                rw [show vals (Edge.on ⟨10, .data⟩) = _ from hq] at u10
                unfold Oper.wp
                simp [execOp, go_sem, u10]
                exact came _ rfl (Below.refl _ _) hs (fun h => absurd h (by decide))
              | 12, _, ho =>
                simp only [List.getElem?_cons_succ, List.getElem?_cons_zero, Option.some.injEq] at ho
                subst ho
                obtain ⟨u10, e10⟩ := hdep ⟨10, .data⟩ (by simp) rfl _ 126 rfl rfl
                obtain ⟨q, hq, hs⟩ : DnV RR (vals 10) x := e10
                rw [show vals (Edge.on ⟨10, .data⟩) = _ from hq] at u10
                unfold Oper.wp
                simp [execOp, go_sem, u10]
                exact came _ rfl (Below.refl _ _) rfl (fun h => absurd h (by decide))
              | 13, _, ho =>
                simp only [List.getElem?_cons_succ, List.getElem?_cons_zero, Option.some.injEq] at ho
                subst ho
                obtain ⟨u11, e11⟩ := hdep ⟨11, .data⟩ (by simp) rfl _ 137 rfl rfl
                have e11b : SlE x (vals 11) RR := e11
                unfold Oper.wp
                simp [execOp, go_sem, u11]
                exact came _ rfl (Below.refl _ _) e11b (fun h => absurd h (by decide))
              | 14, _, ho =>
                simp only [List.getElem?_cons_succ, List.getElem?_cons_zero, Option.some.injEq] at ho
                subst ho
                obtain ⟨u12, e12⟩ := hdep ⟨12, .data⟩ (by simp) rfl _ 138 rfl rfl
                rw [show vals 12 = .bool true from e12] at u12
                unfold Oper.wp
                simp [execOp, go_sem, u12]
                exact came _ rfl (Below.refl _ _) rfl (fun h => absurd h (by decide))
              | m + 15, hi, _ => exact absurd hi (by omega)
            · intro vals w8 hX hRv _
              have q13 : SlE w8 (vals 13) RR := hRv 13 (by decide)
              have q14 : vals 14 = .bool true := hRv 14 (by decide)
              obtain ⟨ka, kc, hka⟩ := q13.form
              rw [hka] at q13
              replace hBr := bgo hBr hX
              have hfv8 : k ≠ 0 → SlE w8 (.slice fa fn fc) RR := fun h => (hfv7 h).later hX
              simp only [List.take, List.drop, putAll, hka, q14]
              clear hka q14 hRv HD hX hfv7 rX rZ rT
              try simp only [List.setIfInBounds_toArray, List.set_cons_succ, List.set_cons_zero]
              by_cases hkz : k = 0
              · subst hkz
                go_wp2
                go_roundw
                case rel => exact ⟨1, _, _, _, rfl, by go_num, by omega, fun _ => q13, hBr⟩
                case measure => simp [intOf]
              · have hkp : (0 : Int) < (k : Int) := by omega
                have HE := hid_of' (elements_eq q13 (hfv8 hkz) (by omega))
                go_wp2_with (go_at_call 20; refine HE.out.mono ?_; rintro r w9 ⟨rfl, hb9⟩)
                go_roundw
                case rel => exact ⟨k + 1, _, _, _, rfl, by go_num, by omega, fun _ => q13.later hb9, bgo hBr hb9⟩
                case measure => simp [intOf]; omega
        · have hk6 : ¬ (k : Int) < 6 := by omega
          go_wp2_with (go_at_call 9; refine (HW.out _).mono ?_; rintro r w9 ⟨rfl, hb9⟩)
          go_ret
          exact ⟨rfl, bgo hB (bgo hBr hb9)⟩
end Go.Proofs.YtbcilnbjhjepgaaDoor
