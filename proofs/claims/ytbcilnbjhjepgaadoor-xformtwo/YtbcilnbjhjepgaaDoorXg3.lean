
/-
  barrowlaw07.XformTwo: two ways.
-/
import Derived.Test.YtbcilnbjhjepgaaDoorXr3
namespace Go.Proofs.YtbcilnbjhjepgaaDoor
open Go.RowKit
set_option maxRecDepth 100000

set_option maxHeartbeats 2000000 in
theorem xformTwo_all {W : World} {v : Value} {l0 : List El} {a0 b0 c0 : Xo} {n : Int} (hv : SlE W v l0) (hin : ∀ e ∈ l0, e.In) (hml : l0.length ≤ 9223372036854775807) (ha0 : a0.In) (hb0 : b0.In) (hn : In64 n) :
    Calls Tryd.prog 5 #[.agg (tv v a0 b0 c0 n)] W fun r w' => r = .returned (.bool true) ∧ Below W.heap.size W w' := by
  obtain ⟨va, vc, rfl⟩ := hv.form
  have HW := hid_of' wakes7_ok
  have r0 := row_new W (tv (.slice va l0.length vc) a0 b0 c0 n) 35
  have hB := below_one W (.cells (tv (.slice va l0.length vc) a0 b0 c0 n) 35)
  go_enter Tryd.func5, Tryd.ntmps5
  go_upto_region 1 with fail
  generalize W.alloc (.cells (tv (.slice va l0.length vc) a0 b0 c0 n) 35) = W1 at r0 hB ⊢
  generalize W.heap.size = g0 at r0 ⊢
  have HRw := hid_of' (row7_ok (hv.later hB) hin hml)
  have d0 : W1.cell? ⟨g0, 0, none⟩ = some (.slice va l0.length vc) := r0.cell 0
  go_upto_region 2 with (go_at_call 16; refine HRw.out.mono ?_; clear HRw; rintro r w2 ⟨u, out, k, rfl, hO, hR, hk, hb2⟩; obtain ⟨ua, uc, hu⟩ := hO.sl.form; subst hu)
  replace hB := bgo hB hb2
  replace r0 := r0.later hb2
  have hS := hO.sl
  clear hO hb2 d0 hv hin hml
  have d13 : w2.cell? ⟨g0, 13, none⟩ = some (.int .i64 n) := r0.cell 13
  have H3 := hid_of' (three_ok n hn w2)
  go_upto_region 3 with (first | (go_at_call 17; refine H3.out.mono ?_; clear H3; rintro r w3 ⟨ra, rb, rc, rfl, q1, q2, q3, q4, q5, q6, hb3⟩) | (refine wpL_store3 rfl _ _ rfl rfl rfl (row_new w3 _ _) ?_))
  have r3 := (row_new w3 #[.int .i64 0, .int .i64 0, .int .i64 0] 37).put #[.int .i64 (ra : Int), .int .i64 (rb : Int), .int .i64 (rc : Int)]
  have hb4 : Below w2.heap.size w2 ((w3.alloc (.cells #[.int .i64 0, .int .i64 0, .int .i64 0] 37)).setRow w3.heap.size #[.int .i64 (ra : Int), .int .i64 (rb : Int), .int .i64 (rc : Int)]) := bgo hb3 (below_row (below_one w3 _) (Nat.le_refl _) _)
  generalize (w3.alloc (.cells #[.int .i64 0, .int .i64 0, .int .i64 0] 37)).setRow w3.heap.size #[.int .i64 (ra : Int), .int .i64 (rb : Int), .int .i64 (rc : Int)] = w4 at r3 hb4 ⊢
  generalize w3.heap.size = g3 at r3 ⊢
  replace hB := bgo hB hb4
  replace r0 := r0.later hb4
  replace hS := hS.later hb4
  clear hb3 hb4 d13 w3
  have hol := hR.len
  have d3 : w4.cell? ⟨g3, 0, none⟩ = some (.int .i64 (ra : Int)) := r3.cell 0
  have HF := hid_of' (fun x => fit_ok a0 ha0 out.length ra (by omega) q1 x)
  go_upto_region 4 with (first | (refine wpL_loadO rfl _ rfl rfl (tv_a r0) ?_) | (go_at_call 18; refine (HF.out _).mono ?_; clear HF; rintro r w5 ⟨xa, pa, rfl, va1, va2, va3, hb5⟩) | (refine wpL_storeO (e := xa) rfl _ _ rfl rfl rfl (row_new w5 _ _) ?_))
  have rA := (row_new w5 #[.int .i64 0, .int .i64 0, .int .i32 0, .int .i64 0] 24).put (ov xa)
  have hb6 : Below w4.heap.size w4 ((w5.alloc (.cells #[.int .i64 0, .int .i64 0, .int .i32 0, .int .i64 0] 24)).setRow w5.heap.size (ov xa)) := bgo hb5 (below_row (below_one w5 _) (Nat.le_refl _) _)
  generalize (w5.alloc (.cells #[.int .i64 0, .int .i64 0, .int .i32 0, .int .i64 0] 24)).setRow w5.heap.size (ov xa) = w6 at rA hb6 ⊢
  generalize w5.heap.size = rAg at rA ⊢
  replace hB := bgo hB hb6
  replace r0 := r0.later hb6
  replace r3 := r3.later hb6
  replace hS := hS.later hb6
  clear hb5 hb6 d3 w5
  have d3 : w6.cell? ⟨g3, 1, none⟩ = some (.int .i64 (rb : Int)) := r3.cell 1
  have HF := hid_of' (fun x => fit_ok b0 hb0 out.length rb (by omega) q2 x)
  go_upto_region 5 with (first | (refine wpL_loadO rfl _ rfl rfl (tv_b r0) ?_) | (go_at_call 18; refine (HF.out _).mono ?_; clear HF; rintro r w7 ⟨xb, pb, rfl, vb1, vb2, vb3, hb7⟩) | (refine wpL_storeO (e := xb) rfl _ _ rfl rfl rfl (row_new w7 _ _) ?_))
  have rB := (row_new w7 #[.int .i64 0, .int .i64 0, .int .i32 0, .int .i64 0] 24).put (ov xb)
  have hb8 : Below w6.heap.size w6 ((w7.alloc (.cells #[.int .i64 0, .int .i64 0, .int .i32 0, .int .i64 0] 24)).setRow w7.heap.size (ov xb)) := bgo hb7 (below_row (below_one w7 _) (Nat.le_refl _) _)
  generalize (w7.alloc (.cells #[.int .i64 0, .int .i64 0, .int .i32 0, .int .i64 0] 24)).setRow w7.heap.size (ov xb) = w8 at rB hb8 ⊢
  generalize w7.heap.size = rBg at rB ⊢
  replace hB := bgo hB hb8
  replace r0 := r0.later hb8
  replace r3 := r3.later hb8
  replace rA := rA.later hb8
  replace hS := hS.later hb8
  clear hb7 hb8 d3 w7
  clear r0 r3
  cases pa with
  | false =>
    go_wp2_with (go_at_call 9; refine (HW.out _).mono ?_; rintro r w9 ⟨rfl, hb9⟩)
    go_ret
    exact ⟨rfl, bgo hB hb9⟩
  | true =>
    cases pb with
    | false =>
      go_wp2_with (go_at_call 9; refine (HW.out _).mono ?_; rintro r w9 ⟨rfl, hb9⟩)
      go_ret
      exact ⟨rfl, bgo hB hb9⟩
    | true =>
      have hva := va1 rfl
      have hvb := vb1 rfl
      have hpa := validO_place hva
      have hpb := validO_place hvb
      have hrr : xa.r ≠ xb.r := by omega
      have hra : 0 ≤ xa.r ∧ xa.r < 8 := by omega
      have hrb : 0 ≤ xb.r ∧ xb.r < 8 := by omega
      have h3 : ∀ e ∈ out, e.ep = 3 := fun e he => (hR.ep e he).1
      have as1 := two_ask hva hvb (by omega) hrr hra hrb h3
      have as2 := two_ask hvb hva (by omega) (Ne.symm hrr) hrb hra h3
      have hsame := hid_of' (two_same hva hvb (by omega) hrr)
      have HD := hid_of' (fun (x : World) (hX : Below w8.heap.size w8 x) (g : Nat) (h : SlO x (.slice (some ⟨g, 0, none⟩) 2 2) [xa, tO xb xa]) => done_ok (hS.later hX) h (by simp; omega) hR.ok (by decide) (by decide) as1.1 as1.2)
      go_upto_region 7 with fail
      refine wp_region_tail 12 (by kernel_rfl) (fun _ => none) (by kernel_rfl) (by kernel_rfl) (by decide) (fun i v x => match i with
        | 0 => v = .slice ua out.length uc
        | 1 => v = .agg (ov xa)
        | 2 => v = .agg (ov xb)
        | 3 => v = .agg (ov xa)
        | 4 => v = .agg (ov (tO xb xa))
        | 5 => SoV xa (tO xb xa) v x
        | 6 => DnV (runs out (named [xa, tO xb xa])) v x
        | 7 => DnV (runs out (named [xa, tO xb xa])) v x
        | 8 => SlE x v (runs out (named [xa, tO xb xa]))
        | 9 => v = .bool true
        | 10 => SlE x v (runs out (named [xa, tO xb xa]))
        | 11 => v = .bool true
        | _ => True) (fun _ => false) (fun _ _ _ _ h => by cases h) ?_ ?_ ?_
      · intro i v x x' hR hb
        match i, hR with
        | 0, h => exact h
        | 1, h => exact h
        | 2, h => exact h
        | 3, h => exact h
        | 4, h => exact h
        | 5, h => exact h.later hb
        | 6, h => exact h.later hb
        | 7, h => exact h.later hb
        | 8, h => exact h.later hb
        | 9, h => exact h
        | 10, h => exact h.later hb
        | 11, h => exact h
        | m + 12, h => exact h
      · intro i o hi ho q x vals hX hdep hoth
        have t3 : q.tmps[3]? = some (.slice ua out.length uc) := by rw [hoth 3 (by kernel_rfl)]; rfl
        have t5 : q.tmps[5]? = some (.pointer (some ⟨rAg, 0, none⟩)) := by rw [hoth 5 (by kernel_rfl)]; rfl
        have t7 : q.tmps[7]? = some (.pointer (some ⟨rBg, 0, none⟩)) := by rw [hoth 7 (by kernel_rfl)]; rfl
        match i, hi, ho with
        | 0, _, ho =>
          simp only [List.getElem?_cons_zero, Option.some.injEq] at ho
          subst ho
          unfold Oper.wp
          simp [execOp, go_sem, t3]
          exact came _ rfl (Below.refl _ _) rfl (fun h => absurd h (by decide))
        | 1, _, ho =>
          simp only [List.getElem?_cons_succ, List.getElem?_cons_zero, Option.some.injEq] at ho
          subst ho
          exact opw_loadO _ rfl (by simp [Act.eval, t5]) (rA.in.later hX) (came _ rfl (Below.refl _ _) rfl (fun h => absurd h (by decide)))
        | 2, _, ho =>
          simp only [List.getElem?_cons_succ, List.getElem?_cons_zero, Option.some.injEq] at ho
          subst ho
          exact opw_loadO _ rfl (by simp [Act.eval, t7]) (rB.in.later hX) (came _ rfl (Below.refl _ _) rfl (fun h => absurd h (by decide)))
        | 3, _, ho =>
          simp only [List.getElem?_cons_succ, List.getElem?_cons_zero, Option.some.injEq] at ho
          subst ho
          exact opw_loadO _ rfl (by simp [Act.eval, t5]) (rA.in.later hX) (came _ rfl (Below.refl _ _) rfl (fun h => absurd h (by decide)))
        | 4, _, ho =>
          simp only [List.getElem?_cons_succ, List.getElem?_cons_zero, Option.some.injEq] at ho
          subst ho
          obtain ⟨u2, e2⟩ := hdep ⟨2, .data⟩ (by simp) rfl _ 49 rfl rfl
          rw [show vals 2 = .agg (ov xb) from e2] at u2
          obtain ⟨u3, e3⟩ := hdep ⟨3, .data⟩ (by simp) rfl _ 50 rfl rfl
          rw [show vals 3 = .agg (ov xa) from e3] at u3
          unfold Oper.wp
          simp [go_sem, u2, u3]
          refine (tX_any xb xa x (by omega)).mono ?_
          rintro r x1 ⟨rfl, hb1⟩
          exact came _ rfl hb1 rfl (fun h => absurd h (by decide))
        | 5, _, ho =>
          simp only [List.getElem?_cons_succ, List.getElem?_cons_zero, Option.some.injEq] at ho
          subst ho
          obtain ⟨u1, e1⟩ := hdep ⟨1, .data⟩ (by simp) rfl _ 48 rfl rfl
          rw [show vals 1 = .agg (ov xa) from e1] at u1
          obtain ⟨u4, e4⟩ := hdep ⟨4, .data⟩ (by simp) rfl _ 51 rfl rfl
          rw [show vals 4 = .agg (ov (tO xb xa)) from e4] at u4
          unfold ov at u1 u4
          unfold Oper.wp
          simp [execOp, go_sem, u1, u4]
          exact came _ rfl (below_one _ _) (sov_new x xa (tO xb xa)) (fun h => absurd h (by decide))
        | 6, _, ho =>
          simp only [List.getElem?_cons_succ, List.getElem?_cons_zero, Option.some.injEq] at ho
          subst ho
          obtain ⟨u0, e0⟩ := hdep ⟨0, .data⟩ (by simp) rfl _ 47 rfl rfl
          rw [show vals 0 = .slice ua out.length uc from e0] at u0
          obtain ⟨u5, e5⟩ := hdep ⟨5, .data⟩ (by simp) rfl _ 52 rfl rfl
          obtain ⟨q6, g6, q7⟩ : SoV xa (tO xb xa) (vals 5) x := e5
          rw [q7] at q6
          rw [show vals (Edge.on ⟨5, .data⟩) = _ from q7] at u5
          unfold Oper.wp
          simp [go_sem, u0, u5]
          refine (HD.out x hX g6 q6).mono ?_
          rintro r x1 ⟨q, rfl, ho9, hb1⟩
          exact came _ rfl hb1 ⟨q, rfl, ho9.sl⟩ (fun h => absurd h (by decide))
        | 7, _, ho =>
          simp only [List.getElem?_cons_succ, List.getElem?_cons_zero, Option.some.injEq] at ho
          subst ho
          obtain ⟨u6, e6⟩ := hdep ⟨6, .data⟩ (by simp) rfl _ 53 rfl rfl
          have e6b : DnV (runs out (named [xa, tO xb xa])) (vals 6) x := e6
          obtain ⟨q, hq, _⟩ := id e6b
          unfold Oper.wp
          simp [execOp, go_sem, u6]
          exact came _ rfl (Below.refl _ _) e6b (fun h => absurd h (by decide))
        | 8, _, ho =>
          simp only [List.getElem?_cons_succ, List.getElem?_cons_zero, Option.some.injEq] at ho
          subst ho
          obtain ⟨u7, e7⟩ := hdep ⟨7, .data⟩ (by simp) rfl _ 46 rfl rfl
          obtain ⟨q, hq, hs⟩ : DnV (runs out (named [xa, tO xb xa])) (vals 7) x := e7
          rw [show vals (Edge.on ⟨7, .data⟩) = _ from hq] at u7
          unfold Oper.wp
          simp [execOp, go_sem, u7]
          exact came _ rfl (Below.refl _ _) hs (fun h => absurd h (by decide))
        | 9, _, ho =>
          simp only [List.getElem?_cons_succ, List.getElem?_cons_zero, Option.some.injEq] at ho
          subst ho
          obtain ⟨u7, e7⟩ := hdep ⟨7, .data⟩ (by simp) rfl _ 46 rfl rfl
          obtain ⟨q, hq, hs⟩ : DnV (runs out (named [xa, tO xb xa])) (vals 7) x := e7
          rw [show vals (Edge.on ⟨7, .data⟩) = _ from hq] at u7
          unfold Oper.wp
          simp [execOp, go_sem, u7]
          exact came _ rfl (Below.refl _ _) rfl (fun h => absurd h (by decide))
        | 10, _, ho =>
          simp only [List.getElem?_cons_succ, List.getElem?_cons_zero, Option.some.injEq] at ho
          subst ho
          obtain ⟨u8, e8⟩ := hdep ⟨8, .data⟩ (by simp) rfl _ 54 rfl rfl
          have e8b : SlE x (vals 8) (runs out (named [xa, tO xb xa])) := e8
          unfold Oper.wp
          simp [execOp, go_sem, u8]
          exact came _ rfl (Below.refl _ _) e8b (fun h => absurd h (by decide))
        | 11, _, ho =>
          simp only [List.getElem?_cons_succ, List.getElem?_cons_zero, Option.some.injEq] at ho
          subst ho
          obtain ⟨u9, e9⟩ := hdep ⟨9, .data⟩ (by simp) rfl _ 55 rfl rfl
          rw [show vals 9 = .bool true from e9] at u9
          unfold Oper.wp
          simp [execOp, go_sem, u9]
          exact came _ rfl (Below.refl _ _) rfl (fun h => absurd h (by decide))
        | m + 12, hi, _ => exact absurd hi (by omega)
      · intro vals x1 hX hRv _
        have q10 : SlE x1 (vals 10) (runs out (named [xa, tO xb xa])) := hRv 10 (by decide)
        have q11 : vals 11 = .bool true := hRv 11 (by decide)
        obtain ⟨ka, kc, hka⟩ := q10.form
        rw [hka] at q10
        replace hB := bgo hB hX
        replace rA := rA.later hX
        replace rB := rB.later hX
        replace hS := hS.later hX
        simp only [List.take, List.drop, putAll, hka, q11]
        clear hka q11 hRv hX HD
        simp only [List.setIfInBounds_toArray, List.set_cons_succ, List.set_cons_zero]
        have HD := hid_of' (fun (x : World) (hX : Below x1.heap.size x1 x) (g : Nat) (h : SlO x (.slice (some ⟨g, 0, none⟩) 2 2) [xb, tO xa xb]) => done_ok (hS.later hX) h (by simp; omega) hR.ok (by decide) (by decide) as2.1 as2.2)
        go_upto_region 8 with fail
        refine wp_region_tail 12 (by kernel_rfl) (fun _ => none) (by kernel_rfl) (by kernel_rfl) (by decide) (fun i v x => match i with
          | 0 => v = .slice ua out.length uc
          | 1 => v = .agg (ov xb)
          | 2 => v = .agg (ov xa)
          | 3 => v = .agg (ov xb)
          | 4 => v = .agg (ov (tO xa xb))
          | 5 => SoV xb (tO xa xb) v x
          | 6 => DnV (runs out (named [xb, tO xa xb])) v x
          | 7 => DnV (runs out (named [xb, tO xa xb])) v x
          | 8 => SlE x v (runs out (named [xb, tO xa xb]))
          | 9 => v = .bool true
          | 10 => SlE x v (runs out (named [xb, tO xa xb]))
          | 11 => v = .bool true
          | _ => True) (fun _ => false) (fun _ _ _ _ h => by cases h) ?_ ?_ ?_
        · intro i v x x' hR hb
          match i, hR with
          | 0, h => exact h
          | 1, h => exact h
          | 2, h => exact h
          | 3, h => exact h
          | 4, h => exact h
          | 5, h => exact h.later hb
          | 6, h => exact h.later hb
          | 7, h => exact h.later hb
          | 8, h => exact h.later hb
          | 9, h => exact h
          | 10, h => exact h.later hb
          | 11, h => exact h
          | m + 12, h => exact h
        · intro i o hi ho q x vals hX hdep hoth
          have t3 : q.tmps[3]? = some (.slice ua out.length uc) := by rw [hoth 3 (by kernel_rfl)]; rfl
          have t5 : q.tmps[5]? = some (.pointer (some ⟨rAg, 0, none⟩)) := by rw [hoth 5 (by kernel_rfl)]; rfl
          have t7 : q.tmps[7]? = some (.pointer (some ⟨rBg, 0, none⟩)) := by rw [hoth 7 (by kernel_rfl)]; rfl
          match i, hi, ho with
          | 0, _, ho =>
            simp only [List.getElem?_cons_zero, Option.some.injEq] at ho
            subst ho
            unfold Oper.wp
            simp [execOp, go_sem, t3]
            exact came _ rfl (Below.refl _ _) rfl (fun h => absurd h (by decide))
          | 1, _, ho =>
            simp only [List.getElem?_cons_succ, List.getElem?_cons_zero, Option.some.injEq] at ho
            subst ho
            exact opw_loadO _ rfl (by simp [Act.eval, t7]) (rB.in.later hX) (came _ rfl (Below.refl _ _) rfl (fun h => absurd h (by decide)))
          | 2, _, ho =>
            simp only [List.getElem?_cons_succ, List.getElem?_cons_zero, Option.some.injEq] at ho
            subst ho
            exact opw_loadO _ rfl (by simp [Act.eval, t5]) (rA.in.later hX) (came _ rfl (Below.refl _ _) rfl (fun h => absurd h (by decide)))
          | 3, _, ho =>
            simp only [List.getElem?_cons_succ, List.getElem?_cons_zero, Option.some.injEq] at ho
            subst ho
            exact opw_loadO _ rfl (by simp [Act.eval, t7]) (rB.in.later hX) (came _ rfl (Below.refl _ _) rfl (fun h => absurd h (by decide)))
          | 4, _, ho =>
            simp only [List.getElem?_cons_succ, List.getElem?_cons_zero, Option.some.injEq] at ho
            subst ho
            obtain ⟨u2, e2⟩ := hdep ⟨2, .data⟩ (by simp) rfl _ 59 rfl rfl
            rw [show vals 2 = .agg (ov xa) from e2] at u2
            obtain ⟨u3, e3⟩ := hdep ⟨3, .data⟩ (by simp) rfl _ 60 rfl rfl
            rw [show vals 3 = .agg (ov xb) from e3] at u3
            unfold Oper.wp
            simp [go_sem, u2, u3]
            refine (tX_any xa xb x (by omega)).mono ?_
            rintro r x1 ⟨rfl, hb1⟩
            exact came _ rfl hb1 rfl (fun h => absurd h (by decide))
          | 5, _, ho =>
            simp only [List.getElem?_cons_succ, List.getElem?_cons_zero, Option.some.injEq] at ho
            subst ho
            obtain ⟨u1, e1⟩ := hdep ⟨1, .data⟩ (by simp) rfl _ 58 rfl rfl
            rw [show vals 1 = .agg (ov xb) from e1] at u1
            obtain ⟨u4, e4⟩ := hdep ⟨4, .data⟩ (by simp) rfl _ 61 rfl rfl
            rw [show vals 4 = .agg (ov (tO xa xb)) from e4] at u4
            unfold ov at u1 u4
            unfold Oper.wp
            simp [execOp, go_sem, u1, u4]
            exact came _ rfl (below_one _ _) (sov_new x xb (tO xa xb)) (fun h => absurd h (by decide))
          | 6, _, ho =>
            simp only [List.getElem?_cons_succ, List.getElem?_cons_zero, Option.some.injEq] at ho
            subst ho
            obtain ⟨u0, e0⟩ := hdep ⟨0, .data⟩ (by simp) rfl _ 57 rfl rfl
            rw [show vals 0 = .slice ua out.length uc from e0] at u0
            obtain ⟨u5, e5⟩ := hdep ⟨5, .data⟩ (by simp) rfl _ 62 rfl rfl
            obtain ⟨q6, g6, q7⟩ : SoV xb (tO xa xb) (vals 5) x := e5
            rw [q7] at q6
            rw [show vals (Edge.on ⟨5, .data⟩) = _ from q7] at u5
            unfold Oper.wp
            simp [go_sem, u0, u5]
            refine (HD.out x hX g6 q6).mono ?_
            rintro r x1 ⟨q, rfl, ho9, hb1⟩
            exact came _ rfl hb1 ⟨q, rfl, ho9.sl⟩ (fun h => absurd h (by decide))
          | 7, _, ho =>
            simp only [List.getElem?_cons_succ, List.getElem?_cons_zero, Option.some.injEq] at ho
            subst ho
            obtain ⟨u6, e6⟩ := hdep ⟨6, .data⟩ (by simp) rfl _ 63 rfl rfl
            have e6b : DnV (runs out (named [xb, tO xa xb])) (vals 6) x := e6
            obtain ⟨q, hq, _⟩ := id e6b
            unfold Oper.wp
            simp [execOp, go_sem, u6]
            exact came _ rfl (Below.refl _ _) e6b (fun h => absurd h (by decide))
          | 8, _, ho =>
            simp only [List.getElem?_cons_succ, List.getElem?_cons_zero, Option.some.injEq] at ho
            subst ho
            obtain ⟨u7, e7⟩ := hdep ⟨7, .data⟩ (by simp) rfl _ 56 rfl rfl
            obtain ⟨q, hq, hs⟩ : DnV (runs out (named [xb, tO xa xb])) (vals 7) x := e7
            rw [show vals (Edge.on ⟨7, .data⟩) = _ from hq] at u7
            unfold Oper.wp
            simp [execOp, go_sem, u7]
            exact came _ rfl (Below.refl _ _) hs (fun h => absurd h (by decide))
          | 9, _, ho =>
            simp only [List.getElem?_cons_succ, List.getElem?_cons_zero, Option.some.injEq] at ho
            subst ho
            obtain ⟨u7, e7⟩ := hdep ⟨7, .data⟩ (by simp) rfl _ 56 rfl rfl
            obtain ⟨q, hq, hs⟩ : DnV (runs out (named [xb, tO xa xb])) (vals 7) x := e7
            rw [show vals (Edge.on ⟨7, .data⟩) = _ from hq] at u7
            unfold Oper.wp
            simp [execOp, go_sem, u7]
            exact came _ rfl (Below.refl _ _) rfl (fun h => absurd h (by decide))
          | 10, _, ho =>
            simp only [List.getElem?_cons_succ, List.getElem?_cons_zero, Option.some.injEq] at ho
            subst ho
            obtain ⟨u8, e8⟩ := hdep ⟨8, .data⟩ (by simp) rfl _ 64 rfl rfl
            have e8b : SlE x (vals 8) (runs out (named [xb, tO xa xb])) := e8
            unfold Oper.wp
            simp [execOp, go_sem, u8]
            exact came _ rfl (Below.refl _ _) e8b (fun h => absurd h (by decide))
          | 11, _, ho =>
            simp only [List.getElem?_cons_succ, List.getElem?_cons_zero, Option.some.injEq] at ho
            subst ho
            obtain ⟨u9, e9⟩ := hdep ⟨9, .data⟩ (by simp) rfl _ 65 rfl rfl
            rw [show vals 9 = .bool true from e9] at u9
            unfold Oper.wp
            simp [execOp, go_sem, u9]
            exact came _ rfl (Below.refl _ _) rfl (fun h => absurd h (by decide))
          | m + 12, hi, _ => exact absurd hi (by omega)
        · intro vals x2 hX hRv _
          have p10 : SlE x2 (vals 10) (runs out (named [xb, tO xa xb])) := hRv 10 (by decide)
          have p11 : vals 11 = .bool true := hRv 11 (by decide)
          obtain ⟨kd, ke, hkd⟩ := p10.form
          rw [hkd] at p10
          replace hB := bgo hB hX
          replace q10 := q10.later hX
          simp only [List.take, List.drop, putAll, hkd, p11]
          clear hkd p11 hRv hX HD
          simp only [List.setIfInBounds_toArray, List.set_cons_succ, List.set_cons_zero]
          rw [← hsame.out] at p10 ⊢
          have hrl := (runs_len (named [xa, tO xb xa]) out as1.1).1
          have hn2 : (named [xa, tO xb xa]).length = 2 := rfl
          have HE := hid_of' (elements_eq q10 p10 (by omega))
          generalize runs out (named [xa, tO xb xa]) = RR at *
          clear hrl hn2
          go_wp2_with (first | (go_at_call 20; refine HE.out.mono ?_; rintro r y1 ⟨rfl, hy1⟩) | (go_at_call 9; refine (HW.out _).mono ?_; rintro r y2 ⟨rfl, hy2⟩))
          go_ret
          exact ⟨rfl, bgo hB (bgo hy1 hy2)⟩
end Go.Proofs.YtbcilnbjhjepgaaDoor
