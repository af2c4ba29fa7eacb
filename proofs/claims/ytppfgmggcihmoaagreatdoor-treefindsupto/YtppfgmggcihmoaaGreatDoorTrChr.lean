/-
  (*barrowlaw04.pair).changes: Remove.
-/
import Derived.Test.YtppfgmggcihmoaaGreatDoorTrChg
namespace Go.Proofs.YtppfgmggcihmoaaGreatDoor
open Go.RowKit
set_option maxRecDepth 100000

set_option maxHeartbeats 8000000 in
theorem chg_rem {w0 : World} {R : Rows} {pb tb ch : Nat} {l : List El} {w : World} (C : PrC w0 R pb tb ch) (h : PrAt w0 R pb tb ch l w) (ip cn : Nat) (hip : ip + cn ≤ l.length) (hl6 : l.length ≤ 600) (aU : Option Addr) (n0 cU : Nat) :
    Calls Tryz.prog 8 #[pv pb, .agg #[.int .i64 1, .int .i64 (ip : Int), .int .i64 (cn : Int), .slice aU n0 cU]] w fun r w' => r = .returned (.bool true) ∧ PrAt w0 R pb tb ch (l.take ip ++ l.drop (ip + cn)) w' := by
  obtain ⟨ul, hp, hpl, htr, hbw, hz⟩ := h
  obtain ⟨au, cu, rfl⟩ := hpl.form
  have hBx := below_one w (.cells #[.int .i64 1, .int .i64 (ip : Int), .int .i64 (cn : Int), .slice aU n0 cU] 28)
  have hob := row_new w #[.int .i64 1, .int .i64 (ip : Int), .int .i64 (cn : Int), .slice aU n0 cU] 28
  have hp2 := hp.later hBx
  have c1 := hp2.cell 1
  have HW := hid_of' (within_small 1 8 (w.alloc (.cells #[.int .i64 1, .int .i64 (ip : Int), .int .i64 (cn : Int), .slice aU n0 cU] 28)) (by decide) (by decide))
  rw [show ((1 : Nat) : Int) = 1 from rfl, show ((8 : Nat) : Int) = 8 from rfl] at HW
  obtain ⟨vt, hrt⟩ := htr.row
  have htb := hrt.lt
  have hpb := hp.lt
  have HZ := hid_of' (show RowAt pb #[pv tb, .slice au l.length cu, .int .i64 (ch : Int)] 34 w ∧ PlAt R w (.slice au l.length cu) l ∧ TrL R tb ch l w ∧ Below w0.heap.size w0 w ∧ R.hi ≤ w.heap.size from ⟨hp, hpl, htr, hbw, hz⟩)
  unfold pv at hp2 c1 ⊢
  clear hrt hp
  go_enter Tryz.func8, Tryz.ntmps8
  go_upto_region 16 with (go_at_call 7; refine HW.out.mono ?_; rintro r w1 ⟨rfl, hw⟩; obtain rfl := hw.symm)
  clear HW c1
  refine wp_region_tail 8 (by kernel_rfl) (fun _ => none) (by kernel_rfl) (by kernel_rfl) (by decide) (fun i v x => match i with
    | 0 => v = .pointer (some ⟨pb, 0, none⟩)
    | 1 => v = .pointer (some ⟨pb, 0, none⟩)
    | 2 => v = .pointer (some ⟨pb, 0, none⟩)
    | 3 => v = .pointer (some ⟨tb, 0, none⟩)
    | 4 => v = .pointer (some ⟨w.heap.size, 1, none⟩)
    | 5 => v = .int .i64 (ip : Int)
    | 6 => v = .pointer (some ⟨w.heap.size, 2, none⟩)
    | 7 => v = .int .i64 (cn : Int)
    | _ => True) (fun _ => false) (fun _ _ _ _ h => by cases h) ?_ ?_ ?_
  · intro i v x x' hR hb
    match i, hR with
    | 0, h => exact h
    | 1, h => exact h
    | 2, h => exact h
    | 3, h => exact h
    | 4, h => exact h
    | 5, h => exact h
    | 6, h => exact h
    | 7, h => exact h
    | m + 8, h => exact h
  · intro i o hi ho q x vals hX hdep hoth
    have t0 : q.tmps[0]? = some (.pointer (some ⟨pb, 0, none⟩)) := by rw [hoth 0 (by kernel_rfl)]; rfl
    have t3 : q.tmps[3]? = some (.pointer (some ⟨w.heap.size, 0, none⟩)) := by rw [hoth 3 (by kernel_rfl)]; rfl
    match i, hi, ho with
    | 0, _, ho =>
      simp only [List.getElem?_cons_zero, Option.some.injEq] at ho
      subst ho
      unfold Oper.wp
      simp [execOp, go_sem, t0]
      exact came _ rfl (Below.refl _ _) rfl (fun h => absurd h (by decide))
    | 1, _, ho =>
      simp only [List.getElem?_cons_succ, List.getElem?_cons_zero, Option.some.injEq] at ho
      subst ho
      obtain ⟨u0, e0⟩ := hdep ⟨0, .data⟩ (by simp) rfl _ 86 rfl rfl
      rw [show vals 0 = .pointer (some ⟨pb, 0, none⟩) from e0] at u0
      unfold Oper.wp
      simp [execOp, go_sem, u0]
      exact came _ rfl (Below.refl _ _) rfl (fun h => absurd h (by decide))
    | 2, _, ho =>
      simp only [List.getElem?_cons_succ, List.getElem?_cons_zero, Option.some.injEq] at ho
      subst ho
      obtain ⟨u1, e1⟩ := hdep ⟨1, .data⟩ (by simp) rfl _ 87 rfl rfl
      rw [show vals 1 = .pointer (some ⟨pb, 0, none⟩) from e1] at u1
      unfold Oper.wp
      simp [execOp, go_sem, u1]
      exact came _ rfl (Below.refl _ _) rfl (fun h => absurd h (by decide))
    | 3, _, ho =>
      simp only [List.getElem?_cons_succ, List.getElem?_cons_zero, Option.some.injEq] at ho
      subst ho
      obtain ⟨u2, e2⟩ := hdep ⟨2, .data⟩ (by simp) rfl _ 88 rfl rfl
      rw [show vals 2 = .pointer (some ⟨pb, 0, none⟩) from e2] at u2
      have cc : x.cell? ⟨pb, 0, none⟩ = some (.pointer (some ⟨tb, 0, none⟩)) := (hp2.later hX).cell 0
      unfold Oper.wp
      simp [execOp, go_sem, u2, cc]
      exact came _ rfl (Below.refl _ _) rfl (fun h => absurd h (by decide))
    | 4, _, ho =>
      simp only [List.getElem?_cons_succ, List.getElem?_cons_zero, Option.some.injEq] at ho
      subst ho
      unfold Oper.wp
      simp [execOp, go_sem, t3]
      exact came _ rfl (Below.refl _ _) rfl (fun h => absurd h (by decide))
    | 5, _, ho =>
      simp only [List.getElem?_cons_succ, List.getElem?_cons_zero, Option.some.injEq] at ho
      subst ho
      obtain ⟨u4, e4⟩ := hdep ⟨4, .data⟩ (by simp) rfl _ 90 rfl rfl
      rw [show vals 4 = .pointer (some ⟨w.heap.size, 1, none⟩) from e4] at u4
      have cc : x.cell? ⟨w.heap.size, 1, none⟩ = some (.int .i64 (ip : Int)) := (hob.later hX).cell 1
      unfold Oper.wp
      simp [execOp, go_sem, u4, cc]
      exact came _ rfl (Below.refl _ _) rfl (fun h => absurd h (by decide))
    | 6, _, ho =>
      simp only [List.getElem?_cons_succ, List.getElem?_cons_zero, Option.some.injEq] at ho
      subst ho
      unfold Oper.wp
      simp [execOp, go_sem, t3]
      exact came _ rfl (Below.refl _ _) rfl (fun h => absurd h (by decide))
    | 7, _, ho =>
      simp only [List.getElem?_cons_succ, List.getElem?_cons_zero, Option.some.injEq] at ho
      subst ho
      obtain ⟨u6, e6⟩ := hdep ⟨6, .data⟩ (by simp) rfl _ 92 rfl rfl
      rw [show vals 6 = .pointer (some ⟨w.heap.size, 2, none⟩) from e6] at u6
      have cc : x.cell? ⟨w.heap.size, 2, none⟩ = some (.int .i64 (cn : Int)) := (hob.later hX).cell 2
      unfold Oper.wp
      simp [execOp, go_sem, u6, cc]
      exact came _ rfl (Below.refl _ _) rfl (fun h => absurd h (by decide))
    | m + 8, hi, _ => exact absurd hi (by omega)
  · intro vals x' hX hR _
    have q3 : vals 3 = .pointer (some ⟨tb, 0, none⟩) := hR 3 (by decide)
    have q5 : vals 5 = .int .i64 (ip : Int) := hR 5 (by decide)
    have q7 : vals 7 = .int .i64 (cn : Int) := hR 7 (by decide)
    have bX : Below w.heap.size w x' := bgo hBx hX
    have HI := hid_of' (remove_any (htr.later bX) ip cn hip (by omega) C.nt C.c1 C.c2 (Nat.le_trans hz bX.size))
    have e5 : decide ((ip : Int) < 0) = false := decide_eq_false (by omega)
    have e6 : decide (l.length < ip) = false := decide_eq_false (by omega)
    have e7 : decide ((cn : Int) < 0) = false := decide_eq_false (by omega)
    have e8 : ¬ (l.length : Int) - (ip : Int) < (cn : Int) := by omega
    have e10 : decide ((l.length : Int) - (ip : Int) < (cn : Int)) = false := decide_eq_false e8
    have e9 : (l.length : Int) ≤ 600 := by omega
    have f5 : ¬ (ip : Int) < 0 := by omega
    have f6 : ¬ l.length < ip := by omega
    have f7 : ¬ (cn : Int) < 0 := by omega
    unfold pv at HI
    simp only [List.take, List.drop, putAll, q3, q5, q7, List.setIfInBounds_toArray, List.set_cons_succ, List.set_cons_zero]
    clear hR q3 q5 q7
    go_upto_region 19 with (go_at_call 26; (with_reducible refine HI.out.mono ?_); rintro r w4 ⟨rfl, htr4, hk4⟩; have c41 : w4.cell? ⟨w.heap.size, 1, none⟩ = some (.int .i64 (ip : Int)) := ((hob.later hX).kp hk4 (by omega)).cell 1; have c42 : w4.cell? ⟨w.heap.size, 2, none⟩ = some (.int .i64 (cn : Int)) := ((hob.later hX).kp hk4 (by omega)).cell 2; clear HI)
    have hp4 := (hp2.later hX).kp hk4 C.ne
    have hob4 := (hob.later hX).kp hk4 (by omega)
    have hpl4 := (HZ.out.2.1.later bX).kp hk4 C.nt
    have hb4 : Below w0.heap.size w0 w4 := Kp.below (HZ.out.2.2.2.1.trans (bX.mono HZ.out.2.2.2.1.size)) hk4 C.lt (Nat.le_trans HZ.out.2.2.2.1.size bX.size)
    have s4 : w.heap.size ≤ w4.heap.size := Nat.le_trans bX.size hk4.size
    clear e5 e6 e7 e8 e9 f5 f6 f7 c41 c42
    refine wp_region_tail 12 (by kernel_rfl) (fun _ => none) (by kernel_rfl) (by kernel_rfl) (by decide) (fun i v x => match i with
      | 0 => v = .pointer (some ⟨pb, 0, none⟩)
      | 1 => v = .pointer (some ⟨pb, 0, none⟩)
      | 2 => v = .pointer (some ⟨pb, 0, none⟩)
      | 3 => v = .pointer (some ⟨pb, 1, none⟩)
      | 4 => v = .slice au l.length cu
      | 5 => v = .pointer (some ⟨w.heap.size, 1, none⟩)
      | 6 => v = .int .i64 (ip : Int)
      | 7 => v = .pointer (some ⟨w.heap.size, 2, none⟩)
      | 8 => v = .int .i64 (cn : Int)
      | 9 => OwnE w4.heap.size v (l.take ip ++ l.drop (ip + cn)) x
      | 10 => v = .pointer (some ⟨pb, 0, none⟩)
      | 11 => v = .pointer (some ⟨pb, 1, none⟩)
      | _ => True) (fun _ => false) (fun _ _ _ _ h => by cases h) ?_ ?_ ?_
    · intro i v x x' hR hb
      match i, hR with
      | 0, h => exact h
      | 1, h => exact h
      | 2, h => exact h
      | 3, h => exact h
      | 4, h => exact h
      | 5, h => exact h
      | 6, h => exact h
      | 7, h => exact h
      | 8, h => exact h
      | 9, h => exact OwnE.later h hb
      | 10, h => exact h
      | 11, h => exact h
      | m + 12, h => exact h
    · intro i o hi ho q x vals hX hdep hoth
      have t0 : q.tmps[0]? = some (.pointer (some ⟨pb, 0, none⟩)) := by rw [hoth 0 (by kernel_rfl)]; rfl
      have t3 : q.tmps[3]? = some (.pointer (some ⟨w.heap.size, 0, none⟩)) := by rw [hoth 3 (by kernel_rfl)]; rfl
      match i, hi, ho with
      | 0, _, ho =>
        simp only [List.getElem?_cons_zero, Option.some.injEq] at ho
        subst ho
        unfold Oper.wp
        simp [execOp, go_sem, t0]
        exact came _ rfl (Below.refl _ _) rfl (fun h => absurd h (by decide))
      | 1, _, ho =>
        simp only [List.getElem?_cons_succ, List.getElem?_cons_zero, Option.some.injEq] at ho
        subst ho
        unfold Oper.wp
        simp [execOp, go_sem, t0]
        exact came _ rfl (Below.refl _ _) rfl (fun h => absurd h (by decide))
      | 2, _, ho =>
        simp only [List.getElem?_cons_succ, List.getElem?_cons_zero, Option.some.injEq] at ho
        subst ho
        obtain ⟨u1, e1⟩ := hdep ⟨1, .data⟩ (by simp) rfl _ 121 rfl rfl
        rw [show vals 1 = .pointer (some ⟨pb, 0, none⟩) from e1] at u1
        unfold Oper.wp
        simp [execOp, go_sem, u1]
        exact came _ rfl (Below.refl _ _) rfl (fun h => absurd h (by decide))
      | 3, _, ho =>
        simp only [List.getElem?_cons_succ, List.getElem?_cons_zero, Option.some.injEq] at ho
        subst ho
        obtain ⟨u2, e2⟩ := hdep ⟨2, .data⟩ (by simp) rfl _ 122 rfl rfl
        rw [show vals 2 = .pointer (some ⟨pb, 0, none⟩) from e2] at u2
        unfold Oper.wp
        simp [execOp, go_sem, u2]
        exact came _ rfl (Below.refl _ _) rfl (fun h => absurd h (by decide))
      | 4, _, ho =>
        simp only [List.getElem?_cons_succ, List.getElem?_cons_zero, Option.some.injEq] at ho
        subst ho
        obtain ⟨u3, e3⟩ := hdep ⟨3, .data⟩ (by simp) rfl _ 123 rfl rfl
        rw [show vals 3 = .pointer (some ⟨pb, 1, none⟩) from e3] at u3
        have cc : x.cell? ⟨pb, 1, none⟩ = some (.slice au l.length cu) := (hp4.later hX).cell 1
        unfold Oper.wp
        simp [execOp, go_sem, u3, cc]
        exact came _ rfl (Below.refl _ _) rfl (fun h => absurd h (by decide))
      | 5, _, ho =>
        simp only [List.getElem?_cons_succ, List.getElem?_cons_zero, Option.some.injEq] at ho
        subst ho
        unfold Oper.wp
        simp [execOp, go_sem, t3]
        exact came _ rfl (Below.refl _ _) rfl (fun h => absurd h (by decide))
      | 6, _, ho =>
        simp only [List.getElem?_cons_succ, List.getElem?_cons_zero, Option.some.injEq] at ho
        subst ho
        obtain ⟨u5, e5⟩ := hdep ⟨5, .data⟩ (by simp) rfl _ 125 rfl rfl
        rw [show vals 5 = .pointer (some ⟨w.heap.size, 1, none⟩) from e5] at u5
        have cc : x.cell? ⟨w.heap.size, 1, none⟩ = some (.int .i64 (ip : Int)) := (hob4.later hX).cell 1
        unfold Oper.wp
        simp [execOp, go_sem, u5, cc]
        exact came _ rfl (Below.refl _ _) rfl (fun h => absurd h (by decide))
      | 7, _, ho =>
        simp only [List.getElem?_cons_succ, List.getElem?_cons_zero, Option.some.injEq] at ho
        subst ho
        unfold Oper.wp
        simp [execOp, go_sem, t3]
        exact came _ rfl (Below.refl _ _) rfl (fun h => absurd h (by decide))
      | 8, _, ho =>
        simp only [List.getElem?_cons_succ, List.getElem?_cons_zero, Option.some.injEq] at ho
        subst ho
        obtain ⟨u7, e7⟩ := hdep ⟨7, .data⟩ (by simp) rfl _ 127 rfl rfl
        rw [show vals 7 = .pointer (some ⟨w.heap.size, 2, none⟩) from e7] at u7
        have cc : x.cell? ⟨w.heap.size, 2, none⟩ = some (.int .i64 (cn : Int)) := (hob4.later hX).cell 2
        unfold Oper.wp
        simp [execOp, go_sem, u7, cc]
        exact came _ rfl (Below.refl _ _) rfl (fun h => absurd h (by decide))
      | 9, _, ho =>
        simp only [List.getElem?_cons_succ, List.getElem?_cons_zero, Option.some.injEq] at ho
        subst ho
        obtain ⟨u4, e4⟩ := hdep ⟨4, .data⟩ (by simp) rfl _ 124 rfl rfl
        rw [show vals 4 = .slice au l.length cu from e4] at u4
        obtain ⟨u6, e6⟩ := hdep ⟨6, .data⟩ (by simp) rfl _ 126 rfl rfl
        rw [show vals 6 = .int .i64 (ip : Int) from e6] at u6
        obtain ⟨u8, e8⟩ := hdep ⟨8, .data⟩ (by simp) rfl _ 128 rfl rfl
        rw [show vals 8 = .int .i64 (cn : Int) from e8] at u8
        unfold Oper.wp
        simp [go_sem, u4, u6, u8]
        refine (cut_ok (hpl4.later hX) ip cn hip (by omega)).mono ?_
        rintro r x1 ⟨v1, rfl, ho1, hb1⟩
        exact came _ rfl hb1 (ho1.base hX.size) (fun h => absurd h (by decide))
      | 10, _, ho =>
        simp only [List.getElem?_cons_succ, List.getElem?_cons_zero, Option.some.injEq] at ho
        subst ho
        obtain ⟨u0, e0⟩ := hdep ⟨0, .data⟩ (by simp) rfl _ 120 rfl rfl
        rw [show vals 0 = .pointer (some ⟨pb, 0, none⟩) from e0] at u0
        unfold Oper.wp
        simp [execOp, go_sem, u0]
        exact came _ rfl (Below.refl _ _) rfl (fun h => absurd h (by decide))
      | 11, _, ho =>
        simp only [List.getElem?_cons_succ, List.getElem?_cons_zero, Option.some.injEq] at ho
        subst ho
        obtain ⟨u10, e10⟩ := hdep ⟨10, .data⟩ (by simp) rfl _ 130 rfl rfl
        rw [show vals 10 = .pointer (some ⟨pb, 0, none⟩) from e10] at u10
        unfold Oper.wp
        simp [execOp, go_sem, u10]
        exact came _ rfl (Below.refl _ _) rfl (fun h => absurd h (by decide))
      | m + 12, hi, _ => exact absurd hi (by omega)
    · intro vals5 x5 hX5 hR5 _
      have ho5 : OwnE w4.heap.size (vals5 9) (l.take ip ++ l.drop (ip + cn)) x5 := hR5 9 (by decide)
      have q11 : vals5 11 = .pointer (some ⟨pb, 1, none⟩) := hR5 11 (by decide)
      obtain ⟨a5, c5, q9⟩ := ho5.form
      obtain ⟨nl, hnl⟩ : ∃ nl, (l.take ip ++ l.drop (ip + cn)).length = nl := ⟨_, rfl⟩
      rw [hnl] at q9
      rw [q9] at ho5
      have d1 := (hp4.later hX5).cell 1
      have df : x5.frozen? ⟨pb, 1, none⟩ = false := Lib.frozen_of_heap (hp4.later hX5) 1
      simp only [List.take, List.drop, putAll, q9, q11, List.setIfInBounds_toArray, List.set_cons_succ, List.set_cons_zero]
      clear hR5 q11 q9
      go_upto_region 20 with fail
      have k6 : Kp pb x5 (x5.setCell ⟨pb, 1, none⟩ (.slice a5 nl c5)) := Kp.cell pb 1 _
      have hp6 : RowAt pb #[pv tb, .slice a5 nl c5, .int .i64 (ch : Int)] 34 (x5.setCell ⟨pb, 1, none⟩ (.slice a5 nl c5)) := heap_setCell_at (hp4.later hX5) 1 _
      generalize x5.setCell ⟨pb, 1, none⟩ (.slice a5 nl c5) = W6 at k6 hp6 ⊢
      have hob6 := (hob4.later hX5).kp k6 (by omega)
      have hb6 : Below w0.heap.size w0 W6 := Kp.below (hb4.trans (hX5.mono hb4.size)) k6 C.lp (Nat.le_trans hb4.size hX5.size)
      have htr6 : TrL R tb ch (l.take ip ++ l.drop (ip + cn)) W6 := (htr4.later hX5).kp C.np (hp4.later hX5) (by decide) k6 (fun e => C.ne e.symm)
      have hpl6 : PlAt R W6 (.slice a5 nl c5) (l.take ip ++ l.drop (ip + cn)) := (PlAt.of_own ho5 (Nat.le_trans HZ.out.2.2.2.2 s4)).kp k6 C.np
      have HNo := hid_of' (no_false ⟨#[82, 101, 109, 111, 118, 101]⟩ (ip : Int))
      have HRf := hid_of' (refused_none none none 0 0 0 0)
      have s6 : w.heap.size ≤ W6.heap.size := Nat.le_trans s4 (Nat.le_trans hX5.size k6.size)
      have hz6 : R.hi ≤ W6.heap.size := Nat.le_trans HZ.out.2.2.2.2 s6
      have c61 : W6.cell? ⟨w.heap.size, 1, none⟩ = some (.int .i64 (ip : Int)) := hob6.cell 1
      clear HZ hob4 hp4 hpl4 htr4 d1 df k6 ho5
      go_wp2_with (first | (go_at_call 25; (with_reducible refine (HNo.out _).mono ?_); rintro r w8 ⟨rfl, hb8⟩) | (go_at_call 24; (with_reducible refine (HRf.out _).mono ?_); rintro r w9 ⟨rfl, hb9⟩))
      go_ret
      have hb89 := bgo hb8 hb9
      exact ⟨rfl, _, hp6.later hb89, hpl6.later hb89, htr6.later hb89, hb6.trans (hb89.mono hb6.size), Nat.le_trans hz6 hb89.size⟩
end Go.Proofs.YtppfgmggcihmoaaGreatDoor
