/-
  barrowlaw04.TreeChunks.
-/
import Derived.Test.YtppfgmggcihmoaaGreatDoorTrPch
namespace Go.Proofs.YtppfgmggcihmoaaGreatDoor
open Go.RowKit
set_option maxRecDepth 100000

theorem SlO.form {w0 : World} {v : Value} {os : List Opx} (h : SlO w0 v os) : ∃ a c, v = .slice a os.length c := by
  rcases h with ⟨rfl, a, c, rfl⟩ | ⟨g, o_, c, rfl, _⟩
  · exact ⟨a, c, rfl⟩
  · exact ⟨_, c, rfl⟩
theorem SlO.at {w0 : World} {a : Option Addr} {n c : Nat} {os : List Opx} (h : SlO w0 (.slice a n c) os) (k : Nat) (x : Opx) (hx : os[k]? = some x) : ∃ g o_, a = some ⟨g, o_, none⟩ ∧ x.Ok w0 ∧ CsIn g (o_ + k * 4) (ocs x.dv x.iv x.nv x.sl) w0 := by
  rcases h with ⟨rfl, _⟩ | ⟨g, o_, c, e, h⟩
  · simp at hx
  · cases e
    exact ⟨g, o_, rfl, h k x hx⟩
theorem PrAt.below {w0 : World} {R : Rows} {pb tb ch : Nat} {l : List El} {w : World} (h : PrAt w0 R pb tb ch l w) : Below w0.heap.size w0 w := by
  obtain ⟨_, _, _, _, h4, _⟩ := h
  exact h4
def R2 (pb tb hi : Nat) (h1 : pb < hi) (h2 : tb < hi) : Rows := ⟨fun g => g = pb ∨ g = tb, hi, fun g h => h.elim (fun e => by omega) (fun e => by omega)⟩
set_option maxHeartbeats 16000000 in
theorem chunks_all (n : Int) (v : Value) (os : List Opx) (w : World) (h1 : -9223372036854775808 ≤ n) (h2 : n ≤ 9223372036854775807) (hos : SlO w v os) :
    Calls Tryz.prog 4 #[.int .i64 n, v] w fun r w' => r = .returned (.bool true) ∧ Below w.heap.size w w' := by
  obtain ⟨a', c', rfl⟩ := hos.form
  have HB := hid_of' (begun_any n w h1 h2)
  unfold pv at HB
  go_enter Tryz.func4, Tryz.ntmps4
  go_upto_region 4 with (go_at_call 6; refine HB.out.mono ?_; rintro r w1 ⟨pb, tb, ch, hc1, hc2, rfl, k1, k2, hp, ht, hb1⟩; clear HB)
  obtain ⟨R, hR⟩ : ∃ R, R = R2 pb tb w1.heap.size hp.lt ht.lt := ⟨_, rfl⟩
  have C : PrC w R pb tb ch := ⟨by rw [hR]; exact .inl rfl, by rw [hR]; exact .inr rfl, by omega, by omega, k1, hc1, hc2⟩
  have hpr0 : PrAt w R pb tb ch [] w1 := ⟨_, hp, .inl ⟨rfl, rfl⟩, ⟨[], _, ht, .inl ⟨rfl, rfl⟩, rfl, trivial⟩, hb1, by rw [hR]; exact Nat.le_refl _⟩
  clear hR hp ht
  go_wp2
  go_loopw [6] (fun i wr => ∃ (k : Nat) (l : List El), i = .int .i64 (k : Int) ∧ k ≤ os.length ∧ k ≤ 200 ∧ l.length ≤ 600 ∧ PrAt w R pb tb ch l wr) (fun i _ => 200 - (intOf i).toNat)
  case atStart => exact ⟨0, [], rfl, by omega, by omega, by simp, hpr0⟩
  case round =>
    obtain ⟨k, l, rfl, hk1, hk2, hl6, hpr⟩ := hrel
    by_cases hA : k < os.length ∧ k < 200
    · obtain ⟨hA1, hA2⟩ := hA
      have e1 : (k : Int) < (os.length : Int) := by omega
      have e2 : (k : Int) < 200 := by omega
      obtain ⟨x0, hx0⟩ : ∃ x0, os[k]? = some x0 := ⟨_, List.getElem?_eq_getElem hA1⟩
      obtain ⟨g, o_, rfl, hok, hcs⟩ := hos.at k x0 hx0
      obtain ⟨ax, cx, hsl⟩ := hok.2.2.2.1.form
      obtain ⟨ul, hp, hpl, htr, hbw, hz⟩ := hpr
      obtain ⟨au, cu, rfl⟩ := hpl.form
      have hcs' := hcs.later hbw
      rw [hsl] at hcs'
      have HZ : Hid (PrAt w R pb tb ch l wr) := ⟨_, hp, hpl, htr, hbw, hz⟩
      have hpb := hp.lt
      clear hcs hx0 hpl htr
      go_upto_region 8 with (first | (refine wpL_loadO rfl _ rfl rfl hcs' ?_) | (refine wpL_storeO rfl _ _ rfl rfl rfl (row_new wr _ _) ?_))
      have hr7 := (row_new wr #[.int .i64 0, .int .i64 0, .int .i64 0, .slice none 0 0] 28).put (ocs x0.dv x0.iv x0.nv (.slice ax x0.l.length cx))
      have hB7 : Below wr.heap.size wr ((wr.alloc (.cells #[.int .i64 0, .int .i64 0, .int .i64 0, .slice none 0 0] 28)).setRow wr.heap.size (ocs x0.dv x0.iv x0.nv (.slice ax x0.l.length cx))) := below_row (below_one _ _) (by omega) _
      generalize (wr.alloc (.cells #[.int .i64 0, .int .i64 0, .int .i64 0, .slice none 0 0] 28)).setRow wr.heap.size (ocs x0.dv x0.iv x0.nv (.slice ax x0.l.length cx)) = W7 at hr7 hB7 ⊢
      have c70 : W7.cell? ⟨wr.heap.size, 0, none⟩ = some (.int .i64 x0.dv) := hr7.cell 0
      have f70 : W7.frozen? ⟨wr.heap.size, 0, none⟩ = false := Lib.frozen_of_heap hr7 0
      have HWd := hid_of' (within_any x0.dv 2 W7 (by decide) (by decide) hok.1.1 hok.1.2)
      rw [show ((2 : Nat) : Int) = 2 from rfl] at HWd
      clear hcs'
      go_upto_region 9 with (go_at_call 7; (with_reducible refine HWd.out.mono ?_); rintro r w8 ⟨kd, hkd, rfl, hw⟩; obtain rfl := hw.symm; clear HWd)
      have hr8 : RowAt wr.heap.size (ocs kd x0.iv x0.nv (.slice ax x0.l.length cx)) 28 (W7.setCell ⟨wr.heap.size, 0, none⟩ (.int .i64 (kd : Int))) := heap_setCell_at hr7 0 _
      have hB8 := hB7.setCell (p := ⟨wr.heap.size, 0, none⟩) (Nat.le_refl _) (.int .i64 (kd : Int))
      generalize W7.setCell ⟨wr.heap.size, 0, none⟩ (.int .i64 (kd : Int)) = W8 at hr8 hB8 ⊢
      have hp8 := hp.later hB8
      obtain ⟨nl1, hnl1⟩ : ∃ nl1, l.length + 1 = nl1 := ⟨_, rfl⟩
      clear hr7 hB7 c70 f70
      refine wp_region_tail 10 (by kernel_rfl) (fun _ => none) (by kernel_rfl) (by kernel_rfl) (by decide) (fun i v x => match i with
        | 0 => v = .pointer (some ⟨wr.heap.size, 1, none⟩)
        | 1 => v = .int .i64 x0.iv
        | 2 => v = .pointer (some ⟨pb, 0, none⟩)
        | 3 => v = .pointer (some ⟨pb, 0, none⟩)
        | 4 => v = .pointer (some ⟨pb, 1, none⟩)
        | 5 => v = .slice au l.length cu
        | 6 => v = .int .i64 (l.length : Int)
        | 7 => v = .int .i64 (nl1 : Int)
        | 8 => ∃ kk : Nat, kk < nl1 ∧ v = .int .i64 (kk : Int)
        | 9 => v = .pointer (some ⟨wr.heap.size, 1, none⟩)
        | _ => True) (fun _ => false) (fun _ _ _ _ h => by cases h) ?_ ?_ ?_
      · intro i v x x' hR hb
        match i, hR with
        | 0, h => exact h
        | 1, h => exact h
        | 2, h => exact h
        | 3, h => exact h
        | 4, h => exact h
        | 5, h => exact h
        | 6, h => exact h
        | 7, h => exact h
        | 8, h => exact h
        | 9, h => exact h
        | m + 10, h => exact h
      · intro i o hi ho q x vals hX hdep hoth
        have t5 : q.tmps[5]? = some (.pointer (some ⟨pb, 0, none⟩)) := by rw [hoth 5 (by kernel_rfl)]; rfl
        have t7 : q.tmps[7]? = some (.pointer (some ⟨wr.heap.size, 0, none⟩)) := by rw [hoth 7 (by kernel_rfl)]; rfl
        match i, hi, ho with
        | 0, _, ho =>
          simp only [List.getElem?_cons_zero, Option.some.injEq] at ho
          subst ho
          unfold Oper.wp
          simp [execOp, go_sem, t7]
          exact came _ rfl (Below.refl _ _) rfl (fun h => absurd h (by decide))
        | 1, _, ho =>
          simp only [List.getElem?_cons_succ, List.getElem?_cons_zero, Option.some.injEq] at ho
          subst ho
          obtain ⟨u0, e0⟩ := hdep ⟨0, .data⟩ (by simp) rfl _ 30 rfl rfl
          rw [show vals 0 = .pointer (some ⟨wr.heap.size, 1, none⟩) from e0] at u0
          have cc : x.cell? ⟨wr.heap.size, 1, none⟩ = some (.int .i64 x0.iv) := (hr8.later hX).cell 1
          unfold Oper.wp
          simp [execOp, go_sem, u0, cc]
          exact came _ rfl (Below.refl _ _) rfl (fun h => absurd h (by decide))
        | 2, _, ho =>
          simp only [List.getElem?_cons_succ, List.getElem?_cons_zero, Option.some.injEq] at ho
          subst ho
          unfold Oper.wp
          simp [execOp, go_sem, t5]
          exact came _ rfl (Below.refl _ _) rfl (fun h => absurd h (by decide))
        | 3, _, ho =>
          simp only [List.getElem?_cons_succ, List.getElem?_cons_zero, Option.some.injEq] at ho
          subst ho
          obtain ⟨u2, e2⟩ := hdep ⟨2, .data⟩ (by simp) rfl _ 32 rfl rfl
          rw [show vals 2 = .pointer (some ⟨pb, 0, none⟩) from e2] at u2
          unfold Oper.wp
          simp [execOp, go_sem, u2]
          exact came _ rfl (Below.refl _ _) rfl (fun h => absurd h (by decide))
        | 4, _, ho =>
          simp only [List.getElem?_cons_succ, List.getElem?_cons_zero, Option.some.injEq] at ho
          subst ho
          obtain ⟨u3, e3⟩ := hdep ⟨3, .data⟩ (by simp) rfl _ 33 rfl rfl
          rw [show vals 3 = .pointer (some ⟨pb, 0, none⟩) from e3] at u3
          unfold Oper.wp
          simp [execOp, go_sem, u3]
          exact came _ rfl (Below.refl _ _) rfl (fun h => absurd h (by decide))
        | 5, _, ho =>
          simp only [List.getElem?_cons_succ, List.getElem?_cons_zero, Option.some.injEq] at ho
          subst ho
          obtain ⟨u4, e4⟩ := hdep ⟨4, .data⟩ (by simp) rfl _ 34 rfl rfl
          rw [show vals 4 = .pointer (some ⟨pb, 1, none⟩) from e4] at u4
          have cc : x.cell? ⟨pb, 1, none⟩ = some (.slice au l.length cu) := (hp8.later hX).cell 1
          unfold Oper.wp
          simp [execOp, go_sem, u4, cc]
          exact came _ rfl (Below.refl _ _) rfl (fun h => absurd h (by decide))
        | 6, _, ho =>
          simp only [List.getElem?_cons_succ, List.getElem?_cons_zero, Option.some.injEq] at ho
          subst ho
          obtain ⟨u5, e5⟩ := hdep ⟨5, .data⟩ (by simp) rfl _ 35 rfl rfl
          rw [show vals 5 = .slice au l.length cu from e5] at u5
          unfold Oper.wp
          simp [go_sem, u5]
          exact came _ rfl (Below.refl _ _) rfl (fun h => absurd h (by decide))
        | 7, _, ho =>
          simp only [List.getElem?_cons_succ, List.getElem?_cons_zero, Option.some.injEq] at ho
          subst ho
          obtain ⟨u6, e6⟩ := hdep ⟨6, .data⟩ (by simp) rfl _ 36 rfl rfl
          rw [show vals 6 = .int .i64 (l.length : Int) from e6] at u6
          have wr1 : IntKind.i64.wrap ((l.length : Int) + 1) = (nl1 : Int) := by rw [IntKind.wrap_i64]; omega
          unfold Oper.wp
          simp [execOp, go_sem, u6, wr1]
          exact came _ rfl (Below.refl _ _) rfl (fun h => absurd h (by decide))
        | 8, _, ho =>
          simp only [List.getElem?_cons_succ, List.getElem?_cons_zero, Option.some.injEq] at ho
          subst ho
          obtain ⟨u1, e1⟩ := hdep ⟨1, .data⟩ (by simp) rfl _ 31 rfl rfl
          rw [show vals 1 = .int .i64 x0.iv from e1] at u1
          obtain ⟨u7, e7⟩ := hdep ⟨7, .data⟩ (by simp) rfl _ 37 rfl rfl
          rw [show vals 7 = .int .i64 (nl1 : Int) from e7] at u7
          unfold Oper.wp
          simp [go_sem, u1, u7]
          refine (within_any x0.iv nl1 _ (by omega) (by omega) hok.2.1.1 hok.2.1.2).mono ?_
          rintro r x1 ⟨kk, hkk, rfl, hw⟩; subst hw; have hb1 := Below.refl x1.heap.size x1
          exact came _ rfl hb1 ⟨kk, hkk, rfl⟩ (fun h => absurd h (by decide))
        | 9, _, ho =>
          simp only [List.getElem?_cons_succ, List.getElem?_cons_zero, Option.some.injEq] at ho
          subst ho
          unfold Oper.wp
          simp [execOp, go_sem, t7]
          exact came _ rfl (Below.refl _ _) rfl (fun h => absurd h (by decide))
        | m + 10, hi, _ => exact absurd hi (by omega)
      · intro vals x' hX hR9 _
        obtain ⟨kI, hkI, q8⟩ : ∃ kk : Nat, kk < nl1 ∧ vals 8 = .int .i64 (kk : Int) := hR9 8 (by decide)
        have q9 : vals 9 = .pointer (some ⟨wr.heap.size, 1, none⟩) := hR9 9 (by decide)
        have d1 : x'.cell? ⟨wr.heap.size, 1, none⟩ = some (.int .i64 x0.iv) := (hr8.later hX).cell 1
        have df : x'.frozen? ⟨wr.heap.size, 1, none⟩ = false := Lib.frozen_of_heap (hr8.later hX) 1
        simp only [List.take, List.drop, putAll, q8, q9, List.setIfInBounds_toArray, List.set_cons_succ, List.set_cons_zero]
        clear hR9 q8 q9
        go_upto_region 10 with fail
        have hr9 : RowAt wr.heap.size (ocs kd kI x0.nv (.slice ax x0.l.length cx)) 28 (x'.setCell ⟨wr.heap.size, 1, none⟩ (.int .i64 (kI : Int))) := heap_setCell_at (hr8.later hX) 1 _
        have hB9 := (bgo hB8 hX).setCell (p := ⟨wr.heap.size, 1, none⟩) (Nat.le_refl _) (.int .i64 (kI : Int))
        generalize x'.setCell ⟨wr.heap.size, 1, none⟩ (.int .i64 (kI : Int)) = W9 at hr9 hB9 ⊢
        have hp9 := hp.later hB9
        have c90 : W9.cell? ⟨wr.heap.size, 0, none⟩ = some (.int .i64 (kd : Int)) := hr9.cell 0
        clear hr8 hB8 hp8 d1 df hX
        by_cases hkd1 : kd = 1
        · subst hkd1
          rw [show ((1 : Nat) : Int) = 1 from rfl] at c90 hr9
          go_upto_region 11 with fail
          obtain ⟨nd0, hnd0⟩ : ∃ nd0, l.length - kI = nd0 := ⟨_, rfl⟩
          obtain ⟨nd1, hnd1⟩ : ∃ nd1, nd0 + 1 = nd1 := ⟨_, rfl⟩
          refine wp_region_tail 13 (by kernel_rfl) (fun _ => none) (by kernel_rfl) (by kernel_rfl) (by decide) (fun i v x => match i with
            | 0 => v = .pointer (some ⟨wr.heap.size, 2, none⟩)
            | 1 => v = .int .i64 x0.nv
            | 2 => v = .pointer (some ⟨pb, 0, none⟩)
            | 3 => v = .pointer (some ⟨pb, 0, none⟩)
            | 4 => v = .pointer (some ⟨pb, 1, none⟩)
            | 5 => v = .slice au l.length cu
            | 6 => v = .int .i64 (l.length : Int)
            | 7 => v = .pointer (some ⟨wr.heap.size, 1, none⟩)
            | 8 => v = .int .i64 (kI : Int)
            | 9 => v = .int .i64 (nd0 : Int)
            | 10 => v = .int .i64 (nd1 : Int)
            | 11 => ∃ kk : Nat, kk < nd1 ∧ v = .int .i64 (kk : Int)
            | 12 => v = .pointer (some ⟨wr.heap.size, 2, none⟩)
            | _ => True) (fun _ => false) (fun _ _ _ _ h => by cases h) ?_ ?_ ?_
          · intro i v x x' hR hb
            match i, hR with
            | 0, h => exact h
            | 1, h => exact h
            | 2, h => exact h
            | 3, h => exact h
            | 4, h => exact h
            | 5, h => exact h
            | 6, h => exact h
            | 7, h => exact h
            | 8, h => exact h
            | 9, h => exact h
            | 10, h => exact h
            | 11, h => exact h
            | 12, h => exact h
            | m + 13, h => exact h
          · intro i o hi ho q x vals hX hdep hoth
            have t5 : q.tmps[5]? = some (.pointer (some ⟨pb, 0, none⟩)) := by rw [hoth 5 (by kernel_rfl)]; rfl
            have t7 : q.tmps[7]? = some (.pointer (some ⟨wr.heap.size, 0, none⟩)) := by rw [hoth 7 (by kernel_rfl)]; rfl
            match i, hi, ho with
            | 0, _, ho =>
              simp only [List.getElem?_cons_zero, Option.some.injEq] at ho
              subst ho
              unfold Oper.wp
              simp [execOp, go_sem, t7]
              exact came _ rfl (Below.refl _ _) rfl (fun h => absurd h (by decide))
            | 1, _, ho =>
              simp only [List.getElem?_cons_succ, List.getElem?_cons_zero, Option.some.injEq] at ho
              subst ho
              obtain ⟨u0, e0⟩ := hdep ⟨0, .data⟩ (by simp) rfl _ 43 rfl rfl
              rw [show vals 0 = .pointer (some ⟨wr.heap.size, 2, none⟩) from e0] at u0
              have cc : x.cell? ⟨wr.heap.size, 2, none⟩ = some (.int .i64 x0.nv) := (hr9.later hX).cell 2
              unfold Oper.wp
              simp [execOp, go_sem, u0, cc]
              exact came _ rfl (Below.refl _ _) rfl (fun h => absurd h (by decide))
            | 2, _, ho =>
              simp only [List.getElem?_cons_succ, List.getElem?_cons_zero, Option.some.injEq] at ho
              subst ho
              unfold Oper.wp
              simp [execOp, go_sem, t5]
              exact came _ rfl (Below.refl _ _) rfl (fun h => absurd h (by decide))
            | 3, _, ho =>
              simp only [List.getElem?_cons_succ, List.getElem?_cons_zero, Option.some.injEq] at ho
              subst ho
              obtain ⟨u2, e2⟩ := hdep ⟨2, .data⟩ (by simp) rfl _ 45 rfl rfl
              rw [show vals 2 = .pointer (some ⟨pb, 0, none⟩) from e2] at u2
              unfold Oper.wp
              simp [execOp, go_sem, u2]
              exact came _ rfl (Below.refl _ _) rfl (fun h => absurd h (by decide))
            | 4, _, ho =>
              simp only [List.getElem?_cons_succ, List.getElem?_cons_zero, Option.some.injEq] at ho
              subst ho
              obtain ⟨u3, e3⟩ := hdep ⟨3, .data⟩ (by simp) rfl _ 46 rfl rfl
              rw [show vals 3 = .pointer (some ⟨pb, 0, none⟩) from e3] at u3
              unfold Oper.wp
              simp [execOp, go_sem, u3]
              exact came _ rfl (Below.refl _ _) rfl (fun h => absurd h (by decide))
            | 5, _, ho =>
              simp only [List.getElem?_cons_succ, List.getElem?_cons_zero, Option.some.injEq] at ho
              subst ho
              obtain ⟨u4, e4⟩ := hdep ⟨4, .data⟩ (by simp) rfl _ 47 rfl rfl
              rw [show vals 4 = .pointer (some ⟨pb, 1, none⟩) from e4] at u4
              have cc : x.cell? ⟨pb, 1, none⟩ = some (.slice au l.length cu) := (hp9.later hX).cell 1
              unfold Oper.wp
              simp [execOp, go_sem, u4, cc]
              exact came _ rfl (Below.refl _ _) rfl (fun h => absurd h (by decide))
            | 6, _, ho =>
              simp only [List.getElem?_cons_succ, List.getElem?_cons_zero, Option.some.injEq] at ho
              subst ho
              obtain ⟨u5, e5⟩ := hdep ⟨5, .data⟩ (by simp) rfl _ 48 rfl rfl
              rw [show vals 5 = .slice au l.length cu from e5] at u5
              unfold Oper.wp
              simp [go_sem, u5]
              exact came _ rfl (Below.refl _ _) rfl (fun h => absurd h (by decide))
            | 7, _, ho =>
              simp only [List.getElem?_cons_succ, List.getElem?_cons_zero, Option.some.injEq] at ho
              subst ho
              unfold Oper.wp
              simp [execOp, go_sem, t7]
              exact came _ rfl (Below.refl _ _) rfl (fun h => absurd h (by decide))
            | 8, _, ho =>
              simp only [List.getElem?_cons_succ, List.getElem?_cons_zero, Option.some.injEq] at ho
              subst ho
              obtain ⟨u7, e7⟩ := hdep ⟨7, .data⟩ (by simp) rfl _ 50 rfl rfl
              rw [show vals 7 = .pointer (some ⟨wr.heap.size, 1, none⟩) from e7] at u7
              have cc : x.cell? ⟨wr.heap.size, 1, none⟩ = some (.int .i64 (kI : Int)) := (hr9.later hX).cell 1
              unfold Oper.wp
              simp [execOp, go_sem, u7, cc]
              exact came _ rfl (Below.refl _ _) rfl (fun h => absurd h (by decide))
            | 9, _, ho =>
              simp only [List.getElem?_cons_succ, List.getElem?_cons_zero, Option.some.injEq] at ho
              subst ho
              obtain ⟨u6, e6⟩ := hdep ⟨6, .data⟩ (by simp) rfl _ 49 rfl rfl
              rw [show vals 6 = .int .i64 (l.length : Int) from e6] at u6
              obtain ⟨u8, e8⟩ := hdep ⟨8, .data⟩ (by simp) rfl _ 51 rfl rfl
              rw [show vals 8 = .int .i64 (kI : Int) from e8] at u8
              have wr1 : IntKind.i64.wrap ((l.length : Int) - (kI : Int)) = (nd0 : Int) := by rw [IntKind.wrap_i64]; omega
              unfold Oper.wp
              simp [execOp, go_sem, u6, u8, wr1]
              exact came _ rfl (Below.refl _ _) rfl (fun h => absurd h (by decide))
            | 10, _, ho =>
              simp only [List.getElem?_cons_succ, List.getElem?_cons_zero, Option.some.injEq] at ho
              subst ho
              obtain ⟨u9, e9⟩ := hdep ⟨9, .data⟩ (by simp) rfl _ 52 rfl rfl
              rw [show vals 9 = .int .i64 (nd0 : Int) from e9] at u9
              have wr1 : IntKind.i64.wrap ((nd0 : Int) + 1) = (nd1 : Int) := by rw [IntKind.wrap_i64]; omega
              unfold Oper.wp
              simp [execOp, go_sem, u9, wr1]
              exact came _ rfl (Below.refl _ _) rfl (fun h => absurd h (by decide))
            | 11, _, ho =>
              simp only [List.getElem?_cons_succ, List.getElem?_cons_zero, Option.some.injEq] at ho
              subst ho
              obtain ⟨u1, e1⟩ := hdep ⟨1, .data⟩ (by simp) rfl _ 44 rfl rfl
              rw [show vals 1 = .int .i64 x0.nv from e1] at u1
              obtain ⟨u10, e10⟩ := hdep ⟨10, .data⟩ (by simp) rfl _ 53 rfl rfl
              rw [show vals 10 = .int .i64 (nd1 : Int) from e10] at u10
              unfold Oper.wp
              simp [go_sem, u1, u10]
              refine (within_any x0.nv nd1 _ (by omega) (by omega) hok.2.2.1.1 hok.2.2.1.2).mono ?_
              rintro r x1 ⟨kk, hkk, rfl, hw⟩; subst hw; have hb1 := Below.refl x1.heap.size x1
              exact came _ rfl hb1 ⟨kk, hkk, rfl⟩ (fun h => absurd h (by decide))
            | 12, _, ho =>
              simp only [List.getElem?_cons_succ, List.getElem?_cons_zero, Option.some.injEq] at ho
              subst ho
              unfold Oper.wp
              simp [execOp, go_sem, t7]
              exact came _ rfl (Below.refl _ _) rfl (fun h => absurd h (by decide))
            | m + 13, hi, _ => exact absurd hi (by omega)
          · intro vals5 x5 hX5 hR5 _
            obtain ⟨kN, hkN, q11⟩ : ∃ kk : Nat, kk < nd1 ∧ vals5 11 = .int .i64 (kk : Int) := hR5 11 (by decide)
            have q12 : vals5 12 = .pointer (some ⟨wr.heap.size, 2, none⟩) := hR5 12 (by decide)
            have d1 : x5.cell? ⟨wr.heap.size, 2, none⟩ = some (.int .i64 x0.nv) := (hr9.later hX5).cell 2
            have df : x5.frozen? ⟨wr.heap.size, 2, none⟩ = false := Lib.frozen_of_heap (hr9.later hX5) 2
            simp only [List.take, List.drop, putAll, q11, q12, List.setIfInBounds_toArray, List.set_cons_succ, List.set_cons_zero]
            clear hR5 q11 q12 c90
            go_upto_region 12 with fail
            have hrA : RowAt wr.heap.size (ocs 1 kI kN (.slice ax x0.l.length cx)) 28 (x5.setCell ⟨wr.heap.size, 2, none⟩ (.int .i64 (kN : Int))) := heap_setCell_at (hr9.later hX5) 2 _
            have hBA := (bgo hB9 hX5).setCell (p := ⟨wr.heap.size, 2, none⟩) (Nat.le_refl _) (.int .i64 (kN : Int))
            generalize x5.setCell ⟨wr.heap.size, 2, none⟩ (.int .i64 (kN : Int)) = WA at hrA hBA ⊢
            have hprA := HZ.out.later hBA
            clear d1 df
            have HCh := hid_of' (chg1 C hprA hl6 kI kN (by omega) x0 hok)
            unfold ChgOut at HCh
            rw [hsl] at HCh
            go_wp2_with (first | (refine wpL_loadO rfl _ rfl rfl hrA.in ?_) | (go_at_call 8; (refine HCh.out.mono ?_); rintro r w9 ⟨rfl, l', hl', hpr'⟩; clear HCh; have HPc := hid_of' (pchunks_any hpr' hl' hc1 hc2); unfold pv at HPc) | (go_at_call 13; (with_reducible refine HPc.out.mono ?_); rintro r w10 ⟨rfl, hb10⟩; clear HPc))
            go_roundw
            case rel => exact ⟨k + 1, l', by go_num, by omega, by omega, hl', hpr'.later hb10⟩
            case measure => simp [intOf]; omega
        · have hkd0 : kd = 0 := by omega
          subst hkd0
          rw [show ((0 : Nat) : Int) = 0 from rfl] at c90 hr9
          have hpr9 := HZ.out.later hB9
          have HCh := hid_of' (chg0 C hpr9 hl6 kI (by omega) x0.nv x0 hok)
          unfold ChgOut at HCh
          rw [hsl] at HCh
          go_wp2_with (first | (refine wpL_loadO rfl _ rfl rfl hr9.in ?_) | (go_at_call 8; (refine HCh.out.mono ?_); rintro r w9 ⟨rfl, l', hl', hpr'⟩; clear HCh; have HPc := hid_of' (pchunks_any hpr' hl' hc1 hc2); unfold pv at HPc) | (go_at_call 13; (with_reducible refine HPc.out.mono ?_); rintro r w10 ⟨rfl, hb10⟩; clear HPc))
          go_roundw
          case rel => exact ⟨k + 1, l', by go_num, by omega, by omega, hl', hpr'.later hb10⟩
          case measure => simp [intOf]; omega
    · by_cases hA1 : k < os.length
      · have e1 : (k : Int) < (os.length : Int) := by omega
        have e2 : ¬ (k : Int) < 200 := by omega
        go_wp2_with (go_at_call 12; refine (wakesT_ok _).mono ?_; rintro r w5 ⟨rfl, hb5⟩)
        go_ret
        exact ⟨rfl, bgo hpr.below hb5⟩
      · have e1 : ¬ (k : Int) < (os.length : Int) := by omega
        go_wp2_with (go_at_call 12; refine (wakesT_ok _).mono ?_; rintro r w5 ⟨rfl, hb5⟩)
        go_ret
        exact ⟨rfl, bgo hpr.below hb5⟩
end Go.Proofs.YtppfgmggcihmoaaGreatDoor
