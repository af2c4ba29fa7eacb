/-
  barrowlaw04.TreeFinds.
-/
import Derived.Test.YtppfgmggcihmoaaGreatDoorTrOps
import Derived.Test.YtppfgmggcihmoaaGreatDoorInvF
namespace Go.Proofs.YtppfgmggcihmoaaGreatDoor
open Go.RowKit
set_option maxRecDepth 100000

theorem SlO.form {w0 : World} {v : Value} {os : List Opx} (h : SlO w0 v os) : ∃ a c, v = .slice a os.length c := by
  rcases h with ⟨rfl, a, c, rfl⟩ | ⟨g, o_, c, rfl, _⟩
  · exact ⟨a, c, rfl⟩
  · exact ⟨_, c, rfl⟩
theorem SlO.at {w0 : World} {a : Option Addr} {n c : Nat} {os : List Opx} (h : SlO w0 (.slice a n c) os) (k : Nat) (x : Opx) (hx : os[k]? = some x) : ∃ g o_, a = some ⟨g, o_, none⟩ ∧ x.Ok w0 ∧ CsIn g (o_ + k * 4) (ocs x.dv x.iv x.nv x.sl) w0 := by
  rcases h with ⟨rfl, _⟩ | ⟨g, o_, c, e, h⟩
  · simp at hx
  · cases e
    exact ⟨g, o_, rfl, h k x hx⟩
/-- A Weight that was made new. -/
def NewW (n : Nat) (v : Value) (x : World) : Prop := ∃ g, n ≤ g ∧ v = .pointer (some ⟨g, 0, none⟩) ∧ RowAt g #[.int .i64 0, .int .i64 0] 42 x
theorem NewW.later {n : Nat} {v : Value} {x x' : World} (h : NewW n v x) (hb : Below x.heap.size x x') : NewW n v x' := by
  obtain ⟨g, h1, h2, h3⟩ := h
  exact ⟨g, h1, h2, h3.later hb⟩
theorem eq_W (x y : Int) (w : World) : (Op.equalIn 10000 42 (.agg #[.int .i64 x, .int .i64 y]) (.agg #[.int .i64 x, .int .i64 y])).run Tryz.prog w = .ok true w := by
  simp [go_sem]
set_option maxHeartbeats 1000000 in
theorem weight_none {b ch : Nat} {w : World} (h1 : RowAt b #[.int .i64 (ch : Int), .pointer none] 76 w) :
    Calls Tryz.prog 18 #[pv b] w fun r w' => r = .returned (wv 0 0) ∧ Below w.heap.size w w' := by
  have c1 := (h1.later (below_one w (.cells #[.int .i64 0, .int .i64 0] 42))).cell 1
  unfold pv
  go_enter Tryz.func18, Tryz.ntmps18
  go_wp2
  exact bodyPost_ret (v := wv 0 0) (results_w (fn := Tryz.f18) (p := 2) rfl rfl (row_new w _ _)) rfl ⟨rfl, below_one w _⟩
theorem weight_L {R : Rows} {b ch : Nat} {l : List El} {w : World} (h : TrL R b ch l w) : Calls Tryz.prog 18 #[pv b] w fun r w' => r = .returned (wv (liveL l) (lineL l)) ∧ Below w.heap.size w w' := by
  rcases h.at with ⟨rfl, h2⟩ | ⟨t, h1, h2, h3, h4, _⟩
  · exact weight_none h2
  · rw [← h4]; exact weightT_some h1 h2
def R2 (pb tb hi : Nat) (h1 : pb < hi) (h2 : tb < hi) : Rows := ⟨fun g => g = pb ∨ g = tb, hi, fun g h => h.elim (fun e => by omega) (fun e => by omega)⟩
set_option maxHeartbeats 16000000 in
theorem finds_all (n : Int) (v : Value) (os : List Opx) (w : World) (h1 : -9223372036854775808 ≤ n) (h2 : n ≤ 9223372036854775807) (hos : SlO w v os) :
    Calls Tryz.prog 5 #[.int .i64 n, v] w fun r w' => r = .returned (.bool true) ∧ Below w.heap.size w w' := by
  obtain ⟨a', c', rfl⟩ := hos.form
  have HB := hid_of' (begun_any n w h1 h2)
  unfold pv at HB
  go_enter Tryz.func5, Tryz.ntmps5
  go_upto_region 4 with (go_at_call 6; refine HB.out.mono ?_; rintro r w1 ⟨pb, tb, ch, hc1, hc2, rfl, k1, k2, hp, ht, hb1⟩; clear HB)
  obtain ⟨R, hR⟩ : ∃ R, R = R2 pb tb w1.heap.size hp.lt ht.lt := ⟨_, rfl⟩
  have C : PrC w R pb tb ch := ⟨by rw [hR]; exact .inl rfl, by rw [hR]; exact .inr rfl, by omega, by omega, k1, hc1, hc2⟩
  have hpr0 : PrAt w R pb tb ch [] w1 := ⟨_, hp, .inl ⟨rfl, rfl⟩, ⟨[], _, ht, .inl ⟨rfl, rfl⟩, rfl, trivial⟩, hb1, by rw [hR]; exact Nat.le_refl _⟩
  clear hR hp ht
  go_wp2
  go_loopw [6] (fun i wr => ∃ (k : Nat) (l : List El), i = .int .i64 (k : Int) ∧ k ≤ os.length ∧ k ≤ 60 ∧ l.length ≤ 600 ∧ PrAt w R pb tb ch l wr) (fun i _ => 60 - (intOf i).toNat)
  case atStart => exact ⟨0, [], rfl, by omega, by omega, by simp, hpr0⟩
  case round =>
    obtain ⟨k, l, rfl, hk1, hk2, hl6, hpr⟩ := hrel
    by_cases hA : k < os.length ∧ k < 60
    · obtain ⟨hA1, hA2⟩ := hA
      have e1 : (k : Int) < (os.length : Int) := by omega
      have e2 : (k : Int) < 60 := by omega
      obtain ⟨x0, hx0⟩ : ∃ x0, os[k]? = some x0 := ⟨_, List.getElem?_eq_getElem hA1⟩
      obtain ⟨g, o_, rfl, hok, hcs⟩ := hos.at k x0 hx0
      obtain ⟨ax, cx, hsl⟩ := hok.2.2.2.1.form
      obtain ⟨ul, hp, hpl, htr, hbw, hz⟩ := hpr
      obtain ⟨au, cu, rfl⟩ := hpl.form
      have hcs' := hcs.later hbw
      rw [hsl] at hcs'
      have HZ : Hid (PrAt w R pb tb ch l wr) := ⟨_, hp, hpl, htr, hbw, hz⟩
      have hpb := hp.lt
      clear hcs hx0 hpl htr
      go_upto_region 8 with (first | (refine wpL_loadO rfl _ rfl rfl hcs' ?_) | (refine wpL_storeO rfl _ _ rfl rfl rfl (row_new wr _ _) ?_))
      have hr7 := (row_new wr #[.int .i64 0, .int .i64 0, .int .i64 0, .slice none 0 0] 28).put (ocs x0.dv x0.iv x0.nv (.slice ax x0.l.length cx))
      have hB7 : Below wr.heap.size wr ((wr.alloc (.cells #[.int .i64 0, .int .i64 0, .int .i64 0, .slice none 0 0] 28)).setRow wr.heap.size (ocs x0.dv x0.iv x0.nv (.slice ax x0.l.length cx))) := below_row (below_one _ _) (by omega) _
      generalize (wr.alloc (.cells #[.int .i64 0, .int .i64 0, .int .i64 0, .slice none 0 0] 28)).setRow wr.heap.size (ocs x0.dv x0.iv x0.nv (.slice ax x0.l.length cx)) = W7 at hr7 hB7 ⊢
      have c70 : W7.cell? ⟨wr.heap.size, 0, none⟩ = some (.int .i64 x0.dv) := hr7.cell 0
      have f70 : W7.frozen? ⟨wr.heap.size, 0, none⟩ = false := Lib.frozen_of_heap hr7 0
      have HWd := hid_of' (within_any x0.dv 2 W7 (by decide) (by decide) hok.1.1 hok.1.2)
      rw [show ((2 : Nat) : Int) = 2 from rfl] at HWd
      clear hcs'
      go_upto_region 9 with (go_at_call 7; (with_reducible refine HWd.out.mono ?_); rintro r w8 ⟨kd, hkd, rfl, hw⟩; obtain rfl := hw.symm; clear HWd)
      have hr8 : RowAt wr.heap.size (ocs kd x0.iv x0.nv (.slice ax x0.l.length cx)) 28 (W7.setCell ⟨wr.heap.size, 0, none⟩ (.int .i64 (kd : Int))) := heap_setCell_at hr7 0 _
      have hB8 := hB7.setCell (p := ⟨wr.heap.size, 0, none⟩) (Nat.le_refl _) (.int .i64 (kd : Int))
      generalize W7.setCell ⟨wr.heap.size, 0, none⟩ (.int .i64 (kd : Int)) = W8 at hr8 hB8 ⊢
      have hp8 := hp.later hB8
      obtain ⟨nl1, hnl1⟩ : ∃ nl1, l.length + 1 = nl1 := ⟨_, rfl⟩
      clear hr7 hB7 c70 f70
      refine wp_region_tail 10 (by kernel_rfl) (fun _ => none) (by kernel_rfl) (by kernel_rfl) (by decide) (fun i v x => match i with
        | 0 => v = .pointer (some ⟨wr.heap.size, 1, none⟩)
        | 1 => v = .int .i64 x0.iv
        | 2 => v = .pointer (some ⟨pb, 0, none⟩)
        | 3 => v = .pointer (some ⟨pb, 0, none⟩)
        | 4 => v = .pointer (some ⟨pb, 1, none⟩)
        | 5 => v = .slice au l.length cu
        | 6 => v = .int .i64 (l.length : Int)
        | 7 => v = .int .i64 (nl1 : Int)
        | 8 => ∃ kk : Nat, kk < nl1 ∧ v = .int .i64 (kk : Int)
        | 9 => v = .pointer (some ⟨wr.heap.size, 1, none⟩)
        | _ => True) (fun _ => false) (fun _ _ _ _ h => by cases h) ?_ ?_ ?_
      · intro i v x x' hR hb
        match i, hR with
        | 0, h => exact h
        | 1, h => exact h
        | 2, h => exact h
        | 3, h => exact h
        | 4, h => exact h
        | 5, h => exact h
        | 6, h => exact h
        | 7, h => exact h
        | 8, h => exact h
        | 9, h => exact h
        | m + 10, h => exact h
      · intro i o hi ho q x vals hX hdep hoth
        have t5 : q.tmps[5]? = some (.pointer (some ⟨pb, 0, none⟩)) := by rw [hoth 5 (by kernel_rfl)]; rfl
        have t7 : q.tmps[7]? = some (.pointer (some ⟨wr.heap.size, 0, none⟩)) := by rw [hoth 7 (by kernel_rfl)]; rfl
        match i, hi, ho with
        | 0, _, ho =>
          simp only [List.getElem?_cons_zero, Option.some.injEq] at ho
          subst ho
          unfold Oper.wp
          simp [execOp, go_sem, t7]
          exact came _ rfl (Below.refl _ _) rfl (fun h => absurd h (by decide))
        | 1, _, ho =>
          simp only [List.getElem?_cons_succ, List.getElem?_cons_zero, Option.some.injEq] at ho
          subst ho
          obtain ⟨u0, e0⟩ := hdep ⟨0, .data⟩ (by simp) rfl _ 42 rfl rfl
          rw [show vals 0 = .pointer (some ⟨wr.heap.size, 1, none⟩) from e0] at u0
          have cc : x.cell? ⟨wr.heap.size, 1, none⟩ = some (.int .i64 x0.iv) := (hr8.later hX).cell 1
          unfold Oper.wp
          simp [execOp, go_sem, u0, cc]
          exact came _ rfl (Below.refl _ _) rfl (fun h => absurd h (by decide))
        | 2, _, ho =>
          simp only [List.getElem?_cons_succ, List.getElem?_cons_zero, Option.some.injEq] at ho
          subst ho
          unfold Oper.wp
          simp [execOp, go_sem, t5]
          exact came _ rfl (Below.refl _ _) rfl (fun h => absurd h (by decide))
        | 3, _, ho =>
          simp only [List.getElem?_cons_succ, List.getElem?_cons_zero, Option.some.injEq] at ho
          subst ho
          obtain ⟨u2, e2⟩ := hdep ⟨2, .data⟩ (by simp) rfl _ 44 rfl rfl
          rw [show vals 2 = .pointer (some ⟨pb, 0, none⟩) from e2] at u2
          unfold Oper.wp
          simp [execOp, go_sem, u2]
          exact came _ rfl (Below.refl _ _) rfl (fun h => absurd h (by decide))
        | 4, _, ho =>
          simp only [List.getElem?_cons_succ, List.getElem?_cons_zero, Option.some.injEq] at ho
          subst ho
          obtain ⟨u3, e3⟩ := hdep ⟨3, .data⟩ (by simp) rfl _ 45 rfl rfl
          rw [show vals 3 = .pointer (some ⟨pb, 0, none⟩) from e3] at u3
          unfold Oper.wp
          simp [execOp, go_sem, u3]
          exact came _ rfl (Below.refl _ _) rfl (fun h => absurd h (by decide))
        | 5, _, ho =>
          simp only [List.getElem?_cons_succ, List.getElem?_cons_zero, Option.some.injEq] at ho
          subst ho
          obtain ⟨u4, e4⟩ := hdep ⟨4, .data⟩ (by simp) rfl _ 46 rfl rfl
          rw [show vals 4 = .pointer (some ⟨pb, 1, none⟩) from e4] at u4
          have cc : x.cell? ⟨pb, 1, none⟩ = some (.slice au l.length cu) := (hp8.later hX).cell 1
          unfold Oper.wp
          simp [execOp, go_sem, u4, cc]
          exact came _ rfl (Below.refl _ _) rfl (fun h => absurd h (by decide))
        | 6, _, ho =>
          simp only [List.getElem?_cons_succ, List.getElem?_cons_zero, Option.some.injEq] at ho
          subst ho
          obtain ⟨u5, e5⟩ := hdep ⟨5, .data⟩ (by simp) rfl _ 47 rfl rfl
          rw [show vals 5 = .slice au l.length cu from e5] at u5
          unfold Oper.wp
          simp [go_sem, u5]
          exact came _ rfl (Below.refl _ _) rfl (fun h => absurd h (by decide))
        | 7, _, ho =>
          simp only [List.getElem?_cons_succ, List.getElem?_cons_zero, Option.some.injEq] at ho
          subst ho
          obtain ⟨u6, e6⟩ := hdep ⟨6, .data⟩ (by simp) rfl _ 48 rfl rfl
          rw [show vals 6 = .int .i64 (l.length : Int) from e6] at u6
          have wr1 : IntKind.i64.wrap ((l.length : Int) + 1) = (nl1 : Int) := by rw [IntKind.wrap_i64]; omega
          unfold Oper.wp
          simp [execOp, go_sem, u6, wr1]
          exact came _ rfl (Below.refl _ _) rfl (fun h => absurd h (by decide))
        | 8, _, ho =>
          simp only [List.getElem?_cons_succ, List.getElem?_cons_zero, Option.some.injEq] at ho
          subst ho
          obtain ⟨u1, e1⟩ := hdep ⟨1, .data⟩ (by simp) rfl _ 43 rfl rfl
          rw [show vals 1 = .int .i64 x0.iv from e1] at u1
          obtain ⟨u7, e7⟩ := hdep ⟨7, .data⟩ (by simp) rfl _ 49 rfl rfl
          rw [show vals 7 = .int .i64 (nl1 : Int) from e7] at u7
          unfold Oper.wp
          simp [go_sem, u1, u7]
          refine (within_any x0.iv nl1 _ (by omega) (by omega) hok.2.1.1 hok.2.1.2).mono ?_
          rintro r x1 ⟨kk, hkk, rfl, hw⟩; subst hw; have hb1 := Below.refl x1.heap.size x1
          exact came _ rfl hb1 ⟨kk, hkk, rfl⟩ (fun h => absurd h (by decide))
        | 9, _, ho =>
          simp only [List.getElem?_cons_succ, List.getElem?_cons_zero, Option.some.injEq] at ho
          subst ho
          unfold Oper.wp
          simp [execOp, go_sem, t7]
          exact came _ rfl (Below.refl _ _) rfl (fun h => absurd h (by decide))
        | m + 10, hi, _ => exact absurd hi (by omega)
      · intro vals x' hX hR9 _
        obtain ⟨kI, hkI, q8⟩ : ∃ kk : Nat, kk < nl1 ∧ vals 8 = .int .i64 (kk : Int) := hR9 8 (by decide)
        have q9 : vals 9 = .pointer (some ⟨wr.heap.size, 1, none⟩) := hR9 9 (by decide)
        have d1 : x'.cell? ⟨wr.heap.size, 1, none⟩ = some (.int .i64 x0.iv) := (hr8.later hX).cell 1
        have df : x'.frozen? ⟨wr.heap.size, 1, none⟩ = false := Lib.frozen_of_heap (hr8.later hX) 1
        simp only [List.take, List.drop, putAll, q8, q9, List.setIfInBounds_toArray, List.set_cons_succ, List.set_cons_zero]
        clear hR9 q8 q9
        go_upto_region 10 with fail
        have hr9 : RowAt wr.heap.size (ocs kd kI x0.nv (.slice ax x0.l.length cx)) 28 (x'.setCell ⟨wr.heap.size, 1, none⟩ (.int .i64 (kI : Int))) := heap_setCell_at (hr8.later hX) 1 _
        have hB9 := (bgo hB8 hX).setCell (p := ⟨wr.heap.size, 1, none⟩) (Nat.le_refl _) (.int .i64 (kI : Int))
        generalize x'.setCell ⟨wr.heap.size, 1, none⟩ (.int .i64 (kI : Int)) = W9 at hr9 hB9 ⊢
        have hp9 := hp.later hB9
        have c90 : W9.cell? ⟨wr.heap.size, 0, none⟩ = some (.int .i64 (kd : Int)) := hr9.cell 0
        clear hr8 hB8 hp8 d1 df hX
        by_cases hkd1 : kd = 1
        · subst hkd1
          rw [show ((1 : Nat) : Int) = 1 from rfl] at c90 hr9
          go_upto_region 11 with fail
          obtain ⟨nd0, hnd0⟩ : ∃ nd0, l.length - kI = nd0 := ⟨_, rfl⟩
          obtain ⟨nd1, hnd1⟩ : ∃ nd1, nd0 + 1 = nd1 := ⟨_, rfl⟩
          refine wp_region_tail 13 (by kernel_rfl) (fun _ => none) (by kernel_rfl) (by kernel_rfl) (by decide) (fun i v x => match i with
            | 0 => v = .pointer (some ⟨wr.heap.size, 2, none⟩)
            | 1 => v = .int .i64 x0.nv
            | 2 => v = .pointer (some ⟨pb, 0, none⟩)
            | 3 => v = .pointer (some ⟨pb, 0, none⟩)
            | 4 => v = .pointer (some ⟨pb, 1, none⟩)
            | 5 => v = .slice au l.length cu
            | 6 => v = .int .i64 (l.length : Int)
            | 7 => v = .pointer (some ⟨wr.heap.size, 1, none⟩)
            | 8 => v = .int .i64 (kI : Int)
            | 9 => v = .int .i64 (nd0 : Int)
            | 10 => v = .int .i64 (nd1 : Int)
            | 11 => ∃ kk : Nat, kk < nd1 ∧ v = .int .i64 (kk : Int)
            | 12 => v = .pointer (some ⟨wr.heap.size, 2, none⟩)
            | _ => True) (fun _ => false) (fun _ _ _ _ h => by cases h) ?_ ?_ ?_
          · intro i v x x' hR hb
            match i, hR with
            | 0, h => exact h
            | 1, h => exact h
            | 2, h => exact h
            | 3, h => exact h
            | 4, h => exact h
            | 5, h => exact h
            | 6, h => exact h
            | 7, h => exact h
            | 8, h => exact h
            | 9, h => exact h
            | 10, h => exact h
            | 11, h => exact h
            | 12, h => exact h
            | m + 13, h => exact h
          · intro i o hi ho q x vals hX hdep hoth
            have t5 : q.tmps[5]? = some (.pointer (some ⟨pb, 0, none⟩)) := by rw [hoth 5 (by kernel_rfl)]; rfl
            have t7 : q.tmps[7]? = some (.pointer (some ⟨wr.heap.size, 0, none⟩)) := by rw [hoth 7 (by kernel_rfl)]; rfl
            match i, hi, ho with
            | 0, _, ho =>
              simp only [List.getElem?_cons_zero, Option.some.injEq] at ho
              subst ho
              unfold Oper.wp
              simp [execOp, go_sem, t7]
              exact came _ rfl (Below.refl _ _) rfl (fun h => absurd h (by decide))
            | 1, _, ho =>
              simp only [List.getElem?_cons_succ, List.getElem?_cons_zero, Option.some.injEq] at ho
              subst ho
              obtain ⟨u0, e0⟩ := hdep ⟨0, .data⟩ (by simp) rfl _ 55 rfl rfl
              rw [show vals 0 = .pointer (some ⟨wr.heap.size, 2, none⟩) from e0] at u0
              have cc : x.cell? ⟨wr.heap.size, 2, none⟩ = some (.int .i64 x0.nv) := (hr9.later hX).cell 2
              unfold Oper.wp
              simp [execOp, go_sem, u0, cc]
              exact came _ rfl (Below.refl _ _) rfl (fun h => absurd h (by decide))
            | 2, _, ho =>
              simp only [List.getElem?_cons_succ, List.getElem?_cons_zero, Option.some.injEq] at ho
              subst ho
              unfold Oper.wp
              simp [execOp, go_sem, t5]
              exact came _ rfl (Below.refl _ _) rfl (fun h => absurd h (by decide))
            | 3, _, ho =>
              simp only [List.getElem?_cons_succ, List.getElem?_cons_zero, Option.some.injEq] at ho
              subst ho
              obtain ⟨u2, e2⟩ := hdep ⟨2, .data⟩ (by simp) rfl _ 57 rfl rfl
              rw [show vals 2 = .pointer (some ⟨pb, 0, none⟩) from e2] at u2
              unfold Oper.wp
              simp [execOp, go_sem, u2]
              exact came _ rfl (Below.refl _ _) rfl (fun h => absurd h (by decide))
            | 4, _, ho =>
              simp only [List.getElem?_cons_succ, List.getElem?_cons_zero, Option.some.injEq] at ho
              subst ho
              obtain ⟨u3, e3⟩ := hdep ⟨3, .data⟩ (by simp) rfl _ 58 rfl rfl
              rw [show vals 3 = .pointer (some ⟨pb, 0, none⟩) from e3] at u3
              unfold Oper.wp
              simp [execOp, go_sem, u3]
              exact came _ rfl (Below.refl _ _) rfl (fun h => absurd h (by decide))
            | 5, _, ho =>
              simp only [List.getElem?_cons_succ, List.getElem?_cons_zero, Option.some.injEq] at ho
              subst ho
              obtain ⟨u4, e4⟩ := hdep ⟨4, .data⟩ (by simp) rfl _ 59 rfl rfl
              rw [show vals 4 = .pointer (some ⟨pb, 1, none⟩) from e4] at u4
              have cc : x.cell? ⟨pb, 1, none⟩ = some (.slice au l.length cu) := (hp9.later hX).cell 1
              unfold Oper.wp
              simp [execOp, go_sem, u4, cc]
              exact came _ rfl (Below.refl _ _) rfl (fun h => absurd h (by decide))
            | 6, _, ho =>
              simp only [List.getElem?_cons_succ, List.getElem?_cons_zero, Option.some.injEq] at ho
              subst ho
              obtain ⟨u5, e5⟩ := hdep ⟨5, .data⟩ (by simp) rfl _ 60 rfl rfl
              rw [show vals 5 = .slice au l.length cu from e5] at u5
              unfold Oper.wp
              simp [go_sem, u5]
              exact came _ rfl (Below.refl _ _) rfl (fun h => absurd h (by decide))
            | 7, _, ho =>
              simp only [List.getElem?_cons_succ, List.getElem?_cons_zero, Option.some.injEq] at ho
              subst ho
              unfold Oper.wp
              simp [execOp, go_sem, t7]
              exact came _ rfl (Below.refl _ _) rfl (fun h => absurd h (by decide))
            | 8, _, ho =>
              simp only [List.getElem?_cons_succ, List.getElem?_cons_zero, Option.some.injEq] at ho
              subst ho
              obtain ⟨u7, e7⟩ := hdep ⟨7, .data⟩ (by simp) rfl _ 62 rfl rfl
              rw [show vals 7 = .pointer (some ⟨wr.heap.size, 1, none⟩) from e7] at u7
              have cc : x.cell? ⟨wr.heap.size, 1, none⟩ = some (.int .i64 (kI : Int)) := (hr9.later hX).cell 1
              unfold Oper.wp
              simp [execOp, go_sem, u7, cc]
              exact came _ rfl (Below.refl _ _) rfl (fun h => absurd h (by decide))
            | 9, _, ho =>
              simp only [List.getElem?_cons_succ, List.getElem?_cons_zero, Option.some.injEq] at ho
              subst ho
              obtain ⟨u6, e6⟩ := hdep ⟨6, .data⟩ (by simp) rfl _ 61 rfl rfl
              rw [show vals 6 = .int .i64 (l.length : Int) from e6] at u6
              obtain ⟨u8, e8⟩ := hdep ⟨8, .data⟩ (by simp) rfl _ 63 rfl rfl
              rw [show vals 8 = .int .i64 (kI : Int) from e8] at u8
              have wr1 : IntKind.i64.wrap ((l.length : Int) - (kI : Int)) = (nd0 : Int) := by rw [IntKind.wrap_i64]; omega
              unfold Oper.wp
              simp [execOp, go_sem, u6, u8, wr1]
              exact came _ rfl (Below.refl _ _) rfl (fun h => absurd h (by decide))
            | 10, _, ho =>
              simp only [List.getElem?_cons_succ, List.getElem?_cons_zero, Option.some.injEq] at ho
              subst ho
              obtain ⟨u9, e9⟩ := hdep ⟨9, .data⟩ (by simp) rfl _ 64 rfl rfl
              rw [show vals 9 = .int .i64 (nd0 : Int) from e9] at u9
              have wr1 : IntKind.i64.wrap ((nd0 : Int) + 1) = (nd1 : Int) := by rw [IntKind.wrap_i64]; omega
              unfold Oper.wp
              simp [execOp, go_sem, u9, wr1]
              exact came _ rfl (Below.refl _ _) rfl (fun h => absurd h (by decide))
            | 11, _, ho =>
              simp only [List.getElem?_cons_succ, List.getElem?_cons_zero, Option.some.injEq] at ho
              subst ho
              obtain ⟨u1, e1⟩ := hdep ⟨1, .data⟩ (by simp) rfl _ 56 rfl rfl
              rw [show vals 1 = .int .i64 x0.nv from e1] at u1
              obtain ⟨u10, e10⟩ := hdep ⟨10, .data⟩ (by simp) rfl _ 65 rfl rfl
              rw [show vals 10 = .int .i64 (nd1 : Int) from e10] at u10
              unfold Oper.wp
              simp [go_sem, u1, u10]
              refine (within_any x0.nv nd1 _ (by omega) (by omega) hok.2.2.1.1 hok.2.2.1.2).mono ?_
              rintro r x1 ⟨kk, hkk, rfl, hw⟩; subst hw; have hb1 := Below.refl x1.heap.size x1
              exact came _ rfl hb1 ⟨kk, hkk, rfl⟩ (fun h => absurd h (by decide))
            | 12, _, ho =>
              simp only [List.getElem?_cons_succ, List.getElem?_cons_zero, Option.some.injEq] at ho
              subst ho
              unfold Oper.wp
              simp [execOp, go_sem, t7]
              exact came _ rfl (Below.refl _ _) rfl (fun h => absurd h (by decide))
            | m + 13, hi, _ => exact absurd hi (by omega)
          · intro vals5 x5 hX5 hR5 _
            obtain ⟨kN, hkN, q11⟩ : ∃ kk : Nat, kk < nd1 ∧ vals5 11 = .int .i64 (kk : Int) := hR5 11 (by decide)
            have q12 : vals5 12 = .pointer (some ⟨wr.heap.size, 2, none⟩) := hR5 12 (by decide)
            have d1 : x5.cell? ⟨wr.heap.size, 2, none⟩ = some (.int .i64 x0.nv) := (hr9.later hX5).cell 2
            have df : x5.frozen? ⟨wr.heap.size, 2, none⟩ = false := Lib.frozen_of_heap (hr9.later hX5) 2
            simp only [List.take, List.drop, putAll, q11, q12, List.setIfInBounds_toArray, List.set_cons_succ, List.set_cons_zero]
            clear hR5 q11 q12 c90
            go_upto_region 12 with fail
            have hrA : RowAt wr.heap.size (ocs 1 kI kN (.slice ax x0.l.length cx)) 28 (x5.setCell ⟨wr.heap.size, 2, none⟩ (.int .i64 (kN : Int))) := heap_setCell_at (hr9.later hX5) 2 _
            have hBA := (bgo hB9 hX5).setCell (p := ⟨wr.heap.size, 2, none⟩) (Nat.le_refl _) (.int .i64 (kN : Int))
            generalize x5.setCell ⟨wr.heap.size, 2, none⟩ (.int .i64 (kN : Int)) = WA at hrA hBA ⊢
            have hprA := HZ.out.later hBA
            clear d1 df
            have HCh := hid_of' (chg1 C hprA hl6 kI kN (by omega) x0 hok)
            unfold ChgOut at HCh
            rw [hsl] at HCh
            go_wp2_with (first | (refine wpL_loadO rfl _ rfl rfl hrA.in ?_) | (go_at_call 8; (refine HCh.out.mono ?_); rintro r w9 ⟨rfl, l', hl', hpr'⟩; clear HCh))
            go_roundw
            case rel => exact ⟨k + 1, l', by go_num, by omega, by omega, hl', hpr'⟩
            case measure => simp [intOf]; omega
        · have hkd0 : kd = 0 := by omega
          subst hkd0
          rw [show ((0 : Nat) : Int) = 0 from rfl] at c90 hr9
          have hpr9 := HZ.out.later hB9
          have HCh := hid_of' (chg0 C hpr9 hl6 kI (by omega) x0.nv x0 hok)
          unfold ChgOut at HCh
          rw [hsl] at HCh
          go_wp2_with (first | (refine wpL_loadO rfl _ rfl rfl hr9.in ?_) | (go_at_call 8; (refine HCh.out.mono ?_); rintro r w9 ⟨rfl, l', hl', hpr'⟩; clear HCh))
          go_roundw
          case rel => exact ⟨k + 1, l', by go_num, by omega, by omega, hl', hpr'⟩
          case measure => simp [intOf]; omega
    · by_cases hA1 : k < os.length
      · have e1 : (k : Int) < (os.length : Int) := by omega
        have e2 : ¬ (k : Int) < 60 := by omega
        obtain ⟨ul, hp, hpl, htr, hbw, hz⟩ := hpr
        obtain ⟨au, cu, rfl⟩ := hpl.form
        go_wp2
        clear hA e1 hk1 hk2
        go_loopw [8, 9, 10] (fun lv nv i wq => ∃ k2 : Nat, lv = .int .i64 (liveL (l.take k2)) ∧ nv = .int .i64 (lineL (l.take k2)) ∧ i = .int .i64 (k2 : Int) ∧ k2 ≤ l.length ∧ Below wr.heap.size wr wq) (fun _ _ i _ => l.length - (intOf i).toNat)
        case atStart => exact ⟨0, by simp [liveL], by simp [lineL], rfl, by omega, Below.refl _ _⟩
        case round =>
          obtain ⟨k2, rfl, rfl, rfl, hk2, hBq⟩ := hrel
          have hpq := hp.later hBq
          have htq := htr.later hBq
          have c0 : wr.cell? ⟨pb, 0, none⟩ = some (.pointer (some ⟨tb, 0, none⟩)) := hpq.cell 0
          have c1 : wr.cell? ⟨pb, 1, none⟩ = some (.slice au l.length cu) := hpq.cell 1
          by_cases hlt : k2 < l.length
          · have hki : (k2 : Int) < (l.length : Int) := by omega
            have HBf := hid_of' (before_any htq k2 (by omega) (by omega))
            unfold pv at HBf
            go_upto_region 19 with (first | (go_at_call 14; (with_reducible refine HBf.out.mono ?_); rintro r w2 ⟨rfl, hb2⟩; clear HBf) | (refine wpL_storeW rfl _ _ rfl rfl rfl (row_new w2 _ _) ?_))
            have hr19 := (row_new w2 #[.int .i64 0, .int .i64 0] 42).put #[.int .i64 (liveL (l.take k2)), .int .i64 (lineL (l.take k2))]
            have hB19 : Below wr.heap.size wr ((w2.alloc (.cells #[.int .i64 0, .int .i64 0] 42)).setRow w2.heap.size #[.int .i64 (liveL (l.take k2)), .int .i64 (lineL (l.take k2))]) := below_row (bgo hb2 (below_one _ _)) hb2.size _
            obtain ⟨b19, eb19⟩ : ∃ b19, w2.heap.size = b19 := ⟨_, rfl⟩
            rw [eb19] at hr19 hB19 ⊢
            generalize (w2.alloc (.cells #[.int .i64 0, .int .i64 0] 42)).setRow b19 #[.int .i64 (liveL (l.take k2)), .int .i64 (lineL (l.take k2))] = W19 at hr19 hB19 ⊢
            clear eb19 hb2 c0 c1
            obtain ⟨vl, evl⟩ : ∃ vl, liveL (l.take k2) = vl := ⟨_, rfl⟩
            obtain ⟨vn, evn⟩ : ∃ vn, lineL (l.take k2) = vn := ⟨_, rfl⟩
            rw [evl, evn] at hr19 ⊢
            have d0 : W19.cell? ⟨b19, 0, none⟩ = some (.int .i64 vl) := hr19.cell 0
            have d1 : W19.cell? ⟨b19, 1, none⟩ = some (.int .i64 vn) := hr19.cell 1
            have c1 : W19.cell? ⟨pb, 1, none⟩ = some (.slice au l.length cu) := (hpq.later hB19).cell 1
            obtain ⟨e, he⟩ : ∃ e, l[k2]? = some e := ⟨_, List.getElem?_eq_getElem hlt⟩
            have hlne : l ≠ [] := fun e0 => by rw [e0] at hlt; simp at hlt
            obtain ⟨gp, eau, hEp⟩ : ∃ gp, au = some ⟨gp, 0, none⟩ ∧ ElsAt gp 0 l wr := by
              rcases hpl.later hBq with ⟨e0, _⟩ | ⟨gp, cc, e1, hE, _⟩
              · exact absurd e0 hlne
              · cases e1
                exact ⟨gp, rfl, hE⟩
            subst eau
            have hce := (hEp.later hB19) k2 e he
            rw [Nat.zero_add] at hce
            have HWe := hid_of' (refWeigh_any e)
            go_upto_region 22 with (first | (refine wpL_loadE rfl _ rfl rfl hce ?_) | (go_at_call 15; (refine (HWe.out _).mono ?_); rintro r w3 ⟨rfl, hb3⟩) | (refine wpL_storeW rfl _ _ rfl rfl rfl (row_new w3 _ _) ?_))
            have hr22 := (row_new w3 #[.int .i64 0, .int .i64 0] 42).put #[.int .i64 (wLive e), .int .i64 (wLine e)]
            have hB22 : Below wr.heap.size wr ((w3.alloc (.cells #[.int .i64 0, .int .i64 0] 42)).setRow w3.heap.size #[.int .i64 (wLive e), .int .i64 (wLine e)]) := below_row (bgo (bgo hB19 hb3) (below_one _ _)) (bgo hB19 hb3).size _
            obtain ⟨b22, eb22⟩ : ∃ b22, w3.heap.size = b22 := ⟨_, rfl⟩
            rw [eb22] at hr22 hB22 ⊢
            generalize (w3.alloc (.cells #[.int .i64 0, .int .i64 0] 42)).setRow b22 #[.int .i64 (wLive e), .int .i64 (wLine e)] = W22 at hr22 hB22 ⊢
            clear eb22 hb3 d0 d1 c1 hce HWe hEp
            have tk := take_next he
            have s1 : liveL (l.take (k2 + 1)) = vl + wLive e := by rw [tk, liveL_app, evl]; simp [liveL]
            have s2 : lineL (l.take (k2 + 1)) = vn + wLine e := by rw [tk, lineL_app, evn]; simp [lineL]
            have ix1 := idxL_at l k2 e he
            have ix2 := idxN_at l k2 e he
            rw [evl] at ix1
            rw [evn] at ix2
            have bl := liveL_b (l.take k2)
            have bn := lineL_b (l.take k2)
            rw [evl, List.length_take] at bl
            rw [evn, List.length_take] at bn
            have m1 : vl + wLive e ≤ liveL l := by rw [← s1, ← List.take_append_drop (k2 + 1) l, liveL_app, List.take_append_drop]; have := liveL_b (l.drop (k2 + 1)); omega
            have m2 : vn + wLine e ≤ lineL l := by rw [← s2, ← List.take_append_drop (k2 + 1) l, lineL_app, List.take_append_drop]; have := lineL_b (l.drop (k2 + 1)); omega
            have w1b := wLive_b e
            have w2b := wLine_b e
            have w3b : wLive e = 0 → wLine e = 0 := by unfold wLive wLine; split <;> simp
            have d0 : W22.cell? ⟨b22, 0, none⟩ = some (.int .i64 (wLive e)) := hr22.cell 0
            have d1 : W22.cell? ⟨b22, 1, none⟩ = some (.int .i64 (wLine e)) := hr22.cell 1
            have c0 : W22.cell? ⟨pb, 0, none⟩ = some (.pointer (some ⟨tb, 0, none⟩)) := (hpq.later hB22).cell 0
            have HRow := hid_of' hr22
            have HPq := hid_of' hpq
            obtain ⟨t0, ht0⟩ : ∃ t0 : Nd, RowAt tb #[.int .i64 (ch : Int), pv t0.blk] 76 wr ∧ t0.At R wr ∧ t0.Full ∧ t0.els = l := by
              rcases htq.at with ⟨e0, _⟩ | ⟨t0, g1, g2, g3, g4, _⟩
              · exact absurd e0 hlne
              · exact ⟨t0, g1, g2, g3, g4⟩
            have HF : Hid (∀ x, Below wr.heap.size wr x → 0 < wLive e → Calls Tryz.prog 16 #[.pointer (some ⟨tb, 0, none⟩), .int .i64 vl] x fun r w' => r = .returned (.tuple #[.int .i64 (k2 : Int), .nilIface]) ∧ Below x.heap.size x w') := fun x hx hv => by
              have := find_ok (ch := ch) vl (ht0.1.later hx) (ht0.2.1.later hx) ht0.2.2.1 (by rw [ht0.2.2.2]; omega) (by omega) (by rw [ht0.2.2.2]; omega)
              rw [ht0.2.2.2, ix1 hv] at this
              exact this
            have HN : Hid (∀ x, Below wr.heap.size wr x → 0 < wLine e → Calls Tryz.prog 17 #[.pointer (some ⟨tb, 0, none⟩), .int .i64 vn] x fun r w' => r = .returned (.tuple #[.int .i64 (k2 : Int), .nilIface]) ∧ Below x.heap.size x w') := fun x hx hv => by
              have := findLine_ok (ch := ch) vn (ht0.1.later hx) (ht0.2.1.later hx) ht0.2.2.1 (by rw [ht0.2.2.2]; omega) (by omega) (by rw [ht0.2.2.2]; omega)
              rw [ht0.2.2.2, ix2 hv] at this
              exact this
            obtain ⟨xl, exl⟩ : ∃ xl, wLive e = xl := ⟨_, rfl⟩
            obtain ⟨xn, exn⟩ : ∃ xn, wLine e = xn := ⟨_, rfl⟩
            rw [exl] at s1 HF m1 w1b w3b d0 HRow
            rw [exn] at s2 HN m2 w2b w3b d1 HRow
            have s1' : vl + xl = liveL (l.take (k2 + 1)) := s1.symm
            have s2' : vn + xn = lineL (l.take (k2 + 1)) := s2.symm
            have z1 : 0 ≤ vl + xl ∧ vl + xl ≤ 1000 := by omega
            have z2 : 0 ≤ vn + xn ∧ vn + xn ≤ 1000 := by omega
            have HS := hid_of' (And.intro s1' s2')
            clear ix1 ix2 bl bn m1 m2 tk evl evn s1 s2 s1' s2' hr19 hB19 hr22 htq exl exn
            by_cases hv1 : xl = 0
            · have hv2 := w3b hv1
              subst hv1 hv2
              go_wp2
              go_roundw
              case rel => exact ⟨k2 + 1, by rw [← HS.out.1]; go_num, by rw [← HS.out.2]; go_num, by go_num, by omega, bgo hBq hB22⟩
              case measure => simp [intOf]; omega
            · obtain rfl : xl = 1 := by omega
              by_cases hv2 : xn = 0
              · subst hv2
                go_wp2_with (go_at_call 16; (with_reducible refine (HF.out _ hB22 (by omega)).mono ?_); rintro r w5 ⟨rfl, hb5⟩; have d50 : w5.cell? ⟨b22, 0, none⟩ = some (.int .i64 1) := (HRow.out.later hb5).cell 0; have d51 : w5.cell? ⟨b22, 1, none⟩ = some (.int .i64 0) := (HRow.out.later hb5).cell 1)
                go_roundw
                case rel => exact ⟨k2 + 1, by rw [← HS.out.1], by rw [← HS.out.2]; go_num, by go_num, by omega, bgo hBq (bgo hB22 hb5)⟩
                case measure => simp [intOf]; omega
              · obtain rfl : xn = 1 := by omega
                go_wp2_with (first | (go_at_call 16; (with_reducible refine (HF.out _ hB22 (by omega)).mono ?_); rintro r w5 ⟨rfl, hb5⟩; have d50 : w5.cell? ⟨b22, 0, none⟩ = some (.int .i64 1) := (HRow.out.later hb5).cell 0; have d51 : w5.cell? ⟨b22, 1, none⟩ = some (.int .i64 1) := (HRow.out.later hb5).cell 1; have c50 : w5.cell? ⟨pb, 0, none⟩ = some (.pointer (some ⟨tb, 0, none⟩)) := ((HPq.out.later hB22).later hb5).cell 0) | (go_at_call 17; (with_reducible refine (HN.out _ (bgo hB22 hb5) (by omega)).mono ?_); rintro r w6 ⟨rfl, hb6⟩; have d60 : w6.cell? ⟨b22, 0, none⟩ = some (.int .i64 1) := ((HRow.out.later hb5).later hb6).cell 0; have d61 : w6.cell? ⟨b22, 1, none⟩ = some (.int .i64 1) := ((HRow.out.later hb5).later hb6).cell 1))
                go_roundw
                case rel => exact ⟨k2 + 1, by rw [← HS.out.1], by rw [← HS.out.2], by go_num, by omega, bgo hBq (bgo (bgo hB22 hb5) hb6)⟩
                case measure => simp [intOf]; omega
          · have hki : ¬ (k2 : Int) < (l.length : Int) := by omega
            have hkl : k2 = l.length := by omega
            rw [hkl, List.take_length]
            clear hk2 hkl c0 c1 hki hlt
            obtain ⟨vl, evl⟩ : ∃ vl, liveL l = vl := ⟨_, rfl⟩
            obtain ⟨vn, evn⟩ : ∃ vn, lineL l = vn := ⟨_, rfl⟩
            have HBf : Hid (∀ x, Below wr.heap.size wr x → Calls Tryz.prog 14 #[.pointer (some ⟨tb, 0, none⟩), .int .i64 (l.length : Int)] x fun r w' => r = .returned (.tuple #[wv vl vn, .nilIface]) ∧ Below x.heap.size x w') := fun x hx => by
              have := before_any (htq.later hx) l.length (by omega) (Nat.le_refl _)
              rw [List.take_length, evl, evn] at this
              exact this
            have HWt : Hid (∀ x, Below wr.heap.size wr x → Calls Tryz.prog 18 #[.pointer (some ⟨tb, 0, none⟩)] x fun r w' => r = .returned (wv vl vn) ∧ Below x.heap.size x w') := fun x hx => by
              have := weight_L (htq.later hx)
              rw [evl, evn] at this
              exact this
            rw [evl, evn]
            have hkN : ¬ (l.length : Int) < (l.length : Int) := by omega
            have c1 : wr.cell? ⟨pb, 1, none⟩ = some (.slice au l.length cu) := hpq.cell 1
            go_upto_region 32 with fail
            clear c1 evl evn
            refine wp_region_float (by kernel_rfl) (by kernel_rfl) (fun i v x => match i with
              | 0 => v = .pointer (some ⟨pb, 0, none⟩)
              | 1 => v = .pointer (some ⟨pb, 0, none⟩)
              | 2 => v = .pointer (some ⟨pb, 0, none⟩)
              | 3 => v = .pointer (some ⟨tb, 0, none⟩)
              | 4 => v = .pointer (some ⟨pb, 0, none⟩)
              | 5 => v = .pointer (some ⟨pb, 0, none⟩)
              | 6 => v = .pointer (some ⟨pb, 1, none⟩)
              | 7 => v = .slice au l.length cu
              | 8 => v = .int .i64 (l.length : Int)
              | 9 => v = .tuple #[wv vl vn, .nilIface]
              | 10 => v = .tuple #[wv vl vn, .nilIface]
              | 11 => v = wv vl vn
              | 12 => v = .nilIface
              | 15 => v = .nilIface
              | _ => True) (fun i => match i with | 13 => some (42, 2) | _ => none) (fun i => match i with | 14 => some (13, 11) | _ => none) ?_ ?_ ?_ ?_ ?_ ?_ ?_
            · intro kk f s h
              match kk, h with
              | 14, h => cases h; exact ⟨rfl, (by intro h; cases h), rfl, rfl, _, _, _, _, _, ⟨13, .data⟩, ⟨11, .data⟩, rfl, rfl, rfl, rfl, rfl, (by simp), rfl, rfl, (by simp), rfl, rfl⟩
              | 0, h | 1, h | 2, h | 3, h | 4, h | 5, h | 6, h | 7, h | 8, h | 9, h | 10, h | 11, h | 12, h | 13, h | 15, h => cases h
              | m + 16, h => cases h
            · intro i t n h
              match i, h with
              | 13, h => rfl
              | 0, h | 1, h | 2, h | 3, h | 4, h | 5, h | 6, h | 7, h | 8, h | 9, h | 10, h | 11, h | 12, h | 14, h | 15, h => cases h
              | m + 16, h => cases h
            · intro p q f s s' h1 h2
              have e1 : (p = 14 ∧ f = 13) := by
                match p, h1 with
                | 14, h => cases h; simp
                | 0, h | 1, h | 2, h | 3, h | 4, h | 5, h | 6, h | 7, h | 8, h | 9, h | 10, h | 11, h | 12, h | 13, h | 15, h => cases h
                | m + 16, h => cases h
              have e2 : (q = 14 ∧ f = 13) := by
                match q, h2 with
                | 14, h => cases h; simp
                | 0, h | 1, h | 2, h | 3, h | 4, h | 5, h | 6, h | 7, h | 8, h | 9, h | 10, h | 11, h | 12, h | 13, h | 15, h => cases h
                | m + 16, h => cases h
              omega
            · intro i o ho hA hK q x vals S hX hS hdep hoth
              have t5 : q.tmps[5]? = some (.pointer (some ⟨pb, 0, none⟩)) := by rw [hoth 5 (by kernel_rfl)]; rfl
              match i, ho, hA, hK with
              | 0, ho, hA, hK =>
                simp only [List.getElem?_cons_zero, Option.some.injEq] at ho
                subst ho
                unfold Oper.wp
                simp [execOp, go_sem, t5]
                exact cameF _ rfl (Below.refl _ _) (fun _ _ => rfl)
              | 1, ho, hA, hK =>
                simp only [List.getElem?_cons_succ, List.getElem?_cons_zero, Option.some.injEq] at ho
                subst ho
                obtain ⟨u0, e0⟩ := hdep ⟨0, .data⟩ (by simp) rfl _ 159 rfl rfl
                rw [show vals 0 = .pointer (some ⟨pb, 0, none⟩) from e0 rfl rfl x (KeptP.refl _ _)] at u0
                unfold Oper.wp
                simp [execOp, go_sem, u0]
                exact cameF _ rfl (Below.refl _ _) (fun _ _ => rfl)
              | 2, ho, hA, hK =>
                simp only [List.getElem?_cons_succ, List.getElem?_cons_zero, Option.some.injEq] at ho
                subst ho
                obtain ⟨u1, e1⟩ := hdep ⟨1, .data⟩ (by simp) rfl _ 160 rfl rfl
                rw [show vals 1 = .pointer (some ⟨pb, 0, none⟩) from e1 rfl rfl x (KeptP.refl _ _)] at u1
                unfold Oper.wp
                simp [execOp, go_sem, u1]
                exact cameF _ rfl (Below.refl _ _) (fun _ _ => rfl)
              | 3, ho, hA, hK =>
                simp only [List.getElem?_cons_succ, List.getElem?_cons_zero, Option.some.injEq] at ho
                subst ho
                obtain ⟨u2, e2⟩ := hdep ⟨2, .data⟩ (by simp) rfl _ 161 rfl rfl
                rw [show vals 2 = .pointer (some ⟨pb, 0, none⟩) from e2 rfl rfl x (KeptP.refl _ _)] at u2
                have cc : x.cell? ⟨pb, 0, none⟩ = some (.pointer (some ⟨tb, 0, none⟩)) := (hpq.later hX).cell 0
                unfold Oper.wp
                simp [execOp, go_sem, u2, cc]
                exact cameF _ rfl (Below.refl _ _) (fun _ _ => rfl)
              | 4, ho, hA, hK =>
                simp only [List.getElem?_cons_succ, List.getElem?_cons_zero, Option.some.injEq] at ho
                subst ho
                unfold Oper.wp
                simp [execOp, go_sem, t5]
                exact cameF _ rfl (Below.refl _ _) (fun _ _ => rfl)
              | 5, ho, hA, hK =>
                simp only [List.getElem?_cons_succ, List.getElem?_cons_zero, Option.some.injEq] at ho
                subst ho
                obtain ⟨u4, e4⟩ := hdep ⟨4, .data⟩ (by simp) rfl _ 163 rfl rfl
                rw [show vals 4 = .pointer (some ⟨pb, 0, none⟩) from e4 rfl rfl x (KeptP.refl _ _)] at u4
                unfold Oper.wp
                simp [execOp, go_sem, u4]
                exact cameF _ rfl (Below.refl _ _) (fun _ _ => rfl)
              | 6, ho, hA, hK =>
                simp only [List.getElem?_cons_succ, List.getElem?_cons_zero, Option.some.injEq] at ho
                subst ho
                obtain ⟨u5, e5⟩ := hdep ⟨5, .data⟩ (by simp) rfl _ 164 rfl rfl
                rw [show vals 5 = .pointer (some ⟨pb, 0, none⟩) from e5 rfl rfl x (KeptP.refl _ _)] at u5
                unfold Oper.wp
                simp [execOp, go_sem, u5]
                exact cameF _ rfl (Below.refl _ _) (fun _ _ => rfl)
              | 7, ho, hA, hK =>
                simp only [List.getElem?_cons_succ, List.getElem?_cons_zero, Option.some.injEq] at ho
                subst ho
                obtain ⟨u6, e6⟩ := hdep ⟨6, .data⟩ (by simp) rfl _ 165 rfl rfl
                rw [show vals 6 = .pointer (some ⟨pb, 1, none⟩) from e6 rfl rfl x (KeptP.refl _ _)] at u6
                have cc : x.cell? ⟨pb, 1, none⟩ = some (.slice au l.length cu) := (hpq.later hX).cell 1
                unfold Oper.wp
                simp [execOp, go_sem, u6, cc]
                exact cameF _ rfl (Below.refl _ _) (fun _ _ => rfl)
              | 8, ho, hA, hK =>
                simp only [List.getElem?_cons_succ, List.getElem?_cons_zero, Option.some.injEq] at ho
                subst ho
                obtain ⟨u7, e7⟩ := hdep ⟨7, .data⟩ (by simp) rfl _ 166 rfl rfl
                rw [show vals 7 = .slice au l.length cu from e7 rfl rfl x (KeptP.refl _ _)] at u7
                unfold Oper.wp
                simp [go_sem, u7]
                exact cameF _ rfl (Below.refl _ _) (fun _ _ => rfl)
              | 9, ho, hA, hK =>
                simp only [List.getElem?_cons_succ, List.getElem?_cons_zero, Option.some.injEq] at ho
                subst ho
                obtain ⟨u3, e3⟩ := hdep ⟨3, .data⟩ (by simp) rfl _ 162 rfl rfl
                rw [show vals 3 = .pointer (some ⟨tb, 0, none⟩) from e3 rfl rfl x (KeptP.refl _ _)] at u3
                obtain ⟨u8, e8⟩ := hdep ⟨8, .data⟩ (by simp) rfl _ 167 rfl rfl
                rw [show vals 8 = .int .i64 (l.length : Int) from e8 rfl rfl x (KeptP.refl _ _)] at u8
                unfold Oper.wp
                simp [go_sem, u3, u8]
                refine (HBf.out _ hX).mono ?_
                rintro r x1 ⟨rfl, hb1⟩
                exact cameF _ rfl hb1 (fun _ _ => rfl)
              | 10, ho, hA, hK =>
                simp only [List.getElem?_cons_succ, List.getElem?_cons_zero, Option.some.injEq] at ho
                subst ho
                obtain ⟨u9, e9⟩ := hdep ⟨9, .data⟩ (by simp) rfl _ 168 rfl rfl
                rw [show vals 9 = .tuple #[wv vl vn, .nilIface] from e9 rfl rfl x (KeptP.refl _ _)] at u9
                unfold Oper.wp
                simp [execOp, go_sem, u9]
                exact cameF _ rfl (Below.refl _ _) (fun _ _ => rfl)
              | 11, ho, hA, hK =>
                simp only [List.getElem?_cons_succ, List.getElem?_cons_zero, Option.some.injEq] at ho
                subst ho
                obtain ⟨u10, e10⟩ := hdep ⟨10, .data⟩ (by simp) rfl _ 158 rfl rfl
                rw [show vals 10 = .tuple #[wv vl vn, .nilIface] from e10 rfl rfl x (KeptP.refl _ _)] at u10
                unfold Oper.wp
                simp [execOp, go_sem, u10]
                exact cameF _ rfl (Below.refl _ _) (fun _ _ => rfl)
              | 12, ho, hA, hK =>
                simp only [List.getElem?_cons_succ, List.getElem?_cons_zero, Option.some.injEq] at ho
                subst ho
                obtain ⟨u10, e10⟩ := hdep ⟨10, .data⟩ (by simp) rfl _ 158 rfl rfl
                rw [show vals 10 = .tuple #[wv vl vn, .nilIface] from e10 rfl rfl x (KeptP.refl _ _)] at u10
                unfold Oper.wp
                simp [execOp, go_sem, u10]
                exact cameF _ rfl (Below.refl _ _) (fun _ _ => rfl)
              | 13, ho, hA, hK => cases hA
              | 14, ho, hA, hK => cases hK
              | 15, ho, hA, hK =>
                simp only [List.getElem?_cons_succ, List.getElem?_cons_zero, Option.some.injEq] at ho
                subst ho
                obtain ⟨u12, e12⟩ := hdep ⟨12, .data⟩ (by simp) rfl _ 170 rfl rfl
                rw [show vals 12 = .nilIface from e12 rfl rfl x (KeptP.refl _ _)] at u12
                unfold Oper.wp
                simp [execOp, go_sem, u12]
                exact cameF _ rfl (Below.refl _ _) (fun _ _ => rfl)
              | m + 16, ho, hA, hK => simp at ho
            · intro i o t n ho hA q x
              match i, ho, hA with
              | 13, ho, hA =>
                cases hA
                simp only [List.getElem?_cons_succ, List.getElem?_cons_zero, Option.some.injEq] at ho
                subst ho
                unfold Oper.wp
                simp [execOp, go_sem]
                exact ⟨_, rfl, rfl, rfl⟩
              | 0, ho, hA | 1, ho, hA | 2, ho, hA | 3, ho, hA | 4, ho, hA | 5, ho, hA | 6, ho, hA | 7, ho, hA | 8, ho, hA | 9, ho, hA | 10, ho, hA | 11, ho, hA | 12, ho, hA | 14, ho, hA | 15, ho, hA => cases hA
              | m + 16, ho, hA => cases hA
            · intro i o of os_ f s n g' t df ds sv ho hK hA hf hs hdf hds q x cs0 sf ss hR hg hn
              match i, ho, hK with
              | 14, ho, hK =>
                cases hK
                cases hA
                simp only [List.getElem?_cons_succ, List.getElem?_cons_zero, Option.some.injEq] at ho hf hs
                subst ho hf hs
                cases hdf
                cases hds
                obtain rfl : sv = .agg #[.int .i64 vl, .int .i64 vn] := hR
                exact wp_store_row _ _ _ rfl g' (#[.int .i64 vl, .int .i64 vn]) (by simp [Act.eval, sf]) (by simp [Act.eval, ss]) _ cs0 hg w_size (by rw [hn]; rfl) (by simp [Value.oneCell']) ⟨undef, #[.int .i64 vl, .int .i64 vn], rfl, rfl, rfl, rfl⟩
              | 0, ho, hK | 1, ho, hK | 2, ho, hK | 3, ho, hK | 4, ho, hK | 5, ho, hK | 6, ho, hK | 7, ho, hK | 8, ho, hK | 9, ho, hK | 10, ho, hK | 11, ho, hK | 12, ho, hK | 13, ho, hK | 15, ho, hK => cases hK
              | m + 16, ho, hK => cases hK
            · intro vals W3 hB3 hR hBk
              obtain ⟨g, cs, q13, hg, hrg, _, hst⟩ := hBk 13 _ _ (by decide) rfl
              have q11 : vals 11 = wv vl vn := hR 11 (by decide) rfl rfl
              have q15 : vals 15 = .nilIface := hR 15 (by decide) rfl rfl
              have ecs : cs = #[.int .i64 vl, .int .i64 vn] := by have := (hst 14 11 (by decide) rfl).symm.trans q11; cases this; rfl
              subst ecs
              have hr3 : RowAt g #[.int .i64 vl, .int .i64 vn] 42 W3 := hrg
              simp only [putAll, q13, q15, List.setIfInBounds_toArray, List.set_cons_succ, List.set_cons_zero]
              clear hR q11 q13 q15 hBk hst
              go_upto_region 33 with fail
              have hp3 := hpq.later hB3
              have f0 := hr3.cls 0 _ rfl
              have f1 := hr3.cls 1 _ rfl
              have fp := hp3.cls 0 _ rfl
              have hin := hr3.in
              have hq := eq_W vl vn
              clear hrg
              have hB := Below.refl W3.heap.size W3
              unfold wv at HWt
              refine wp_region_cls (by kernel_rfl) (by kernel_rfl) ?_
              repeat (first | go_big_quiet_skip | (go_big_quiet_want; first | (refine quiet_load_in _ _ rfl rfl hin.cls Tryz.underlying42 rfl w_size ?_; simp only [Act.put, List.setIfInBounds_toArray, List.set_cons_succ, List.set_cons_zero]; go_big_quiet_on) | (go_big_quiet_op; first | go_big_quiet_on | go_big_quiet_call ((first | (go_at_call 18; exact cls_of (HWt.out _ (bgo hB3 (wOf_below _)))) | (go_at_call 12; exact cls_of (wakesT_ok _)))))))
              refine wpQuiet_nil ?_
              rintro w1 ⟨s1, e1⟩
              have hb1 := wOf_below s1
              rw [← e1] at hb1
              clear e1 s1
              replace hin := hin.later hb1
              replace hB := bgo hB hb1
              clear hb1
              go_wp2
              go_ret
              exact ⟨rfl, bgo hbw (bgo hBq (bgo hB3 hB))⟩
      · have e1 : ¬ (k : Int) < (os.length : Int) := by omega
        obtain ⟨ul, hp, hpl, htr, hbw, hz⟩ := hpr
        obtain ⟨au, cu, rfl⟩ := hpl.form
        go_wp2
        clear hA e1 hk1 hk2
        go_loopw [8, 9, 10] (fun lv nv i wq => ∃ k2 : Nat, lv = .int .i64 (liveL (l.take k2)) ∧ nv = .int .i64 (lineL (l.take k2)) ∧ i = .int .i64 (k2 : Int) ∧ k2 ≤ l.length ∧ Below wr.heap.size wr wq) (fun _ _ i _ => l.length - (intOf i).toNat)
        case atStart => exact ⟨0, by simp [liveL], by simp [lineL], rfl, by omega, Below.refl _ _⟩
        case round =>
          obtain ⟨k2, rfl, rfl, rfl, hk2, hBq⟩ := hrel
          have hpq := hp.later hBq
          have htq := htr.later hBq
          have c0 : wr.cell? ⟨pb, 0, none⟩ = some (.pointer (some ⟨tb, 0, none⟩)) := hpq.cell 0
          have c1 : wr.cell? ⟨pb, 1, none⟩ = some (.slice au l.length cu) := hpq.cell 1
          by_cases hlt : k2 < l.length
          · have hki : (k2 : Int) < (l.length : Int) := by omega
            have HBf := hid_of' (before_any htq k2 (by omega) (by omega))
            unfold pv at HBf
            go_upto_region 19 with (first | (go_at_call 14; (with_reducible refine HBf.out.mono ?_); rintro r w2 ⟨rfl, hb2⟩; clear HBf) | (refine wpL_storeW rfl _ _ rfl rfl rfl (row_new w2 _ _) ?_))
            have hr19 := (row_new w2 #[.int .i64 0, .int .i64 0] 42).put #[.int .i64 (liveL (l.take k2)), .int .i64 (lineL (l.take k2))]
            have hB19 : Below wr.heap.size wr ((w2.alloc (.cells #[.int .i64 0, .int .i64 0] 42)).setRow w2.heap.size #[.int .i64 (liveL (l.take k2)), .int .i64 (lineL (l.take k2))]) := below_row (bgo hb2 (below_one _ _)) hb2.size _
            obtain ⟨b19, eb19⟩ : ∃ b19, w2.heap.size = b19 := ⟨_, rfl⟩
            rw [eb19] at hr19 hB19 ⊢
            generalize (w2.alloc (.cells #[.int .i64 0, .int .i64 0] 42)).setRow b19 #[.int .i64 (liveL (l.take k2)), .int .i64 (lineL (l.take k2))] = W19 at hr19 hB19 ⊢
            clear eb19 hb2 c0 c1
            obtain ⟨vl, evl⟩ : ∃ vl, liveL (l.take k2) = vl := ⟨_, rfl⟩
            obtain ⟨vn, evn⟩ : ∃ vn, lineL (l.take k2) = vn := ⟨_, rfl⟩
            rw [evl, evn] at hr19 ⊢
            have d0 : W19.cell? ⟨b19, 0, none⟩ = some (.int .i64 vl) := hr19.cell 0
            have d1 : W19.cell? ⟨b19, 1, none⟩ = some (.int .i64 vn) := hr19.cell 1
            have c1 : W19.cell? ⟨pb, 1, none⟩ = some (.slice au l.length cu) := (hpq.later hB19).cell 1
            obtain ⟨e, he⟩ : ∃ e, l[k2]? = some e := ⟨_, List.getElem?_eq_getElem hlt⟩
            have hlne : l ≠ [] := fun e0 => by rw [e0] at hlt; simp at hlt
            obtain ⟨gp, eau, hEp⟩ : ∃ gp, au = some ⟨gp, 0, none⟩ ∧ ElsAt gp 0 l wr := by
              rcases hpl.later hBq with ⟨e0, _⟩ | ⟨gp, cc, e1, hE, _⟩
              · exact absurd e0 hlne
              · cases e1
                exact ⟨gp, rfl, hE⟩
            subst eau
            have hce := (hEp.later hB19) k2 e he
            rw [Nat.zero_add] at hce
            have HWe := hid_of' (refWeigh_any e)
            go_upto_region 22 with (first | (refine wpL_loadE rfl _ rfl rfl hce ?_) | (go_at_call 15; (refine (HWe.out _).mono ?_); rintro r w3 ⟨rfl, hb3⟩) | (refine wpL_storeW rfl _ _ rfl rfl rfl (row_new w3 _ _) ?_))
            have hr22 := (row_new w3 #[.int .i64 0, .int .i64 0] 42).put #[.int .i64 (wLive e), .int .i64 (wLine e)]
            have hB22 : Below wr.heap.size wr ((w3.alloc (.cells #[.int .i64 0, .int .i64 0] 42)).setRow w3.heap.size #[.int .i64 (wLive e), .int .i64 (wLine e)]) := below_row (bgo (bgo hB19 hb3) (below_one _ _)) (bgo hB19 hb3).size _
            obtain ⟨b22, eb22⟩ : ∃ b22, w3.heap.size = b22 := ⟨_, rfl⟩
            rw [eb22] at hr22 hB22 ⊢
            generalize (w3.alloc (.cells #[.int .i64 0, .int .i64 0] 42)).setRow b22 #[.int .i64 (wLive e), .int .i64 (wLine e)] = W22 at hr22 hB22 ⊢
            clear eb22 hb3 d0 d1 c1 hce HWe hEp
            have tk := take_next he
            have s1 : liveL (l.take (k2 + 1)) = vl + wLive e := by rw [tk, liveL_app, evl]; simp [liveL]
            have s2 : lineL (l.take (k2 + 1)) = vn + wLine e := by rw [tk, lineL_app, evn]; simp [lineL]
            have ix1 := idxL_at l k2 e he
            have ix2 := idxN_at l k2 e he
            rw [evl] at ix1
            rw [evn] at ix2
            have bl := liveL_b (l.take k2)
            have bn := lineL_b (l.take k2)
            rw [evl, List.length_take] at bl
            rw [evn, List.length_take] at bn
            have m1 : vl + wLive e ≤ liveL l := by rw [← s1, ← List.take_append_drop (k2 + 1) l, liveL_app, List.take_append_drop]; have := liveL_b (l.drop (k2 + 1)); omega
            have m2 : vn + wLine e ≤ lineL l := by rw [← s2, ← List.take_append_drop (k2 + 1) l, lineL_app, List.take_append_drop]; have := lineL_b (l.drop (k2 + 1)); omega
            have w1b := wLive_b e
            have w2b := wLine_b e
            have w3b : wLive e = 0 → wLine e = 0 := by unfold wLive wLine; split <;> simp
            have d0 : W22.cell? ⟨b22, 0, none⟩ = some (.int .i64 (wLive e)) := hr22.cell 0
            have d1 : W22.cell? ⟨b22, 1, none⟩ = some (.int .i64 (wLine e)) := hr22.cell 1
            have c0 : W22.cell? ⟨pb, 0, none⟩ = some (.pointer (some ⟨tb, 0, none⟩)) := (hpq.later hB22).cell 0
            have HRow := hid_of' hr22
            have HPq := hid_of' hpq
            obtain ⟨t0, ht0⟩ : ∃ t0 : Nd, RowAt tb #[.int .i64 (ch : Int), pv t0.blk] 76 wr ∧ t0.At R wr ∧ t0.Full ∧ t0.els = l := by
              rcases htq.at with ⟨e0, _⟩ | ⟨t0, g1, g2, g3, g4, _⟩
              · exact absurd e0 hlne
              · exact ⟨t0, g1, g2, g3, g4⟩
            have HF : Hid (∀ x, Below wr.heap.size wr x → 0 < wLive e → Calls Tryz.prog 16 #[.pointer (some ⟨tb, 0, none⟩), .int .i64 vl] x fun r w' => r = .returned (.tuple #[.int .i64 (k2 : Int), .nilIface]) ∧ Below x.heap.size x w') := fun x hx hv => by
              have := find_ok (ch := ch) vl (ht0.1.later hx) (ht0.2.1.later hx) ht0.2.2.1 (by rw [ht0.2.2.2]; omega) (by omega) (by rw [ht0.2.2.2]; omega)
              rw [ht0.2.2.2, ix1 hv] at this
              exact this
            have HN : Hid (∀ x, Below wr.heap.size wr x → 0 < wLine e → Calls Tryz.prog 17 #[.pointer (some ⟨tb, 0, none⟩), .int .i64 vn] x fun r w' => r = .returned (.tuple #[.int .i64 (k2 : Int), .nilIface]) ∧ Below x.heap.size x w') := fun x hx hv => by
              have := findLine_ok (ch := ch) vn (ht0.1.later hx) (ht0.2.1.later hx) ht0.2.2.1 (by rw [ht0.2.2.2]; omega) (by omega) (by rw [ht0.2.2.2]; omega)
              rw [ht0.2.2.2, ix2 hv] at this
              exact this
            obtain ⟨xl, exl⟩ : ∃ xl, wLive e = xl := ⟨_, rfl⟩
            obtain ⟨xn, exn⟩ : ∃ xn, wLine e = xn := ⟨_, rfl⟩
            rw [exl] at s1 HF m1 w1b w3b d0 HRow
            rw [exn] at s2 HN m2 w2b w3b d1 HRow
            have s1' : vl + xl = liveL (l.take (k2 + 1)) := s1.symm
            have s2' : vn + xn = lineL (l.take (k2 + 1)) := s2.symm
            have z1 : 0 ≤ vl + xl ∧ vl + xl ≤ 1000 := by omega
            have z2 : 0 ≤ vn + xn ∧ vn + xn ≤ 1000 := by omega
            have HS := hid_of' (And.intro s1' s2')
            clear ix1 ix2 bl bn m1 m2 tk evl evn s1 s2 s1' s2' hr19 hB19 hr22 htq exl exn
            by_cases hv1 : xl = 0
            · have hv2 := w3b hv1
              subst hv1 hv2
              go_wp2
              go_roundw
              case rel => exact ⟨k2 + 1, by rw [← HS.out.1]; go_num, by rw [← HS.out.2]; go_num, by go_num, by omega, bgo hBq hB22⟩
              case measure => simp [intOf]; omega
            · obtain rfl : xl = 1 := by omega
              by_cases hv2 : xn = 0
              · subst hv2
                go_wp2_with (go_at_call 16; (with_reducible refine (HF.out _ hB22 (by omega)).mono ?_); rintro r w5 ⟨rfl, hb5⟩; have d50 : w5.cell? ⟨b22, 0, none⟩ = some (.int .i64 1) := (HRow.out.later hb5).cell 0; have d51 : w5.cell? ⟨b22, 1, none⟩ = some (.int .i64 0) := (HRow.out.later hb5).cell 1)
                go_roundw
                case rel => exact ⟨k2 + 1, by rw [← HS.out.1], by rw [← HS.out.2]; go_num, by go_num, by omega, bgo hBq (bgo hB22 hb5)⟩
                case measure => simp [intOf]; omega
              · obtain rfl : xn = 1 := by omega
                go_wp2_with (first | (go_at_call 16; (with_reducible refine (HF.out _ hB22 (by omega)).mono ?_); rintro r w5 ⟨rfl, hb5⟩; have d50 : w5.cell? ⟨b22, 0, none⟩ = some (.int .i64 1) := (HRow.out.later hb5).cell 0; have d51 : w5.cell? ⟨b22, 1, none⟩ = some (.int .i64 1) := (HRow.out.later hb5).cell 1; have c50 : w5.cell? ⟨pb, 0, none⟩ = some (.pointer (some ⟨tb, 0, none⟩)) := ((HPq.out.later hB22).later hb5).cell 0) | (go_at_call 17; (with_reducible refine (HN.out _ (bgo hB22 hb5) (by omega)).mono ?_); rintro r w6 ⟨rfl, hb6⟩; have d60 : w6.cell? ⟨b22, 0, none⟩ = some (.int .i64 1) := ((HRow.out.later hb5).later hb6).cell 0; have d61 : w6.cell? ⟨b22, 1, none⟩ = some (.int .i64 1) := ((HRow.out.later hb5).later hb6).cell 1))
                go_roundw
                case rel => exact ⟨k2 + 1, by rw [← HS.out.1], by rw [← HS.out.2], by go_num, by omega, bgo hBq (bgo (bgo hB22 hb5) hb6)⟩
                case measure => simp [intOf]; omega
          · have hki : ¬ (k2 : Int) < (l.length : Int) := by omega
            have hkl : k2 = l.length := by omega
            rw [hkl, List.take_length]
            clear hk2 hkl c0 c1 hki hlt
            obtain ⟨vl, evl⟩ : ∃ vl, liveL l = vl := ⟨_, rfl⟩
            obtain ⟨vn, evn⟩ : ∃ vn, lineL l = vn := ⟨_, rfl⟩
            have HBf : Hid (∀ x, Below wr.heap.size wr x → Calls Tryz.prog 14 #[.pointer (some ⟨tb, 0, none⟩), .int .i64 (l.length : Int)] x fun r w' => r = .returned (.tuple #[wv vl vn, .nilIface]) ∧ Below x.heap.size x w') := fun x hx => by
              have := before_any (htq.later hx) l.length (by omega) (Nat.le_refl _)
              rw [List.take_length, evl, evn] at this
              exact this
            have HWt : Hid (∀ x, Below wr.heap.size wr x → Calls Tryz.prog 18 #[.pointer (some ⟨tb, 0, none⟩)] x fun r w' => r = .returned (wv vl vn) ∧ Below x.heap.size x w') := fun x hx => by
              have := weight_L (htq.later hx)
              rw [evl, evn] at this
              exact this
            rw [evl, evn]
            have hkN : ¬ (l.length : Int) < (l.length : Int) := by omega
            have c1 : wr.cell? ⟨pb, 1, none⟩ = some (.slice au l.length cu) := hpq.cell 1
            go_upto_region 32 with fail
            clear c1 evl evn
            refine wp_region_float (by kernel_rfl) (by kernel_rfl) (fun i v x => match i with
              | 0 => v = .pointer (some ⟨pb, 0, none⟩)
              | 1 => v = .pointer (some ⟨pb, 0, none⟩)
              | 2 => v = .pointer (some ⟨pb, 0, none⟩)
              | 3 => v = .pointer (some ⟨tb, 0, none⟩)
              | 4 => v = .pointer (some ⟨pb, 0, none⟩)
              | 5 => v = .pointer (some ⟨pb, 0, none⟩)
              | 6 => v = .pointer (some ⟨pb, 1, none⟩)
              | 7 => v = .slice au l.length cu
              | 8 => v = .int .i64 (l.length : Int)
              | 9 => v = .tuple #[wv vl vn, .nilIface]
              | 10 => v = .tuple #[wv vl vn, .nilIface]
              | 11 => v = wv vl vn
              | 12 => v = .nilIface
              | 15 => v = .nilIface
              | _ => True) (fun i => match i with | 13 => some (42, 2) | _ => none) (fun i => match i with | 14 => some (13, 11) | _ => none) ?_ ?_ ?_ ?_ ?_ ?_ ?_
            · intro kk f s h
              match kk, h with
              | 14, h => cases h; exact ⟨rfl, (by intro h; cases h), rfl, rfl, _, _, _, _, _, ⟨13, .data⟩, ⟨11, .data⟩, rfl, rfl, rfl, rfl, rfl, (by simp), rfl, rfl, (by simp), rfl, rfl⟩
              | 0, h | 1, h | 2, h | 3, h | 4, h | 5, h | 6, h | 7, h | 8, h | 9, h | 10, h | 11, h | 12, h | 13, h | 15, h => cases h
              | m + 16, h => cases h
            · intro i t n h
              match i, h with
              | 13, h => rfl
              | 0, h | 1, h | 2, h | 3, h | 4, h | 5, h | 6, h | 7, h | 8, h | 9, h | 10, h | 11, h | 12, h | 14, h | 15, h => cases h
              | m + 16, h => cases h
            · intro p q f s s' h1 h2
              have e1 : (p = 14 ∧ f = 13) := by
                match p, h1 with
                | 14, h => cases h; simp
                | 0, h | 1, h | 2, h | 3, h | 4, h | 5, h | 6, h | 7, h | 8, h | 9, h | 10, h | 11, h | 12, h | 13, h | 15, h => cases h
                | m + 16, h => cases h
              have e2 : (q = 14 ∧ f = 13) := by
                match q, h2 with
                | 14, h => cases h; simp
                | 0, h | 1, h | 2, h | 3, h | 4, h | 5, h | 6, h | 7, h | 8, h | 9, h | 10, h | 11, h | 12, h | 13, h | 15, h => cases h
                | m + 16, h => cases h
              omega
            · intro i o ho hA hK q x vals S hX hS hdep hoth
              have t5 : q.tmps[5]? = some (.pointer (some ⟨pb, 0, none⟩)) := by rw [hoth 5 (by kernel_rfl)]; rfl
              match i, ho, hA, hK with
              | 0, ho, hA, hK =>
                simp only [List.getElem?_cons_zero, Option.some.injEq] at ho
                subst ho
                unfold Oper.wp
                simp [execOp, go_sem, t5]
                exact cameF _ rfl (Below.refl _ _) (fun _ _ => rfl)
              | 1, ho, hA, hK =>
                simp only [List.getElem?_cons_succ, List.getElem?_cons_zero, Option.some.injEq] at ho
                subst ho
                obtain ⟨u0, e0⟩ := hdep ⟨0, .data⟩ (by simp) rfl _ 159 rfl rfl
                rw [show vals 0 = .pointer (some ⟨pb, 0, none⟩) from e0 rfl rfl x (KeptP.refl _ _)] at u0
                unfold Oper.wp
                simp [execOp, go_sem, u0]
                exact cameF _ rfl (Below.refl _ _) (fun _ _ => rfl)
              | 2, ho, hA, hK =>
                simp only [List.getElem?_cons_succ, List.getElem?_cons_zero, Option.some.injEq] at ho
                subst ho
                obtain ⟨u1, e1⟩ := hdep ⟨1, .data⟩ (by simp) rfl _ 160 rfl rfl
                rw [show vals 1 = .pointer (some ⟨pb, 0, none⟩) from e1 rfl rfl x (KeptP.refl _ _)] at u1
                unfold Oper.wp
                simp [execOp, go_sem, u1]
                exact cameF _ rfl (Below.refl _ _) (fun _ _ => rfl)
              | 3, ho, hA, hK =>
                simp only [List.getElem?_cons_succ, List.getElem?_cons_zero, Option.some.injEq] at ho
                subst ho
                obtain ⟨u2, e2⟩ := hdep ⟨2, .data⟩ (by simp) rfl _ 161 rfl rfl
                rw [show vals 2 = .pointer (some ⟨pb, 0, none⟩) from e2 rfl rfl x (KeptP.refl _ _)] at u2
                have cc : x.cell? ⟨pb, 0, none⟩ = some (.pointer (some ⟨tb, 0, none⟩)) := (hpq.later hX).cell 0
                unfold Oper.wp
                simp [execOp, go_sem, u2, cc]
                exact cameF _ rfl (Below.refl _ _) (fun _ _ => rfl)
              | 4, ho, hA, hK =>
                simp only [List.getElem?_cons_succ, List.getElem?_cons_zero, Option.some.injEq] at ho
                subst ho
                unfold Oper.wp
                simp [execOp, go_sem, t5]
                exact cameF _ rfl (Below.refl _ _) (fun _ _ => rfl)
              | 5, ho, hA, hK =>
                simp only [List.getElem?_cons_succ, List.getElem?_cons_zero, Option.some.injEq] at ho
                subst ho
                obtain ⟨u4, e4⟩ := hdep ⟨4, .data⟩ (by simp) rfl _ 163 rfl rfl
                rw [show vals 4 = .pointer (some ⟨pb, 0, none⟩) from e4 rfl rfl x (KeptP.refl _ _)] at u4
                unfold Oper.wp
                simp [execOp, go_sem, u4]
                exact cameF _ rfl (Below.refl _ _) (fun _ _ => rfl)
              | 6, ho, hA, hK =>
                simp only [List.getElem?_cons_succ, List.getElem?_cons_zero, Option.some.injEq] at ho
                subst ho
                obtain ⟨u5, e5⟩ := hdep ⟨5, .data⟩ (by simp) rfl _ 164 rfl rfl
                rw [show vals 5 = .pointer (some ⟨pb, 0, none⟩) from e5 rfl rfl x (KeptP.refl _ _)] at u5
                unfold Oper.wp
                simp [execOp, go_sem, u5]
                exact cameF _ rfl (Below.refl _ _) (fun _ _ => rfl)
              | 7, ho, hA, hK =>
                simp only [List.getElem?_cons_succ, List.getElem?_cons_zero, Option.some.injEq] at ho
                subst ho
                obtain ⟨u6, e6⟩ := hdep ⟨6, .data⟩ (by simp) rfl _ 165 rfl rfl
                rw [show vals 6 = .pointer (some ⟨pb, 1, none⟩) from e6 rfl rfl x (KeptP.refl _ _)] at u6
                have cc : x.cell? ⟨pb, 1, none⟩ = some (.slice au l.length cu) := (hpq.later hX).cell 1
                unfold Oper.wp
                simp [execOp, go_sem, u6, cc]
                exact cameF _ rfl (Below.refl _ _) (fun _ _ => rfl)
              | 8, ho, hA, hK =>
                simp only [List.getElem?_cons_succ, List.getElem?_cons_zero, Option.some.injEq] at ho
                subst ho
                obtain ⟨u7, e7⟩ := hdep ⟨7, .data⟩ (by simp) rfl _ 166 rfl rfl
                rw [show vals 7 = .slice au l.length cu from e7 rfl rfl x (KeptP.refl _ _)] at u7
                unfold Oper.wp
                simp [go_sem, u7]
                exact cameF _ rfl (Below.refl _ _) (fun _ _ => rfl)
              | 9, ho, hA, hK =>
                simp only [List.getElem?_cons_succ, List.getElem?_cons_zero, Option.some.injEq] at ho
                subst ho
                obtain ⟨u3, e3⟩ := hdep ⟨3, .data⟩ (by simp) rfl _ 162 rfl rfl
                rw [show vals 3 = .pointer (some ⟨tb, 0, none⟩) from e3 rfl rfl x (KeptP.refl _ _)] at u3
                obtain ⟨u8, e8⟩ := hdep ⟨8, .data⟩ (by simp) rfl _ 167 rfl rfl
                rw [show vals 8 = .int .i64 (l.length : Int) from e8 rfl rfl x (KeptP.refl _ _)] at u8
                unfold Oper.wp
                simp [go_sem, u3, u8]
                refine (HBf.out _ hX).mono ?_
                rintro r x1 ⟨rfl, hb1⟩
                exact cameF _ rfl hb1 (fun _ _ => rfl)
              | 10, ho, hA, hK =>
                simp only [List.getElem?_cons_succ, List.getElem?_cons_zero, Option.some.injEq] at ho
                subst ho
                obtain ⟨u9, e9⟩ := hdep ⟨9, .data⟩ (by simp) rfl _ 168 rfl rfl
                rw [show vals 9 = .tuple #[wv vl vn, .nilIface] from e9 rfl rfl x (KeptP.refl _ _)] at u9
                unfold Oper.wp
                simp [execOp, go_sem, u9]
                exact cameF _ rfl (Below.refl _ _) (fun _ _ => rfl)
              | 11, ho, hA, hK =>
                simp only [List.getElem?_cons_succ, List.getElem?_cons_zero, Option.some.injEq] at ho
                subst ho
                obtain ⟨u10, e10⟩ := hdep ⟨10, .data⟩ (by simp) rfl _ 158 rfl rfl
                rw [show vals 10 = .tuple #[wv vl vn, .nilIface] from e10 rfl rfl x (KeptP.refl _ _)] at u10
                unfold Oper.wp
                simp [execOp, go_sem, u10]
                exact cameF _ rfl (Below.refl _ _) (fun _ _ => rfl)
              | 12, ho, hA, hK =>
                simp only [List.getElem?_cons_succ, List.getElem?_cons_zero, Option.some.injEq] at ho
                subst ho
                obtain ⟨u10, e10⟩ := hdep ⟨10, .data⟩ (by simp) rfl _ 158 rfl rfl
                rw [show vals 10 = .tuple #[wv vl vn, .nilIface] from e10 rfl rfl x (KeptP.refl _ _)] at u10
                unfold Oper.wp
                simp [execOp, go_sem, u10]
                exact cameF _ rfl (Below.refl _ _) (fun _ _ => rfl)
              | 13, ho, hA, hK => cases hA
              | 14, ho, hA, hK => cases hK
              | 15, ho, hA, hK =>
                simp only [List.getElem?_cons_succ, List.getElem?_cons_zero, Option.some.injEq] at ho
                subst ho
                obtain ⟨u12, e12⟩ := hdep ⟨12, .data⟩ (by simp) rfl _ 170 rfl rfl
                rw [show vals 12 = .nilIface from e12 rfl rfl x (KeptP.refl _ _)] at u12
                unfold Oper.wp
                simp [execOp, go_sem, u12]
                exact cameF _ rfl (Below.refl _ _) (fun _ _ => rfl)
              | m + 16, ho, hA, hK => simp at ho
            · intro i o t n ho hA q x
              match i, ho, hA with
              | 13, ho, hA =>
                cases hA
                simp only [List.getElem?_cons_succ, List.getElem?_cons_zero, Option.some.injEq] at ho
                subst ho
                unfold Oper.wp
                simp [execOp, go_sem]
                exact ⟨_, rfl, rfl, rfl⟩
              | 0, ho, hA | 1, ho, hA | 2, ho, hA | 3, ho, hA | 4, ho, hA | 5, ho, hA | 6, ho, hA | 7, ho, hA | 8, ho, hA | 9, ho, hA | 10, ho, hA | 11, ho, hA | 12, ho, hA | 14, ho, hA | 15, ho, hA => cases hA
              | m + 16, ho, hA => cases hA
            · intro i o of os_ f s n g' t df ds sv ho hK hA hf hs hdf hds q x cs0 sf ss hR hg hn
              match i, ho, hK with
              | 14, ho, hK =>
                cases hK
                cases hA
                simp only [List.getElem?_cons_succ, List.getElem?_cons_zero, Option.some.injEq] at ho hf hs
                subst ho hf hs
                cases hdf
                cases hds
                obtain rfl : sv = .agg #[.int .i64 vl, .int .i64 vn] := hR
                exact wp_store_row _ _ _ rfl g' (#[.int .i64 vl, .int .i64 vn]) (by simp [Act.eval, sf]) (by simp [Act.eval, ss]) _ cs0 hg w_size (by rw [hn]; rfl) (by simp [Value.oneCell']) ⟨undef, #[.int .i64 vl, .int .i64 vn], rfl, rfl, rfl, rfl⟩
              | 0, ho, hK | 1, ho, hK | 2, ho, hK | 3, ho, hK | 4, ho, hK | 5, ho, hK | 6, ho, hK | 7, ho, hK | 8, ho, hK | 9, ho, hK | 10, ho, hK | 11, ho, hK | 12, ho, hK | 13, ho, hK | 15, ho, hK => cases hK
              | m + 16, ho, hK => cases hK
            · intro vals W3 hB3 hR hBk
              obtain ⟨g, cs, q13, hg, hrg, _, hst⟩ := hBk 13 _ _ (by decide) rfl
              have q11 : vals 11 = wv vl vn := hR 11 (by decide) rfl rfl
              have q15 : vals 15 = .nilIface := hR 15 (by decide) rfl rfl
              have ecs : cs = #[.int .i64 vl, .int .i64 vn] := by have := (hst 14 11 (by decide) rfl).symm.trans q11; cases this; rfl
              subst ecs
              have hr3 : RowAt g #[.int .i64 vl, .int .i64 vn] 42 W3 := hrg
              simp only [putAll, q13, q15, List.setIfInBounds_toArray, List.set_cons_succ, List.set_cons_zero]
              clear hR q11 q13 q15 hBk hst
              go_upto_region 33 with fail
              have hp3 := hpq.later hB3
              have f0 := hr3.cls 0 _ rfl
              have f1 := hr3.cls 1 _ rfl
              have fp := hp3.cls 0 _ rfl
              have hin := hr3.in
              have hq := eq_W vl vn
              clear hrg
              have hB := Below.refl W3.heap.size W3
              unfold wv at HWt
              refine wp_region_cls (by kernel_rfl) (by kernel_rfl) ?_
              repeat (first | go_big_quiet_skip | (go_big_quiet_want; first | (refine quiet_load_in _ _ rfl rfl hin.cls Tryz.underlying42 rfl w_size ?_; simp only [Act.put, List.setIfInBounds_toArray, List.set_cons_succ, List.set_cons_zero]; go_big_quiet_on) | (go_big_quiet_op; first | go_big_quiet_on | go_big_quiet_call ((first | (go_at_call 18; exact cls_of (HWt.out _ (bgo hB3 (wOf_below _)))) | (go_at_call 12; exact cls_of (wakesT_ok _)))))))
              refine wpQuiet_nil ?_
              rintro w1 ⟨s1, e1⟩
              have hb1 := wOf_below s1
              rw [← e1] at hb1
              clear e1 s1
              replace hin := hin.later hb1
              replace hB := bgo hB hb1
              clear hb1
              go_wp2
              go_ret
              exact ⟨rfl, bgo hbw (bgo hBq (bgo hB3 hB))⟩
end Go.Proofs.YtppfgmggcihmoaaGreatDoor
