/-
  (*barrowlaw04.pair).changes: Insert.
-/
import Derived.Test.YtppfgmggcihmoaaGreatDoorTrSmall
namespace Go.Proofs.YtppfgmggcihmoaaGreatDoor
open Go.RowKit
set_option maxRecDepth 100000

/-- What stays of a pair: where it and its tree lie. -/
structure PrC (w0 : World) (R : Rows) (pb tb ch : Nat) : Prop where
  np : R.no pb
  nt : R.no tb
  ne : ¬ pb = tb
  lp : w0.heap.size ≤ pb
  lt : w0.heap.size ≤ tb
  c1 : 2 ≤ ch
  c2 : ch ≤ 64
/-- A pair in memory: its tree, and its plain row. -/
def PrAt (w0 : World) (R : Rows) (pb tb ch : Nat) (l : List El) (w : World) : Prop := ∃ ul, RowAt pb #[pv tb, ul, .int .i64 (ch : Int)] 34 w ∧ PlAt R w ul l ∧ TrL R tb ch l w ∧ Below w0.heap.size w0 w ∧ R.hi ≤ w.heap.size
theorem OwnE.kp {x base : Nat} {v : Value} {l : List El} {w w' : World} (h : OwnE base v l w) (k : Kp x w w') (hx : ∀ g n c, v = .slice (some ⟨g, 0, none⟩) n c → ¬ g = x) : OwnE base v l w' := by
  refine ⟨h.1, ?_⟩
  rcases h.2 with h1 | ⟨g, cap, cur, h1, h2, h3, h4⟩
  · exact .inl h1
  · exact .inr ⟨g, cap, cur, h1, h2, (k.block g (Array.getElem?_eq_some_iff.1 h3).1 (hx g _ _ h1)).trans h3, h4⟩
/-- One block more is kept clear of. -/
def Rows.and (R : Rows) (x hi : Nat) (h1 : R.hi ≤ hi) (h2 : x < hi) : Rows := ⟨fun g => R.no g ∨ g = x, hi, fun g h => h.elim (fun k => Nat.lt_of_lt_of_le (R.lt g k) h1) (fun k => by omega)⟩

set_option maxHeartbeats 8000000 in
theorem chg_ins {w0 : World} {R : Rows} {pb tb ch : Nat} {l : List El} {w : World} (C : PrC w0 R pb tb ch) (h : PrAt w0 R pb tb ch l w) (ip : Nat) (hip : ip ≤ l.length) (nn : Int) (m : List El) (aU : Option Addr) (cU : Nat) (hm0 : SlE w0 (.slice aU m.length cU) m) (hm60 : m.length ≤ 60) (hsum : l.length + m.length ≤ 600) :
    Calls Tryz.prog 8 #[pv pb, .agg #[.int .i64 0, .int .i64 (ip : Int), .int .i64 nn, .slice aU m.length cU]] w fun r w' => r = .returned (.bool true) ∧ PrAt w0 R pb tb ch (l.take ip ++ (m ++ l.drop ip)) w' := by
  obtain ⟨ul, hp, hpl, htr, hbw, hz⟩ := h
  obtain ⟨au, cu, rfl⟩ := hpl.form
  have hBx := below_one w (.cells #[.int .i64 0, .int .i64 (ip : Int), .int .i64 nn, .slice aU m.length cU] 28)
  have hob := row_new w #[.int .i64 0, .int .i64 (ip : Int), .int .i64 nn, .slice aU m.length cU] 28
  have hm := hm0.later hbw
  have hp1 := hp.later hBx
  have c1 := hp1.cell 1
  have HW := hid_of' (within_small 0 8 (w.alloc (.cells #[.int .i64 0, .int .i64 (ip : Int), .int .i64 nn, .slice aU m.length cU] 28)) (by decide) (by decide))
  rw [show ((0 : Nat) : Int) = 0 from rfl, show ((8 : Nat) : Int) = 8 from rfl] at HW
  have HLd := hid_of' (lend_ok (l := m) (hm.later hBx) (by omega))
  have e1 : (l.length : Int) + (m.length : Int) ≤ 600 := by omega
  have e2 : ¬ (600 : Int) < (l.length : Int) + (m.length : Int) := by omega
  have e3 : ¬ (60 : Int) < (m.length : Int) := by omega
  have HP := hid_of' hp
  unfold pv at hp hp1 c1 ⊢
  clear hm
  go_enter Tryz.func8, Tryz.ntmps8
  go_upto_region 10 with (first | (go_at_call 7; refine HW.out.mono ?_; rintro r w1 ⟨rfl, hw⟩; obtain rfl := hw.symm) | (go_at_call 20; (with_reducible refine HLd.out.mono ?_); rintro r w2 ⟨gL, cL, rfl, hown, hb2⟩; clear HLd))
  have bW : Below w.heap.size w w2 := bgo hBx hb2
  have hp2 := hp.later bW
  have hob2 := hob.later hb2
  have hne9 : m ++ marks ≠ [] := by simp [marks]
  have hgE : w.heap.size + 1 ≤ gL ∧ ElsAt gL 0 (m ++ marks) w2 := by
    obtain ⟨g', c', k1, k2, k3, _⟩ := hown.room hne9
    simp only [Value.slice.injEq, Option.some.injEq, Addr.mk.injEq] at k2
    obtain ⟨⟨rfl, _⟩, _, _⟩ := k2
    rw [World.size_alloc] at k1
    exact ⟨k1, k3⟩
  obtain ⟨hgl, hEL⟩ := hgE
  have hgl2 := hEL.lt hne9
  obtain ⟨vt, hrt⟩ := htr.row
  have htb := hrt.lt
  have hpb := hp.lt
  obtain ⟨R', hR'⟩ : ∃ R', R' = R.and gL w2.heap.size (Nat.le_trans hz bW.size) hgl2 := ⟨_, rfl⟩
  have n1 : R'.no tb := by rw [hR']; exact .inl C.nt
  have n2 : R'.no pb := by rw [hR']; exact .inl C.np
  have n3 : R'.no gL := by rw [hR']; exact .inr rfl
  have n4 : R'.hi = w2.heap.size := by rw [hR']; rfl
  have n5 : ∀ g, R'.no g → R.no g ∨ w.heap.size ≤ g := fun g hg => by rw [hR'] at hg; exact hg.elim .inl (fun e => .inr (by omega))
  have n6 : ∀ g, R.no g → R'.no g := fun g hg => by rw [hR']; exact .inl hg
  have slent : SlE w2 (.slice (some ⟨gL, 0, none⟩) m.length cL) m := .inr ⟨gL, 0, cL, rfl, by have := hEL.take m.length; rwa [List.take_left'] at this; rfl⟩
  have HZ := hid_of' (show RowAt pb #[pv tb, .slice au l.length cu, .int .i64 (ch : Int)] 34 w ∧ PlAt R w (.slice au l.length cu) l ∧ TrL R tb ch l w ∧ Below w0.heap.size w0 w ∧ R.hi ≤ w.heap.size from ⟨HP.out, hpl, htr, hbw, hz⟩)
  clear HW hR' hrt c1 hEL hb2
  refine wp_region_tail 7 (by kernel_rfl) (fun _ => none) (by kernel_rfl) (by kernel_rfl) (by decide) (fun i v x => match i with
    | 0 => v = .pointer (some ⟨pb, 0, none⟩)
    | 1 => v = .pointer (some ⟨pb, 0, none⟩)
    | 2 => v = .pointer (some ⟨pb, 0, none⟩)
    | 3 => v = .pointer (some ⟨tb, 0, none⟩)
    | 4 => v = .pointer (some ⟨w.heap.size, 1, none⟩)
    | 5 => v = .int .i64 (ip : Int)
    | 6 => v = .slice (some ⟨gL, 0, none⟩) m.length cL
    | _ => True) (fun _ => false) (fun _ _ _ _ h => by cases h) ?_ ?_ ?_
  · intro i v x x' hR hb
    match i, hR with
    | 0, h => exact h
    | 1, h => exact h
    | 2, h => exact h
    | 3, h => exact h
    | 4, h => exact h
    | 5, h => exact h
    | 6, h => exact h
    | m + 7, h => exact h
  · intro i o hi ho q x vals hX hdep hoth
    have t0 : q.tmps[0]? = some (.pointer (some ⟨pb, 0, none⟩)) := by rw [hoth 0 (by kernel_rfl)]; rfl
    have t3 : q.tmps[3]? = some (.pointer (some ⟨w.heap.size, 0, none⟩)) := by rw [hoth 3 (by kernel_rfl)]; rfl
    have t7 : q.tmps[7]? = some (.slice (some ⟨gL, 0, none⟩) m.length cL) := by rw [hoth 7 (by kernel_rfl)]; rfl
    match i, hi, ho with
    | 0, _, ho =>
      simp only [List.getElem?_cons_zero, Option.some.injEq] at ho
      subst ho
      unfold Oper.wp
      simp [execOp, go_sem, t0]
      exact came _ rfl (Below.refl _ _) rfl (fun h => absurd h (by decide))
    | 1, _, ho =>
      simp only [List.getElem?_cons_succ, List.getElem?_cons_zero, Option.some.injEq] at ho
      subst ho
      obtain ⟨u0, e0⟩ := hdep ⟨0, .data⟩ (by simp) rfl _ 43 rfl rfl
      rw [show vals 0 = .pointer (some ⟨pb, 0, none⟩) from e0] at u0
      unfold Oper.wp
      simp [execOp, go_sem, u0]
      exact came _ rfl (Below.refl _ _) rfl (fun h => absurd h (by decide))
    | 2, _, ho =>
      simp only [List.getElem?_cons_succ, List.getElem?_cons_zero, Option.some.injEq] at ho
      subst ho
      obtain ⟨u1, e1⟩ := hdep ⟨1, .data⟩ (by simp) rfl _ 44 rfl rfl
      rw [show vals 1 = .pointer (some ⟨pb, 0, none⟩) from e1] at u1
      unfold Oper.wp
      simp [execOp, go_sem, u1]
      exact came _ rfl (Below.refl _ _) rfl (fun h => absurd h (by decide))
    | 3, _, ho =>
      simp only [List.getElem?_cons_succ, List.getElem?_cons_zero, Option.some.injEq] at ho
      subst ho
      obtain ⟨u2, e2⟩ := hdep ⟨2, .data⟩ (by simp) rfl _ 45 rfl rfl
      rw [show vals 2 = .pointer (some ⟨pb, 0, none⟩) from e2] at u2
      have cc : x.cell? ⟨pb, 0, none⟩ = some (.pointer (some ⟨tb, 0, none⟩)) := (hp2.later hX).cell 0
      unfold Oper.wp
      simp [execOp, go_sem, u2, cc]
      exact came _ rfl (Below.refl _ _) rfl (fun h => absurd h (by decide))
    | 4, _, ho =>
      simp only [List.getElem?_cons_succ, List.getElem?_cons_zero, Option.some.injEq] at ho
      subst ho
      unfold Oper.wp
      simp [execOp, go_sem, t3]
      exact came _ rfl (Below.refl _ _) rfl (fun h => absurd h (by decide))
    | 5, _, ho =>
      simp only [List.getElem?_cons_succ, List.getElem?_cons_zero, Option.some.injEq] at ho
      subst ho
      obtain ⟨u4, e4⟩ := hdep ⟨4, .data⟩ (by simp) rfl _ 47 rfl rfl
      rw [show vals 4 = .pointer (some ⟨w.heap.size, 1, none⟩) from e4] at u4
      have cc : x.cell? ⟨w.heap.size, 1, none⟩ = some (.int .i64 (ip : Int)) := (hob2.later hX).cell 1
      unfold Oper.wp
      simp [execOp, go_sem, u4, cc]
      exact came _ rfl (Below.refl _ _) rfl (fun h => absurd h (by decide))
    | 6, _, ho =>
      simp only [List.getElem?_cons_succ, List.getElem?_cons_zero, Option.some.injEq] at ho
      subst ho
      unfold Oper.wp
      simp [execOp, go_sem, t7]
      exact came _ rfl (Below.refl _ _) rfl (fun h => absurd h (by decide))
    | m + 7, hi, _ => exact absurd hi (by omega)
  · intro vals x' hX hR _
    have q3 : vals 3 = .pointer (some ⟨tb, 0, none⟩) := hR 3 (by decide)
    have q5 : vals 5 = .int .i64 (ip : Int) := hR 5 (by decide)
    have q6 : vals 6 = .slice (some ⟨gL, 0, none⟩) m.length cL := hR 6 (by decide)
    have htr2 : TrL R' tb ch l x' := TrL.widen htr n5 (by rw [n4]; exact hX.size) (bgo bW hX)
    have HI := hid_of' (insert_any htr2 ip m _ (slent.later hX) hip (by omega) n1 C.c1 C.c2 (by rw [n4]; exact hX.size))
    have e5 : ¬ (ip : Int) < 0 := by omega
    have e6 : ¬ (l.length : Int) < (ip : Int) := by omega
    have e7 : ¬ l.length < ip := by omega
    have e8 : decide ((ip : Int) < 0) = false := decide_eq_false e5
    have e9 : decide (l.length < ip) = false := decide_eq_false e7
    unfold pv at HI
    simp only [List.take, List.drop, putAll, q3, q5, q6, List.setIfInBounds_toArray, List.set_cons_succ, List.set_cons_zero]
    clear hR q3 q5 q6 htr2
    go_upto_region 13 with (go_at_call 21; (with_reducible refine HI.out.mono ?_); rintro r w4 ⟨rfl, htr4, hk4⟩; have c41 : w4.cell? ⟨w.heap.size, 1, none⟩ = some (.int .i64 (ip : Int)) := ((hob2.later hX).kp hk4 (by omega)).cell 1; clear HI)
    have hp4 := (hp2.later hX).kp hk4 C.ne
    have hob4 := (hob2.later hX).kp hk4 (by omega)
    have hpl4 := (HZ.out.2.1.later (bgo bW hX)).kp hk4 C.nt
    have hown4 := (hown.later hX).kp hk4 (fun g n c e => by simp only [Value.slice.injEq, Option.some.injEq, Addr.mk.injEq] at e; omega)
    have hb4 : Below w0.heap.size w0 w4 := Kp.below (HZ.out.2.2.2.1.trans ((bgo bW hX).mono HZ.out.2.2.2.1.size)) hk4 C.lt (Nat.le_trans HZ.out.2.2.2.1.size (bgo bW hX).size)
    have hm4 := hm0.later hb4
    have s4 : w2.heap.size ≤ w4.heap.size := Nat.le_trans hX.size hk4.size
    clear e1 e2 e3 c41
    refine wp_region_tail 11 (by kernel_rfl) (fun _ => none) (by kernel_rfl) (by kernel_rfl) (by decide) (fun i v x => match i with
      | 0 => v = .pointer (some ⟨pb, 0, none⟩)
      | 1 => v = .pointer (some ⟨pb, 0, none⟩)
      | 2 => v = .pointer (some ⟨pb, 0, none⟩)
      | 3 => v = .pointer (some ⟨pb, 1, none⟩)
      | 4 => v = .slice au l.length cu
      | 5 => v = .pointer (some ⟨w.heap.size, 1, none⟩)
      | 6 => v = .int .i64 (ip : Int)
      | 7 => v = .slice aU m.length cU
      | 8 => OwnE w4.heap.size v (l.take ip ++ (m ++ l.drop ip)) x
      | 9 => v = .pointer (some ⟨pb, 0, none⟩)
      | 10 => v = .pointer (some ⟨pb, 1, none⟩)
      | _ => True) (fun _ => false) (fun _ _ _ _ h => by cases h) ?_ ?_ ?_
    · intro i v x x' hR hb
      match i, hR with
      | 0, h => exact h
      | 1, h => exact h
      | 2, h => exact h
      | 3, h => exact h
      | 4, h => exact h
      | 5, h => exact h
      | 6, h => exact h
      | 7, h => exact h
      | 8, h => exact OwnE.later h hb
      | 9, h => exact h
      | 10, h => exact h
      | m + 11, h => exact h
    · intro i o hi ho q x vals hX hdep hoth
      have t0 : q.tmps[0]? = some (.pointer (some ⟨pb, 0, none⟩)) := by rw [hoth 0 (by kernel_rfl)]; rfl
      have t3 : q.tmps[3]? = some (.pointer (some ⟨w.heap.size, 0, none⟩)) := by rw [hoth 3 (by kernel_rfl)]; rfl
      have t6 : q.tmps[6]? = some (.slice aU m.length cU) := by rw [hoth 6 (by kernel_rfl)]; rfl
      match i, hi, ho with
      | 0, _, ho =>
        simp only [List.getElem?_cons_zero, Option.some.injEq] at ho
        subst ho
        unfold Oper.wp
        simp [execOp, go_sem, t0]
        exact came _ rfl (Below.refl _ _) rfl (fun h => absurd h (by decide))
      | 1, _, ho =>
        simp only [List.getElem?_cons_succ, List.getElem?_cons_zero, Option.some.injEq] at ho
        subst ho
        unfold Oper.wp
        simp [execOp, go_sem, t0]
        exact came _ rfl (Below.refl _ _) rfl (fun h => absurd h (by decide))
      | 2, _, ho =>
        simp only [List.getElem?_cons_succ, List.getElem?_cons_zero, Option.some.injEq] at ho
        subst ho
        obtain ⟨u1, e1⟩ := hdep ⟨1, .data⟩ (by simp) rfl _ 63 rfl rfl
        rw [show vals 1 = .pointer (some ⟨pb, 0, none⟩) from e1] at u1
        unfold Oper.wp
        simp [execOp, go_sem, u1]
        exact came _ rfl (Below.refl _ _) rfl (fun h => absurd h (by decide))
      | 3, _, ho =>
        simp only [List.getElem?_cons_succ, List.getElem?_cons_zero, Option.some.injEq] at ho
        subst ho
        obtain ⟨u2, e2⟩ := hdep ⟨2, .data⟩ (by simp) rfl _ 64 rfl rfl
        rw [show vals 2 = .pointer (some ⟨pb, 0, none⟩) from e2] at u2
        unfold Oper.wp
        simp [execOp, go_sem, u2]
        exact came _ rfl (Below.refl _ _) rfl (fun h => absurd h (by decide))
      | 4, _, ho =>
        simp only [List.getElem?_cons_succ, List.getElem?_cons_zero, Option.some.injEq] at ho
        subst ho
        obtain ⟨u3, e3⟩ := hdep ⟨3, .data⟩ (by simp) rfl _ 65 rfl rfl
        rw [show vals 3 = .pointer (some ⟨pb, 1, none⟩) from e3] at u3
        have cc : x.cell? ⟨pb, 1, none⟩ = some (.slice au l.length cu) := (hp4.later hX).cell 1
        unfold Oper.wp
        simp [execOp, go_sem, u3, cc]
        exact came _ rfl (Below.refl _ _) rfl (fun h => absurd h (by decide))
      | 5, _, ho =>
        simp only [List.getElem?_cons_succ, List.getElem?_cons_zero, Option.some.injEq] at ho
        subst ho
        unfold Oper.wp
        simp [execOp, go_sem, t3]
        exact came _ rfl (Below.refl _ _) rfl (fun h => absurd h (by decide))
      | 6, _, ho =>
        simp only [List.getElem?_cons_succ, List.getElem?_cons_zero, Option.some.injEq] at ho
        subst ho
        obtain ⟨u5, e5⟩ := hdep ⟨5, .data⟩ (by simp) rfl _ 67 rfl rfl
        rw [show vals 5 = .pointer (some ⟨w.heap.size, 1, none⟩) from e5] at u5
        have cc : x.cell? ⟨w.heap.size, 1, none⟩ = some (.int .i64 (ip : Int)) := (hob4.later hX).cell 1
        unfold Oper.wp
        simp [execOp, go_sem, u5, cc]
        exact came _ rfl (Below.refl _ _) rfl (fun h => absurd h (by decide))
      | 7, _, ho =>
        simp only [List.getElem?_cons_succ, List.getElem?_cons_zero, Option.some.injEq] at ho
        subst ho
        unfold Oper.wp
        simp [execOp, go_sem, t6]
        exact came _ rfl (Below.refl _ _) rfl (fun h => absurd h (by decide))
      | 8, _, ho =>
        simp only [List.getElem?_cons_succ, List.getElem?_cons_zero, Option.some.injEq] at ho
        subst ho
        obtain ⟨u4, e4⟩ := hdep ⟨4, .data⟩ (by simp) rfl _ 66 rfl rfl
        rw [show vals 4 = .slice au l.length cu from e4] at u4
        obtain ⟨u6, e6⟩ := hdep ⟨6, .data⟩ (by simp) rfl _ 68 rfl rfl
        rw [show vals 6 = .int .i64 (ip : Int) from e6] at u6
        obtain ⟨u7, e7⟩ := hdep ⟨7, .data⟩ (by simp) rfl _ 69 rfl rfl
        rw [show vals 7 = .slice aU m.length cU from e7] at u7
        unfold Oper.wp
        simp [go_sem, u4, u6, u7]
        refine (put_ok (hpl4.later hX) (hm4.later hX) ip hip (by omega)).mono ?_
        rintro r x1 ⟨v1, rfl, ho1, hb1⟩
        exact came _ rfl hb1 (ho1.base hX.size) (fun h => absurd h (by decide))
      | 9, _, ho =>
        simp only [List.getElem?_cons_succ, List.getElem?_cons_zero, Option.some.injEq] at ho
        subst ho
        obtain ⟨u0, e0⟩ := hdep ⟨0, .data⟩ (by simp) rfl _ 62 rfl rfl
        rw [show vals 0 = .pointer (some ⟨pb, 0, none⟩) from e0] at u0
        unfold Oper.wp
        simp [execOp, go_sem, u0]
        exact came _ rfl (Below.refl _ _) rfl (fun h => absurd h (by decide))
      | 10, _, ho =>
        simp only [List.getElem?_cons_succ, List.getElem?_cons_zero, Option.some.injEq] at ho
        subst ho
        obtain ⟨u9, e9⟩ := hdep ⟨9, .data⟩ (by simp) rfl _ 71 rfl rfl
        rw [show vals 9 = .pointer (some ⟨pb, 0, none⟩) from e9] at u9
        unfold Oper.wp
        simp [execOp, go_sem, u9]
        exact came _ rfl (Below.refl _ _) rfl (fun h => absurd h (by decide))
      | m + 11, hi, _ => exact absurd hi (by omega)
    · intro vals5 x5 hX5 hR5 _
      have ho5 : OwnE w4.heap.size (vals5 8) (l.take ip ++ (m ++ l.drop ip)) x5 := hR5 8 (by decide)
      have q10 : vals5 10 = .pointer (some ⟨pb, 1, none⟩) := hR5 10 (by decide)
      obtain ⟨a5, c5, q8⟩ := ho5.form
      obtain ⟨nl, hnl⟩ : ∃ nl, (l.take ip ++ (m ++ l.drop ip)).length = nl := ⟨_, rfl⟩
      rw [hnl] at q8
      rw [q8] at ho5
      have d1 := (hp4.later hX5).cell 1
      have df : x5.frozen? ⟨pb, 1, none⟩ = false := Lib.frozen_of_heap (hp4.later hX5) 1
      simp only [List.take, List.drop, putAll, q8, q10, List.setIfInBounds_toArray, List.set_cons_succ, List.set_cons_zero]
      clear hR5 q10 q8
      go_upto_region 14 with fail
      have k6 : Kp pb x5 (x5.setCell ⟨pb, 1, none⟩ (.slice a5 nl c5)) := Kp.cell pb 1 _
      have hp6 : RowAt pb #[pv tb, .slice a5 nl c5, .int .i64 (ch : Int)] 34 (x5.setCell ⟨pb, 1, none⟩ (.slice a5 nl c5)) := heap_setCell_at (hp4.later hX5) 1 _
      generalize x5.setCell ⟨pb, 1, none⟩ (.slice a5 nl c5) = W6 at k6 hp6 ⊢
      have hob6 := (hob4.later hX5).kp k6 (by omega)
      have hown6 := (hown4.later hX5).kp k6 (fun g n c e => by simp only [Value.slice.injEq, Option.some.injEq, Addr.mk.injEq] at e; omega)
      have hb6 : Below w0.heap.size w0 W6 := Kp.below (hb4.trans (hX5.mono hb4.size)) k6 C.lp (Nat.le_trans hb4.size hX5.size)
      have hm6 := hm0.later hb6
      have htr6 : TrL R' tb ch (l.take ip ++ (m ++ l.drop ip)) W6 := (htr4.later hX5).kp n2 (hp4.later hX5) (by decide) k6 (fun e => C.ne e.symm)
      have hpl6 : PlAt R' W6 (.slice a5 nl c5) (l.take ip ++ (m ++ l.drop ip)) := (PlAt.of_own ho5 (by rw [n4]; exact s4)).kp k6 n2
      have HIn := hid_of' (intact_ok (l := m) hm6 hown6 (by omega))
      have hrL : ∃ cs, RowAt gL cs 39 W6 := by
        rcases hown6.2 with ⟨k, _⟩ | ⟨g2, cap, cur, k1, _, k3, _⟩
        · cases k
        · simp only [Value.slice.injEq, Option.some.injEq, Addr.mk.injEq] at k1
          obtain ⟨⟨rfl, _⟩, _, _⟩ := k1
          exact ⟨cur, k3⟩
      obtain ⟨csL, hrL⟩ := hrL
      have HNo := hid_of' (no_false ⟨#[73, 110, 115, 101, 114, 116]⟩ (ip : Int))
      have HRf := hid_of' (refused_none none none 0 0 0 0)
      have sW : w.heap.size < W6.heap.size := hob6.lt
      have hbw0 := HZ.out.2.2.2.1.size
      have s6 : w2.heap.size ≤ W6.heap.size := Nat.le_trans s4 (Nat.le_trans hX5.size k6.size)
      clear HZ hown6 hm6 hm4 hown4 hob4 hp4 hpl4 htr4 d1 df k6 ho5
      go_wp2_with (first | (go_at_call 23; (with_reducible refine HIn.out.mono ?_); rintro r w7 ⟨rfl, hk7⟩; have c7 : w7.cell? ⟨w.heap.size, 1, none⟩ = some (.int .i64 (ip : Int)) := (hob6.kp hk7 (by omega)).cell 1; clear HIn) | (go_at_call 25; (with_reducible refine (HNo.out _).mono ?_); rintro r w8 ⟨rfl, hb8⟩) | (go_at_call 24; (with_reducible refine (HRf.out _).mono ?_); rintro r w9 ⟨rfl, hb9⟩))
      go_ret
      have hb89 := bgo hb8 hb9
      have hz9 : R.hi ≤ w9.heap.size := by have := hk7.size; have := hb89.size; omega
      refine ⟨rfl, _, (hp6.kp hk7 (by omega)).later hb89, ((hpl6.kp hk7 n3).later hb89).weak n6, ((htr6.kp n3 hrL (by decide) hk7 (by omega)).later hb89).weak n6 hz9, ?_, hz9⟩
      exact (Kp.below hb6 hk7 (by omega) hb6.size).trans (hb89.mono (by have := hk7.size; have := hb6.size; omega))

set_option maxHeartbeats 8000000 in
theorem chg_big {w0 : World} {R : Rows} {pb tb ch : Nat} {l : List El} {w : World} (C : PrC w0 R pb tb ch) (h : PrAt w0 R pb tb ch l w) (ip : Nat) (hip : ip ≤ l.length) (nn : Int) (m : List El) (gU oU cU : Nat) (hm0 : SlE w0 (.slice (some ⟨gU, oU, none⟩) 60 cU) m) (n0 : Nat) (hn0 : 60 < n0) (hn1 : n0 ≤ cU) (hm60 : m.length = 60) (hsum : l.length + m.length ≤ 600) :
    Calls Tryz.prog 8 #[pv pb, .agg #[.int .i64 0, .int .i64 (ip : Int), .int .i64 nn, .slice (some ⟨gU, oU, none⟩) n0 cU]] w fun r w' => r = .returned (.bool true) ∧ PrAt w0 R pb tb ch (l.take ip ++ (m ++ l.drop ip)) w' := by
  obtain ⟨ul, hp, hpl, htr, hbw, hz⟩ := h
  obtain ⟨au, cu, rfl⟩ := hpl.form
  have hBx := below_one w (.cells #[.int .i64 0, .int .i64 (ip : Int), .int .i64 nn, .slice (some ⟨gU, oU, none⟩) n0 cU] 28)
  have hob := row_new w #[.int .i64 0, .int .i64 (ip : Int), .int .i64 nn, .slice (some ⟨gU, oU, none⟩) n0 cU] 28
  have hm := hm0.later hbw
  have hp1 := hp.later hBx
  have c1 := hp1.cell 1
  have HW := hid_of' (within_small 0 8 (w.alloc (.cells #[.int .i64 0, .int .i64 (ip : Int), .int .i64 nn, .slice (some ⟨gU, oU, none⟩) n0 cU] 28)) (by decide) (by decide))
  rw [show ((0 : Nat) : Int) = 0 from rfl, show ((8 : Nat) : Int) = 8 from rfl] at HW
  have HLd := hid_of' (lend_ok (l := m) (hm.later hBx) (by omega))
  have e1 : (l.length : Int) + (m.length : Int) ≤ 600 := by omega
  have e2 : ¬ (600 : Int) < (l.length : Int) + (m.length : Int) := by omega
  have e3 : (60 : Int) < (n0 : Int) := by omega
  have e4 : (60 : Int) ≤ (cU : Int) := by omega
  rw [hm60] at e1 e2 HLd
  have HP := hid_of' hp
  unfold pv at hp hp1 c1 ⊢
  clear hm
  go_enter Tryz.func8, Tryz.ntmps8
  go_upto_region 10 with (first | (go_at_call 7; refine HW.out.mono ?_; rintro r w1 ⟨rfl, hw⟩; obtain rfl := hw.symm) | (go_at_call 20; (with_reducible refine HLd.out.mono ?_); rintro r w2 ⟨gL, cL, rfl, hown, hb2⟩; clear HLd))
  have bW : Below w.heap.size w w2 := bgo hBx hb2
  have hp2 := hp.later bW
  have hob2 := hob.later hb2
  have hne9 : m ++ marks ≠ [] := by simp [marks]
  have hgE : w.heap.size + 1 ≤ gL ∧ ElsAt gL 0 (m ++ marks) w2 := by
    obtain ⟨g', c', k1, k2, k3, _⟩ := hown.room hne9
    simp only [Value.slice.injEq, Option.some.injEq, Addr.mk.injEq] at k2
    obtain ⟨⟨rfl, _⟩, _, _⟩ := k2
    rw [World.size_alloc] at k1
    exact ⟨k1, k3⟩
  obtain ⟨hgl, hEL⟩ := hgE
  have hgl2 := hEL.lt hne9
  obtain ⟨vt, hrt⟩ := htr.row
  have htb := hrt.lt
  have hpb := hp.lt
  obtain ⟨R', hR'⟩ : ∃ R', R' = R.and gL w2.heap.size (Nat.le_trans hz bW.size) hgl2 := ⟨_, rfl⟩
  have n1 : R'.no tb := by rw [hR']; exact .inl C.nt
  have n2 : R'.no pb := by rw [hR']; exact .inl C.np
  have n3 : R'.no gL := by rw [hR']; exact .inr rfl
  have n4 : R'.hi = w2.heap.size := by rw [hR']; rfl
  have n5 : ∀ g, R'.no g → R.no g ∨ w.heap.size ≤ g := fun g hg => by rw [hR'] at hg; exact hg.elim .inl (fun e => .inr (by omega))
  have n6 : ∀ g, R.no g → R'.no g := fun g hg => by rw [hR']; exact .inl hg
  have slent : SlE w2 (.slice (some ⟨gL, 0, none⟩) 60 cL) m := .inr ⟨gL, 0, cL, by rw [hm60], by have := hEL.take m.length; rwa [List.take_left'] at this; rfl⟩
  have HZ := hid_of' (show RowAt pb #[pv tb, .slice au l.length cu, .int .i64 (ch : Int)] 34 w ∧ PlAt R w (.slice au l.length cu) l ∧ TrL R tb ch l w ∧ Below w0.heap.size w0 w ∧ R.hi ≤ w.heap.size from ⟨HP.out, hpl, htr, hbw, hz⟩)
  clear HW hR' hrt c1 hEL hb2
  refine wp_region_tail 7 (by kernel_rfl) (fun _ => none) (by kernel_rfl) (by kernel_rfl) (by decide) (fun i v x => match i with
    | 0 => v = .pointer (some ⟨pb, 0, none⟩)
    | 1 => v = .pointer (some ⟨pb, 0, none⟩)
    | 2 => v = .pointer (some ⟨pb, 0, none⟩)
    | 3 => v = .pointer (some ⟨tb, 0, none⟩)
    | 4 => v = .pointer (some ⟨w.heap.size, 1, none⟩)
    | 5 => v = .int .i64 (ip : Int)
    | 6 => v = .slice (some ⟨gL, 0, none⟩) 60 cL
    | _ => True) (fun _ => false) (fun _ _ _ _ h => by cases h) ?_ ?_ ?_
  · intro i v x x' hR hb
    match i, hR with
    | 0, h => exact h
    | 1, h => exact h
    | 2, h => exact h
    | 3, h => exact h
    | 4, h => exact h
    | 5, h => exact h
    | 6, h => exact h
    | m + 7, h => exact h
  · intro i o hi ho q x vals hX hdep hoth
    have t0 : q.tmps[0]? = some (.pointer (some ⟨pb, 0, none⟩)) := by rw [hoth 0 (by kernel_rfl)]; rfl
    have t3 : q.tmps[3]? = some (.pointer (some ⟨w.heap.size, 0, none⟩)) := by rw [hoth 3 (by kernel_rfl)]; rfl
    have t7 : q.tmps[7]? = some (.slice (some ⟨gL, 0, none⟩) 60 cL) := by rw [hoth 7 (by kernel_rfl)]; rfl
    match i, hi, ho with
    | 0, _, ho =>
      simp only [List.getElem?_cons_zero, Option.some.injEq] at ho
      subst ho
      unfold Oper.wp
      simp [execOp, go_sem, t0]
      exact came _ rfl (Below.refl _ _) rfl (fun h => absurd h (by decide))
    | 1, _, ho =>
      simp only [List.getElem?_cons_succ, List.getElem?_cons_zero, Option.some.injEq] at ho
      subst ho
      obtain ⟨u0, e0⟩ := hdep ⟨0, .data⟩ (by simp) rfl _ 43 rfl rfl
      rw [show vals 0 = .pointer (some ⟨pb, 0, none⟩) from e0] at u0
      unfold Oper.wp
      simp [execOp, go_sem, u0]
      exact came _ rfl (Below.refl _ _) rfl (fun h => absurd h (by decide))
    | 2, _, ho =>
      simp only [List.getElem?_cons_succ, List.getElem?_cons_zero, Option.some.injEq] at ho
      subst ho
      obtain ⟨u1, e1⟩ := hdep ⟨1, .data⟩ (by simp) rfl _ 44 rfl rfl
      rw [show vals 1 = .pointer (some ⟨pb, 0, none⟩) from e1] at u1
      unfold Oper.wp
      simp [execOp, go_sem, u1]
      exact came _ rfl (Below.refl _ _) rfl (fun h => absurd h (by decide))
    | 3, _, ho =>
      simp only [List.getElem?_cons_succ, List.getElem?_cons_zero, Option.some.injEq] at ho
      subst ho
      obtain ⟨u2, e2⟩ := hdep ⟨2, .data⟩ (by simp) rfl _ 45 rfl rfl
      rw [show vals 2 = .pointer (some ⟨pb, 0, none⟩) from e2] at u2
      have cc : x.cell? ⟨pb, 0, none⟩ = some (.pointer (some ⟨tb, 0, none⟩)) := (hp2.later hX).cell 0
      unfold Oper.wp
      simp [execOp, go_sem, u2, cc]
      exact came _ rfl (Below.refl _ _) rfl (fun h => absurd h (by decide))
    | 4, _, ho =>
      simp only [List.getElem?_cons_succ, List.getElem?_cons_zero, Option.some.injEq] at ho
      subst ho
      unfold Oper.wp
      simp [execOp, go_sem, t3]
      exact came _ rfl (Below.refl _ _) rfl (fun h => absurd h (by decide))
    | 5, _, ho =>
      simp only [List.getElem?_cons_succ, List.getElem?_cons_zero, Option.some.injEq] at ho
      subst ho
      obtain ⟨u4, e4⟩ := hdep ⟨4, .data⟩ (by simp) rfl _ 47 rfl rfl
      rw [show vals 4 = .pointer (some ⟨w.heap.size, 1, none⟩) from e4] at u4
      have cc : x.cell? ⟨w.heap.size, 1, none⟩ = some (.int .i64 (ip : Int)) := (hob2.later hX).cell 1
      unfold Oper.wp
      simp [execOp, go_sem, u4, cc]
      exact came _ rfl (Below.refl _ _) rfl (fun h => absurd h (by decide))
    | 6, _, ho =>
      simp only [List.getElem?_cons_succ, List.getElem?_cons_zero, Option.some.injEq] at ho
      subst ho
      unfold Oper.wp
      simp [execOp, go_sem, t7]
      exact came _ rfl (Below.refl _ _) rfl (fun h => absurd h (by decide))
    | m + 7, hi, _ => exact absurd hi (by omega)
  · intro vals x' hX hR _
    have q3 : vals 3 = .pointer (some ⟨tb, 0, none⟩) := hR 3 (by decide)
    have q5 : vals 5 = .int .i64 (ip : Int) := hR 5 (by decide)
    have q6 : vals 6 = .slice (some ⟨gL, 0, none⟩) 60 cL := hR 6 (by decide)
    have htr2 : TrL R' tb ch l x' := TrL.widen htr n5 (by rw [n4]; exact hX.size) (bgo bW hX)
    have HI := hid_of' (insert_any htr2 ip m _ (slent.later hX) hip (by omega) n1 C.c1 C.c2 (by rw [n4]; exact hX.size))
    have e5 : ¬ (ip : Int) < 0 := by omega
    have e6 : ¬ (l.length : Int) < (ip : Int) := by omega
    have e7 : ¬ l.length < ip := by omega
    have e8 : decide ((ip : Int) < 0) = false := decide_eq_false e5
    have e9 : decide (l.length < ip) = false := decide_eq_false e7
    unfold pv at HI
    simp only [List.take, List.drop, putAll, q3, q5, q6, List.setIfInBounds_toArray, List.set_cons_succ, List.set_cons_zero]
    clear hR q3 q5 q6 htr2
    go_upto_region 13 with (go_at_call 21; (with_reducible refine HI.out.mono ?_); rintro r w4 ⟨rfl, htr4, hk4⟩; have c41 : w4.cell? ⟨w.heap.size, 1, none⟩ = some (.int .i64 (ip : Int)) := ((hob2.later hX).kp hk4 (by omega)).cell 1; clear HI)
    have hp4 := (hp2.later hX).kp hk4 C.ne
    have hob4 := (hob2.later hX).kp hk4 (by omega)
    have hpl4 := (HZ.out.2.1.later (bgo bW hX)).kp hk4 C.nt
    have hown4 := (hown.later hX).kp hk4 (fun g n c e => by simp only [Value.slice.injEq, Option.some.injEq, Addr.mk.injEq] at e; omega)
    have hb4 : Below w0.heap.size w0 w4 := Kp.below (HZ.out.2.2.2.1.trans ((bgo bW hX).mono HZ.out.2.2.2.1.size)) hk4 C.lt (Nat.le_trans HZ.out.2.2.2.1.size (bgo bW hX).size)
    have hm4 := hm0.later hb4
    have s4 : w2.heap.size ≤ w4.heap.size := Nat.le_trans hX.size hk4.size
    clear e1 e2 e3 c41
    refine wp_region_tail 11 (by kernel_rfl) (fun _ => none) (by kernel_rfl) (by kernel_rfl) (by decide) (fun i v x => match i with
      | 0 => v = .pointer (some ⟨pb, 0, none⟩)
      | 1 => v = .pointer (some ⟨pb, 0, none⟩)
      | 2 => v = .pointer (some ⟨pb, 0, none⟩)
      | 3 => v = .pointer (some ⟨pb, 1, none⟩)
      | 4 => v = .slice au l.length cu
      | 5 => v = .pointer (some ⟨w.heap.size, 1, none⟩)
      | 6 => v = .int .i64 (ip : Int)
      | 7 => v = .slice (some ⟨gU, oU, none⟩) 60 cU
      | 8 => OwnE w4.heap.size v (l.take ip ++ (m ++ l.drop ip)) x
      | 9 => v = .pointer (some ⟨pb, 0, none⟩)
      | 10 => v = .pointer (some ⟨pb, 1, none⟩)
      | _ => True) (fun _ => false) (fun _ _ _ _ h => by cases h) ?_ ?_ ?_
    · intro i v x x' hR hb
      match i, hR with
      | 0, h => exact h
      | 1, h => exact h
      | 2, h => exact h
      | 3, h => exact h
      | 4, h => exact h
      | 5, h => exact h
      | 6, h => exact h
      | 7, h => exact h
      | 8, h => exact OwnE.later h hb
      | 9, h => exact h
      | 10, h => exact h
      | m + 11, h => exact h
    · intro i o hi ho q x vals hX hdep hoth
      have t0 : q.tmps[0]? = some (.pointer (some ⟨pb, 0, none⟩)) := by rw [hoth 0 (by kernel_rfl)]; rfl
      have t3 : q.tmps[3]? = some (.pointer (some ⟨w.heap.size, 0, none⟩)) := by rw [hoth 3 (by kernel_rfl)]; rfl
      have t6 : q.tmps[6]? = some (.slice (some ⟨gU, oU, none⟩) 60 cU) := by rw [hoth 6 (by kernel_rfl)]; rfl
      match i, hi, ho with
      | 0, _, ho =>
        simp only [List.getElem?_cons_zero, Option.some.injEq] at ho
        subst ho
        unfold Oper.wp
        simp [execOp, go_sem, t0]
        exact came _ rfl (Below.refl _ _) rfl (fun h => absurd h (by decide))
      | 1, _, ho =>
        simp only [List.getElem?_cons_succ, List.getElem?_cons_zero, Option.some.injEq] at ho
        subst ho
        unfold Oper.wp
        simp [execOp, go_sem, t0]
        exact came _ rfl (Below.refl _ _) rfl (fun h => absurd h (by decide))
      | 2, _, ho =>
        simp only [List.getElem?_cons_succ, List.getElem?_cons_zero, Option.some.injEq] at ho
        subst ho
        obtain ⟨u1, e1⟩ := hdep ⟨1, .data⟩ (by simp) rfl _ 63 rfl rfl
        rw [show vals 1 = .pointer (some ⟨pb, 0, none⟩) from e1] at u1
        unfold Oper.wp
        simp [execOp, go_sem, u1]
        exact came _ rfl (Below.refl _ _) rfl (fun h => absurd h (by decide))
      | 3, _, ho =>
        simp only [List.getElem?_cons_succ, List.getElem?_cons_zero, Option.some.injEq] at ho
        subst ho
        obtain ⟨u2, e2⟩ := hdep ⟨2, .data⟩ (by simp) rfl _ 64 rfl rfl
        rw [show vals 2 = .pointer (some ⟨pb, 0, none⟩) from e2] at u2
        unfold Oper.wp
        simp [execOp, go_sem, u2]
        exact came _ rfl (Below.refl _ _) rfl (fun h => absurd h (by decide))
      | 4, _, ho =>
        simp only [List.getElem?_cons_succ, List.getElem?_cons_zero, Option.some.injEq] at ho
        subst ho
        obtain ⟨u3, e3⟩ := hdep ⟨3, .data⟩ (by simp) rfl _ 65 rfl rfl
        rw [show vals 3 = .pointer (some ⟨pb, 1, none⟩) from e3] at u3
        have cc : x.cell? ⟨pb, 1, none⟩ = some (.slice au l.length cu) := (hp4.later hX).cell 1
        unfold Oper.wp
        simp [execOp, go_sem, u3, cc]
        exact came _ rfl (Below.refl _ _) rfl (fun h => absurd h (by decide))
      | 5, _, ho =>
        simp only [List.getElem?_cons_succ, List.getElem?_cons_zero, Option.some.injEq] at ho
        subst ho
        unfold Oper.wp
        simp [execOp, go_sem, t3]
        exact came _ rfl (Below.refl _ _) rfl (fun h => absurd h (by decide))
      | 6, _, ho =>
        simp only [List.getElem?_cons_succ, List.getElem?_cons_zero, Option.some.injEq] at ho
        subst ho
        obtain ⟨u5, e5⟩ := hdep ⟨5, .data⟩ (by simp) rfl _ 67 rfl rfl
        rw [show vals 5 = .pointer (some ⟨w.heap.size, 1, none⟩) from e5] at u5
        have cc : x.cell? ⟨w.heap.size, 1, none⟩ = some (.int .i64 (ip : Int)) := (hob4.later hX).cell 1
        unfold Oper.wp
        simp [execOp, go_sem, u5, cc]
        exact came _ rfl (Below.refl _ _) rfl (fun h => absurd h (by decide))
      | 7, _, ho =>
        simp only [List.getElem?_cons_succ, List.getElem?_cons_zero, Option.some.injEq] at ho
        subst ho
        unfold Oper.wp
        simp [execOp, go_sem, t6]
        exact came _ rfl (Below.refl _ _) rfl (fun h => absurd h (by decide))
      | 8, _, ho =>
        simp only [List.getElem?_cons_succ, List.getElem?_cons_zero, Option.some.injEq] at ho
        subst ho
        obtain ⟨u4, e4⟩ := hdep ⟨4, .data⟩ (by simp) rfl _ 66 rfl rfl
        rw [show vals 4 = .slice au l.length cu from e4] at u4
        obtain ⟨u6, e6⟩ := hdep ⟨6, .data⟩ (by simp) rfl _ 68 rfl rfl
        rw [show vals 6 = .int .i64 (ip : Int) from e6] at u6
        obtain ⟨u7, e7⟩ := hdep ⟨7, .data⟩ (by simp) rfl _ 69 rfl rfl
        rw [show vals 7 = .slice (some ⟨gU, oU, none⟩) 60 cU from e7] at u7
        unfold Oper.wp
        simp [go_sem, u4, u6, u7]
        refine (put_ok (hpl4.later hX) (hm4.later hX) ip hip (by omega)).mono ?_
        rintro r x1 ⟨v1, rfl, ho1, hb1⟩
        exact came _ rfl hb1 (ho1.base hX.size) (fun h => absurd h (by decide))
      | 9, _, ho =>
        simp only [List.getElem?_cons_succ, List.getElem?_cons_zero, Option.some.injEq] at ho
        subst ho
        obtain ⟨u0, e0⟩ := hdep ⟨0, .data⟩ (by simp) rfl _ 62 rfl rfl
        rw [show vals 0 = .pointer (some ⟨pb, 0, none⟩) from e0] at u0
        unfold Oper.wp
        simp [execOp, go_sem, u0]
        exact came _ rfl (Below.refl _ _) rfl (fun h => absurd h (by decide))
      | 10, _, ho =>
        simp only [List.getElem?_cons_succ, List.getElem?_cons_zero, Option.some.injEq] at ho
        subst ho
        obtain ⟨u9, e9⟩ := hdep ⟨9, .data⟩ (by simp) rfl _ 71 rfl rfl
        rw [show vals 9 = .pointer (some ⟨pb, 0, none⟩) from e9] at u9
        unfold Oper.wp
        simp [execOp, go_sem, u9]
        exact came _ rfl (Below.refl _ _) rfl (fun h => absurd h (by decide))
      | m + 11, hi, _ => exact absurd hi (by omega)
    · intro vals5 x5 hX5 hR5 _
      have ho5 : OwnE w4.heap.size (vals5 8) (l.take ip ++ (m ++ l.drop ip)) x5 := hR5 8 (by decide)
      have q10 : vals5 10 = .pointer (some ⟨pb, 1, none⟩) := hR5 10 (by decide)
      obtain ⟨a5, c5, q8⟩ := ho5.form
      obtain ⟨nl, hnl⟩ : ∃ nl, (l.take ip ++ (m ++ l.drop ip)).length = nl := ⟨_, rfl⟩
      rw [hnl] at q8
      rw [q8] at ho5
      have d1 := (hp4.later hX5).cell 1
      have df : x5.frozen? ⟨pb, 1, none⟩ = false := Lib.frozen_of_heap (hp4.later hX5) 1
      simp only [List.take, List.drop, putAll, q8, q10, List.setIfInBounds_toArray, List.set_cons_succ, List.set_cons_zero]
      clear hR5 q10 q8
      go_upto_region 14 with fail
      have k6 : Kp pb x5 (x5.setCell ⟨pb, 1, none⟩ (.slice a5 nl c5)) := Kp.cell pb 1 _
      have hp6 : RowAt pb #[pv tb, .slice a5 nl c5, .int .i64 (ch : Int)] 34 (x5.setCell ⟨pb, 1, none⟩ (.slice a5 nl c5)) := heap_setCell_at (hp4.later hX5) 1 _
      generalize x5.setCell ⟨pb, 1, none⟩ (.slice a5 nl c5) = W6 at k6 hp6 ⊢
      have hob6 := (hob4.later hX5).kp k6 (by omega)
      have hown6 := (hown4.later hX5).kp k6 (fun g n c e => by simp only [Value.slice.injEq, Option.some.injEq, Addr.mk.injEq] at e; omega)
      have hb6 : Below w0.heap.size w0 W6 := Kp.below (hb4.trans (hX5.mono hb4.size)) k6 C.lp (Nat.le_trans hb4.size hX5.size)
      have hm6 := hm0.later hb6
      have htr6 : TrL R' tb ch (l.take ip ++ (m ++ l.drop ip)) W6 := (htr4.later hX5).kp n2 (hp4.later hX5) (by decide) k6 (fun e => C.ne e.symm)
      have hpl6 : PlAt R' W6 (.slice a5 nl c5) (l.take ip ++ (m ++ l.drop ip)) := (PlAt.of_own ho5 (by rw [n4]; exact s4)).kp k6 n2
      have HIn := hid_of' (intact_ok (l := m) hm6 (by rw [hm60]; exact hown6) (by omega))
      rw [hm60] at HIn
      have hrL : ∃ cs, RowAt gL cs 39 W6 := by
        rcases hown6.2 with ⟨k, _⟩ | ⟨g2, cap, cur, k1, _, k3, _⟩
        · cases k
        · simp only [Value.slice.injEq, Option.some.injEq, Addr.mk.injEq] at k1
          obtain ⟨⟨rfl, _⟩, _, _⟩ := k1
          exact ⟨cur, k3⟩
      obtain ⟨csL, hrL⟩ := hrL
      have HNo := hid_of' (no_false ⟨#[73, 110, 115, 101, 114, 116]⟩ (ip : Int))
      have HRf := hid_of' (refused_none none none 0 0 0 0)
      have sW : w.heap.size < W6.heap.size := hob6.lt
      have hbw0 := HZ.out.2.2.2.1.size
      have s6 : w2.heap.size ≤ W6.heap.size := Nat.le_trans s4 (Nat.le_trans hX5.size k6.size)
      clear HZ hown6 hm6 hm4 hown4 hob4 hp4 hpl4 htr4 d1 df k6 ho5
      go_wp2_with (first | (go_at_call 23; (with_reducible refine HIn.out.mono ?_); rintro r w7 ⟨rfl, hk7⟩; have c7 : w7.cell? ⟨w.heap.size, 1, none⟩ = some (.int .i64 (ip : Int)) := (hob6.kp hk7 (by omega)).cell 1; clear HIn) | (go_at_call 25; (with_reducible refine (HNo.out _).mono ?_); rintro r w8 ⟨rfl, hb8⟩) | (go_at_call 24; (with_reducible refine (HRf.out _).mono ?_); rintro r w9 ⟨rfl, hb9⟩))
      go_ret
      have hb89 := bgo hb8 hb9
      have hz9 : R.hi ≤ w9.heap.size := by have := hk7.size; have := hb89.size; omega
      refine ⟨rfl, _, (hp6.kp hk7 (by omega)).later hb89, ((hpl6.kp hk7 n3).later hb89).weak n6, ((htr6.kp n3 hrL (by decide) hk7 (by omega)).later hb89).weak n6 hz9, ?_, hz9⟩
      exact (Kp.below hb6 hk7 (by omega) hb6.size).trans (hb89.mono (by have := hk7.size; have := hb6.size; omega))

set_option maxHeartbeats 4000000 in
/-- No room: nothing is done. -/
theorem chg_full {w0 : World} {R : Rows} {pb tb ch : Nat} {l : List El} {w : World} (h : PrAt w0 R pb tb ch l w) (ip nn : Int) (n0 : Nat) (aU : Option Addr) (cU : Nat) (hn0 : n0 ≤ 60) (hl6 : l.length ≤ 600) (hsum : 600 < l.length + n0) :
    Calls Tryz.prog 8 #[pv pb, .agg #[.int .i64 0, .int .i64 ip, .int .i64 nn, .slice aU n0 cU]] w fun r w' => r = .returned (.bool true) ∧ PrAt w0 R pb tb ch l w' := by
  obtain ⟨ul, hp, hpl, htr, hbw, hz⟩ := h
  obtain ⟨au, cu, rfl⟩ := hpl.form
  have hBx := below_one w (.cells #[.int .i64 0, .int .i64 ip, .int .i64 nn, .slice aU n0 cU] 28)
  have hp1 := hp.later hBx
  have c1 := hp1.cell 1
  have HW := hid_of' (within_small 0 8 (w.alloc (.cells #[.int .i64 0, .int .i64 ip, .int .i64 nn, .slice aU n0 cU] 28)) (by decide) (by decide))
  rw [show ((0 : Nat) : Int) = 0 from rfl, show ((8 : Nat) : Int) = 8 from rfl] at HW
  have e1 : (l.length : Int) + (n0 : Int) ≤ 1000 := by omega
  have e2 : (600 : Int) < (l.length : Int) + (n0 : Int) := by omega
  have e3 : ¬ (60 : Int) < (n0 : Int) := by omega
  have HP := hid_of' hp
  unfold pv at hp hp1 c1 ⊢
  go_enter Tryz.func8, Tryz.ntmps8
  go_wp2_with (go_at_call 7; refine HW.out.mono ?_; rintro r w1 ⟨rfl, hw⟩; obtain rfl := hw.symm)
  go_ret
  exact ⟨rfl, _, HP.out.later hBx, hpl.later hBx, htr.later hBx, hbw.trans (hBx.mono hbw.size), Nat.le_trans hz hBx.size⟩
set_option maxHeartbeats 4000000 in
theorem chg_full2 {w0 : World} {R : Rows} {pb tb ch : Nat} {l : List El} {w : World} (h : PrAt w0 R pb tb ch l w) (ip nn : Int) (n0 : Nat) (gU oU cU : Nat) (hn0 : 60 < n0) (hn1 : n0 ≤ cU) (hl6 : l.length ≤ 600) (hsum : 600 < l.length + 60) :
    Calls Tryz.prog 8 #[pv pb, .agg #[.int .i64 0, .int .i64 ip, .int .i64 nn, .slice (some ⟨gU, oU, none⟩) n0 cU]] w fun r w' => r = .returned (.bool true) ∧ PrAt w0 R pb tb ch l w' := by
  obtain ⟨ul, hp, hpl, htr, hbw, hz⟩ := h
  obtain ⟨au, cu, rfl⟩ := hpl.form
  have hBx := below_one w (.cells #[.int .i64 0, .int .i64 ip, .int .i64 nn, .slice (some ⟨gU, oU, none⟩) n0 cU] 28)
  have hp1 := hp.later hBx
  have c1 := hp1.cell 1
  have HW := hid_of' (within_small 0 8 (w.alloc (.cells #[.int .i64 0, .int .i64 ip, .int .i64 nn, .slice (some ⟨gU, oU, none⟩) n0 cU] 28)) (by decide) (by decide))
  rw [show ((0 : Nat) : Int) = 0 from rfl, show ((8 : Nat) : Int) = 8 from rfl] at HW
  have e1 : (l.length : Int) + 60 ≤ 1000 := by omega
  have e2 : (600 : Int) < (l.length : Int) + 60 := by omega
  have e3 : (60 : Int) < (n0 : Int) := by omega
  have e4 : (60 : Int) ≤ (cU : Int) := by omega
  have HP := hid_of' hp
  unfold pv at hp hp1 c1 ⊢
  go_enter Tryz.func8, Tryz.ntmps8
  go_wp2_with (go_at_call 7; refine HW.out.mono ?_; rintro r w1 ⟨rfl, hw⟩; obtain rfl := hw.symm)
  go_ret
  exact ⟨rfl, _, HP.out.later hBx, hpl.later hBx, htr.later hBx, hbw.trans (hBx.mono hbw.size), Nat.le_trans hz hBx.size⟩
end Go.Proofs.YtppfgmggcihmoaaGreatDoor
