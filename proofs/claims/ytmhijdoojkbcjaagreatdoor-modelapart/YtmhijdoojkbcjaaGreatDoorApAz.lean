
/-
  Add of a Model, up to the border of a Hides, and at it. barrowlaw05.ModelApart: the way of an Add. barrowlaw05.ModelApart: the way of an Insert. barrowlaw05.ModelApart.
-/
import Derived.Test.YtmhijdoojkbcjaaGreatDoorMbA
namespace Go.Proofs.YtmhijdoojkbcjaaGreatDoor
open Go.RowKit Go.Extern.Stop Go.Stop Go.Extern
set_option maxRecDepth 100000

set_option maxHeartbeats 4000000 in
theorem add_upX {mb tb kb n : Nat} {R : Rows} {l : List El} {f : Idn → Option Int} {w : World} (h : MdAt mb tb kb n R l f w) (ip : Nat) (e0 : El) (he : l[ip]? = some e0) (h1 : -1099511627776 ≤ e0.hd) (h2 : e0.hd ≤ 1099511627776) (hfr : fairH (e0.hd + 1) = true) (hn : l.length + 1 ≤ 1073741824) :
    Calls Tryz.prog 21 #[pv mb, .int .i64 (ip : Int), .int .i64 (1)] w fun r w' => r = .returned .nilIface ∧ MdAt mb tb kb n R (addE l ip (1)) f w' ∧ Kp tb w w' := by
  obtain ⟨ne1, ne2, ne3⟩ := h.ne
  have HA := hid_of' (at_L h.tree ip e0 (by omega) he)
  have HV := hid_of' (fun x => rightHides_any (e0.hd + 1) x)
  rw [hfr] at HV
  have HE := hid_of' (add_is (d := 1) he)
  have hip := (List.getElem?_eq_some_iff.1 he).1
  have c0 : w.cell? ⟨mb, 0, none⟩ = some (.pointer (some ⟨tb, 0, none⟩)) := h.row.cell 0
  clear he hfr
  unfold pv at HA ⊢
  go_enter Tryz.func21, Tryz.ntmps21
  go_upto_region 2 with (first | (go_at_call 35; refine HA.out.mono ?_; rintro r w1 ⟨rfl, hb1⟩) | (refine wpL_storeE rfl _ _ rfl rfl rfl (row_new w1 _ _) ?_))
  have hr5 := (row_new w1 #[.int .i64 0, .int .i64 0, .int .i64 0, .int .i32 0, .int .i64 0] 41).put (ev e0)
  have hB : Below w.heap.size w ((w1.alloc (.cells #[.int .i64 0, .int .i64 0, .int .i64 0, .int .i32 0, .int .i64 0] 41)).setRow w1.heap.size (ev e0)) := bgo hb1 (below_row (below_one w1 _) (Nat.le_refl _) _)
  have hg1 := hb1.size
  generalize (w1.alloc (.cells #[.int .i64 0, .int .i64 0, .int .i64 0, .int .i32 0, .int .i64 0] 41)).setRow w1.heap.size (ev e0) = W5 at hr5 hB ⊢
  generalize w1.heap.size = g at hr5 hg1 ⊢
  clear hb1 HA c0 w1
  have c4 : W5.cell? ⟨g, 4, none⟩ = some (.int .i64 e0.hd) := hr5.cell 4
  have f4 : W5.frozen? ⟨g, 4, none⟩ = false := Lib.frozen_of_heap hr5 4
  go_upto_region 7 with (go_at_call 43; refine (HV.out _).mono ?_; rintro r w2 ⟨rfl, hw⟩; obtain rfl := hw.symm)
  have hr6 : RowAt g (ev (e0.add (1))) 41 (W5.setCell ⟨g, 4, none⟩ (.int .i64 (e0.hd + 1))) := heap_setCell_at hr5 4 _
  have hB6 : Below w.heap.size w (W5.setCell ⟨g, 4, none⟩ (.int .i64 (e0.hd + 1))) := hB.setCell (p := ⟨g, 4, none⟩) hg1 _
  have h6 := h.later hB6
  generalize W5.setCell ⟨g, 4, none⟩ (.int .i64 (e0.hd + 1)) = W6 at hr6 hB6 h6 ⊢
  clear hr5 hB c4 f4 h
  refine wp_region_tail 6 (by kernel_rfl) (fun _ => none) (by kernel_rfl) (by kernel_rfl) (by decide) (fun i v x => match i with
    | 0 => v = .pointer (some ⟨mb, 0, none⟩)
    | 1 => v = .pointer (some ⟨mb, 0, none⟩)
    | 2 => v = .pointer (some ⟨mb, 0, none⟩)
    | 3 => v = .pointer (some ⟨tb, 0, none⟩)
    | 4 => v = .int .i64 (ip : Int)
    | 5 => v = .agg (ev (e0.add (1)))
    | _ => True) (fun _ => false) (fun _ _ _ _ h => by cases h) ?_ ?_ ?_
  · intro i v x x' hR hb
    match i, hR with
    | 0, h => exact h
    | 1, h => exact h
    | 2, h => exact h
    | 3, h => exact h
    | 4, h => exact h
    | 5, h => exact h
    | m + 6, h => exact h
  · intro i o hi ho q x vals hX hdep hoth
    have t0 : q.tmps[0]? = some (.pointer (some ⟨mb, 0, none⟩)) := by rw [hoth 0 (by kernel_rfl)]; rfl
    have t1 : q.tmps[1]? = some (.int .i64 (ip : Int)) := by rw [hoth 1 (by kernel_rfl)]; rfl
    have t7 : q.tmps[7]? = some (.pointer (some ⟨g, 0, none⟩)) := by rw [hoth 7 (by kernel_rfl)]; rfl
    match i, hi, ho with
    | 0, _, ho =>
      simp only [List.getElem?_cons_zero, Option.some.injEq] at ho
      subst ho
      unfold Oper.wp
      simp [execOp, go_sem, t0]
      exact came _ rfl (Below.refl _ _) rfl (fun h => absurd h (by decide))
    | 1, _, ho =>
      simp only [List.getElem?_cons_succ, List.getElem?_cons_zero, Option.some.injEq] at ho
      subst ho
      obtain ⟨u0, e0⟩ := hdep ⟨0, .data⟩ (by simp) rfl _ 45 rfl rfl
      rw [show vals 0 = .pointer (some ⟨mb, 0, none⟩) from e0] at u0
      unfold Oper.wp
      simp [execOp, go_sem, u0]
      exact came _ rfl (Below.refl _ _) rfl (fun h => absurd h (by decide))
    | 2, _, ho =>
      simp only [List.getElem?_cons_succ, List.getElem?_cons_zero, Option.some.injEq] at ho
      subst ho
      obtain ⟨u1, e1⟩ := hdep ⟨1, .data⟩ (by simp) rfl _ 46 rfl rfl
      rw [show vals 1 = .pointer (some ⟨mb, 0, none⟩) from e1] at u1
      unfold Oper.wp
      simp [execOp, go_sem, u1]
      exact came _ rfl (Below.refl _ _) rfl (fun h => absurd h (by decide))
    | 3, _, ho =>
      simp only [List.getElem?_cons_succ, List.getElem?_cons_zero, Option.some.injEq] at ho
      subst ho
      obtain ⟨u2, e2⟩ := hdep ⟨2, .data⟩ (by simp) rfl _ 47 rfl rfl
      rw [show vals 2 = .pointer (some ⟨mb, 0, none⟩) from e2] at u2
      have cc : x.cell? ⟨mb, 0, none⟩ = some (.pointer (some ⟨tb, 0, none⟩)) := (h6.row.later hX).cell 0
      unfold Oper.wp
      simp [execOp, go_sem, u2, cc]
      exact came _ rfl (Below.refl _ _) rfl (fun h => absurd h (by decide))
    | 4, _, ho =>
      simp only [List.getElem?_cons_succ, List.getElem?_cons_zero, Option.some.injEq] at ho
      subst ho
      unfold Oper.wp
      simp [execOp, go_sem, t1]
      exact came _ rfl (Below.refl _ _) rfl (fun h => absurd h (by decide))
    | 5, _, ho =>
      simp only [List.getElem?_cons_succ, List.getElem?_cons_zero, Option.some.injEq] at ho
      subst ho
      exact opw_loadE _ rfl (by simp [Act.eval, t7]) (hr6.in.later hX) (came _ rfl (Below.refl _ _) rfl (fun h => absurd h (by decide)))
    | m + 6, hi, _ => exact absurd hi (by omega)
  · intro vals x9 hX9 hR9 _
    have q3 : vals 3 = .pointer (some ⟨tb, 0, none⟩) := hR9 3 (by decide)
    have q4 : vals 4 = .int .i64 (ip : Int) := hR9 4 (by decide)
    have q5 : vals 5 = .agg (ev (e0.add (1))) := hR9 5 (by decide)
    have h9 := h6.later hX9
    have HN := hid_of' (set_ok h9.tree ip (e0.add (1)) hip hn h9.no (by decide))
    simp only [List.take, List.drop, putAll, q3, q4, q5]
    clear q3 q4 q5 hR9
    simp only [List.setIfInBounds_toArray, List.set_cons_succ, List.set_cons_zero]
    unfold pv at HN
    go_wp2_with (go_at_call 44; refine HN.out.mono ?_; rintro r w10 ⟨rfl, hT10, hk10⟩)
    go_ret
    rw [← HE.out] at hT10
    exact ⟨rfl, ⟨h9.row.kp hk10 ne1, hT10, h9.map.kp hk10 (fun q => ne3 q.symm), h9.no, h9.nom, Nat.le_trans h9.hi hk10.size⟩, (Kp.of (bgo hB6 hX9)).trans hk10⟩
set_option maxHeartbeats 4000000 in
theorem add_downX {mb tb kb n : Nat} {R : Rows} {l : List El} {f : Idn → Option Int} {w : World} (h : MdAt mb tb kb n R l f w) (ip : Nat) (e0 : El) (he : l[ip]? = some e0) (h1 : -1099511627776 ≤ e0.hd) (h2 : e0.hd ≤ 1099511627776) (hfr : fairH (e0.hd + -1) = true) (hn : l.length + 1 ≤ 1073741824) :
    Calls Tryz.prog 21 #[pv mb, .int .i64 (ip : Int), .int .i64 (-1)] w fun r w' => r = .returned .nilIface ∧ MdAt mb tb kb n R (addE l ip (-1)) f w' ∧ Kp tb w w' := by
  obtain ⟨ne1, ne2, ne3⟩ := h.ne
  have HA := hid_of' (at_L h.tree ip e0 (by omega) he)
  have HV := hid_of' (fun x => rightHides_any (e0.hd + -1) x)
  rw [hfr] at HV
  have HE := hid_of' (add_is (d := -1) he)
  have hip := (List.getElem?_eq_some_iff.1 he).1
  have c0 : w.cell? ⟨mb, 0, none⟩ = some (.pointer (some ⟨tb, 0, none⟩)) := h.row.cell 0
  clear he hfr
  unfold pv at HA ⊢
  go_enter Tryz.func21, Tryz.ntmps21
  go_upto_region 2 with (first | (go_at_call 35; refine HA.out.mono ?_; rintro r w1 ⟨rfl, hb1⟩) | (refine wpL_storeE rfl _ _ rfl rfl rfl (row_new w1 _ _) ?_))
  have hr5 := (row_new w1 #[.int .i64 0, .int .i64 0, .int .i64 0, .int .i32 0, .int .i64 0] 41).put (ev e0)
  have hB : Below w.heap.size w ((w1.alloc (.cells #[.int .i64 0, .int .i64 0, .int .i64 0, .int .i32 0, .int .i64 0] 41)).setRow w1.heap.size (ev e0)) := bgo hb1 (below_row (below_one w1 _) (Nat.le_refl _) _)
  have hg1 := hb1.size
  generalize (w1.alloc (.cells #[.int .i64 0, .int .i64 0, .int .i64 0, .int .i32 0, .int .i64 0] 41)).setRow w1.heap.size (ev e0) = W5 at hr5 hB ⊢
  generalize w1.heap.size = g at hr5 hg1 ⊢
  clear hb1 HA c0 w1
  have c4 : W5.cell? ⟨g, 4, none⟩ = some (.int .i64 e0.hd) := hr5.cell 4
  have f4 : W5.frozen? ⟨g, 4, none⟩ = false := Lib.frozen_of_heap hr5 4
  go_upto_region 7 with (go_at_call 43; refine (HV.out _).mono ?_; rintro r w2 ⟨rfl, hw⟩; obtain rfl := hw.symm)
  have hr6 : RowAt g (ev (e0.add (-1))) 41 (W5.setCell ⟨g, 4, none⟩ (.int .i64 (e0.hd + -1))) := heap_setCell_at hr5 4 _
  have hB6 : Below w.heap.size w (W5.setCell ⟨g, 4, none⟩ (.int .i64 (e0.hd + -1))) := hB.setCell (p := ⟨g, 4, none⟩) hg1 _
  have h6 := h.later hB6
  generalize W5.setCell ⟨g, 4, none⟩ (.int .i64 (e0.hd + -1)) = W6 at hr6 hB6 h6 ⊢
  clear hr5 hB c4 f4 h
  refine wp_region_tail 6 (by kernel_rfl) (fun _ => none) (by kernel_rfl) (by kernel_rfl) (by decide) (fun i v x => match i with
    | 0 => v = .pointer (some ⟨mb, 0, none⟩)
    | 1 => v = .pointer (some ⟨mb, 0, none⟩)
    | 2 => v = .pointer (some ⟨mb, 0, none⟩)
    | 3 => v = .pointer (some ⟨tb, 0, none⟩)
    | 4 => v = .int .i64 (ip : Int)
    | 5 => v = .agg (ev (e0.add (-1)))
    | _ => True) (fun _ => false) (fun _ _ _ _ h => by cases h) ?_ ?_ ?_
  · intro i v x x' hR hb
    match i, hR with
    | 0, h => exact h
    | 1, h => exact h
    | 2, h => exact h
    | 3, h => exact h
    | 4, h => exact h
    | 5, h => exact h
    | m + 6, h => exact h
  · intro i o hi ho q x vals hX hdep hoth
    have t0 : q.tmps[0]? = some (.pointer (some ⟨mb, 0, none⟩)) := by rw [hoth 0 (by kernel_rfl)]; rfl
    have t1 : q.tmps[1]? = some (.int .i64 (ip : Int)) := by rw [hoth 1 (by kernel_rfl)]; rfl
    have t7 : q.tmps[7]? = some (.pointer (some ⟨g, 0, none⟩)) := by rw [hoth 7 (by kernel_rfl)]; rfl
    match i, hi, ho with
    | 0, _, ho =>
      simp only [List.getElem?_cons_zero, Option.some.injEq] at ho
      subst ho
      unfold Oper.wp
      simp [execOp, go_sem, t0]
      exact came _ rfl (Below.refl _ _) rfl (fun h => absurd h (by decide))
    | 1, _, ho =>
      simp only [List.getElem?_cons_succ, List.getElem?_cons_zero, Option.some.injEq] at ho
      subst ho
      obtain ⟨u0, e0⟩ := hdep ⟨0, .data⟩ (by simp) rfl _ 45 rfl rfl
      rw [show vals 0 = .pointer (some ⟨mb, 0, none⟩) from e0] at u0
      unfold Oper.wp
      simp [execOp, go_sem, u0]
      exact came _ rfl (Below.refl _ _) rfl (fun h => absurd h (by decide))
    | 2, _, ho =>
      simp only [List.getElem?_cons_succ, List.getElem?_cons_zero, Option.some.injEq] at ho
      subst ho
      obtain ⟨u1, e1⟩ := hdep ⟨1, .data⟩ (by simp) rfl _ 46 rfl rfl
      rw [show vals 1 = .pointer (some ⟨mb, 0, none⟩) from e1] at u1
      unfold Oper.wp
      simp [execOp, go_sem, u1]
      exact came _ rfl (Below.refl _ _) rfl (fun h => absurd h (by decide))
    | 3, _, ho =>
      simp only [List.getElem?_cons_succ, List.getElem?_cons_zero, Option.some.injEq] at ho
      subst ho
      obtain ⟨u2, e2⟩ := hdep ⟨2, .data⟩ (by simp) rfl _ 47 rfl rfl
      rw [show vals 2 = .pointer (some ⟨mb, 0, none⟩) from e2] at u2
      have cc : x.cell? ⟨mb, 0, none⟩ = some (.pointer (some ⟨tb, 0, none⟩)) := (h6.row.later hX).cell 0
      unfold Oper.wp
      simp [execOp, go_sem, u2, cc]
      exact came _ rfl (Below.refl _ _) rfl (fun h => absurd h (by decide))
    | 4, _, ho =>
      simp only [List.getElem?_cons_succ, List.getElem?_cons_zero, Option.some.injEq] at ho
      subst ho
      unfold Oper.wp
      simp [execOp, go_sem, t1]
      exact came _ rfl (Below.refl _ _) rfl (fun h => absurd h (by decide))
    | 5, _, ho =>
      simp only [List.getElem?_cons_succ, List.getElem?_cons_zero, Option.some.injEq] at ho
      subst ho
      exact opw_loadE _ rfl (by simp [Act.eval, t7]) (hr6.in.later hX) (came _ rfl (Below.refl _ _) rfl (fun h => absurd h (by decide)))
    | m + 6, hi, _ => exact absurd hi (by omega)
  · intro vals x9 hX9 hR9 _
    have q3 : vals 3 = .pointer (some ⟨tb, 0, none⟩) := hR9 3 (by decide)
    have q4 : vals 4 = .int .i64 (ip : Int) := hR9 4 (by decide)
    have q5 : vals 5 = .agg (ev (e0.add (-1))) := hR9 5 (by decide)
    have h9 := h6.later hX9
    have HN := hid_of' (set_ok h9.tree ip (e0.add (-1)) hip hn h9.no (by decide))
    simp only [List.take, List.drop, putAll, q3, q4, q5]
    clear q3 q4 q5 hR9
    simp only [List.setIfInBounds_toArray, List.set_cons_succ, List.set_cons_zero]
    unfold pv at HN
    go_wp2_with (go_at_call 44; refine HN.out.mono ?_; rintro r w10 ⟨rfl, hT10, hk10⟩)
    go_ret
    rw [← HE.out] at hT10
    exact ⟨rfl, ⟨h9.row.kp hk10 ne1, hT10, h9.map.kp hk10 (fun q => ne3 q.symm), h9.no, h9.nom, Nat.le_trans h9.hi hk10.size⟩, (Kp.of (bgo hB6 hX9)).trans hk10⟩

set_option maxHeartbeats 1000000 in
theorem add_noU {ad : Nat → Addr} {mb : Nat} {l : List El} {w : World} (h : MvAt mb l w) (L : Laid ad w) (ip : Nat) (e0 : El) (he : l[ip]? = some e0) (h1 : -1099511627776 ≤ e0.hd) (h2 : e0.hd ≤ 1099511627776) (hfr : fairH (e0.hd + 1) = false) (hn : l.length ≤ 1000000) :
    Calls Tryz.prog 21 #[pv mb, .int .i64 (ip : Int), .int .i64 (1)] w fun r w' => ∃ g, r = .returned (.iface 127 (.pointer (some ⟨g, 0, none⟩))) ∧ Below w.heap.size w w' := by
  obtain ⟨tb, v, R, h3, h4⟩ := h
  have HA := hid_of' (at_L h4 ip e0 (by omega) he)
  have HV := hid_of' (fun x => rightHides_any (e0.hd + 1) x)
  rw [hfr] at HV
  have c0 : w.cell? ⟨mb, 0, none⟩ = some (.pointer (some ⟨tb, 0, none⟩)) := h3.cell 0
  have HL := hid_of' L
  clear he hfr h3 h4 L
  unfold pv at HA ⊢
  go_enter Tryz.func21, Tryz.ntmps21
  go_upto_region 2 with (first | (go_at_call 35; refine HA.out.mono ?_; rintro r w1 ⟨rfl, hb1⟩) | (refine wpL_storeE rfl _ _ rfl rfl rfl (row_new w1 _ _) ?_))
  have hr5 := (row_new w1 #[.int .i64 0, .int .i64 0, .int .i64 0, .int .i32 0, .int .i64 0] 41).put (ev e0)
  have hB : Below w.heap.size w ((w1.alloc (.cells #[.int .i64 0, .int .i64 0, .int .i64 0, .int .i32 0, .int .i64 0] 41)).setRow w1.heap.size (ev e0)) := bgo hb1 (below_row (below_one w1 _) (Nat.le_refl _) _)
  generalize (w1.alloc (.cells #[.int .i64 0, .int .i64 0, .int .i64 0, .int .i32 0, .int .i64 0] 41)).setRow w1.heap.size (ev e0) = W5 at hr5 hB ⊢
  generalize w1.heap.size = g at hr5 ⊢
  have c4 : W5.cell? ⟨g, 4, none⟩ = some (.int .i64 e0.hd) := hr5.cell 4
  have l0 : W5.cell? ⟨1, 0, none⟩ = some (.iface 211 (.pointer (some (ad 0)))) := (HL.out.below hB).var 0 (by decide)
  have HR := hid_of' (fun x => refusalM (ad := ad) ⟨#[65, 100, 100]⟩ (ip : Int) 0 x)
  go_wp2_with (first | (go_at_call 43; refine (HV.out _).mono ?_; rintro r w2 ⟨rfl, hw⟩; obtain rfl := hw.symm) | (go_at_call 33; refine (HR.out _).mono ?_; rintro r w3 ⟨rfl, _, hb3⟩))
  go_ret
  exact ⟨_, rfl, bgo hB hb3⟩

set_option maxHeartbeats 1000000 in
theorem add_noD {ad : Nat → Addr} {mb : Nat} {l : List El} {w : World} (h : MvAt mb l w) (L : Laid ad w) (ip : Nat) (e0 : El) (he : l[ip]? = some e0) (h1 : -1099511627776 ≤ e0.hd) (h2 : e0.hd ≤ 1099511627776) (hfr : fairH (e0.hd + -1) = false) (hn : l.length ≤ 1000000) :
    Calls Tryz.prog 21 #[pv mb, .int .i64 (ip : Int), .int .i64 (-1)] w fun r w' => ∃ g, r = .returned (.iface 127 (.pointer (some ⟨g, 0, none⟩))) ∧ Below w.heap.size w w' := by
  obtain ⟨tb, v, R, h3, h4⟩ := h
  have HA := hid_of' (at_L h4 ip e0 (by omega) he)
  have HV := hid_of' (fun x => rightHides_any (e0.hd + -1) x)
  rw [hfr] at HV
  have c0 : w.cell? ⟨mb, 0, none⟩ = some (.pointer (some ⟨tb, 0, none⟩)) := h3.cell 0
  have HL := hid_of' L
  clear he hfr h3 h4 L
  unfold pv at HA ⊢
  go_enter Tryz.func21, Tryz.ntmps21
  go_upto_region 2 with (first | (go_at_call 35; refine HA.out.mono ?_; rintro r w1 ⟨rfl, hb1⟩) | (refine wpL_storeE rfl _ _ rfl rfl rfl (row_new w1 _ _) ?_))
  have hr5 := (row_new w1 #[.int .i64 0, .int .i64 0, .int .i64 0, .int .i32 0, .int .i64 0] 41).put (ev e0)
  have hB : Below w.heap.size w ((w1.alloc (.cells #[.int .i64 0, .int .i64 0, .int .i64 0, .int .i32 0, .int .i64 0] 41)).setRow w1.heap.size (ev e0)) := bgo hb1 (below_row (below_one w1 _) (Nat.le_refl _) _)
  generalize (w1.alloc (.cells #[.int .i64 0, .int .i64 0, .int .i64 0, .int .i32 0, .int .i64 0] 41)).setRow w1.heap.size (ev e0) = W5 at hr5 hB ⊢
  generalize w1.heap.size = g at hr5 ⊢
  have c4 : W5.cell? ⟨g, 4, none⟩ = some (.int .i64 e0.hd) := hr5.cell 4
  have l0 : W5.cell? ⟨1, 0, none⟩ = some (.iface 211 (.pointer (some (ad 0)))) := (HL.out.below hB).var 0 (by decide)
  have HR := hid_of' (fun x => refusalM (ad := ad) ⟨#[65, 100, 100]⟩ (ip : Int) 0 x)
  go_wp2_with (first | (go_at_call 43; refine (HV.out _).mono ?_; rintro r w2 ⟨rfl, hw⟩; obtain rfl := hw.symm) | (go_at_call 33; refine (HR.out _).mono ?_; rintro r w3 ⟨rfl, _, hb3⟩))
  go_ret
  exact ⟨_, rfl, bgo hB hb3⟩
end Go.Proofs.YtmhijdoojkbcjaaGreatDoor
namespace Go.Proofs.YtmhijdoojkbcjaaGreatDoor
open Go.RowKit Go.Extern.Stop Go.Stop Go.Extern
set_option maxRecDepth 100000

def wiN (n : Int) (m : Nat) : Nat := if n.tmod (m : Int) < 0 then (n.tmod (m : Int) + m).toNat else (n.tmod (m : Int)).toNat
theorem wiN_lt {n : Int} {m : Nat} (hm : 0 < m) : wiN n m < m := by
  have t1 : n.tmod (m : Int) < (m : Int) := Int.tmod_lt_of_pos n (by omega)
  unfold wiN
  split <;> omega
theorem within_is (n : Int) (m : Nat) (w : World) (hm : 0 < m) (hm2 : m ≤ 1073741824) (_h : In64 n) :
    Calls Tryz.prog 14 #[.int .i64 n, .int .i64 (m : Int)] w fun r w' => r = .returned (.int .i64 (wiN n m : Int)) ∧ w' = w := by
  obtain ⟨_h1, _h2⟩ := _h
  have m0 : ((m : Int) == 0) = false := by rw [beq_eq_false_iff_ne]; omega
  have t1 : n.tmod (m : Int) < (m : Int) := Int.tmod_lt_of_pos n (by omega)
  have t2 : -(m : Int) < n.tmod (m : Int) := by
    have := Int.tmod_lt_of_pos (-n) (show (0 : Int) < (m : Int) by omega)
    rw [Int.neg_tmod] at this
    omega
  unfold wiN
  obtain ⟨t, et⟩ : ∃ t, n.tmod (m : Int) = t := ⟨_, rfl⟩
  rw [et] at t1 t2 ⊢
  by_cases ht : t < 0
  · rw [if_pos ht, Int.toNat_of_nonneg (by omega)]
    go_enter Tryz.func14, Tryz.ntmps14
    go_wp2
    go_ret
    exact ⟨rfl, rfl⟩
  · rw [if_neg ht, Int.toNat_of_nonneg (by omega)]
    go_enter Tryz.func14, Tryz.ntmps14
    go_wp2
    go_ret
    exact ⟨rfl, rfl⟩
theorem add_back {l : List El} {i : Nat} {e : El} {d : Int} (h : l[i]? = some e) : (addE l i d).set i e = l := by
  rw [add_is h]
  apply List.ext_getElem?
  intro j
  rw [List.set_set, List.getElem?_set]
  split
  · rename_i q
    subst q
    rw [if_pos (List.getElem?_eq_some_iff.1 h).1, h]
  · rfl
def opv (d i n : Int) (e : El) : Array Value := #[.int .i64 d, .int .i64 i, .int .i64 n, .int .i64 e.ep, .int .i64 e.rp, .int .i64 e.no, .int .i32 e.ch, .int .i64 e.hd]
theorem ElsAt.there {g : Nat} {l : List El} {w : World} (h : ElsAt g 0 l w) (hrow : ∃ cs, RowAt g cs 41 w) {i : Nat} (hi : i < l.length) : w.there g (i * 5) 5 := fun j hj => by
  obtain ⟨cs, hcs⟩ := hrow
  obtain ⟨e0, he0⟩ : ∃ e, l[i]? = some e := ⟨_, List.getElem?_eq_getElem hi⟩
  have h1 := (h i e0 he0).2 j ((ev e0)[j]'(by simp [ev]; omega)) (Array.getElem?_eq_getElem _)
  rw [Nat.zero_add] at h1
  exact ⟨by rw [h1]; rfl, Lib.frozen_of_heap hcs _⟩
theorem OwnE.rowEx {base g n c : Nat} {l : List El} {w : World} (h : OwnE base (.slice (some ⟨g, 0, none⟩) n c) l w) : ∃ cs, RowAt g cs 41 w := by
  rcases h.2 with ⟨h1, _⟩ | ⟨g2, cap, cur, k1, _, k3, _⟩
  · cases h1
  · simp only [Value.slice.injEq, Option.some.injEq, Addr.mk.injEq] at k1
    obtain ⟨⟨rfl, _⟩, _, _⟩ := k1
    exact ⟨cur, k3⟩
theorem ElsAt.put {g : Nat} {l : List El} {w : World} (h : ElsAt g 0 l w) (hrow : ∃ cs, RowAt g cs 41 w) {i : Nat} (hi : i < l.length) (x : El) : ElsAt g 0 (l.set i x) (w.setCells g (i * 5) (ev x).toList) := by
  obtain ⟨cs, hcs⟩ := hrow
  have hg : g < (w.setCells g (i * 5) (ev x).toList).heap.size := by
    obtain ⟨cs', h1, _⟩ := RowN.cells (ev x).toList (i * 5) w ⟨cs, hcs, rfl⟩
    exact h1.lt
  have hth : w.there g (i * 5) 5 := h.there ⟨cs, hcs⟩ hi
  intro k y hy
  refine ⟨hg, fun j v hv => ?_⟩
  have hj : j < 5 := by
    have := (Array.getElem?_eq_some_iff.1 hv).1
    simpa [ev] using this
  rw [Nat.zero_add]
  by_cases q : i = k
  · subst q
    rw [List.getElem?_set_self hi, Option.some.injEq] at hy
    subst hy
    exact World.rangeAt_setCells_same w g (i * 5) (ev x).toList (by simpa [ev] using hth) j v (by simpa using hv)
  · rw [List.getElem?_set_ne q] at hy
    have h0 : w.cell? ⟨g, k * 5 + j, none⟩ = some v := by have := (h k y hy).2 j v hv; rwa [Nat.zero_add] at this
    rw [World.cell?_setCells_out g (ev x).toList (i * 5) w ⟨g, k * 5 + j, none⟩ (fun _ _ => by
      show k * 5 + j < i * 5 ∨ i * 5 + (ev x).toList.length ≤ k * 5 + j
      simp [ev]
      omega)]
    exact h0

set_option maxHeartbeats 8000000 in
theorem apart_up {ad : Nat → Addr} {w : World} {u : Value} {l : List El} (L : Laid ad w) (hu : SlE w u l) (hc : ∀ a n c, u = .slice a n c → n ≤ c) (hlm : l.length ≤ 9223372036854775807) (hi : ∀ e ∈ l, e.id.In) (hf : FineTo (l.take 100) (l.take 100).length) (d i n : Int) (e : El) (hd : In64 d) (hii : In64 i) (hD : wiN d 2 = 1) (hN : ¬ n < 0) :
    Calls Tryz.prog 4 #[u, .agg (opv d i n e)] w fun r w' => r = .returned (.bool true) ∧ Below w.heap.size w w' := by
  have HB := hid_of' (fun x (hx : Below w.heap.size w x) => begun_good (hu.later hx) hc hlm hi hf)
  obtain ⟨a', c', rfl⟩ := hu.form
  have hm : (l.take 100).length ≤ 100 := by rw [List.length_take]; omega
  have hgd : ∀ e ∈ l.take 100, e.Good := fun e he => by
    obtain ⟨i, hi2⟩ := List.getElem?_of_mem he
    exact hf.good (fun i e he => hi e (List.mem_of_mem_take (List.mem_of_getElem? he))) i e (List.getElem?_eq_some_iff.1 hi2).1 hi2
  clear hu hc hlm hi hf
  generalize l.take 100 = m at HB hm hgd
  have ro := row_new w (opv d i n e) 43
  have hbo := below_one w (.cells (opv d i n e) 43)
  have HW := hid_of' wakes5_ok
  unfold pv at HB
  go_enter Tryz.func4, Tryz.ntmps4
  go_upto_region 1 with fail
  change Code.wp _ _ _ _ (w.alloc (.cells (opv d i n e) 43))
  have hoz : (w.alloc (.cells (opv d i n e) 43)).heap.size = w.heap.size + 1 := by simp
  generalize w.alloc (.cells (opv d i n e) 43) = w0 at ro hbo hoz ⊢
  go_upto_region 4 with (go_at_call 6; refine (HB.out _ hbo).mono ?_; rintro r w1 ⟨B, pb, mb, tb, kb, nn, v, R, hB1, rfl, hP, hb1⟩; clear HB)
  obtain ⟨n1, n2, n3, n4⟩ := hP.ne
  have hbw := bgo hbo hb1
  have hro := ro.later hb1
  have c1 : w1.cell? ⟨pb, 0, none⟩ = some (.pointer (some ⟨mb, 0, none⟩)) := hP.row.cell 0
  have HE := hid_of' (elements_ok hP.md.mv (by omega))
  unfold pv at HE
  go_upto_region 5 with (go_at_call 13; refine HE.out.mono ?_; rintro r w2 ⟨v7, rfl, hO7, hb2⟩; clear HE)
  obtain ⟨a7, c7, rfl⟩ := hO7.form
  have hro2 := hro.later hb2
  have hMd2 := mdLater hP.md hb2
  have hPr2 := hP.row.later hb2
  have hbw2 := bgo hbw hb2
  have hs12 := hb2.size
  have d0 : w2.cell? ⟨w.heap.size, 0, none⟩ = some (.int .i64 d) := hro2.cell 0
  have d1 : w2.cell? ⟨w.heap.size, 1, none⟩ = some (.int .i64 i) := hro2.cell 1
  have d2 : w2.cell? ⟨w.heap.size, 2, none⟩ = some (.int .i64 n) := hro2.cell 2
  have HWi := hid_of' (within_is d 2 w2 (by decide) (by decide) hd)
  have hlb : pb < w2.heap.size := hPr2.lt
  rw [hD] at HWi
  have HE2 : Hid (∀ (x : World) (l' : List El), MvAt mb l' x → l'.length ≤ 100 → Calls Tryz.prog 13 #[.pointer (some ⟨mb, 0, none⟩)] x fun r w' => ∃ v, r = .returned v ∧ OwnE x.heap.size v l' w' ∧ Below x.heap.size x w') := fun x l' h h2 => elements_ok h (by omega)
  by_cases hpos : 0 < m.length
  · have hne0 : ((m.length : Int) == 0) = false := by rw [beq_eq_false_iff_ne]; omega
    have hne1 : ¬ (m.length : Int) = 0 := by omega
    obtain ⟨ip, hip⟩ : ∃ ip, wiN i m.length = ip := ⟨_, rfl⟩
    have hlt : ip < m.length := by rw [← hip]; exact wiN_lt hpos
    have HWj := hid_of' (within_is i m.length w2 hpos (by omega) hii)
    rw [hip] at HWj
    obtain ⟨e0, he⟩ : ∃ e0, m[ip]? = some e0 := ⟨_, List.getElem?_eq_getElem hlt⟩
    have hg0 := hgd e0 (List.mem_of_getElem? he)
    have hfh : -1099511627776 ≤ e0.hd ∧ e0.hd ≤ 1099511627776 := by have := hg0.2.2; unfold fairH at this; simp at this; exact this
    obtain ⟨g7, c7', _, hv7, hE7⟩ := hO7.block (by intro h; rw [h] at hpos; simp at hpos)
    simp only [Value.slice.injEq] at hv7
    obtain ⟨rfl, _, rfl⟩ := hv7
    have hce := hE7 ip e0 he
    rw [Nat.zero_add] at hce
    have c7e : w2.cell? ⟨g7, ip * 5 + 4, none⟩ = some (.int .i64 e0.hd) := hce.2 4 _ rfl
    have hipi : (ip : Int) < (m.length : Int) := by omega
    have HF := hid_of' (refFair_any (e0.hd + 1))
    have cP : w2.cell? ⟨pb, 0, none⟩ = some (.pointer (some ⟨mb, 0, none⟩)) := hPr2.cell 0
    obtain ⟨hf1, hf2⟩ := hfh
    cases hfr : fairH (e0.hd + 1) with
    | false =>
      rw [hfr] at HF
      have HA := hid_of' (add_noU hMd2.mv (L.below hbw2) ip e0 he hf1 hf2 hfr (by omega))
      unfold pv at HA
      have HMv := hid_of' hMd2.mv
      have HSl := hid_of' hO7.sl
      clear hfr he hg0 hE7 hO7 hip hgd hP hMd2
      go_wp2_with (first | (go_at_call 14; first | (refine HWi.out.mono ?_; rintro r w3 ⟨rfl, hw3⟩; obtain rfl := hw3.symm; clear HWi) | (refine HWj.out.mono ?_; rintro r w3 ⟨rfl, hw3⟩; obtain rfl := hw3.symm; clear HWj)) | (go_at_call 17; refine (HF.out _).mono ?_; rintro r w3 ⟨rfl, hw3⟩; obtain rfl := hw3.symm; clear HF) | (go_at_call 21; refine HA.out.mono ?_; rintro r w4 ⟨gf, rfl, hb4⟩; clear HA; have cP4 : w4.cell? ⟨pb, 0, none⟩ = some (.pointer (some ⟨mb, 0, none⟩)) := (hPr2.later hb4).cell 0) | (go_at_call 13; refine (HE2.out _ m (HMv.out.later hb4) hm).mono ?_; rintro r w5 ⟨v5, rfl, hO5, hb5⟩; clear HE2) | (go_at_call 19; refine (elements_eq hO5.sl (HSl.out.later (bgo hb4 hb5)) (by omega)).mono ?_; rintro r w6 ⟨rfl, hb6⟩) | (go_at_call 7; refine (HW.out _).mono ?_; rintro r w7 ⟨rfl, hb7⟩))
      go_ret
      exact ⟨rfl, bgo hbw2 (bgo (bgo hb4 hb5) (bgo hb6 hb7))⟩
    | true =>
      rw [hfr] at HF
      have HA := hid_of' (add_upX hMd2 ip e0 he hf1 hf2 hfr (by omega))
      unfold pv at HA
      have hlA : (addE m ip (1)).length = m.length := by rw [add_is he, List.length_set]
      have hAt : (addE m ip (1))[ip]? = some (e0.add (1)) := by rw [add_is he, List.getElem?_set_self hlt]
      have hbk := hid_of' (add_back (d := 1) he)
      have hgb := (hO7.lt g7 rfl)
      have hmt := hMd2.row.lt
      have HSl := hid_of' hO7.sl
      have hne7 : ¬ g7 = tb := by have := hMd2.tree.row; obtain ⟨vt, ht⟩ := this; exact rowNot ht hO7 (by decide) g7 _ _ rfl
      clear hfr he hg0 hE7 hip hgd
      generalize hAl : addE m ip (1) = A at HA hlA hAt hbk
      clear hAl
      go_upto_region 24 with (first | (go_at_call 14; first | (refine HWi.out.mono ?_; rintro r w3 ⟨rfl, hw3⟩; obtain rfl := hw3.symm; clear HWi) | (refine HWj.out.mono ?_; rintro r w3 ⟨rfl, hw3⟩; obtain rfl := hw3.symm; clear HWj)) | (go_at_call 17; refine (HF.out _).mono ?_; rintro r w3 ⟨rfl, hw3⟩; obtain rfl := hw3.symm; clear HF) | (go_at_call 21; refine HA.out.mono ?_; rintro r w4 ⟨rfl, hMd4, hk4⟩; clear HA))
      have hPr4 := hPr2.kp hk4 (by omega)
      have hce4 := hce.kp hk4 hne7
      have hSl4 : SlE w4 (.slice (some ⟨g7, 0, none⟩) m.length c7) m := HSl.out.kp hk4 (fun g o_ c e9 _ => by cases e9; exact hne7)
      have hb4 : Below w.heap.size w w4 := Kp.below hbw2 hk4 (by omega) hbw2.size
      have cP4 : w4.cell? ⟨pb, 0, none⟩ = some (.pointer (some ⟨mb, 0, none⟩)) := hPr4.cell 0
      have HMv := hid_of' hMd4.mv
      have hk4s := hk4.size
      clear hMd4 hMd2 hP hk4 hPr2 cP c7e hce hO7
      go_upto_region 25 with (go_at_call 13; refine (HE2.out _ A HMv.out (by omega)).mono ?_; rintro r w5 ⟨v9, rfl, hO9, hb5⟩; clear HE2)
      obtain ⟨g9, c9, hg9, rfl, hE9⟩ := hO9.block (by intro h; rw [h] at hAt; simp at hAt)
      have hce9 := hE9 ip _ hAt
      rw [Nat.zero_add] at hce9
      have hce5 := hce4.later hb5
      rw [hlA]
      have s1 : ∀ s : Wld w5, (wOf s).cell? ⟨g9, ip * 5 + 4, none⟩ = some (.int .i64 (e0.hd + 1)) := fun s => (hce9.later (wOf_below s)).2 4 _ rfl
      have s2 : ∀ s : Wld w5, (wOf s).cell? ⟨g7, ip * 5 + 4, none⟩ = some (.int .i64 e0.hd) := fun s => (hce5.later (wOf_below s)).2 4 _ rfl
      have HX := hid_of' (And.intro hO9 (And.intro hE9 (And.intro (hSl4.later hb5) (bgo hb4 hb5))))
      have Hb5 := hid_of' hb5
      clear hO9 hE9 hSl4 hce9 hce4 hb4 hb5
      have hB : Below w5.heap.size w5 w5 := Below.refl _ _
      go_upto_region 25 with fail
      refine wp_region_cls (by kernel_rfl) (by kernel_rfl) ?_
      repeat (first | go_big_quiet_skip | (go_big_quiet_want; first | (go_big_quiet_op; first | go_big_quiet_on | go_big_quiet_call ((fail)))))
      refine wpQuiet_nil ?_
      rintro w1 ⟨s1, e1⟩
      have hb1 := wOf_below s1
      rw [← e1] at hb1
      clear e1 s1
      replace hB := bgo hB hb1
      clear hb1
      have hceA := hce5.later hB
      obtain ⟨hO9, hE9, hSl5, hb5⟩ := HX.out
      obtain ⟨cs9, hr9⟩ := hO9.rowEx
      have hrA := hr9.later hB
      have hEA := hE9.later hB
      have hltA : ip < A.length := by omega
      have hth := hEA.there ⟨cs9, hrA⟩ hltA
      have hEz := hEA.put ⟨cs9, hrA⟩ hltA e0
      rw [hbk.out] at hEz
      have hbA := bgo hb5 hB
      have hsA := hB.size
      have hs5 := Hb5.out.size
      have hSz := (hSl5.later hB).kp (Kp.cells (b := g9) (ev e0).toList (ip * 5) w1) (fun g o_ c e9 _ => by cases e9; omega)
      have hsw := hbw2.size
      have hBz := Kp.below hbA (Kp.cells (b := g9) (ev e0).toList (ip * 5) w1) (by omega) hbA.size
      clear hO9 hE9 hSl5 hrA hEA hr9 HX s1 s2 hce5 Hb5 hbA
      go_upto_region 28 with (first | (refine wpL_loadE rfl _ rfl rfl hceA ?_) | (refine wpL_storeM (e := e0) rfl _ _ rfl rfl rfl hth ?_))
      generalize w1.setCells g9 (ip * 5) (ev e0).toList = w8 at hEz hSz hBz ⊢
      have HQ := hid_of' (elements_eq (w := w8) (v := .slice (some ⟨g9, 0, none⟩) m.length c9) (.inr ⟨g9, 0, c9, rfl, hEz⟩) hSz (by omega))
      clear hEz hSz hth hceA
      go_wp2_with (first | (go_at_call 19; refine HQ.out.mono ?_; rintro r w6 ⟨rfl, hb6⟩) | (go_at_call 7; refine (HW.out _).mono ?_; rintro r w7 ⟨rfl, hb7⟩))
      go_ret
      exact ⟨rfl, bgo hBz (bgo hb6 hb7)⟩
  · have h0 : m.length = 0 := by omega
    have hne0 : ((m.length : Int) == 0) = true := by rw [h0]; rfl
    have hne1 : (m.length : Int) = 0 := by omega
    clear hP hMd2 hO7 hgd
    go_wp2_with (first | (go_at_call 14; refine HWi.out.mono ?_; rintro r w3 ⟨rfl, hw3⟩; obtain rfl := hw3.symm; clear HWi) | (go_at_call 7; refine (HW.out _).mono ?_; rintro r w7 ⟨rfl, hb7⟩))
    go_ret
    exact ⟨rfl, bgo hbw2 hb7⟩

set_option maxHeartbeats 8000000 in
theorem apart_down {ad : Nat → Addr} {w : World} {u : Value} {l : List El} (L : Laid ad w) (hu : SlE w u l) (hc : ∀ a n c, u = .slice a n c → n ≤ c) (hlm : l.length ≤ 9223372036854775807) (hi : ∀ e ∈ l, e.id.In) (hf : FineTo (l.take 100) (l.take 100).length) (d i n : Int) (e : El) (hd : In64 d) (hii : In64 i) (hD : wiN d 2 = 1) (hN : n < 0) :
    Calls Tryz.prog 4 #[u, .agg (opv d i n e)] w fun r w' => r = .returned (.bool true) ∧ Below w.heap.size w w' := by
  have HB := hid_of' (fun x (hx : Below w.heap.size w x) => begun_good (hu.later hx) hc hlm hi hf)
  obtain ⟨a', c', rfl⟩ := hu.form
  have hm : (l.take 100).length ≤ 100 := by rw [List.length_take]; omega
  have hgd : ∀ e ∈ l.take 100, e.Good := fun e he => by
    obtain ⟨i, hi2⟩ := List.getElem?_of_mem he
    exact hf.good (fun i e he => hi e (List.mem_of_mem_take (List.mem_of_getElem? he))) i e (List.getElem?_eq_some_iff.1 hi2).1 hi2
  clear hu hc hlm hi hf
  generalize l.take 100 = m at HB hm hgd
  have ro := row_new w (opv d i n e) 43
  have hbo := below_one w (.cells (opv d i n e) 43)
  have HW := hid_of' wakes5_ok
  unfold pv at HB
  go_enter Tryz.func4, Tryz.ntmps4
  go_upto_region 1 with fail
  change Code.wp _ _ _ _ (w.alloc (.cells (opv d i n e) 43))
  have hoz : (w.alloc (.cells (opv d i n e) 43)).heap.size = w.heap.size + 1 := by simp
  generalize w.alloc (.cells (opv d i n e) 43) = w0 at ro hbo hoz ⊢
  go_upto_region 4 with (go_at_call 6; refine (HB.out _ hbo).mono ?_; rintro r w1 ⟨B, pb, mb, tb, kb, nn, v, R, hB1, rfl, hP, hb1⟩; clear HB)
  obtain ⟨n1, n2, n3, n4⟩ := hP.ne
  have hbw := bgo hbo hb1
  have hro := ro.later hb1
  have c1 : w1.cell? ⟨pb, 0, none⟩ = some (.pointer (some ⟨mb, 0, none⟩)) := hP.row.cell 0
  have HE := hid_of' (elements_ok hP.md.mv (by omega))
  unfold pv at HE
  go_upto_region 5 with (go_at_call 13; refine HE.out.mono ?_; rintro r w2 ⟨v7, rfl, hO7, hb2⟩; clear HE)
  obtain ⟨a7, c7, rfl⟩ := hO7.form
  have hro2 := hro.later hb2
  have hMd2 := mdLater hP.md hb2
  have hPr2 := hP.row.later hb2
  have hbw2 := bgo hbw hb2
  have hs12 := hb2.size
  have d0 : w2.cell? ⟨w.heap.size, 0, none⟩ = some (.int .i64 d) := hro2.cell 0
  have d1 : w2.cell? ⟨w.heap.size, 1, none⟩ = some (.int .i64 i) := hro2.cell 1
  have d2 : w2.cell? ⟨w.heap.size, 2, none⟩ = some (.int .i64 n) := hro2.cell 2
  have HWi := hid_of' (within_is d 2 w2 (by decide) (by decide) hd)
  have hlb : pb < w2.heap.size := hPr2.lt
  rw [hD] at HWi
  have HE2 : Hid (∀ (x : World) (l' : List El), MvAt mb l' x → l'.length ≤ 100 → Calls Tryz.prog 13 #[.pointer (some ⟨mb, 0, none⟩)] x fun r w' => ∃ v, r = .returned v ∧ OwnE x.heap.size v l' w' ∧ Below x.heap.size x w') := fun x l' h h2 => elements_ok h (by omega)
  by_cases hpos : 0 < m.length
  · have hne0 : ((m.length : Int) == 0) = false := by rw [beq_eq_false_iff_ne]; omega
    have hne1 : ¬ (m.length : Int) = 0 := by omega
    obtain ⟨ip, hip⟩ : ∃ ip, wiN i m.length = ip := ⟨_, rfl⟩
    have hlt : ip < m.length := by rw [← hip]; exact wiN_lt hpos
    have HWj := hid_of' (within_is i m.length w2 hpos (by omega) hii)
    rw [hip] at HWj
    obtain ⟨e0, he⟩ : ∃ e0, m[ip]? = some e0 := ⟨_, List.getElem?_eq_getElem hlt⟩
    have hg0 := hgd e0 (List.mem_of_getElem? he)
    have hfh : -1099511627776 ≤ e0.hd ∧ e0.hd ≤ 1099511627776 := by have := hg0.2.2; unfold fairH at this; simp at this; exact this
    obtain ⟨g7, c7', _, hv7, hE7⟩ := hO7.block (by intro h; rw [h] at hpos; simp at hpos)
    simp only [Value.slice.injEq] at hv7
    obtain ⟨rfl, _, rfl⟩ := hv7
    have hce := hE7 ip e0 he
    rw [Nat.zero_add] at hce
    have c7e : w2.cell? ⟨g7, ip * 5 + 4, none⟩ = some (.int .i64 e0.hd) := hce.2 4 _ rfl
    have hipi : (ip : Int) < (m.length : Int) := by omega
    have HF := hid_of' (refFair_any (e0.hd + -1))
    have cP : w2.cell? ⟨pb, 0, none⟩ = some (.pointer (some ⟨mb, 0, none⟩)) := hPr2.cell 0
    obtain ⟨hf1, hf2⟩ := hfh
    cases hfr : fairH (e0.hd + -1) with
    | false =>
      rw [hfr] at HF
      have HA := hid_of' (add_noD hMd2.mv (L.below hbw2) ip e0 he hf1 hf2 hfr (by omega))
      unfold pv at HA
      have HMv := hid_of' hMd2.mv
      have HSl := hid_of' hO7.sl
      clear hfr he hg0 hE7 hO7 hip hgd hP hMd2
      go_wp2_with (first | (go_at_call 14; first | (refine HWi.out.mono ?_; rintro r w3 ⟨rfl, hw3⟩; obtain rfl := hw3.symm; clear HWi) | (refine HWj.out.mono ?_; rintro r w3 ⟨rfl, hw3⟩; obtain rfl := hw3.symm; clear HWj)) | (go_at_call 17; refine (HF.out _).mono ?_; rintro r w3 ⟨rfl, hw3⟩; obtain rfl := hw3.symm; clear HF) | (go_at_call 21; refine HA.out.mono ?_; rintro r w4 ⟨gf, rfl, hb4⟩; clear HA; have cP4 : w4.cell? ⟨pb, 0, none⟩ = some (.pointer (some ⟨mb, 0, none⟩)) := (hPr2.later hb4).cell 0) | (go_at_call 13; refine (HE2.out _ m (HMv.out.later hb4) hm).mono ?_; rintro r w5 ⟨v5, rfl, hO5, hb5⟩; clear HE2) | (go_at_call 19; refine (elements_eq hO5.sl (HSl.out.later (bgo hb4 hb5)) (by omega)).mono ?_; rintro r w6 ⟨rfl, hb6⟩) | (go_at_call 7; refine (HW.out _).mono ?_; rintro r w7 ⟨rfl, hb7⟩))
      go_ret
      exact ⟨rfl, bgo hbw2 (bgo (bgo hb4 hb5) (bgo hb6 hb7))⟩
    | true =>
      rw [hfr] at HF
      have HA := hid_of' (add_downX hMd2 ip e0 he hf1 hf2 hfr (by omega))
      unfold pv at HA
      have hlA : (addE m ip (-1)).length = m.length := by rw [add_is he, List.length_set]
      have hAt : (addE m ip (-1))[ip]? = some (e0.add (-1)) := by rw [add_is he, List.getElem?_set_self hlt]
      have hbk := hid_of' (add_back (d := -1) he)
      have hgb := (hO7.lt g7 rfl)
      have hmt := hMd2.row.lt
      have HSl := hid_of' hO7.sl
      have hne7 : ¬ g7 = tb := by have := hMd2.tree.row; obtain ⟨vt, ht⟩ := this; exact rowNot ht hO7 (by decide) g7 _ _ rfl
      clear hfr he hg0 hE7 hip hgd
      generalize hAl : addE m ip (-1) = A at HA hlA hAt hbk
      clear hAl
      go_upto_region 24 with (first | (go_at_call 14; first | (refine HWi.out.mono ?_; rintro r w3 ⟨rfl, hw3⟩; obtain rfl := hw3.symm; clear HWi) | (refine HWj.out.mono ?_; rintro r w3 ⟨rfl, hw3⟩; obtain rfl := hw3.symm; clear HWj)) | (go_at_call 17; refine (HF.out _).mono ?_; rintro r w3 ⟨rfl, hw3⟩; obtain rfl := hw3.symm; clear HF) | (go_at_call 21; refine HA.out.mono ?_; rintro r w4 ⟨rfl, hMd4, hk4⟩; clear HA))
      have hPr4 := hPr2.kp hk4 (by omega)
      have hce4 := hce.kp hk4 hne7
      have hSl4 : SlE w4 (.slice (some ⟨g7, 0, none⟩) m.length c7) m := HSl.out.kp hk4 (fun g o_ c e9 _ => by cases e9; exact hne7)
      have hb4 : Below w.heap.size w w4 := Kp.below hbw2 hk4 (by omega) hbw2.size
      have cP4 : w4.cell? ⟨pb, 0, none⟩ = some (.pointer (some ⟨mb, 0, none⟩)) := hPr4.cell 0
      have HMv := hid_of' hMd4.mv
      have hk4s := hk4.size
      clear hMd4 hMd2 hP hk4 hPr2 cP c7e hce hO7
      go_upto_region 25 with (go_at_call 13; refine (HE2.out _ A HMv.out (by omega)).mono ?_; rintro r w5 ⟨v9, rfl, hO9, hb5⟩; clear HE2)
      obtain ⟨g9, c9, hg9, rfl, hE9⟩ := hO9.block (by intro h; rw [h] at hAt; simp at hAt)
      have hce9 := hE9 ip _ hAt
      rw [Nat.zero_add] at hce9
      have hce5 := hce4.later hb5
      rw [hlA]
      have s1 : ∀ s : Wld w5, (wOf s).cell? ⟨g9, ip * 5 + 4, none⟩ = some (.int .i64 (e0.hd + -1)) := fun s => (hce9.later (wOf_below s)).2 4 _ rfl
      have s2 : ∀ s : Wld w5, (wOf s).cell? ⟨g7, ip * 5 + 4, none⟩ = some (.int .i64 e0.hd) := fun s => (hce5.later (wOf_below s)).2 4 _ rfl
      have HX := hid_of' (And.intro hO9 (And.intro hE9 (And.intro (hSl4.later hb5) (bgo hb4 hb5))))
      have Hb5 := hid_of' hb5
      clear hO9 hE9 hSl4 hce9 hce4 hb4 hb5
      have hB : Below w5.heap.size w5 w5 := Below.refl _ _
      go_upto_region 25 with fail
      refine wp_region_cls (by kernel_rfl) (by kernel_rfl) ?_
      repeat (first | go_big_quiet_skip | (go_big_quiet_want; first | (go_big_quiet_op; first | go_big_quiet_on | go_big_quiet_call ((fail)))))
      refine wpQuiet_nil ?_
      rintro w1 ⟨s1, e1⟩
      have hb1 := wOf_below s1
      rw [← e1] at hb1
      clear e1 s1
      replace hB := bgo hB hb1
      clear hb1
      have hceA := hce5.later hB
      obtain ⟨hO9, hE9, hSl5, hb5⟩ := HX.out
      obtain ⟨cs9, hr9⟩ := hO9.rowEx
      have hrA := hr9.later hB
      have hEA := hE9.later hB
      have hltA : ip < A.length := by omega
      have hth := hEA.there ⟨cs9, hrA⟩ hltA
      have hEz := hEA.put ⟨cs9, hrA⟩ hltA e0
      rw [hbk.out] at hEz
      have hbA := bgo hb5 hB
      have hsA := hB.size
      have hs5 := Hb5.out.size
      have hSz := (hSl5.later hB).kp (Kp.cells (b := g9) (ev e0).toList (ip * 5) w1) (fun g o_ c e9 _ => by cases e9; omega)
      have hsw := hbw2.size
      have hBz := Kp.below hbA (Kp.cells (b := g9) (ev e0).toList (ip * 5) w1) (by omega) hbA.size
      clear hO9 hE9 hSl5 hrA hEA hr9 HX s1 s2 hce5 Hb5 hbA
      go_upto_region 28 with (first | (refine wpL_loadE rfl _ rfl rfl hceA ?_) | (refine wpL_storeM (e := e0) rfl _ _ rfl rfl rfl hth ?_))
      generalize w1.setCells g9 (ip * 5) (ev e0).toList = w8 at hEz hSz hBz ⊢
      have HQ := hid_of' (elements_eq (w := w8) (v := .slice (some ⟨g9, 0, none⟩) m.length c9) (.inr ⟨g9, 0, c9, rfl, hEz⟩) hSz (by omega))
      clear hEz hSz hth hceA
      go_wp2_with (first | (go_at_call 19; refine HQ.out.mono ?_; rintro r w6 ⟨rfl, hb6⟩) | (go_at_call 7; refine (HW.out _).mono ?_; rintro r w7 ⟨rfl, hb7⟩))
      go_ret
      exact ⟨rfl, bgo hBz (bgo hb6 hb7)⟩
  · have h0 : m.length = 0 := by omega
    have hne0 : ((m.length : Int) == 0) = true := by rw [h0]; rfl
    have hne1 : (m.length : Int) = 0 := by omega
    clear hP hMd2 hO7 hgd
    go_wp2_with (first | (go_at_call 14; refine HWi.out.mono ?_; rintro r w3 ⟨rfl, hw3⟩; obtain rfl := hw3.symm; clear HWi) | (go_at_call 7; refine (HW.out _).mono ?_; rintro r w7 ⟨rfl, hb7⟩))
    go_ret
    exact ⟨rfl, bgo hbw2 hb7⟩
end Go.Proofs.YtmhijdoojkbcjaaGreatDoor
namespace Go.Proofs.YtmhijdoojkbcjaaGreatDoor
open Go.RowKit Go.Extern.Stop Go.Stop Go.Extern
set_option maxRecDepth 100000

theorem copyE_ok {w : World} {v : Value} {l : List El} (h : SlE w v l) (hn : l.length ≤ 1000000) :
    Calls Tryz.prog 42 #[v] w fun r w' => ∃ u, r = .returned u ∧ OwnE w.heap.size u l w' ∧ Below w.heap.size w w' := by
  have HA := hid_of' (h.later (below_one w (.cells #[] 41)))
  obtain ⟨a0, c0, rfl⟩ := h.form
  go_enter Tryz.func42, Tryz.ntmps42
  go_wp2_with (at_builtin; refine wpL_appE (xs := []) (l := l) rfl _ _ rfl rfl rfl (own_empty w) HA.out (by simpa using (show l.length ≤ 1099511627776 by omega)) (by simp) ?_; intro v1 w1 o1 hg1)
  go_ret
  exact ⟨_, rfl, o1, (below_one w (.cells #[] 41)).grown hg1 (by simp) (fun k hk => ((own_empty w).lt k hk).1)⟩
set_option maxHeartbeats 2000000 in
theorem cut_ok {w : World} {g o_ c : Nat} {l : List El} (h : ElsAt g o_ l w) (hlc : l.length ≤ c) (hc : c ≤ 9223372036854775807) (p : Nat) (hp : p < l.length) (hn : l.length ≤ 1000000) :
    Calls Tryz.prog 20 #[.slice (some ⟨g, o_, none⟩) l.length c, .int .i64 (p : Int), .int .i64 1] w fun r w' => ∃ u, r = .returned u ∧ OwnE w.heap.size u (l.take p ++ l.drop (p + 1)) w' ∧ Below w.heap.size w w' := by
  have e1 : (l.take p).length = p := by rw [List.length_take]; omega
  have e2 : (l.drop (p + 1)).length = l.length - (p + 1) := List.length_drop
  have s1 : SlE w (.slice (some ⟨g, o_, none⟩) p c) (l.take p) := .inr ⟨g, o_, c, by rw [e1], h.take p⟩
  have s2 : SlE w (.slice (if c = p + 1 then some ⟨g, o_, none⟩ else some ⟨g, o_ + (p + 1) * 5, none⟩) (l.length - (p + 1)) (c - (p + 1))) (l.drop (p + 1)) := by
    by_cases q : c = p + 1
    · have e3 : l.drop (p + 1) = [] := List.drop_of_length_le (by omega)
      rw [if_pos q]
      exact .inl ⟨e3, _, _, by rw [show l.length - (p + 1) = 0 by omega]⟩
    · rw [if_neg q]
      exact .inr ⟨g, _, _, by rw [e2], h.drop (p + 1)⟩
  have c5 : (0 : Int) ≤ (p : Int) + 1 := by omega
  have HC := hid_of' (fun (x : World) (hx : Below w.heap.size w x) => copyE_ok (s1.later hx) (by omega))
  have hlen : (l.take p).length + (l.drop (p + 1)).length ≤ 1099511627776 := by omega
  have c1 : (p : Int) ≤ (c : Int) := by omega
  have c0 : (0 : Int) ≤ (p : Int) := by omega
  have c3 : IntKind.i64.wrap ((p : Int) + 1) = (p : Int) + 1 := by rw [IntWalk.i64_left, wrapIs (by omega) (by omega)]
  have c2 : (p : Int) + 1 ≤ (l.length : Int) := by omega
  clear e1 e2 s1
  go_enter Tryz.func20, Tryz.ntmps20
  go_upto_region 1 with fail
  refine wp_region_tail 9 (by kernel_rfl) (fun _ => none) (by kernel_rfl) (by kernel_rfl) (by decide) (fun i v x => match i with
    | 0 => v = .slice (some ⟨g, o_, none⟩) l.length c
    | 1 => v = .int .i64 (p : Int)
    | 2 => v = .slice (some ⟨g, o_, none⟩) p c
    | 3 => OwnE w.heap.size v (l.take p) x
    | 4 => v = .slice (some ⟨g, o_, none⟩) l.length c
    | 5 => v = .int .i64 (p : Int)
    | 6 => v = .int .i64 1
    | 7 => v = .int .i64 ((p : Int) + 1)
    | 8 => SlE w v (l.drop (p + 1))
    | _ => True) (fun _ => false) (fun _ _ _ _ h => by cases h) ?_ ?_ ?_
  · intro i v x x' hR hb
    match i, hR with
    | 0, h => exact h
    | 1, h => exact h
    | 2, h => exact h
    | 3, h => exact OwnE.later h hb
    | 4, h => exact h
    | 5, h => exact h
    | 6, h => exact h
    | 7, h => exact h
    | 8, h => exact h
    | m + 9, h => exact h
  · intro i o hi ho q x vals hX hdep hoth
    have t0 : q.tmps[0]? = some (.slice (some ⟨g, o_, none⟩) l.length c) := by rw [hoth 0 (by kernel_rfl)]; rfl
    have t1 : q.tmps[1]? = some (.int .i64 (p : Int)) := by rw [hoth 1 (by kernel_rfl)]; rfl
    have t2 : q.tmps[2]? = some (.int .i64 1) := by rw [hoth 2 (by kernel_rfl)]; rfl
    match i, hi, ho with
    | 0, _, ho =>
      simp only [List.getElem?_cons_zero, Option.some.injEq] at ho
      subst ho
      unfold Oper.wp
      simp [execOp, go_sem, t0]
      exact came _ rfl (Below.refl _ _) rfl (fun h => absurd h (by decide))
    | 1, _, ho =>
      simp only [List.getElem?_cons_succ, List.getElem?_cons_zero, Option.some.injEq] at ho
      subst ho
      unfold Oper.wp
      simp [execOp, go_sem, t1]
      exact came _ rfl (Below.refl _ _) rfl (fun h => absurd h (by decide))
    | 2, _, ho =>
      simp only [List.getElem?_cons_succ, List.getElem?_cons_zero, Option.some.injEq] at ho
      subst ho
      obtain ⟨u0, e0⟩ := hdep ⟨0, .data⟩ (by simp) rfl _ 7 rfl rfl
      rw [show vals 0 = .slice (some ⟨g, o_, none⟩) l.length c from e0] at u0
      obtain ⟨u1, e1⟩ := hdep ⟨1, .data⟩ (by simp) rfl _ 8 rfl rfl
      rw [show vals 1 = .int .i64 (p : Int) from e1] at u1
      unfold Oper.wp
      simp [execOp, go_sem, u0, u1, c1, c0]
      exact came _ rfl (Below.refl _ _) rfl (fun h => absurd h (by decide))
    | 3, _, ho =>
      simp only [List.getElem?_cons_succ, List.getElem?_cons_zero, Option.some.injEq] at ho
      subst ho
      obtain ⟨u2, e2⟩ := hdep ⟨2, .data⟩ (by simp) rfl _ 9 rfl rfl
      rw [show vals 2 = .slice (some ⟨g, o_, none⟩) p c from e2] at u2
      unfold Oper.wp
      simp [go_sem, u2]
      refine (HC.out x hX).mono ?_
      rintro r x1 ⟨q, rfl, ho9, hb1⟩
      exact came _ rfl hb1 (OwnE.base ho9 hX.size) (fun h => absurd h (by decide))
    | 4, _, ho =>
      simp only [List.getElem?_cons_succ, List.getElem?_cons_zero, Option.some.injEq] at ho
      subst ho
      unfold Oper.wp
      simp [execOp, go_sem, t0]
      exact came _ rfl (Below.refl _ _) rfl (fun h => absurd h (by decide))
    | 5, _, ho =>
      simp only [List.getElem?_cons_succ, List.getElem?_cons_zero, Option.some.injEq] at ho
      subst ho
      unfold Oper.wp
      simp [execOp, go_sem, t1]
      exact came _ rfl (Below.refl _ _) rfl (fun h => absurd h (by decide))
    | 6, _, ho =>
      simp only [List.getElem?_cons_succ, List.getElem?_cons_zero, Option.some.injEq] at ho
      subst ho
      unfold Oper.wp
      simp [execOp, go_sem, t2]
      exact came _ rfl (Below.refl _ _) rfl (fun h => absurd h (by decide))
    | 7, _, ho =>
      simp only [List.getElem?_cons_succ, List.getElem?_cons_zero, Option.some.injEq] at ho
      subst ho
      obtain ⟨u5, e5⟩ := hdep ⟨5, .data⟩ (by simp) rfl _ 12 rfl rfl
      rw [show vals 5 = .int .i64 (p : Int) from e5] at u5
      obtain ⟨u6, e6⟩ := hdep ⟨6, .data⟩ (by simp) rfl _ 13 rfl rfl
      rw [show vals 6 = .int .i64 1 from e6] at u6
      unfold Oper.wp
      simp [execOp, go_sem, u5, u6, c3]
      exact came _ rfl (Below.refl _ _) rfl (fun h => absurd h (by decide))
    | 8, _, ho =>
      simp only [List.getElem?_cons_succ, List.getElem?_cons_zero, Option.some.injEq] at ho
      subst ho
      obtain ⟨u4, e4⟩ := hdep ⟨4, .data⟩ (by simp) rfl _ 11 rfl rfl
      rw [show vals 4 = .slice (some ⟨g, o_, none⟩) l.length c from e4] at u4
      obtain ⟨u7, e7⟩ := hdep ⟨7, .data⟩ (by simp) rfl _ 14 rfl rfl
      rw [show vals 7 = .int .i64 ((p : Int) + 1) from e7] at u7
      unfold Oper.wp
      simp [execOp, go_sem, u4, u7, c2, c5]
      exact came _ rfl (Below.refl _ _) s2 (fun h => absurd h (by decide))
    | m + 9, hi, _ => exact absurd hi (by omega)
  · intro vals x hX hRv _
    have q3 : OwnE w.heap.size (vals 3) (l.take p) x := hRv 3 (by decide)
    have q8 : SlE w (vals 8) (l.drop (p + 1)) := hRv 8 (by decide)
    obtain ⟨a8, c8, e8⟩ := q8.form
    rw [e8] at q8
    obtain ⟨a3, c4, e3⟩ := q3.form
    rw [e3] at q3
    simp only [List.take, List.drop, putAll, e8, e3]
    clear hRv e8 e3
    try simp only [List.setIfInBounds_toArray, List.set_cons_succ, List.set_cons_zero]
    go_wp2_with (at_builtin; refine wpL_appE rfl _ _ rfl rfl rfl q3 (q8.later hX) hlen hX.size ?_; intro v1 w1 o1 hg1)
    go_ret
    exact ⟨_, rfl, o1, hX.grown hg1 hX.size (fun k hk => (q3.lt k hk).1)⟩

theorem wpL_storeI {ops : Array Oper} {rest : List Oper} {o : Oper} {A : Act} {w : World} {Q : Exit → Act → World → Prop} (hgd : o.guard = none) (x y : Operand) (ho : o.op = .store 39 x y) {g off : Nat} (hx : A.eval x = .pointer (some ⟨g, off, none⟩)) {a b c : Int} (hy : A.eval y = .agg (idc a b c)) (ht : w.there g off 3)
    (k : wpList Tryz.prog ops Q rest (A.put o.dst undef) (w.setCells g off (idc a b c).toList)) : wpList Tryz.prog ops Q (o :: rest) A w :=
  wpList_store_mid hgd _ x y ho g off (idc a b c) hx hy ht (id_size a b c) (by simp [idc, Value.oneCell']) k
theorem ins_cut {l : List El} {i : Nat} {e : El} (hi : i ≤ l.length) : (insE l i e).take i ++ (insE l i e).drop (i + 1) = l := by
  unfold insE
  have h1 : (l.take i).length = i := by rw [List.length_take]; omega
  rw [List.take_left' h1]
  have h2 : (l.take i ++ e :: l.drop i).drop (i + 1) = l.drop i := by
    rw [List.drop_append, h1, List.drop_of_length_le (by omega)]
    simp
  rw [h2, List.take_append_drop]
theorem ins_at {l : List El} {i : Nat} {e : El} (hi : i ≤ l.length) : (insE l i e)[i]? = some e := by
  unfold insE
  have h1 : (l.take i).length = i := by rw [List.length_take]; omega
  rw [List.getElem?_append_right (by omega), h1]
  simp
theorem hasI_mem {l : List El} {e : El} (h : e ∈ l) : hasI l e.id = true := List.any_eq_true.2 ⟨e, h, by simp⟩

set_option maxHeartbeats 8000000 in
theorem apart_ins {ad : Nat → Addr} {w : World} {u : Value} {l : List El} (_L : Laid ad w) (hu : SlE w u l) (hc : ∀ a n c, u = .slice a n c → n ≤ c) (hlm : l.length ≤ 9223372036854775807) (hi : ∀ e ∈ l, e.id.In) (hf : FineTo (l.take 100) (l.take 100).length) (d i n : Int) (e : El) (hd : In64 d) (hii : In64 i) (hD : wiN d 2 = 0) :
    Calls Tryz.prog 4 #[u, .agg (opv d i n e)] w fun r w' => r = .returned (.bool true) ∧ Below w.heap.size w w' := by
  have HB := hid_of' (fun x (hx : Below w.heap.size w x) => begun_good (hu.later hx) hc hlm hi hf)
  obtain ⟨a', c', rfl⟩ := hu.form
  have hm : (l.take 100).length ≤ 100 := by rw [List.length_take]; omega
  have hgd : ∀ e ∈ l.take 100, e.Good := fun e he => by
    obtain ⟨i, hi2⟩ := List.getElem?_of_mem he
    exact hf.good (fun i e he => hi e (List.mem_of_mem_take (List.mem_of_getElem? he))) i e (List.getElem?_eq_some_iff.1 hi2).1 hi2
  clear hu hc hlm hi hf
  generalize l.take 100 = m at HB hm hgd
  have ro := row_new w (opv d i n e) 43
  have hbo := below_one w (.cells (opv d i n e) 43)
  have HW := hid_of' wakes5_ok
  unfold pv at HB
  go_enter Tryz.func4, Tryz.ntmps4
  go_upto_region 1 with fail
  change Code.wp _ _ _ _ (w.alloc (.cells (opv d i n e) 43))
  have hoz : (w.alloc (.cells (opv d i n e) 43)).heap.size = w.heap.size + 1 := by simp
  generalize w.alloc (.cells (opv d i n e) 43) = w0 at ro hbo hoz ⊢
  go_upto_region 4 with (go_at_call 6; refine (HB.out _ hbo).mono ?_; rintro r w1 ⟨B, pb, mb, tb, kb, nn, v, R, hB1, rfl, hP, hb1⟩; clear HB)
  obtain ⟨n1, n2, n3, n4⟩ := hP.ne
  have hbw := bgo hbo hb1
  have hro := ro.later hb1
  have c1 : w1.cell? ⟨pb, 0, none⟩ = some (.pointer (some ⟨mb, 0, none⟩)) := hP.row.cell 0
  have HE := hid_of' (elements_ok hP.md.mv (by omega))
  unfold pv at HE
  go_upto_region 5 with (go_at_call 13; refine HE.out.mono ?_; rintro r w2 ⟨v7, rfl, hO7, hb2⟩; clear HE)
  obtain ⟨a7, c7, rfl⟩ := hO7.form
  have hro2 := hro.later hb2
  have hMd2 := mdLater hP.md hb2
  have hPr2 := hP.row.later hb2
  have hbw2 := bgo hbw hb2
  have hs12 := hb2.size
  have d0 : w2.cell? ⟨w.heap.size, 0, none⟩ = some (.int .i64 d) := hro2.cell 0
  have d1 : w2.cell? ⟨w.heap.size, 1, none⟩ = some (.int .i64 i) := hro2.cell 1
  have d2 : w2.cell? ⟨w.heap.size, 2, none⟩ = some (.int .i64 n) := hro2.cell 2
  have HWi := hid_of' (within_is d 2 w2 (by decide) (by decide) hd)
  have hlb : pb < w2.heap.size := hPr2.lt
  rw [hD] at HWi
  obtain ⟨ip, hip⟩ : ∃ ip, wiN i (m.length + 1) = ip := ⟨_, rfl⟩
  have hlt : ip < m.length + 1 := by rw [← hip]; exact wiN_lt (by omega)
  have HWj := hid_of' (within_is i (m.length + 1) w2 (by omega) (by omega) hii)
  rw [hip, show ((m.length + 1 : Nat) : Int) = (m.length : Int) + 1 by omega] at HWj
  obtain ⟨e1, he1⟩ : ∃ e1 : El, e1 = ⟨-5, 0, -5, e.ch, e.hd⟩ := ⟨_, rfl⟩
  have hth : w2.there w.heap.size 3 3 := fun j hj => ⟨by rw [hro2.cell, Array.getElem?_eq_getElem (by simp [opv]; omega)]; rfl, Lib.frozen_of_heap hro2 _⟩
  have hro3 : RowAt w.heap.size (opv d i n e1) 43 (w2.setCells w.heap.size 3 (idc (-5) 0 (-5)).toList) := by
    rw [he1]
    exact heap_setCell_at (heap_setCell_at (heap_setCell_at hro2 3 _) 4 _) 5 _
  have hk3 := Kp.cells (b := w.heap.size) (idc (-5) 0 (-5)).toList 3 w2
  have hMd3 := hMd2.kpx (hP.no w.heap.size (by omega)) hro2 (by decide) hk3 (by omega) (by omega) (by omega)
  have hPr3 := hPr2.kp hk3 (by omega)
  have hO3 := ownE_kp2 hO7 hk3 (rowNot hro2 hO7 (by decide))
  have hbw3 := Kp.below hbw2 hk3 (Nat.le_refl _) hbw2.size
  have hnn := hP.len
  go_upto_region 8 with (first | (go_at_call 14; first | (refine HWi.out.mono ?_; rintro r w3 ⟨rfl, hw3⟩; obtain rfl := hw3.symm; clear HWi) | (refine HWj.out.mono ?_; rintro r w3 ⟨rfl, hw3⟩; obtain rfl := hw3.symm; clear HWj)) | (refine wpL_storeI rfl _ _ rfl rfl rfl hth ?_))
  generalize w2.setCells w.heap.size 3 (idc (-5) 0 (-5)).toList = w3 at hro3 hk3 hMd3 hPr3 hO3 hbw3 ⊢
  have hbx3 : CsIn w.heap.size 3 (ev e1) w3 := by
    have := hro3.in.sub 3 (ds := ev e1) (fun j v hv => by
      match j, hv with
      | 0, hv => exact hv
      | 1, hv => exact hv
      | 2, hv => exact hv
      | 3, hv => exact hv
      | 4, hv => exact hv
      | j + 5, hv => simp [ev] at hv)
    simpa using this
  have hid3 : CsIn w.heap.size 3 (idc (-5) 0 (-5)) w3 := by have := id_at hbx3; rw [he1] at this; exact this
  have d6 : w3.cell? ⟨w.heap.size, 6, none⟩ = some (.int .i32 e.ch) := by have := hro3.cell 6; rw [he1] at this; exact this
  have d7 : w3.cell? ⟨w.heap.size, 7, none⟩ = some (.int .i64 e.hd) := by have := hro3.cell 7; rw [he1] at this; exact this
  have HI := hid_of' (refIndex_any hO3.sl ⟨-5, 0, -5⟩ (by omega))
  have HRt := hid_of' (refRight_any e.ch)
  have HF := hid_of' (refFair_any e.hd)
  have hix := ixI_has m ⟨-5, 0, -5⟩
  have hxb := ixI_b m ⟨-5, 0, -5⟩
  obtain ⟨z, hz⟩ : ∃ z, ixI m ⟨-5, 0, -5⟩ = z := ⟨_, rfl⟩
  rw [hz] at HI hix hxb
  clear hz hth hro2 hMd2 hPr2 hO7 d0 d1 d2 hk3 hro hip
  have HDD : Hid (∀ x, Below w3.heap.size w3 x → x.cell? ⟨w.heap.size, 6, none⟩ = some (.int .i32 e.ch) ∧ x.cell? ⟨w.heap.size, 7, none⟩ = some (.int .i64 e.hd)) := fun x hx => by
    have h6 := (hro3.later hx).cell 6
    have h7 := (hro3.later hx).cell 7
    rw [he1] at h6 h7
    exact ⟨h6, h7⟩
  clear d6 d7
  cases hq : hasI m ⟨-5, 0, -5⟩ with
  | true =>
    rw [hq] at hix
    have hz0 : 0 ≤ z := of_decide_eq_true hix
    clear hix hq hMd3 hO3 hgd hP
    go_wp2_with (first | (refine wpL_loadI rfl _ rfl rfl hid3 ?_) | (go_at_call 15; refine HI.out.mono ?_; rintro r w4 ⟨rfl, hb4⟩; clear HI; obtain ⟨d6, d7⟩ := HDD.out _ hb4) | (go_at_call 16; refine (HRt.out _).mono ?_; rintro r w5 ⟨rfl, hw5⟩; obtain rfl := hw5.symm; clear HRt) | (go_at_call 17; refine (HF.out _).mono ?_; rintro r w5 ⟨rfl, hw5⟩; obtain rfl := hw5.symm; clear HF) | (go_at_call 7; refine (HW.out _).mono ?_; rintro r w7 ⟨rfl, hb7⟩))
    go_ret
    exact ⟨rfl, bgo hbw3 (bgo hb4 hb7)⟩
  | false =>
    rw [hq] at hix
    have hz0 : ¬ 0 ≤ z := of_decide_eq_false hix
    cases hr : rightC e.ch with
    | false =>
      rw [hr] at HRt
      clear hix hq hr hMd3 hO3 hgd hP
      go_wp2_with (first | (refine wpL_loadI rfl _ rfl rfl hid3 ?_) | (go_at_call 15; refine HI.out.mono ?_; rintro r w4 ⟨rfl, hb4⟩; clear HI; obtain ⟨d6, d7⟩ := HDD.out _ hb4) | (go_at_call 16; refine (HRt.out _).mono ?_; rintro r w5 ⟨rfl, hw5⟩; obtain rfl := hw5.symm; clear HRt) | (go_at_call 17; refine (HF.out _).mono ?_; rintro r w5 ⟨rfl, hw5⟩; obtain rfl := hw5.symm; clear HF) | (go_at_call 7; refine (HW.out _).mono ?_; rintro r w7 ⟨rfl, hb7⟩))
      go_ret
      exact ⟨rfl, bgo hbw3 (bgo hb4 hb7)⟩
    | true =>
      rw [hr] at HRt
      cases hfa : fairH e.hd with
      | false =>
        rw [hfa] at HF
        clear hix hq hr hMd3 hO3 hgd hP hfa
        go_wp2_with (first | (refine wpL_loadI rfl _ rfl rfl hid3 ?_) | (go_at_call 15; refine HI.out.mono ?_; rintro r w4 ⟨rfl, hb4⟩; clear HI; obtain ⟨d6, d7⟩ := HDD.out _ hb4) | (go_at_call 16; refine (HRt.out _).mono ?_; rintro r w5 ⟨rfl, hw5⟩; obtain rfl := hw5.symm; clear HRt) | (go_at_call 17; refine (HF.out _).mono ?_; rintro r w5 ⟨rfl, hw5⟩; obtain rfl := hw5.symm; clear HF) | (go_at_call 7; refine (HW.out _).mono ?_; rintro r w7 ⟨rfl, hb7⟩))
        go_ret
        exact ⟨rfl, bgo hbw3 (bgo hb4 hb7)⟩
      | true =>
        rw [hfa] at HF
        have hgd1 : e1.Good := by rw [he1]; exact ⟨by unfold Idn.In In64 El.id; simp, hr, hfa⟩
        have hid1 : e1.id = ⟨-5, 0, -5⟩ := by rw [he1]; rfl
        have hfn : (rkF m m.length m.length e1.id).isSome = false := by rw [hid1, rkF_has (Nat.le_refl _), List.take_length]; exact hq
        have hall : ∀ (j : Nat) (x : El), m[j]? = some x → x.id.In ∧ (rkF m m.length m.length x.id).isSome = true := fun j x hx => ⟨(hgd x (List.mem_of_getElem? hx)).1, by rw [rkF_has (Nat.le_refl _), List.take_length]; exact hasI_mem (List.mem_of_getElem? hx)⟩
        have HG := hid_of' (And.intro hgd1 (And.intro hfn (And.intro hall hnn)))
        have HP0 := hid_of' hP
        clear hix hq hr hfa hid1 hgd1 hfn hall hnn he1 hP hgd
        go_upto_region 10 with (first | (refine wpL_loadI rfl _ rfl rfl hid3 ?_) | (go_at_call 15; refine HI.out.mono ?_; rintro r w4 ⟨rfl, hb4⟩; clear HI; obtain ⟨d6, d7⟩ := HDD.out _ hb4) | (go_at_call 16; refine (HRt.out _).mono ?_; rintro r w5 ⟨rfl, hw5⟩; obtain rfl := hw5.symm; clear HRt) | (go_at_call 17; refine (HF.out _).mono ?_; rintro r w5 ⟨rfl, hw5⟩; obtain rfl := hw5.symm; clear HF))
        have hsz3 := hbw3.size
        replace hPr3 := hPr3.later hb4
        replace hbx3 := hbx3.later hb4
        replace hMd3 := mdLater hMd3 hb4
        replace hO3 := hO3.later hb4
        replace hbw3 := bgo hbw3 hb4
        obtain ⟨hgd1, hfn, hall, hnn⟩ := HG.out
        have hmbl := HP0.out.md.row.lt
        have HIn : Hid (∀ x, Below w4.heap.size w4 x → Calls Tryz.prog 18 #[.pointer (some ⟨mb, 0, none⟩), .int .i64 (ip : Int), .agg (ev e1)] x (InO mb tb kb R (insE m ip e1) (rkF m m.length m.length) (nn + m.length) e1.id x)) := fun x hx => insert_md (mdLater hMd3 hx) ip e1 (by omega) hgd1 hfn (by omega) (by omega) (fun y hy => rankFor_any (mdLater (mdLater hMd3 hx) hy) ip (by omega) hall (by omega) (by omega))
        clear HDD hid3 hgd1 hfn hall hnn HG hMd3
        refine wp_region_tail 7 (by kernel_rfl) (fun _ => none) (by kernel_rfl) (by kernel_rfl) (by decide) (fun i v x => match i with
          | 0 => v = .pointer (some ⟨pb, 0, none⟩)
          | 1 => v = .pointer (some ⟨pb, 0, none⟩)
          | 2 => v = .pointer (some ⟨pb, 0, none⟩)
          | 3 => v = .pointer (some ⟨mb, 0, none⟩)
          | 4 => v = .int .i64 (ip : Int)
          | 5 => v = .pointer (some ⟨w.heap.size, 3, none⟩)
          | 6 => v = .agg (ev e1)
          | _ => True) (fun _ => false) (fun _ _ _ _ h => by cases h) ?_ ?_ ?_
        · intro i v x x' hR hb
          match i, hR with
          | 0, h => exact h
          | 1, h => exact h
          | 2, h => exact h
          | 3, h => exact h
          | 4, h => exact h
          | 5, h => exact h
          | 6, h => exact h
          | m + 7, h => exact h
        · intro i o hi ho q x vals hX hdep hoth
          have t3 : q.tmps[3]? = some (.pointer (some ⟨w.heap.size, 0, none⟩)) := by rw [hoth 3 (by kernel_rfl)]; rfl
          have t5 : q.tmps[5]? = some (.pointer (some ⟨pb, 0, none⟩)) := by rw [hoth 5 (by kernel_rfl)]; rfl
          have t8 : q.tmps[8]? = some (.int .i64 (ip : Int)) := by rw [hoth 8 (by kernel_rfl)]; rfl
          match i, hi, ho with
          | 0, _, ho =>
            simp only [List.getElem?_cons_zero, Option.some.injEq] at ho
            subst ho
            unfold Oper.wp
            simp [execOp, go_sem, t5]
            exact came _ rfl (Below.refl _ _) rfl (fun h => absurd h (by decide))
          | 1, _, ho =>
            simp only [List.getElem?_cons_succ, List.getElem?_cons_zero, Option.some.injEq] at ho
            subst ho
            obtain ⟨u0, e0⟩ := hdep ⟨0, .data⟩ (by simp) rfl _ 63 rfl rfl
            rw [show vals 0 = .pointer (some ⟨pb, 0, none⟩) from e0] at u0
            unfold Oper.wp
            simp [execOp, go_sem, u0]
            exact came _ rfl (Below.refl _ _) rfl (fun h => absurd h (by decide))
          | 2, _, ho =>
            simp only [List.getElem?_cons_succ, List.getElem?_cons_zero, Option.some.injEq] at ho
            subst ho
            obtain ⟨u1, e1⟩ := hdep ⟨1, .data⟩ (by simp) rfl _ 64 rfl rfl
            rw [show vals 1 = .pointer (some ⟨pb, 0, none⟩) from e1] at u1
            unfold Oper.wp
            simp [execOp, go_sem, u1]
            exact came _ rfl (Below.refl _ _) rfl (fun h => absurd h (by decide))
          | 3, _, ho =>
            simp only [List.getElem?_cons_succ, List.getElem?_cons_zero, Option.some.injEq] at ho
            subst ho
            obtain ⟨u2, e2⟩ := hdep ⟨2, .data⟩ (by simp) rfl _ 65 rfl rfl
            rw [show vals 2 = .pointer (some ⟨pb, 0, none⟩) from e2] at u2
            have cc : x.cell? ⟨pb, 0, none⟩ = some (.pointer (some ⟨mb, 0, none⟩)) := (hPr3.later hX).cell 0
            unfold Oper.wp
            simp [execOp, go_sem, u2, cc]
            exact came _ rfl (Below.refl _ _) rfl (fun h => absurd h (by decide))
          | 4, _, ho =>
            simp only [List.getElem?_cons_succ, List.getElem?_cons_zero, Option.some.injEq] at ho
            subst ho
            unfold Oper.wp
            simp [execOp, go_sem, t8]
            exact came _ rfl (Below.refl _ _) rfl (fun h => absurd h (by decide))
          | 5, _, ho =>
            simp only [List.getElem?_cons_succ, List.getElem?_cons_zero, Option.some.injEq] at ho
            subst ho
            unfold Oper.wp
            simp [execOp, go_sem, t3]
            exact came _ rfl (Below.refl _ _) rfl (fun h => absurd h (by decide))
          | 6, _, ho =>
            simp only [List.getElem?_cons_succ, List.getElem?_cons_zero, Option.some.injEq] at ho
            subst ho
            obtain ⟨u5, e5⟩ := hdep ⟨5, .data⟩ (by simp) rfl _ 68 rfl rfl
            rw [show vals 5 = .pointer (some ⟨w.heap.size, 3, none⟩) from e5] at u5
            exact opw_loadE _ rfl (by simp [Act.eval, u5]) (hbx3.later hX) (came _ rfl (Below.refl _ _) rfl (fun h => absurd h (by decide)))
          | m + 7, hi, _ => exact absurd hi (by omega)
        · intro vals x' hX hR _
          have q3 : vals 3 = .pointer (some ⟨mb, 0, none⟩) := hR 3 (by decide)
          have q4 : vals 4 = .int .i64 (ip : Int) := hR 4 (by decide)
          have q6 : vals 6 = .agg (ev e1) := hR 6 (by decide)
          simp only [List.take, List.drop, putAll, q3, q4, q6]
          simp only [List.setIfInBounds_toArray, List.set_cons_succ, List.set_cons_zero]
          have HI2 := hid_of' (HIn.out _ hX)
          clear HIn
          go_upto_region 12 with (go_at_call 18; refine HI2.out.mono ?_; rintro r w5 ⟨n5, f5, rfl, _, hMd5, _, hk5⟩; clear HI2)
          have hs4 := hb4.size
          have hsX := hX.size
          have hlo := fun g' n' c' e9 => (hO3.lt g' (by rw [show (Value.slice a7 m.length c7) = .slice (some ⟨g', 0, none⟩) n' c' from e9]; rfl)).1
          have hPr5 : RowAt pb #[pv mb, v] 29 w5 := (hk5.block pb (Nat.lt_of_lt_of_le hPr3.lt hsX) (by omega) (by omega)).trans (hPr3.later hX)
          have hbx5 : CsIn w.heap.size 3 (ev e1) w5 := ⟨Nat.lt_of_lt_of_le (hbx3.later hX).1 hk5.size, fun j v hv => (World.cell?_of_block (hk5.block w.heap.size (hbx3.later hX).1 (by omega) (by omega))).trans ((hbx3.later hX).2 j v hv)⟩
          have hO5 : OwnE w1.heap.size (.slice a7 m.length c7) m w5 := by
            refine ⟨hO3.1, ?_⟩
            rcases (hO3.later hX).2 with h1 | ⟨g, cap, cur, h1, h2, h3, h4⟩
            · exact .inl h1
            · exact .inr ⟨g, cap, cur, h1, h2, (hk5.block g (Array.getElem?_eq_some_iff.1 h3).1 (by omega) (by omega)).trans h3, h4⟩
          have hbw5 : Below w.heap.size w w5 := (bgo hbw3 hX).trans ⟨hk5.os, hk5.tape, hk5.output, Nat.le_trans (by have := hbw3.size; omega) hk5.size, fun k hk => hk5.block k (by have := hbw3.size; omega) (by omega) (by omega)⟩
          have c5 : w5.cell? ⟨pb, 0, none⟩ = some (.pointer (some ⟨mb, 0, none⟩)) := hPr5.cell 0
          have hlA : (insE m ip e1).length = m.length + 1 := insE_len (by omega)
          have hcut := ins_cut (l := m) (i := ip) (e := e1) (by omega)
          have hat := ins_at (l := m) (i := ip) (e := e1) (by omega)
          have HE := hid_of' (elements_ok hMd5.mv (by omega))
          unfold pv at HE
          generalize insE m ip e1 = A at HE hlA hcut hat
          clear hMd5 hk5 hPr5 hPr3 hbx3 hO3
          have HX := hid_of' (And.intro hcut hat)
          clear hcut hat
          go_upto_region 13 with (go_at_call 13; refine HE.out.mono ?_; rintro r w6 ⟨v9, rfl, hO9, hb6⟩; clear HE)
          obtain ⟨g9, c9, _, rfl, hE9, hlc9, hc99⟩ := hO9.room (by intro h; rw [h] at hlA; simp at hlA)
          obtain ⟨hcut, hat⟩ := HX.out
          have hce9 := hE9 ip e1 hat
          rw [Nat.zero_add] at hce9
          replace hbx5 := hbx5.later hb6
          have hSl5 := hO5.sl.later hb6
          have HC : Hid (∀ x, Below w6.heap.size w6 x → Calls Tryz.prog 20 #[.slice (some ⟨g9, 0, none⟩) A.length c9, .int .i64 (ip : Int), .int .i64 1] x fun r w' => ∃ u, r = .returned u ∧ OwnE x.heap.size u m w' ∧ Below x.heap.size x w') := fun x hx => by
            have := cut_ok (hE9.later hx) hlc9 hc99 ip (by omega) (by omega)
            rw [hcut] at this
            exact this
          have hwr : IntKind.i64.wrap ((m.length : Int) + 1) = (A.length : Int) := by rw [IntKind.wrap_i64]; omega
          have hlA2 : (ip : Int) < (A.length : Int) := by omega
          have hq := eq_E e1
          have hbF := bgo hbw5 hb6
          clear hcut hat HX hO9 hE9 hO5 c5
          refine wp_region_tail 26 (by kernel_rfl) (fun j => match j with | 6 => some true | 15 => some true | 22 => some true | _ => none) (by kernel_rfl) (by kernel_rfl) (by decide) (fun i v x => match i with
            | 0 => v = .slice (some ⟨g9, 0, none⟩) A.length c9
            | 1 => v = .int .i64 (A.length : Int)
            | 2 => v = .slice a7 m.length c7
            | 3 => v = .int .i64 (m.length : Int)
            | 4 => v = .int .i64 (A.length : Int)
            | 5 => v = .bool true
            | 6 => v = .bool true
            | 7 => v = .slice (some ⟨g9, 0, none⟩) A.length c9
            | 8 => v = .int .i64 (ip : Int)
            | 9 => v = .pointer (some ⟨g9, ip * 5, none⟩)
            | 10 => v = .agg (ev e1)
            | 11 => v = .pointer (some ⟨w.heap.size, 3, none⟩)
            | 12 => v = .agg (ev e1)
            | 13 => v = .bool true
            | 14 => v = .bool true
            | 15 => v = .bool true
            | 16 => v = .slice (some ⟨g9, 0, none⟩) A.length c9
            | 17 => v = .int .i64 (ip : Int)
            | 18 => ∃ B, OwnE B v m x
            | 19 => v = .slice a7 m.length c7
            | 20 => v = .bool true
            | 21 => v = .bool true
            | 22 => v = .bool true
            | 23 => v = .bool true
            | 24 => v = .bool true
            | 25 => v = .bool true
            | _ => True) (fun _ => false) (fun j v x b h hR => by
              match j, h, hR with
              | 6, h, hR => cases h; exact hR
              | 15, h, hR => cases h; exact hR
              | 22, h, hR => cases h; exact hR
              | 0, h, _ | 1, h, _ | 2, h, _ | 3, h, _ | 4, h, _ | 5, h, _ | 7, h, _ | 8, h, _ | 9, h, _ | 10, h, _ | 11, h, _ | 12, h, _ | 13, h, _ | 14, h, _ | 16, h, _ | 17, h, _ | 18, h, _ | 19, h, _ | 20, h, _ | 21, h, _ | 23, h, _ | 24, h, _ | 25, h, _ => cases h
              | m + 26, h, _ => cases h) ?_ ?_ ?_
          · intro i v x x' hR hb
            match i, hR with
            | 0, h => exact h
            | 1, h => exact h
            | 2, h => exact h
            | 3, h => exact h
            | 4, h => exact h
            | 5, h => exact h
            | 6, h => exact h
            | 7, h => exact h
            | 8, h => exact h
            | 9, h => exact h
            | 10, h => exact h
            | 11, h => exact h
            | 12, h => exact h
            | 13, h => exact h
            | 14, h => exact h
            | 15, h => exact h
            | 16, h => exact h
            | 17, h => exact h
            | 18, h => exact (by obtain ⟨B, h⟩ := h; exact ⟨B, OwnE.later h hb⟩)
            | 19, h => exact h
            | 20, h => exact h
            | 21, h => exact h
            | 22, h => exact h
            | 23, h => exact h
            | 24, h => exact h
            | 25, h => exact h
            | m + 26, h => exact h
          · intro i o hi ho q x vals hX hdep hoth
            have t3 : q.tmps[3]? = some (.pointer (some ⟨w.heap.size, 0, none⟩)) := by rw [hoth 3 (by kernel_rfl)]; rfl
            have t7 : q.tmps[7]? = some (.slice a7 m.length c7) := by rw [hoth 7 (by kernel_rfl)]; rfl
            have t8 : q.tmps[8]? = some (.int .i64 (ip : Int)) := by rw [hoth 8 (by kernel_rfl)]; rfl
            have t9 : q.tmps[9]? = some (.slice (some ⟨g9, 0, none⟩) A.length c9) := by rw [hoth 9 (by kernel_rfl)]; rfl
            match i, hi, ho with
            | 0, _, ho =>
              simp only [List.getElem?_cons_zero, Option.some.injEq] at ho
              subst ho
              unfold Oper.wp
              simp [execOp, go_sem, t9]
              exact came _ rfl (Below.refl _ _) rfl (fun h => absurd h (by decide))
            | 1, _, ho =>
              simp only [List.getElem?_cons_succ, List.getElem?_cons_zero, Option.some.injEq] at ho
              subst ho
              obtain ⟨u0, e0⟩ := hdep ⟨0, .data⟩ (by simp) rfl _ 77 rfl rfl
              rw [show vals 0 = .slice (some ⟨g9, 0, none⟩) A.length c9 from e0] at u0
              unfold Oper.wp
              simp [go_sem, u0]
              exact came _ rfl (Below.refl _ _) rfl (fun h => absurd h (by decide))
            | 2, _, ho =>
              simp only [List.getElem?_cons_succ, List.getElem?_cons_zero, Option.some.injEq] at ho
              subst ho
              unfold Oper.wp
              simp [execOp, go_sem, t7]
              exact came _ rfl (Below.refl _ _) rfl (fun h => absurd h (by decide))
            | 3, _, ho =>
              simp only [List.getElem?_cons_succ, List.getElem?_cons_zero, Option.some.injEq] at ho
              subst ho
              obtain ⟨u2, e2⟩ := hdep ⟨2, .data⟩ (by simp) rfl _ 79 rfl rfl
              rw [show vals 2 = .slice a7 m.length c7 from e2] at u2
              unfold Oper.wp
              simp [go_sem, u2]
              exact came _ rfl (Below.refl _ _) rfl (fun h => absurd h (by decide))
            | 4, _, ho =>
              simp only [List.getElem?_cons_succ, List.getElem?_cons_zero, Option.some.injEq] at ho
              subst ho
              obtain ⟨u3, e3⟩ := hdep ⟨3, .data⟩ (by simp) rfl _ 80 rfl rfl
              rw [show vals 3 = .int .i64 (m.length : Int) from e3] at u3
              unfold Oper.wp
              simp [execOp, go_sem, u3, hwr]
              exact came _ rfl (Below.refl _ _) rfl (fun h => absurd h (by decide))
            | 5, _, ho =>
              simp only [List.getElem?_cons_succ, List.getElem?_cons_zero, Option.some.injEq] at ho
              subst ho
              obtain ⟨u1, e1⟩ := hdep ⟨1, .data⟩ (by simp) rfl _ 78 rfl rfl
              rw [show vals 1 = .int .i64 (A.length : Int) from e1] at u1
              obtain ⟨u4, e4⟩ := hdep ⟨4, .data⟩ (by simp) rfl _ 81 rfl rfl
              rw [show vals 4 = .int .i64 (A.length : Int) from e4] at u4
              unfold Oper.wp
              simp [execOp, go_sem, u1, u4]
              exact came _ rfl (Below.refl _ _) rfl (fun h => absurd h (by decide))
            | 6, _, ho =>
              simp only [List.getElem?_cons_succ, List.getElem?_cons_zero, Option.some.injEq] at ho
              subst ho
              obtain ⟨u5, e5⟩ := hdep ⟨5, .data⟩ (by simp) rfl _ 82 rfl rfl
              rw [show vals 5 = .bool true from e5] at u5
              unfold Oper.wp
              simp [execOp, go_sem, u5]
              exact came _ rfl (Below.refl _ _) rfl (fun h => absurd h (by decide))
            | 7, _, ho =>
              simp only [List.getElem?_cons_succ, List.getElem?_cons_zero, Option.some.injEq] at ho
              subst ho
              unfold Oper.wp
              simp [execOp, go_sem, t9]
              exact came _ rfl (Below.refl _ _) rfl (fun h => absurd h (by decide))
            | 8, _, ho =>
              simp only [List.getElem?_cons_succ, List.getElem?_cons_zero, Option.some.injEq] at ho
              subst ho
              unfold Oper.wp
              simp [execOp, go_sem, t8]
              exact came _ rfl (Below.refl _ _) rfl (fun h => absurd h (by decide))
            | 9, _, ho =>
              simp only [List.getElem?_cons_succ, List.getElem?_cons_zero, Option.some.injEq] at ho
              subst ho
              obtain ⟨u7, e7⟩ := hdep ⟨7, .data⟩ (by simp) rfl _ 84 rfl rfl
              rw [show vals 7 = .slice (some ⟨g9, 0, none⟩) A.length c9 from e7] at u7
              obtain ⟨u8, e8⟩ := hdep ⟨8, .data⟩ (by simp) rfl _ 85 rfl rfl
              rw [show vals 8 = .int .i64 (ip : Int) from e8] at u8
              unfold Oper.wp
              simp [execOp, go_sem, u7, u8, hlA2]
              exact came _ rfl (Below.refl _ _) rfl (fun h => absurd h (by decide))
            | 10, _, ho =>
              simp only [List.getElem?_cons_succ, List.getElem?_cons_zero, Option.some.injEq] at ho
              subst ho
              obtain ⟨u9, e9⟩ := hdep ⟨9, .data⟩ (by simp) rfl _ 86 rfl rfl
              rw [show vals 9 = .pointer (some ⟨g9, ip * 5, none⟩) from e9] at u9
              exact opw_loadE _ rfl (by simp [Act.eval, u9]) (hce9.later hX) (came _ rfl (Below.refl _ _) rfl (fun h => absurd h (by decide)))
            | 11, _, ho =>
              simp only [List.getElem?_cons_succ, List.getElem?_cons_zero, Option.some.injEq] at ho
              subst ho
              unfold Oper.wp
              simp [execOp, go_sem, t3]
              exact came _ rfl (Below.refl _ _) rfl (fun h => absurd h (by decide))
            | 12, _, ho =>
              simp only [List.getElem?_cons_succ, List.getElem?_cons_zero, Option.some.injEq] at ho
              subst ho
              obtain ⟨u11, e11⟩ := hdep ⟨11, .data⟩ (by simp) rfl _ 88 rfl rfl
              rw [show vals 11 = .pointer (some ⟨w.heap.size, 3, none⟩) from e11] at u11
              exact opw_loadE _ rfl (by simp [Act.eval, u11]) (hbx5.later hX) (came _ rfl (Below.refl _ _) rfl (fun h => absurd h (by decide)))
            | 13, _, ho =>
              simp only [List.getElem?_cons_succ, List.getElem?_cons_zero, Option.some.injEq] at ho
              subst ho
              obtain ⟨u10, e10⟩ := hdep ⟨10, .data⟩ (by simp) rfl _ 87 rfl rfl
              rw [show vals 10 = .agg (ev e1) from e10] at u10
              obtain ⟨u12, e12⟩ := hdep ⟨12, .data⟩ (by simp) rfl _ 89 rfl rfl
              rw [show vals 12 = .agg (ev e1) from e12] at u12
              unfold Oper.wp
              simp [execOp, go_sem, u10, u12, hq]
              exact came _ rfl (Below.refl _ _) rfl (fun h => absurd h (by decide))
            | 14, _, ho =>
              simp only [List.getElem?_cons_succ, List.getElem?_cons_zero, Option.some.injEq] at ho
              subst ho
              obtain ⟨u6, e6⟩ := hdep ⟨6, .data⟩ (by simp) rfl _ 83 rfl rfl
              rw [show vals 6 = .bool true from e6] at u6
              obtain ⟨u13, e13⟩ := hdep ⟨13, .data⟩ (by simp) rfl _ 90 rfl rfl
              rw [show vals 13 = .bool true from e13] at u13
              unfold Oper.wp
              simp [execOp, go_sem, u6, u13]
              exact came _ rfl (Below.refl _ _) rfl (fun h => absurd h (by decide))
            | 15, _, ho =>
              simp only [List.getElem?_cons_succ, List.getElem?_cons_zero, Option.some.injEq] at ho
              subst ho
              obtain ⟨u14, e14⟩ := hdep ⟨14, .data⟩ (by simp) rfl _ 91 rfl rfl
              rw [show vals 14 = .bool true from e14] at u14
              unfold Oper.wp
              simp [execOp, go_sem, u14]
              exact came _ rfl (Below.refl _ _) rfl (fun h => absurd h (by decide))
            | 16, _, ho =>
              simp only [List.getElem?_cons_succ, List.getElem?_cons_zero, Option.some.injEq] at ho
              subst ho
              unfold Oper.wp
              simp [execOp, go_sem, t9]
              exact came _ rfl (Below.refl _ _) rfl (fun h => absurd h (by decide))
            | 17, _, ho =>
              simp only [List.getElem?_cons_succ, List.getElem?_cons_zero, Option.some.injEq] at ho
              subst ho
              unfold Oper.wp
              simp [execOp, go_sem, t8]
              exact came _ rfl (Below.refl _ _) rfl (fun h => absurd h (by decide))
            | 18, _, ho =>
              simp only [List.getElem?_cons_succ, List.getElem?_cons_zero, Option.some.injEq] at ho
              subst ho
              obtain ⟨u16, e16⟩ := hdep ⟨16, .data⟩ (by simp) rfl _ 93 rfl rfl
              rw [show vals 16 = .slice (some ⟨g9, 0, none⟩) A.length c9 from e16] at u16
              obtain ⟨u17, e17⟩ := hdep ⟨17, .data⟩ (by simp) rfl _ 94 rfl rfl
              rw [show vals 17 = .int .i64 (ip : Int) from e17] at u17
              unfold Oper.wp
              simp [go_sem, u16, u17]
              refine (HC.out _ hX).mono ?_
              rintro r x1 ⟨v18, rfl, ho18, hb1⟩
              exact came _ rfl hb1 ⟨_, ho18⟩ (fun h => absurd h (by decide))
            | 19, _, ho =>
              simp only [List.getElem?_cons_succ, List.getElem?_cons_zero, Option.some.injEq] at ho
              subst ho
              unfold Oper.wp
              simp [execOp, go_sem, t7]
              exact came _ rfl (Below.refl _ _) rfl (fun h => absurd h (by decide))
            | 20, _, ho =>
              simp only [List.getElem?_cons_succ, List.getElem?_cons_zero, Option.some.injEq] at ho
              subst ho
              obtain ⟨u18, e18⟩ := hdep ⟨18, .data⟩ (by simp) rfl _ 95 rfl rfl
              obtain ⟨u19, e19⟩ := hdep ⟨19, .data⟩ (by simp) rfl _ 96 rfl rfl
              rw [show vals 19 = .slice a7 m.length c7 from e19] at u19
              obtain ⟨B1, o1⟩ := e18
              unfold Oper.wp
              simp [go_sem, u18, u19]
              refine (elements_eq o1.sl (hSl5.later hX) (by omega)).mono ?_
              rintro r x1 ⟨rfl, hb1⟩
              exact came _ rfl hb1 rfl (fun h => absurd h (by decide))
            | 21, _, ho =>
              simp only [List.getElem?_cons_succ, List.getElem?_cons_zero, Option.some.injEq] at ho
              subst ho
              obtain ⟨u15, e15⟩ := hdep ⟨15, .data⟩ (by simp) rfl _ 92 rfl rfl
              rw [show vals 15 = .bool true from e15] at u15
              obtain ⟨u20, e20⟩ := hdep ⟨20, .data⟩ (by simp) rfl _ 97 rfl rfl
              rw [show vals 20 = .bool true from e20] at u20
              unfold Oper.wp
              simp [execOp, go_sem, u15, u20]
              exact came _ rfl (Below.refl _ _) rfl (fun h => absurd h (by decide))
            | 22, _, ho =>
              simp only [List.getElem?_cons_succ, List.getElem?_cons_zero, Option.some.injEq] at ho
              subst ho
              obtain ⟨u21, e21⟩ := hdep ⟨21, .data⟩ (by simp) rfl _ 98 rfl rfl
              rw [show vals 21 = .bool true from e21] at u21
              unfold Oper.wp
              simp [execOp, go_sem, u21]
              exact came _ rfl (Below.refl _ _) rfl (fun h => absurd h (by decide))
            | 23, _, ho =>
              simp only [List.getElem?_cons_succ, List.getElem?_cons_zero, Option.some.injEq] at ho
              subst ho
              unfold Oper.wp
              simp [go_sem, ]
              refine (wakes5_ok x).mono ?_
              rintro r x1 ⟨rfl, hb1⟩
              exact came _ rfl hb1 rfl (fun h => absurd h (by decide))
            | 24, _, ho =>
              simp only [List.getElem?_cons_succ, List.getElem?_cons_zero, Option.some.injEq] at ho
              subst ho
              obtain ⟨u22, e22⟩ := hdep ⟨22, .data⟩ (by simp) rfl _ 99 rfl rfl
              rw [show vals 22 = .bool true from e22] at u22
              obtain ⟨u23, e23⟩ := hdep ⟨23, .data⟩ (by simp) rfl _ 100 rfl rfl
              rw [show vals 23 = .bool true from e23] at u23
              unfold Oper.wp
              simp [execOp, go_sem, u22, u23]
              exact came _ rfl (Below.refl _ _) rfl (fun h => absurd h (by decide))
            | 25, _, ho =>
              simp only [List.getElem?_cons_succ, List.getElem?_cons_zero, Option.some.injEq] at ho
              subst ho
              obtain ⟨u24, e24⟩ := hdep ⟨24, .data⟩ (by simp) rfl _ 101 rfl rfl
              rw [show vals 24 = .bool true from e24] at u24
              unfold Oper.wp
              simp [execOp, go_sem, u24]
              exact came _ rfl (Below.refl _ _) rfl (fun h => absurd h (by decide))
            | m + 26, hi, _ => exact absurd hi (by omega)
          · intro vals x9 hX9 hR9 _
            have q25 : vals 25 = .bool true := hR9 25 (by decide)
            simp only [List.take, List.drop, putAll, q25]
            simp only [List.setIfInBounds_toArray, List.set_cons_succ, List.set_cons_zero]
            go_wp2
            go_ret
            exact ⟨rfl, bgo hbF hX9⟩
end Go.Proofs.YtmhijdoojkbcjaaGreatDoor
namespace Go.Proofs.YtmhijdoojkbcjaaGreatDoor
open Go.RowKit Go.Extern.Stop Go.Stop Go.Extern
set_option maxRecDepth 100000

set_option maxHeartbeats 4000000 in
theorem apart_bad {ad : Nat → Addr} {w : World} {u : Value} {l : List El} (L : Laid ad w) (hu : SlE w u l) (hc : ∀ a n c, u = .slice a n c → n ≤ c) (hlm : l.length ≤ 9223372036854775807) (hi : ∀ e ∈ l, e.id.In) (j : Nat) (ej : El) (hej : (l.take 100)[j]? = some ej) (kk : Nat) (hkk : wrK ((l.take 100).take j) ej = some kk) (hf : FineTo (l.take 100) j) (d i n : Int) (e : El) :
    Calls Tryz.prog 4 #[u, .agg (opv d i n e)] w fun r w' => r = .returned (.bool true) ∧ Below w.heap.size w w' := by
  have hbo := below_one w (.cells (opv d i n e) 43)
  have HB := hid_of' (begun_bad (L.below hbo) (hu.later hbo) hc hlm hi j ej hej kk hkk hf)
  have HW := hid_of' wakes5_ok
  obtain ⟨a', c', rfl⟩ := hu.form
  clear hu hc hlm hi hej hkk hf L
  go_enter Tryz.func4, Tryz.ntmps4
  go_upto_region 1 with fail
  change Code.wp _ _ _ _ (w.alloc (.cells (opv d i n e) 43))
  generalize w.alloc (.cells (opv d i n e) 43) = w0 at hbo HB ⊢
  go_wp2_with (first | (go_at_call 6; refine HB.out.mono ?_; rintro r w1 ⟨rfl, hb1⟩; clear HB) | (go_at_call 7; refine (HW.out _).mono ?_; rintro r w2 ⟨rfl, hb2⟩))
  go_ret
  exact ⟨rfl, bgo hbo (bgo hb1 hb2)⟩
theorem modelApart_all {ad : Nat → Addr} {w : World} {u : Value} {l : List El} (L : Laid ad w) (hu : SlE w u l) (hc : ∀ a n c, u = .slice a n c → n ≤ c) (hlm : l.length ≤ 9223372036854775807) (hi : ∀ e ∈ l, e.id.In) (d i n : Int) (e : El) (hd : In64 d) (hii : In64 i) :
    Calls Tryz.prog 4 #[u, .agg (opv d i n e)] w fun r w' => r = .returned (.bool true) ∧ Below w.heap.size w w' := by
  rcases fine_or (l.take 100) with h | ⟨j, ej, kk, h1, h2, h3⟩
  · have h2 := wiN_lt (n := d) (m := 2) (by decide)
    by_cases q : wiN d 2 = 0
    · exact apart_ins L hu hc hlm hi h d i n e hd hii q
    · by_cases hN : n < 0
      · exact apart_down L hu hc hlm hi h d i n e hd hii (by omega) hN
      · exact apart_up L hu hc hlm hi h d i n e hd hii (by omega) hN
  · exact apart_bad L hu hc hlm hi j ej h1 kk h2 h3 d i n e
end Go.Proofs.YtmhijdoojkbcjaaGreatDoor
