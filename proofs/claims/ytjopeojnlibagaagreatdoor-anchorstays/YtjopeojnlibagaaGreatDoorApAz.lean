
/-
  Add of a Model, up to the border of a Hides, and at it. barrowlaw05.ModelApart: the way of an Add. barrowlaw05.ModelApart: the way of an Insert. barrowlaw05.ModelApart.
-/
import Derived.Test.YtjopeojnlibagaaGreatDoorMbA
namespace Go.Proofs.YtjopeojnlibagaaGreatDoor
open Go.RowKit Go.Extern.Stop Go.Stop Go.Extern
set_option maxRecDepth 100000

set_option maxHeartbeats 4000000 in
theorem add_upX {mb tb kb n : Nat} {R : Rows} {l : List El} {f : Idn → Option Int} {w : World} (h : MdAt mb tb kb n R l f w) (ip : Nat) (e0 : El) (he : l[ip]? = some e0) (h1 : -1099511627776 ≤ e0.hd) (h2 : e0.hd ≤ 1099511627776) (hfr : fairH (e0.hd + 1) = true) (hn : l.length + 1 ≤ 1073741824) :
    Calls Tryz.prog 32 #[pv mb, .int .i64 (ip : Int), .int .i64 (1)] w fun r w' => r = .returned .nilIface ∧ MdAt mb tb kb n R (addE l ip (1)) f w' ∧ Kp tb w w' := by
  obtain ⟨ne1, ne2, ne3⟩ := h.ne
  have HA := hid_of' (at_L h.tree ip e0 (by omega) he)
  have HV := hid_of' (fun x => rightHides_any (e0.hd + 1) x)
  rw [hfr] at HV
  have HE := hid_of' (add_is (d := 1) he)
  have hip := (List.getElem?_eq_some_iff.1 he).1
  have c0 : w.cell? ⟨mb, 0, none⟩ = some (.pointer (some ⟨tb, 0, none⟩)) := h.row.cell 0
  clear he hfr
  unfold pv at HA ⊢
  go_enter Tryz.func32, Tryz.ntmps32
  go_upto_region 2 with (first | (go_at_call 60; refine HA.out.mono ?_; rintro r w1 ⟨rfl, hb1⟩) | (refine wpL_storeE rfl _ _ rfl rfl rfl (row_new w1 _ _) ?_))
  have hr5 := (row_new w1 #[.int .i64 0, .int .i64 0, .int .i64 0, .int .i32 0, .int .i64 0] 66).put (ev e0)
  have hB : Below w.heap.size w ((w1.alloc (.cells #[.int .i64 0, .int .i64 0, .int .i64 0, .int .i32 0, .int .i64 0] 66)).setRow w1.heap.size (ev e0)) := bgo hb1 (below_row (below_one w1 _) (Nat.le_refl _) _)
  have hg1 := hb1.size
  generalize (w1.alloc (.cells #[.int .i64 0, .int .i64 0, .int .i64 0, .int .i32 0, .int .i64 0] 66)).setRow w1.heap.size (ev e0) = W5 at hr5 hB ⊢
  generalize w1.heap.size = g at hr5 hg1 ⊢
  clear hb1 HA c0 w1
  have c4 : W5.cell? ⟨g, 4, none⟩ = some (.int .i64 e0.hd) := hr5.cell 4
  have f4 : W5.frozen? ⟨g, 4, none⟩ = false := Lib.frozen_of_heap hr5 4
  go_upto_region 7 with (go_at_call 61; refine (HV.out _).mono ?_; rintro r w2 ⟨rfl, hw⟩; obtain rfl := hw.symm)
  have hr6 : RowAt g (ev (e0.add (1))) 66 (W5.setCell ⟨g, 4, none⟩ (.int .i64 (e0.hd + 1))) := heap_setCell_at hr5 4 _
  have hB6 : Below w.heap.size w (W5.setCell ⟨g, 4, none⟩ (.int .i64 (e0.hd + 1))) := hB.setCell (p := ⟨g, 4, none⟩) hg1 _
  have h6 := h.later hB6
  generalize W5.setCell ⟨g, 4, none⟩ (.int .i64 (e0.hd + 1)) = W6 at hr6 hB6 h6 ⊢
  clear hr5 hB c4 f4 h
  refine wp_region_tail 6 (by kernel_rfl) (fun _ => none) (by kernel_rfl) (by kernel_rfl) (by decide) (fun i v x => match i with
    | 0 => v = .pointer (some ⟨mb, 0, none⟩)
    | 1 => v = .pointer (some ⟨mb, 0, none⟩)
    | 2 => v = .pointer (some ⟨mb, 0, none⟩)
    | 3 => v = .pointer (some ⟨tb, 0, none⟩)
    | 4 => v = .int .i64 (ip : Int)
    | 5 => v = .agg (ev (e0.add (1)))
    | _ => True) (fun _ => false) (fun _ _ _ _ h => by cases h) ?_ ?_ ?_
  · intro i v x x' hR hb
    match i, hR with
    | 0, h => exact h
    | 1, h => exact h
    | 2, h => exact h
    | 3, h => exact h
    | 4, h => exact h
    | 5, h => exact h
    | m + 6, h => exact h
  · intro i o hi ho q x vals hX hdep hoth
    have t0 : q.tmps[0]? = some (.pointer (some ⟨mb, 0, none⟩)) := by rw [hoth 0 (by kernel_rfl)]; rfl
    have t1 : q.tmps[1]? = some (.int .i64 (ip : Int)) := by rw [hoth 1 (by kernel_rfl)]; rfl
    have t7 : q.tmps[7]? = some (.pointer (some ⟨g, 0, none⟩)) := by rw [hoth 7 (by kernel_rfl)]; rfl
    match i, hi, ho with
    | 0, _, ho =>
      simp only [List.getElem?_cons_zero, Option.some.injEq] at ho
      subst ho
      unfold Oper.wp
      simp [execOp, go_sem, t0]
      exact came _ rfl (Below.refl _ _) rfl (fun h => absurd h (by decide))
    | 1, _, ho =>
      simp only [List.getElem?_cons_succ, List.getElem?_cons_zero, Option.some.injEq] at ho
      subst ho
      obtain ⟨u0, e0⟩ := hdep ⟨0, .data⟩ (by simp) rfl _ 45 rfl rfl
      rw [show vals 0 = .pointer (some ⟨mb, 0, none⟩) from e0] at u0
      unfold Oper.wp
      simp [execOp, go_sem, u0]
      exact came _ rfl (Below.refl _ _) rfl (fun h => absurd h (by decide))
    | 2, _, ho =>
      simp only [List.getElem?_cons_succ, List.getElem?_cons_zero, Option.some.injEq] at ho
      subst ho
      obtain ⟨u1, e1⟩ := hdep ⟨1, .data⟩ (by simp) rfl _ 46 rfl rfl
      rw [show vals 1 = .pointer (some ⟨mb, 0, none⟩) from e1] at u1
      unfold Oper.wp
      simp [execOp, go_sem, u1]
      exact came _ rfl (Below.refl _ _) rfl (fun h => absurd h (by decide))
    | 3, _, ho =>
      simp only [List.getElem?_cons_succ, List.getElem?_cons_zero, Option.some.injEq] at ho
      subst ho
      obtain ⟨u2, e2⟩ := hdep ⟨2, .data⟩ (by simp) rfl _ 47 rfl rfl
      rw [show vals 2 = .pointer (some ⟨mb, 0, none⟩) from e2] at u2
      have cc : x.cell? ⟨mb, 0, none⟩ = some (.pointer (some ⟨tb, 0, none⟩)) := (h6.row.later hX).cell 0
      unfold Oper.wp
      simp [execOp, go_sem, u2, cc]
      exact came _ rfl (Below.refl _ _) rfl (fun h => absurd h (by decide))
    | 4, _, ho =>
      simp only [List.getElem?_cons_succ, List.getElem?_cons_zero, Option.some.injEq] at ho
      subst ho
      unfold Oper.wp
      simp [execOp, go_sem, t1]
      exact came _ rfl (Below.refl _ _) rfl (fun h => absurd h (by decide))
    | 5, _, ho =>
      simp only [List.getElem?_cons_succ, List.getElem?_cons_zero, Option.some.injEq] at ho
      subst ho
      exact opw_loadE _ rfl (by simp [Act.eval, t7]) (hr6.in.later hX) (came _ rfl (Below.refl _ _) rfl (fun h => absurd h (by decide)))
    | m + 6, hi, _ => exact absurd hi (by omega)
  · intro vals x9 hX9 hR9 _
    have q3 : vals 3 = .pointer (some ⟨tb, 0, none⟩) := hR9 3 (by decide)
    have q4 : vals 4 = .int .i64 (ip : Int) := hR9 4 (by decide)
    have q5 : vals 5 = .agg (ev (e0.add (1))) := hR9 5 (by decide)
    have h9 := h6.later hX9
    have HN := hid_of' (set_ok h9.tree ip (e0.add (1)) hip hn h9.no (by decide))
    simp only [List.take, List.drop, putAll, q3, q4, q5]
    clear q3 q4 q5 hR9
    simp only [List.setIfInBounds_toArray, List.set_cons_succ, List.set_cons_zero]
    unfold pv at HN
    go_wp2_with (go_at_call 62; refine HN.out.mono ?_; rintro r w10 ⟨rfl, hT10, hk10⟩)
    go_ret
    rw [← HE.out] at hT10
    exact ⟨rfl, ⟨h9.row.kp hk10 ne1, hT10, h9.map.kp hk10 (fun q => ne3 q.symm), h9.no, h9.nom, Nat.le_trans h9.hi hk10.size⟩, (Kp.of (bgo hB6 hX9)).trans hk10⟩
set_option maxHeartbeats 4000000 in
theorem add_downX {mb tb kb n : Nat} {R : Rows} {l : List El} {f : Idn → Option Int} {w : World} (h : MdAt mb tb kb n R l f w) (ip : Nat) (e0 : El) (he : l[ip]? = some e0) (h1 : -1099511627776 ≤ e0.hd) (h2 : e0.hd ≤ 1099511627776) (hfr : fairH (e0.hd + -1) = true) (hn : l.length + 1 ≤ 1073741824) :
    Calls Tryz.prog 32 #[pv mb, .int .i64 (ip : Int), .int .i64 (-1)] w fun r w' => r = .returned .nilIface ∧ MdAt mb tb kb n R (addE l ip (-1)) f w' ∧ Kp tb w w' := by
  obtain ⟨ne1, ne2, ne3⟩ := h.ne
  have HA := hid_of' (at_L h.tree ip e0 (by omega) he)
  have HV := hid_of' (fun x => rightHides_any (e0.hd + -1) x)
  rw [hfr] at HV
  have HE := hid_of' (add_is (d := -1) he)
  have hip := (List.getElem?_eq_some_iff.1 he).1
  have c0 : w.cell? ⟨mb, 0, none⟩ = some (.pointer (some ⟨tb, 0, none⟩)) := h.row.cell 0
  clear he hfr
  unfold pv at HA ⊢
  go_enter Tryz.func32, Tryz.ntmps32
  go_upto_region 2 with (first | (go_at_call 60; refine HA.out.mono ?_; rintro r w1 ⟨rfl, hb1⟩) | (refine wpL_storeE rfl _ _ rfl rfl rfl (row_new w1 _ _) ?_))
  have hr5 := (row_new w1 #[.int .i64 0, .int .i64 0, .int .i64 0, .int .i32 0, .int .i64 0] 66).put (ev e0)
  have hB : Below w.heap.size w ((w1.alloc (.cells #[.int .i64 0, .int .i64 0, .int .i64 0, .int .i32 0, .int .i64 0] 66)).setRow w1.heap.size (ev e0)) := bgo hb1 (below_row (below_one w1 _) (Nat.le_refl _) _)
  have hg1 := hb1.size
  generalize (w1.alloc (.cells #[.int .i64 0, .int .i64 0, .int .i64 0, .int .i32 0, .int .i64 0] 66)).setRow w1.heap.size (ev e0) = W5 at hr5 hB ⊢
  generalize w1.heap.size = g at hr5 hg1 ⊢
  clear hb1 HA c0 w1
  have c4 : W5.cell? ⟨g, 4, none⟩ = some (.int .i64 e0.hd) := hr5.cell 4
  have f4 : W5.frozen? ⟨g, 4, none⟩ = false := Lib.frozen_of_heap hr5 4
  go_upto_region 7 with (go_at_call 61; refine (HV.out _).mono ?_; rintro r w2 ⟨rfl, hw⟩; obtain rfl := hw.symm)
  have hr6 : RowAt g (ev (e0.add (-1))) 66 (W5.setCell ⟨g, 4, none⟩ (.int .i64 (e0.hd + -1))) := heap_setCell_at hr5 4 _
  have hB6 : Below w.heap.size w (W5.setCell ⟨g, 4, none⟩ (.int .i64 (e0.hd + -1))) := hB.setCell (p := ⟨g, 4, none⟩) hg1 _
  have h6 := h.later hB6
  generalize W5.setCell ⟨g, 4, none⟩ (.int .i64 (e0.hd + -1)) = W6 at hr6 hB6 h6 ⊢
  clear hr5 hB c4 f4 h
  refine wp_region_tail 6 (by kernel_rfl) (fun _ => none) (by kernel_rfl) (by kernel_rfl) (by decide) (fun i v x => match i with
    | 0 => v = .pointer (some ⟨mb, 0, none⟩)
    | 1 => v = .pointer (some ⟨mb, 0, none⟩)
    | 2 => v = .pointer (some ⟨mb, 0, none⟩)
    | 3 => v = .pointer (some ⟨tb, 0, none⟩)
    | 4 => v = .int .i64 (ip : Int)
    | 5 => v = .agg (ev (e0.add (-1)))
    | _ => True) (fun _ => false) (fun _ _ _ _ h => by cases h) ?_ ?_ ?_
  · intro i v x x' hR hb
    match i, hR with
    | 0, h => exact h
    | 1, h => exact h
    | 2, h => exact h
    | 3, h => exact h
    | 4, h => exact h
    | 5, h => exact h
    | m + 6, h => exact h
  · intro i o hi ho q x vals hX hdep hoth
    have t0 : q.tmps[0]? = some (.pointer (some ⟨mb, 0, none⟩)) := by rw [hoth 0 (by kernel_rfl)]; rfl
    have t1 : q.tmps[1]? = some (.int .i64 (ip : Int)) := by rw [hoth 1 (by kernel_rfl)]; rfl
    have t7 : q.tmps[7]? = some (.pointer (some ⟨g, 0, none⟩)) := by rw [hoth 7 (by kernel_rfl)]; rfl
    match i, hi, ho with
    | 0, _, ho =>
      simp only [List.getElem?_cons_zero, Option.some.injEq] at ho
      subst ho
      unfold Oper.wp
      simp [execOp, go_sem, t0]
      exact came _ rfl (Below.refl _ _) rfl (fun h => absurd h (by decide))
    | 1, _, ho =>
      simp only [List.getElem?_cons_succ, List.getElem?_cons_zero, Option.some.injEq] at ho
      subst ho
      obtain ⟨u0, e0⟩ := hdep ⟨0, .data⟩ (by simp) rfl _ 45 rfl rfl
      rw [show vals 0 = .pointer (some ⟨mb, 0, none⟩) from e0] at u0
      unfold Oper.wp
      simp [execOp, go_sem, u0]
      exact came _ rfl (Below.refl _ _) rfl (fun h => absurd h (by decide))
    | 2, _, ho =>
      simp only [List.getElem?_cons_succ, List.getElem?_cons_zero, Option.some.injEq] at ho
      subst ho
      obtain ⟨u1, e1⟩ := hdep ⟨1, .data⟩ (by simp) rfl _ 46 rfl rfl
      rw [show vals 1 = .pointer (some ⟨mb, 0, none⟩) from e1] at u1
      unfold Oper.wp
      simp [execOp, go_sem, u1]
      exact came _ rfl (Below.refl _ _) rfl (fun h => absurd h (by decide))
    | 3, _, ho =>
      simp only [List.getElem?_cons_succ, List.getElem?_cons_zero, Option.some.injEq] at ho
      subst ho
      obtain ⟨u2, e2⟩ := hdep ⟨2, .data⟩ (by simp) rfl _ 47 rfl rfl
      rw [show vals 2 = .pointer (some ⟨mb, 0, none⟩) from e2] at u2
      have cc : x.cell? ⟨mb, 0, none⟩ = some (.pointer (some ⟨tb, 0, none⟩)) := (h6.row.later hX).cell 0
      unfold Oper.wp
      simp [execOp, go_sem, u2, cc]
      exact came _ rfl (Below.refl _ _) rfl (fun h => absurd h (by decide))
    | 4, _, ho =>
      simp only [List.getElem?_cons_succ, List.getElem?_cons_zero, Option.some.injEq] at ho
      subst ho
      unfold Oper.wp
      simp [execOp, go_sem, t1]
      exact came _ rfl (Below.refl _ _) rfl (fun h => absurd h (by decide))
    | 5, _, ho =>
      simp only [List.getElem?_cons_succ, List.getElem?_cons_zero, Option.some.injEq] at ho
      subst ho
      exact opw_loadE _ rfl (by simp [Act.eval, t7]) (hr6.in.later hX) (came _ rfl (Below.refl _ _) rfl (fun h => absurd h (by decide)))
    | m + 6, hi, _ => exact absurd hi (by omega)
  · intro vals x9 hX9 hR9 _
    have q3 : vals 3 = .pointer (some ⟨tb, 0, none⟩) := hR9 3 (by decide)
    have q4 : vals 4 = .int .i64 (ip : Int) := hR9 4 (by decide)
    have q5 : vals 5 = .agg (ev (e0.add (-1))) := hR9 5 (by decide)
    have h9 := h6.later hX9
    have HN := hid_of' (set_ok h9.tree ip (e0.add (-1)) hip hn h9.no (by decide))
    simp only [List.take, List.drop, putAll, q3, q4, q5]
    clear q3 q4 q5 hR9
    simp only [List.setIfInBounds_toArray, List.set_cons_succ, List.set_cons_zero]
    unfold pv at HN
    go_wp2_with (go_at_call 62; refine HN.out.mono ?_; rintro r w10 ⟨rfl, hT10, hk10⟩)
    go_ret
    rw [← HE.out] at hT10
    exact ⟨rfl, ⟨h9.row.kp hk10 ne1, hT10, h9.map.kp hk10 (fun q => ne3 q.symm), h9.no, h9.nom, Nat.le_trans h9.hi hk10.size⟩, (Kp.of (bgo hB6 hX9)).trans hk10⟩

set_option maxHeartbeats 1000000 in
theorem add_noU {ad : Nat → Addr} {mb : Nat} {l : List El} {w : World} (h : MvAt mb l w) (L : Laid ad w) (ip : Nat) (e0 : El) (he : l[ip]? = some e0) (h1 : -1099511627776 ≤ e0.hd) (h2 : e0.hd ≤ 1099511627776) (hfr : fairH (e0.hd + 1) = false) (hn : l.length ≤ 1000000) :
    Calls Tryz.prog 32 #[pv mb, .int .i64 (ip : Int), .int .i64 (1)] w fun r w' => ∃ g, r = .returned (.iface 115 (.pointer (some ⟨g, 0, none⟩))) ∧ Below w.heap.size w w' := by
  obtain ⟨tb, v, R, h3, h4⟩ := h
  have HA := hid_of' (at_L h4 ip e0 (by omega) he)
  have HV := hid_of' (fun x => rightHides_any (e0.hd + 1) x)
  rw [hfr] at HV
  have c0 : w.cell? ⟨mb, 0, none⟩ = some (.pointer (some ⟨tb, 0, none⟩)) := h3.cell 0
  have HL := hid_of' L
  clear he hfr h3 h4 L
  unfold pv at HA ⊢
  go_enter Tryz.func32, Tryz.ntmps32
  go_upto_region 2 with (first | (go_at_call 60; refine HA.out.mono ?_; rintro r w1 ⟨rfl, hb1⟩) | (refine wpL_storeE rfl _ _ rfl rfl rfl (row_new w1 _ _) ?_))
  have hr5 := (row_new w1 #[.int .i64 0, .int .i64 0, .int .i64 0, .int .i32 0, .int .i64 0] 66).put (ev e0)
  have hB : Below w.heap.size w ((w1.alloc (.cells #[.int .i64 0, .int .i64 0, .int .i64 0, .int .i32 0, .int .i64 0] 66)).setRow w1.heap.size (ev e0)) := bgo hb1 (below_row (below_one w1 _) (Nat.le_refl _) _)
  generalize (w1.alloc (.cells #[.int .i64 0, .int .i64 0, .int .i64 0, .int .i32 0, .int .i64 0] 66)).setRow w1.heap.size (ev e0) = W5 at hr5 hB ⊢
  generalize w1.heap.size = g at hr5 ⊢
  have c4 : W5.cell? ⟨g, 4, none⟩ = some (.int .i64 e0.hd) := hr5.cell 4
  have l0 : W5.cell? ⟨0, 0, none⟩ = some (.iface 229 (.pointer (some (ad 0)))) := (HL.out.below hB).var 0 (by decide)
  have HR := hid_of' (fun x => refusalM (ad := ad) ⟨#[65, 100, 100]⟩ (ip : Int) 0 x)
  go_wp2_with (first | (go_at_call 61; refine (HV.out _).mono ?_; rintro r w2 ⟨rfl, hw⟩; obtain rfl := hw.symm) | (go_at_call 54; refine (HR.out _).mono ?_; rintro r w3 ⟨rfl, _, hb3⟩))
  go_ret
  exact ⟨_, rfl, bgo hB hb3⟩

set_option maxHeartbeats 1000000 in
theorem add_noD {ad : Nat → Addr} {mb : Nat} {l : List El} {w : World} (h : MvAt mb l w) (L : Laid ad w) (ip : Nat) (e0 : El) (he : l[ip]? = some e0) (h1 : -1099511627776 ≤ e0.hd) (h2 : e0.hd ≤ 1099511627776) (hfr : fairH (e0.hd + -1) = false) (hn : l.length ≤ 1000000) :
    Calls Tryz.prog 32 #[pv mb, .int .i64 (ip : Int), .int .i64 (-1)] w fun r w' => ∃ g, r = .returned (.iface 115 (.pointer (some ⟨g, 0, none⟩))) ∧ Below w.heap.size w w' := by
  obtain ⟨tb, v, R, h3, h4⟩ := h
  have HA := hid_of' (at_L h4 ip e0 (by omega) he)
  have HV := hid_of' (fun x => rightHides_any (e0.hd + -1) x)
  rw [hfr] at HV
  have c0 : w.cell? ⟨mb, 0, none⟩ = some (.pointer (some ⟨tb, 0, none⟩)) := h3.cell 0
  have HL := hid_of' L
  clear he hfr h3 h4 L
  unfold pv at HA ⊢
  go_enter Tryz.func32, Tryz.ntmps32
  go_upto_region 2 with (first | (go_at_call 60; refine HA.out.mono ?_; rintro r w1 ⟨rfl, hb1⟩) | (refine wpL_storeE rfl _ _ rfl rfl rfl (row_new w1 _ _) ?_))
  have hr5 := (row_new w1 #[.int .i64 0, .int .i64 0, .int .i64 0, .int .i32 0, .int .i64 0] 66).put (ev e0)
  have hB : Below w.heap.size w ((w1.alloc (.cells #[.int .i64 0, .int .i64 0, .int .i64 0, .int .i32 0, .int .i64 0] 66)).setRow w1.heap.size (ev e0)) := bgo hb1 (below_row (below_one w1 _) (Nat.le_refl _) _)
  generalize (w1.alloc (.cells #[.int .i64 0, .int .i64 0, .int .i64 0, .int .i32 0, .int .i64 0] 66)).setRow w1.heap.size (ev e0) = W5 at hr5 hB ⊢
  generalize w1.heap.size = g at hr5 ⊢
  have c4 : W5.cell? ⟨g, 4, none⟩ = some (.int .i64 e0.hd) := hr5.cell 4
  have l0 : W5.cell? ⟨0, 0, none⟩ = some (.iface 229 (.pointer (some (ad 0)))) := (HL.out.below hB).var 0 (by decide)
  have HR := hid_of' (fun x => refusalM (ad := ad) ⟨#[65, 100, 100]⟩ (ip : Int) 0 x)
  go_wp2_with (first | (go_at_call 61; refine (HV.out _).mono ?_; rintro r w2 ⟨rfl, hw⟩; obtain rfl := hw.symm) | (go_at_call 54; refine (HR.out _).mono ?_; rintro r w3 ⟨rfl, _, hb3⟩))
  go_ret
  exact ⟨_, rfl, bgo hB hb3⟩
end Go.Proofs.YtjopeojnlibagaaGreatDoor
namespace Go.Proofs.YtjopeojnlibagaaGreatDoor
open Go.RowKit Go.Extern.Stop Go.Stop Go.Extern
set_option maxRecDepth 100000

def wiN (n : Int) (m : Nat) : Nat := if n.tmod (m : Int) < 0 then (n.tmod (m : Int) + m).toNat else (n.tmod (m : Int)).toNat
theorem wiN_lt {n : Int} {m : Nat} (hm : 0 < m) : wiN n m < m := by
  have t1 : n.tmod (m : Int) < (m : Int) := Int.tmod_lt_of_pos n (by omega)
  unfold wiN
  split <;> omega
theorem within_is (n : Int) (m : Nat) (w : World) (hm : 0 < m) (hm2 : m ≤ 1073741824) (_h : In64 n) :
    Calls Tryz.prog 25 #[.int .i64 n, .int .i64 (m : Int)] w fun r w' => r = .returned (.int .i64 (wiN n m : Int)) ∧ w' = w := by
  obtain ⟨_h1, _h2⟩ := _h
  have m0 : ((m : Int) == 0) = false := by rw [beq_eq_false_iff_ne]; omega
  have t1 : n.tmod (m : Int) < (m : Int) := Int.tmod_lt_of_pos n (by omega)
  have t2 : -(m : Int) < n.tmod (m : Int) := by
    have := Int.tmod_lt_of_pos (-n) (show (0 : Int) < (m : Int) by omega)
    rw [Int.neg_tmod] at this
    omega
  unfold wiN
  obtain ⟨t, et⟩ : ∃ t, n.tmod (m : Int) = t := ⟨_, rfl⟩
  rw [et] at t1 t2 ⊢
  by_cases ht : t < 0
  · rw [if_pos ht, Int.toNat_of_nonneg (by omega)]
    go_enter Tryz.func25, Tryz.ntmps25
    go_wp2
    go_ret
    exact ⟨rfl, rfl⟩
  · rw [if_neg ht, Int.toNat_of_nonneg (by omega)]
    go_enter Tryz.func25, Tryz.ntmps25
    go_wp2
    go_ret
    exact ⟨rfl, rfl⟩
theorem add_back {l : List El} {i : Nat} {e : El} {d : Int} (h : l[i]? = some e) : (addE l i d).set i e = l := by
  rw [add_is h]
  apply List.ext_getElem?
  intro j
  rw [List.set_set, List.getElem?_set]
  split
  · rename_i q
    subst q
    rw [if_pos (List.getElem?_eq_some_iff.1 h).1, h]
  · rfl
def opv (d i n : Int) (e : El) : Array Value := #[.int .i64 d, .int .i64 i, .int .i64 n, .int .i64 e.ep, .int .i64 e.rp, .int .i64 e.no, .int .i32 e.ch, .int .i64 e.hd]
theorem ElsAt.there {g : Nat} {l : List El} {w : World} (h : ElsAt g 0 l w) (hrow : ∃ cs, RowAt g cs 66 w) {i : Nat} (hi : i < l.length) : w.there g (i * 5) 5 := fun j hj => by
  obtain ⟨cs, hcs⟩ := hrow
  obtain ⟨e0, he0⟩ : ∃ e, l[i]? = some e := ⟨_, List.getElem?_eq_getElem hi⟩
  have h1 := (h i e0 he0).2 j ((ev e0)[j]'(by simp [ev]; omega)) (Array.getElem?_eq_getElem _)
  rw [Nat.zero_add] at h1
  exact ⟨by rw [h1]; rfl, Lib.frozen_of_heap hcs _⟩
theorem OwnE.rowEx {base g n c : Nat} {l : List El} {w : World} (h : OwnE base (.slice (some ⟨g, 0, none⟩) n c) l w) : ∃ cs, RowAt g cs 66 w := by
  rcases h.2 with ⟨h1, _⟩ | ⟨g2, cap, cur, k1, _, k3, _⟩
  · cases h1
  · simp only [Value.slice.injEq, Option.some.injEq, Addr.mk.injEq] at k1
    obtain ⟨⟨rfl, _⟩, _, _⟩ := k1
    exact ⟨cur, k3⟩
theorem ElsAt.put {g : Nat} {l : List El} {w : World} (h : ElsAt g 0 l w) (hrow : ∃ cs, RowAt g cs 66 w) {i : Nat} (hi : i < l.length) (x : El) : ElsAt g 0 (l.set i x) (w.setCells g (i * 5) (ev x).toList) := by
  obtain ⟨cs, hcs⟩ := hrow
  have hg : g < (w.setCells g (i * 5) (ev x).toList).heap.size := by
    obtain ⟨cs', h1, _⟩ := RowN.cells (ev x).toList (i * 5) w ⟨cs, hcs, rfl⟩
    exact h1.lt
  have hth : w.there g (i * 5) 5 := h.there ⟨cs, hcs⟩ hi
  intro k y hy
  refine ⟨hg, fun j v hv => ?_⟩
  have hj : j < 5 := by
    have := (Array.getElem?_eq_some_iff.1 hv).1
    simpa [ev] using this
  rw [Nat.zero_add]
  by_cases q : i = k
  · subst q
    rw [List.getElem?_set_self hi, Option.some.injEq] at hy
    subst hy
    exact World.rangeAt_setCells_same w g (i * 5) (ev x).toList (by simpa [ev] using hth) j v (by simpa using hv)
  · rw [List.getElem?_set_ne q] at hy
    have h0 : w.cell? ⟨g, k * 5 + j, none⟩ = some v := by have := (h k y hy).2 j v hv; rwa [Nat.zero_add] at this
    rw [World.cell?_setCells_out g (ev x).toList (i * 5) w ⟨g, k * 5 + j, none⟩ (fun _ _ => by
      show k * 5 + j < i * 5 ∨ i * 5 + (ev x).toList.length ≤ k * 5 + j
      simp [ev]
      omega)]
    exact h0

end Go.Proofs.YtjopeojnlibagaaGreatDoor
namespace Go.Proofs.YtjopeojnlibagaaGreatDoor
open Go.RowKit Go.Extern.Stop Go.Stop Go.Extern
set_option maxRecDepth 100000

theorem copyE_ok {w : World} {v : Value} {l : List El} (h : SlE w v l) (hn : l.length ≤ 1000000) :
    Calls Tryz.prog 59 #[v] w fun r w' => ∃ u, r = .returned u ∧ OwnE w.heap.size u l w' ∧ Below w.heap.size w w' := by
  have HA := hid_of' (h.later (below_one w (.cells #[] 66)))
  obtain ⟨a0, c0, rfl⟩ := h.form
  go_enter Tryz.func59, Tryz.ntmps59
  go_wp2_with (at_builtin; refine wpL_appE (xs := []) (l := l) rfl _ _ rfl rfl rfl (own_empty w) HA.out (by simpa using (show l.length ≤ 1099511627776 by omega)) (by simp) ?_; intro v1 w1 o1 hg1)
  go_ret
  exact ⟨_, rfl, o1, (below_one w (.cells #[] 66)).grown hg1 (by simp) (fun k hk => ((own_empty w).lt k hk).1)⟩
theorem wpL_storeI {ops : Array Oper} {rest : List Oper} {o : Oper} {A : Act} {w : World} {Q : Exit → Act → World → Prop} (hgd : o.guard = none) (x y : Operand) (ho : o.op = .store 29 x y) {g off : Nat} (hx : A.eval x = .pointer (some ⟨g, off, none⟩)) {a b c : Int} (hy : A.eval y = .agg (idc a b c)) (ht : w.there g off 3)
    (k : wpList Tryz.prog ops Q rest (A.put o.dst undef) (w.setCells g off (idc a b c).toList)) : wpList Tryz.prog ops Q (o :: rest) A w :=
  wpList_store_mid hgd _ x y ho g off (idc a b c) hx hy ht (id_size a b c) (by simp [idc, Value.oneCell']) k
theorem ins_cut {l : List El} {i : Nat} {e : El} (hi : i ≤ l.length) : (insE l i e).take i ++ (insE l i e).drop (i + 1) = l := by
  unfold insE
  have h1 : (l.take i).length = i := by rw [List.length_take]; omega
  rw [List.take_left' h1]
  have h2 : (l.take i ++ e :: l.drop i).drop (i + 1) = l.drop i := by
    rw [List.drop_append, h1, List.drop_of_length_le (by omega)]
    simp
  rw [h2, List.take_append_drop]
theorem ins_at {l : List El} {i : Nat} {e : El} (hi : i ≤ l.length) : (insE l i e)[i]? = some e := by
  unfold insE
  have h1 : (l.take i).length = i := by rw [List.length_take]; omega
  rw [List.getElem?_append_right (by omega), h1]
  simp
theorem hasI_mem {l : List El} {e : El} (h : e ∈ l) : hasI l e.id = true := List.any_eq_true.2 ⟨e, h, by simp⟩

end Go.Proofs.YtjopeojnlibagaaGreatDoor
namespace Go.Proofs.YtjopeojnlibagaaGreatDoor
open Go.RowKit Go.Extern.Stop Go.Stop Go.Extern
set_option maxRecDepth 100000

end Go.Proofs.YtjopeojnlibagaaGreatDoor
