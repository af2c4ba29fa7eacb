
/-
  tree.balanced.
-/
import Derived.Test.YtjalehlmldlooaaGreatDoorZap07
namespace Go.Proofs.YtjalehlmldlooaaGreatDoor
open Go.RowKit
set_option maxRecDepth 100000

theorem nd_ht {R : Rows} {t : Nd} {w : World} (h : t.At R w) : w.cell? ⟨t.blk, 3, none⟩ = some (.int .i64 (t.ht : Int)) := by
  obtain ⟨a1, a2, a3, hr⟩ := h.row
  exact hr.cell 3
theorem nd_sz {R : Rows} {t : Nd} {w : World} (h : t.At R w) : w.cell? ⟨t.blk, 4, none⟩ = some (.int .i64 (t.els.length : Int)) := by
  obtain ⟨a1, a2, a3, hr⟩ := h.row
  exact hr.cell 4
theorem nd_l {R : Rows} {b : Nat} {p q : Nd} {w : World} (h : (Nd.inner b p q).At R w) : w.cell? ⟨b, 0, none⟩ = some (.pointer (some ⟨p.blk, 0, none⟩)) := h.1.cell 0
theorem nd_r {R : Rows} {b : Nat} {p q : Nd} {w : World} (h : (Nd.inner b p q).At R w) : w.cell? ⟨b, 1, none⟩ = some (.pointer (some ⟨q.blk, 0, none⟩)) := h.1.cell 1

set_option maxHeartbeats 4000000 in
theorem bal2 {R : Rows} {nx np nq : Nd} {b : Nat} {w : World} (hx : (nx).At R w) (hy : (Nd.inner b np nq).At R w) (fx : (nx).Full) (fy : (Nd.inner b np nq).Full) (hn : ((nx).els ++ (Nd.inner b np nq).els).length ≤ 1073741824) (c1 : nx.ht + 1 < (Nd.inner b np nq).ht) (c2 : ¬ nq.ht < np.ht) :
    Calls Tryz.prog 95 #[.pointer (some ⟨nx.blk, 0, none⟩), .pointer (some ⟨b, 0, none⟩)] w fun r w' => ∃ v, r = .returned v ∧ TreeOf R ((nx).els ++ (Nd.inner b np nq).els) ((nx).leaves ++ (Nd.inner b np nq).leaves) v w' ∧ Below w.heap.size w w' := by
  obtain ⟨xh, exh⟩ : ∃ h : Int, (nx.ht : Int) = h := ⟨_, rfl⟩
  obtain ⟨ph, eph⟩ : ∃ h : Int, (np.ht : Int) = h := ⟨_, rfl⟩
  obtain ⟨qh, eqh⟩ : ∃ h : Int, (nq.ht : Int) = h := ⟨_, rfl⟩
  obtain ⟨yh, eyh⟩ : ∃ h : Int, ((Nd.inner b np nq).ht : Int) = h := ⟨_, rfl⟩
  have g1 : xh + 1 < yh := by omega
  have g2 : ¬ qh < ph := by omega
  have g3 : 0 ≤ xh ∧ xh ≤ 1073741824 := by have := fx.ht_le; rw [List.length_append] at hn; omega
  clear c1 c2
  simp only [Nd.els, List.length_append] at hn
  have HN := hid_of' hn
  have hB := Below.refl w.heap.size w
  clear hn
  go_enter Tryz.func95, Tryz.ntmps95
  go_upto_region 1 with fail
  have s1 : ∀ s : Wld w, (wOf s).cell? ⟨b, 3, none⟩ = some (.int .i64 yh) := fun s => eyh ▸ nd_ht (hy.later (wOf_below s))
  have s2 : ∀ s : Wld w, (wOf s).cell? ⟨nx.blk, 3, none⟩ = some (.int .i64 xh) := fun s => exh ▸ nd_ht (hx.later (wOf_below s))
  have s3 : ∀ s : Wld w, (wOf s).cell? ⟨b, 0, none⟩ = some (.pointer (some ⟨np.blk, 0, none⟩)) := fun s => nd_l (hy.later (wOf_below s))
  have s4 : ∀ s : Wld w, (wOf s).cell? ⟨b, 1, none⟩ = some (.pointer (some ⟨nq.blk, 0, none⟩)) := fun s => nd_r (hy.later (wOf_below s))
  have s5 : ∀ s : Wld w, (wOf s).cell? ⟨np.blk, 3, none⟩ = some (.int .i64 ph) := fun s => eph ▸ nd_ht (hy.2.1.later (wOf_below s))
  have s6 : ∀ s : Wld w, (wOf s).cell? ⟨nq.blk, 3, none⟩ = some (.int .i64 qh) := fun s => eqh ▸ nd_ht (hy.2.2.later (wOf_below s))
  refine wp_region_cls (by kernel_rfl) (by kernel_rfl) ?_
  repeat (first | go_big_quiet_skip | (go_big_quiet_want; first | (go_big_quiet_op; first | go_big_quiet_on | go_big_quiet_call ((fail)))))
  refine wpQuiet_nil ?_
  rintro w1 ⟨s1, e1⟩
  have hb1 := wOf_below s1
  rw [← e1] at hb1
  clear e1 s1
  replace hx := hx.later hb1
  replace hy := hy.later hb1
  replace hB := bgo hB hb1
  clear hb1
  clear s1 s2 s3 s4 s5 s6
  go_upto_region 3 with fail
  have s1 : ∀ s : Wld w1, (wOf s).cell? ⟨b, 3, none⟩ = some (.int .i64 yh) := fun s => eyh ▸ nd_ht (hy.later (wOf_below s))
  have s2 : ∀ s : Wld w1, (wOf s).cell? ⟨nx.blk, 3, none⟩ = some (.int .i64 xh) := fun s => exh ▸ nd_ht (hx.later (wOf_below s))
  refine wp_region_cls (by kernel_rfl) (by kernel_rfl) ?_
  repeat (first | go_big_quiet_skip | (go_big_quiet_want; first | (go_big_quiet_op; first | go_big_quiet_on | go_big_quiet_call ((fail)))))
  refine wpQuiet_nil ?_
  rintro w1 ⟨s1, e1⟩
  have hb1 := wOf_below s1
  rw [← e1] at hb1
  clear e1 s1
  replace hx := hx.later hb1
  replace hy := hy.later hb1
  replace hB := bgo hB hb1
  clear hb1
  clear s1 s2
  go_upto_region 4 with fail
  refine wp_region_tail 11 (by kernel_rfl) (fun _ => none) (by kernel_rfl) (by kernel_rfl) (by decide) (fun i v x => match i with
    | 0 => v = .pointer (some ⟨nx.blk, 0, none⟩)
    | 1 => v = .pointer (some ⟨b, 0, none⟩)
    | 2 => v = .pointer (some ⟨b, 0, none⟩)
    | 3 => v = .pointer (some ⟨b, 0, none⟩)
    | 4 => v = .pointer (some ⟨np.blk, 0, none⟩)
    | 5 => TreeOf R ((nx.els) ++ (np.els)) ((nx.leaves) ++ (np.leaves)) v x
    | 6 => v = .pointer (some ⟨b, 0, none⟩)
    | 7 => v = .pointer (some ⟨b, 0, none⟩)
    | 8 => v = .pointer (some ⟨b, 1, none⟩)
    | 9 => v = .pointer (some ⟨nq.blk, 0, none⟩)
    | 10 => TreeOf R (((nx.els) ++ (np.els)) ++ (nq.els)) (((nx.leaves) ++ (np.leaves)) ++ (nq.leaves)) v x
    | _ => True) (fun _ => false) (fun _ _ _ _ h => by cases h) ?_ ?_ ?_
  · intro i v x x' hR hb
    match i, hR with
    | 0, h => exact h
    | 1, h => exact h
    | 2, h => exact h
    | 3, h => exact h
    | 4, h => exact h
    | 5, h => exact TreeOf.later h hb
    | 6, h => exact h
    | 7, h => exact h
    | 8, h => exact h
    | 9, h => exact h
    | 10, h => exact TreeOf.later h hb
    | m + 11, h => exact h
  · intro i o hi ho q x vals hX hdep hoth
    have t0 : q.tmps[0]? = some (.pointer (some ⟨nx.blk, 0, none⟩)) := by rw [hoth 0 (by kernel_rfl)]; rfl
    have t1 : q.tmps[1]? = some (.pointer (some ⟨b, 0, none⟩)) := by rw [hoth 1 (by kernel_rfl)]; rfl
    match i, hi, ho with
    | 0, _, ho =>
      simp only [List.getElem?_cons_zero, Option.some.injEq] at ho
      subst ho
      unfold Oper.wp
      simp [execOp, go_sem, t0]
      exact came _ rfl (Below.refl _ _) rfl (fun h => absurd h (by decide))
    | 1, _, ho =>
      simp only [List.getElem?_cons_succ, List.getElem?_cons_zero, Option.some.injEq] at ho
      subst ho
      unfold Oper.wp
      simp [execOp, go_sem, t1]
      exact came _ rfl (Below.refl _ _) rfl (fun h => absurd h (by decide))
    | 2, _, ho =>
      simp only [List.getElem?_cons_succ, List.getElem?_cons_zero, Option.some.injEq] at ho
      subst ho
      obtain ⟨u1, e1⟩ := hdep ⟨1, .data⟩ (by simp) rfl _ 67 rfl rfl
      rw [show vals 1 = .pointer (some ⟨b, 0, none⟩) from e1] at u1
      unfold Oper.wp
      simp [execOp, go_sem, u1]
      exact came _ rfl (Below.refl _ _) rfl (fun h => absurd h (by decide))
    | 3, _, ho =>
      simp only [List.getElem?_cons_succ, List.getElem?_cons_zero, Option.some.injEq] at ho
      subst ho
      obtain ⟨u2, e2⟩ := hdep ⟨2, .data⟩ (by simp) rfl _ 68 rfl rfl
      rw [show vals 2 = .pointer (some ⟨b, 0, none⟩) from e2] at u2
      unfold Oper.wp
      simp [execOp, go_sem, u2]
      exact came _ rfl (Below.refl _ _) rfl (fun h => absurd h (by decide))
    | 4, _, ho =>
      simp only [List.getElem?_cons_succ, List.getElem?_cons_zero, Option.some.injEq] at ho
      subst ho
      obtain ⟨u3, e3⟩ := hdep ⟨3, .data⟩ (by simp) rfl _ 69 rfl rfl
      rw [show vals 3 = .pointer (some ⟨b, 0, none⟩) from e3] at u3
      have cc : x.cell? ⟨b, 0, none⟩ = some (.pointer (some ⟨np.blk, 0, none⟩)) := nd_l (hy.later hX)
      unfold Oper.wp
      simp [execOp, go_sem, u3, cc]
      exact came _ rfl (Below.refl _ _) rfl (fun h => absurd h (by decide))
    | 5, _, ho =>
      simp only [List.getElem?_cons_succ, List.getElem?_cons_zero, Option.some.injEq] at ho
      subst ho
      obtain ⟨u0, e0⟩ := hdep ⟨0, .data⟩ (by simp) rfl _ 66 rfl rfl
      rw [show vals 0 = .pointer (some ⟨nx.blk, 0, none⟩) from e0] at u0
      obtain ⟨u4, e4⟩ := hdep ⟨4, .data⟩ (by simp) rfl _ 70 rfl rfl
      rw [show vals 4 = .pointer (some ⟨np.blk, 0, none⟩) from e4] at u4
      unfold Oper.wp
      simp [go_sem, u0, u4]
      refine (inner_any (hx.later hX) (hy.2.1.later hX) fx fy.1 (by simp only [List.length_append]; have := HN.out; omega)).mono ?_
      rintro r x1 ⟨bb, _, rfl, ht, hb1⟩
      exact came _ rfl hb1 ⟨.inner bb nx np, rfl, ht, ⟨fx, fy.1⟩, by show Nd.els nx ++ Nd.els np = _; rfl, by show Nd.leaves nx ++ Nd.leaves np = _; rfl⟩ (fun h => absurd h (by decide))
    | 6, _, ho =>
      simp only [List.getElem?_cons_succ, List.getElem?_cons_zero, Option.some.injEq] at ho
      subst ho
      unfold Oper.wp
      simp [execOp, go_sem, t1]
      exact came _ rfl (Below.refl _ _) rfl (fun h => absurd h (by decide))
    | 7, _, ho =>
      simp only [List.getElem?_cons_succ, List.getElem?_cons_zero, Option.some.injEq] at ho
      subst ho
      obtain ⟨u6, e6⟩ := hdep ⟨6, .data⟩ (by simp) rfl _ 72 rfl rfl
      rw [show vals 6 = .pointer (some ⟨b, 0, none⟩) from e6] at u6
      unfold Oper.wp
      simp [execOp, go_sem, u6]
      exact came _ rfl (Below.refl _ _) rfl (fun h => absurd h (by decide))
    | 8, _, ho =>
      simp only [List.getElem?_cons_succ, List.getElem?_cons_zero, Option.some.injEq] at ho
      subst ho
      obtain ⟨u7, e7⟩ := hdep ⟨7, .data⟩ (by simp) rfl _ 73 rfl rfl
      rw [show vals 7 = .pointer (some ⟨b, 0, none⟩) from e7] at u7
      unfold Oper.wp
      simp [execOp, go_sem, u7]
      exact came _ rfl (Below.refl _ _) rfl (fun h => absurd h (by decide))
    | 9, _, ho =>
      simp only [List.getElem?_cons_succ, List.getElem?_cons_zero, Option.some.injEq] at ho
      subst ho
      obtain ⟨u8, e8⟩ := hdep ⟨8, .data⟩ (by simp) rfl _ 74 rfl rfl
      rw [show vals 8 = .pointer (some ⟨b, 1, none⟩) from e8] at u8
      have cc : x.cell? ⟨b, 1, none⟩ = some (.pointer (some ⟨nq.blk, 0, none⟩)) := nd_r (hy.later hX)
      unfold Oper.wp
      simp [execOp, go_sem, u8, cc]
      exact came _ rfl (Below.refl _ _) rfl (fun h => absurd h (by decide))
    | 10, _, ho =>
      simp only [List.getElem?_cons_succ, List.getElem?_cons_zero, Option.some.injEq] at ho
      subst ho
      obtain ⟨u5, e5⟩ := hdep ⟨5, .data⟩ (by simp) rfl _ 71 rfl rfl
      obtain ⟨n5, p5, g5, f5, l5, v5⟩ : TreeOf R ((nx.els) ++ (np.els)) ((nx.leaves) ++ (np.leaves)) (vals 5) x := e5
      rw [p5] at u5
      unfold pv at u5
      obtain ⟨u9, e9⟩ := hdep ⟨9, .data⟩ (by simp) rfl _ 75 rfl rfl
      rw [show vals 9 = .pointer (some ⟨nq.blk, 0, none⟩) from e9] at u9
      unfold Oper.wp
      simp [go_sem, u5, u9]
      refine (inner_any g5 (hy.2.2.later hX) f5 fy.2 (by rw [l5]; simp only [List.length_append]; have := HN.out; omega)).mono ?_
      rintro r x1 ⟨bb, _, rfl, ht, hb1⟩
      exact came _ rfl hb1 ⟨.inner bb n5 nq, rfl, ht, ⟨f5, fy.2⟩, by show Nd.els n5 ++ Nd.els nq = _; simp only [l5, List.append_assoc], by show Nd.leaves n5 ++ Nd.leaves nq = _; simp only [v5, List.append_assoc]⟩ (fun h => absurd h (by decide))
    | m + 11, hi, _ => exact absurd hi (by omega)
  · intro vals x' hX hR _
    obtain ⟨t, k1, k2, k3, k4, k5⟩ : TreeOf R (((nx.els) ++ (np.els)) ++ (nq.els)) (((nx.leaves) ++ (np.leaves)) ++ (nq.leaves)) (vals 10) x' := hR 10 (by decide)
    simp only [List.take, List.drop, putAll, k1]
    unfold pv
    go_wp2
    go_ret
    refine ⟨_, rfl, ⟨t, rfl, k2, k3, ?_, ?_⟩, bgo hB hX⟩
    · rw [k4]; simp only [Nd.els, List.append_assoc]
    · rw [k5]; simp only [Nd.leaves, List.append_assoc]

set_option maxHeartbeats 4000000 in
theorem bal1 {R : Rows} {nx np nq nz : Nd} {b b' : Nat} {w : World} (hx : (nx).At R w) (hy : (Nd.inner b (Nd.inner b' np nq) nz).At R w) (fx : (nx).Full) (fy : (Nd.inner b (Nd.inner b' np nq) nz).Full) (hn : ((nx).els ++ (Nd.inner b (Nd.inner b' np nq) nz).els).length ≤ 1073741824) (c1 : nx.ht + 1 < (Nd.inner b (Nd.inner b' np nq) nz).ht) (c2 : nz.ht < (Nd.inner b' np nq).ht) :
    Calls Tryz.prog 95 #[.pointer (some ⟨nx.blk, 0, none⟩), .pointer (some ⟨b, 0, none⟩)] w fun r w' => ∃ v, r = .returned v ∧ TreeOf R ((nx).els ++ (Nd.inner b (Nd.inner b' np nq) nz).els) ((nx).leaves ++ (Nd.inner b (Nd.inner b' np nq) nz).leaves) v w' ∧ Below w.heap.size w w' := by
  obtain ⟨xh, exh⟩ : ∃ h : Int, ((nx).ht : Int) = h := ⟨_, rfl⟩
  obtain ⟨yh, eyh⟩ : ∃ h : Int, ((Nd.inner b (Nd.inner b' np nq) nz).ht : Int) = h := ⟨_, rfl⟩
  obtain ⟨lh, elh⟩ : ∃ h : Int, ((Nd.inner b' np nq).ht : Int) = h := ⟨_, rfl⟩
  obtain ⟨zh, ezh⟩ : ∃ h : Int, ((nz).ht : Int) = h := ⟨_, rfl⟩
  have gx : 0 ≤ xh ∧ xh ≤ 1073741824 := by have := fx.ht_le; rw [List.length_append] at hn; omega
  have gy : 0 ≤ yh ∧ yh ≤ 1073741824 := by have := fy.ht_le; rw [List.length_append] at hn; omega
  have g1 : xh + 1 < yh := by omega
  have g2 : zh < lh := by omega
  clear c1 c2
  simp only [Nd.els, List.length_append] at hn
  have HN := hid_of' hn
  have hB := Below.refl w.heap.size w
  clear hn
  go_enter Tryz.func95, Tryz.ntmps95
  go_upto_region 1 with fail
  have s1 : ∀ s : Wld w, (wOf s).cell? ⟨b, 3, none⟩ = some (.int .i64 yh) := fun s => eyh ▸ nd_ht (hy.later (wOf_below s))
  have s2 : ∀ s : Wld w, (wOf s).cell? ⟨nx.blk, 3, none⟩ = some (.int .i64 xh) := fun s => exh ▸ nd_ht (hx.later (wOf_below s))
  have s3 : ∀ s : Wld w, (wOf s).cell? ⟨b, 0, none⟩ = some (.pointer (some ⟨b', 0, none⟩)) := fun s => nd_l (hy.later (wOf_below s))
  have s4 : ∀ s : Wld w, (wOf s).cell? ⟨b, 1, none⟩ = some (.pointer (some ⟨nz.blk, 0, none⟩)) := fun s => nd_r (hy.later (wOf_below s))
  have s5 : ∀ s : Wld w, (wOf s).cell? ⟨b', 3, none⟩ = some (.int .i64 lh) := fun s => elh ▸ nd_ht (hy.2.1.later (wOf_below s))
  have s6 : ∀ s : Wld w, (wOf s).cell? ⟨nz.blk, 3, none⟩ = some (.int .i64 zh) := fun s => ezh ▸ nd_ht (hy.2.2.later (wOf_below s))
  refine wp_region_cls (by kernel_rfl) (by kernel_rfl) ?_
  repeat (first | go_big_quiet_skip | (go_big_quiet_want; first | (go_big_quiet_op; first | go_big_quiet_on | go_big_quiet_call ((fail)))))
  refine wpQuiet_nil ?_
  rintro w1 ⟨s1, e1⟩
  have hb1 := wOf_below s1
  rw [← e1] at hb1
  clear e1 s1
  replace hx := hx.later hb1
  replace hy := hy.later hb1
  replace hB := bgo hB hb1
  clear hb1
  clear s1 s2 s3 s4 s5 s6
  go_upto_region 2 with fail
  refine wp_region_tail 22 (by kernel_rfl) (fun _ => none) (by kernel_rfl) (by kernel_rfl) (by decide) (fun i v x => match i with
    | 0 => v = .pointer (some ⟨nx.blk, 0, none⟩)
    | 1 => v = .pointer (some ⟨b, 0, none⟩)
    | 2 => v = .pointer (some ⟨b, 0, none⟩)
    | 3 => v = .pointer (some ⟨b, 0, none⟩)
    | 4 => v = .pointer (some ⟨b', 0, none⟩)
    | 5 => v = .pointer (some ⟨b', 0, none⟩)
    | 6 => v = .pointer (some ⟨b', 0, none⟩)
    | 7 => v = .pointer (some ⟨np.blk, 0, none⟩)
    | 8 => TreeOf R ((nx.els) ++ (np.els)) ((nx.leaves) ++ (np.leaves)) v x
    | 9 => v = .pointer (some ⟨b, 0, none⟩)
    | 10 => v = .pointer (some ⟨b, 0, none⟩)
    | 11 => v = .pointer (some ⟨b, 0, none⟩)
    | 12 => v = .pointer (some ⟨b', 0, none⟩)
    | 13 => v = .pointer (some ⟨b', 0, none⟩)
    | 14 => v = .pointer (some ⟨b', 1, none⟩)
    | 15 => v = .pointer (some ⟨nq.blk, 0, none⟩)
    | 16 => v = .pointer (some ⟨b, 0, none⟩)
    | 17 => v = .pointer (some ⟨b, 0, none⟩)
    | 18 => v = .pointer (some ⟨b, 1, none⟩)
    | 19 => v = .pointer (some ⟨nz.blk, 0, none⟩)
    | 20 => TreeOf R ((nq.els) ++ (nz.els)) ((nq.leaves) ++ (nz.leaves)) v x
    | 21 => TreeOf R (((nx.els) ++ (np.els)) ++ ((nq.els) ++ (nz.els))) (((nx.leaves) ++ (np.leaves)) ++ ((nq.leaves) ++ (nz.leaves))) v x
    | _ => True) (fun _ => false) (fun _ _ _ _ h => by cases h) ?_ ?_ ?_
  · intro i v x x' hR hb
    match i, hR with
    | 0, h => exact h
    | 1, h => exact h
    | 2, h => exact h
    | 3, h => exact h
    | 4, h => exact h
    | 5, h => exact h
    | 6, h => exact h
    | 7, h => exact h
    | 8, h => exact TreeOf.later h hb
    | 9, h => exact h
    | 10, h => exact h
    | 11, h => exact h
    | 12, h => exact h
    | 13, h => exact h
    | 14, h => exact h
    | 15, h => exact h
    | 16, h => exact h
    | 17, h => exact h
    | 18, h => exact h
    | 19, h => exact h
    | 20, h => exact TreeOf.later h hb
    | 21, h => exact TreeOf.later h hb
    | m + 22, h => exact h
  · intro i o hi ho q x vals hX hdep hoth
    have t0 : q.tmps[0]? = some (.pointer (some ⟨nx.blk, 0, none⟩)) := by rw [hoth 0 (by kernel_rfl)]; rfl
    have t1 : q.tmps[1]? = some (.pointer (some ⟨b, 0, none⟩)) := by rw [hoth 1 (by kernel_rfl)]; rfl
    match i, hi, ho with
    | 0, _, ho =>
      simp only [List.getElem?_cons_zero, Option.some.injEq] at ho
      subst ho
      unfold Oper.wp
      simp [execOp, go_sem, t0]
      exact came _ rfl (Below.refl _ _) rfl (fun h => absurd h (by decide))
    | 1, _, ho =>
      simp only [List.getElem?_cons_succ, List.getElem?_cons_zero, Option.some.injEq] at ho
      subst ho
      unfold Oper.wp
      simp [execOp, go_sem, t1]
      exact came _ rfl (Below.refl _ _) rfl (fun h => absurd h (by decide))
    | 2, _, ho =>
      simp only [List.getElem?_cons_succ, List.getElem?_cons_zero, Option.some.injEq] at ho
      subst ho
      obtain ⟨u1, e1⟩ := hdep ⟨1, .data⟩ (by simp) rfl _ 34 rfl rfl
      rw [show vals 1 = .pointer (some ⟨b, 0, none⟩) from e1] at u1
      unfold Oper.wp
      simp [execOp, go_sem, u1]
      exact came _ rfl (Below.refl _ _) rfl (fun h => absurd h (by decide))
    | 3, _, ho =>
      simp only [List.getElem?_cons_succ, List.getElem?_cons_zero, Option.some.injEq] at ho
      subst ho
      obtain ⟨u2, e2⟩ := hdep ⟨2, .data⟩ (by simp) rfl _ 35 rfl rfl
      rw [show vals 2 = .pointer (some ⟨b, 0, none⟩) from e2] at u2
      unfold Oper.wp
      simp [execOp, go_sem, u2]
      exact came _ rfl (Below.refl _ _) rfl (fun h => absurd h (by decide))
    | 4, _, ho =>
      simp only [List.getElem?_cons_succ, List.getElem?_cons_zero, Option.some.injEq] at ho
      subst ho
      obtain ⟨u3, e3⟩ := hdep ⟨3, .data⟩ (by simp) rfl _ 36 rfl rfl
      rw [show vals 3 = .pointer (some ⟨b, 0, none⟩) from e3] at u3
      have cc : x.cell? ⟨b, 0, none⟩ = some (.pointer (some ⟨b', 0, none⟩)) := nd_l (hy.later hX)
      unfold Oper.wp
      simp [execOp, go_sem, u3, cc]
      exact came _ rfl (Below.refl _ _) rfl (fun h => absurd h (by decide))
    | 5, _, ho =>
      simp only [List.getElem?_cons_succ, List.getElem?_cons_zero, Option.some.injEq] at ho
      subst ho
      obtain ⟨u4, e4⟩ := hdep ⟨4, .data⟩ (by simp) rfl _ 37 rfl rfl
      rw [show vals 4 = .pointer (some ⟨b', 0, none⟩) from e4] at u4
      unfold Oper.wp
      simp [execOp, go_sem, u4]
      exact came _ rfl (Below.refl _ _) rfl (fun h => absurd h (by decide))
    | 6, _, ho =>
      simp only [List.getElem?_cons_succ, List.getElem?_cons_zero, Option.some.injEq] at ho
      subst ho
      obtain ⟨u5, e5⟩ := hdep ⟨5, .data⟩ (by simp) rfl _ 38 rfl rfl
      rw [show vals 5 = .pointer (some ⟨b', 0, none⟩) from e5] at u5
      unfold Oper.wp
      simp [execOp, go_sem, u5]
      exact came _ rfl (Below.refl _ _) rfl (fun h => absurd h (by decide))
    | 7, _, ho =>
      simp only [List.getElem?_cons_succ, List.getElem?_cons_zero, Option.some.injEq] at ho
      subst ho
      obtain ⟨u6, e6⟩ := hdep ⟨6, .data⟩ (by simp) rfl _ 39 rfl rfl
      rw [show vals 6 = .pointer (some ⟨b', 0, none⟩) from e6] at u6
      have cc : x.cell? ⟨b', 0, none⟩ = some (.pointer (some ⟨np.blk, 0, none⟩)) := nd_l (hy.2.1.later hX)
      unfold Oper.wp
      simp [execOp, go_sem, u6, cc]
      exact came _ rfl (Below.refl _ _) rfl (fun h => absurd h (by decide))
    | 8, _, ho =>
      simp only [List.getElem?_cons_succ, List.getElem?_cons_zero, Option.some.injEq] at ho
      subst ho
      obtain ⟨u0, e0⟩ := hdep ⟨0, .data⟩ (by simp) rfl _ 33 rfl rfl
      rw [show vals 0 = .pointer (some ⟨nx.blk, 0, none⟩) from e0] at u0
      obtain ⟨u7, e7⟩ := hdep ⟨7, .data⟩ (by simp) rfl _ 40 rfl rfl
      rw [show vals 7 = .pointer (some ⟨np.blk, 0, none⟩) from e7] at u7
      unfold Oper.wp
      simp [go_sem, u0, u7]
      refine (inner_any (hx.later hX) (hy.2.1.2.1.later hX) fx fy.1.1 (by simp only [List.length_append]; have := HN.out; omega)).mono ?_
      rintro r x1 ⟨bb, _, rfl, ht, hb1⟩
      exact came _ rfl hb1 ⟨.inner bb nx np, rfl, ht, ⟨fx, fy.1.1⟩, by show Nd.els nx ++ Nd.els np = _; rfl, by show Nd.leaves nx ++ Nd.leaves np = _; rfl⟩ (fun h => absurd h (by decide))
    | 9, _, ho =>
      simp only [List.getElem?_cons_succ, List.getElem?_cons_zero, Option.some.injEq] at ho
      subst ho
      unfold Oper.wp
      simp [execOp, go_sem, t1]
      exact came _ rfl (Below.refl _ _) rfl (fun h => absurd h (by decide))
    | 10, _, ho =>
      simp only [List.getElem?_cons_succ, List.getElem?_cons_zero, Option.some.injEq] at ho
      subst ho
      obtain ⟨u9, e9⟩ := hdep ⟨9, .data⟩ (by simp) rfl _ 42 rfl rfl
      rw [show vals 9 = .pointer (some ⟨b, 0, none⟩) from e9] at u9
      unfold Oper.wp
      simp [execOp, go_sem, u9]
      exact came _ rfl (Below.refl _ _) rfl (fun h => absurd h (by decide))
    | 11, _, ho =>
      simp only [List.getElem?_cons_succ, List.getElem?_cons_zero, Option.some.injEq] at ho
      subst ho
      obtain ⟨u10, e10⟩ := hdep ⟨10, .data⟩ (by simp) rfl _ 43 rfl rfl
      rw [show vals 10 = .pointer (some ⟨b, 0, none⟩) from e10] at u10
      unfold Oper.wp
      simp [execOp, go_sem, u10]
      exact came _ rfl (Below.refl _ _) rfl (fun h => absurd h (by decide))
    | 12, _, ho =>
      simp only [List.getElem?_cons_succ, List.getElem?_cons_zero, Option.some.injEq] at ho
      subst ho
      obtain ⟨u11, e11⟩ := hdep ⟨11, .data⟩ (by simp) rfl _ 44 rfl rfl
      rw [show vals 11 = .pointer (some ⟨b, 0, none⟩) from e11] at u11
      have cc : x.cell? ⟨b, 0, none⟩ = some (.pointer (some ⟨b', 0, none⟩)) := nd_l (hy.later hX)
      unfold Oper.wp
      simp [execOp, go_sem, u11, cc]
      exact came _ rfl (Below.refl _ _) rfl (fun h => absurd h (by decide))
    | 13, _, ho =>
      simp only [List.getElem?_cons_succ, List.getElem?_cons_zero, Option.some.injEq] at ho
      subst ho
      obtain ⟨u12, e12⟩ := hdep ⟨12, .data⟩ (by simp) rfl _ 45 rfl rfl
      rw [show vals 12 = .pointer (some ⟨b', 0, none⟩) from e12] at u12
      unfold Oper.wp
      simp [execOp, go_sem, u12]
      exact came _ rfl (Below.refl _ _) rfl (fun h => absurd h (by decide))
    | 14, _, ho =>
      simp only [List.getElem?_cons_succ, List.getElem?_cons_zero, Option.some.injEq] at ho
      subst ho
      obtain ⟨u13, e13⟩ := hdep ⟨13, .data⟩ (by simp) rfl _ 46 rfl rfl
      rw [show vals 13 = .pointer (some ⟨b', 0, none⟩) from e13] at u13
      unfold Oper.wp
      simp [execOp, go_sem, u13]
      exact came _ rfl (Below.refl _ _) rfl (fun h => absurd h (by decide))
    | 15, _, ho =>
      simp only [List.getElem?_cons_succ, List.getElem?_cons_zero, Option.some.injEq] at ho
      subst ho
      obtain ⟨u14, e14⟩ := hdep ⟨14, .data⟩ (by simp) rfl _ 47 rfl rfl
      rw [show vals 14 = .pointer (some ⟨b', 1, none⟩) from e14] at u14
      have cc : x.cell? ⟨b', 1, none⟩ = some (.pointer (some ⟨nq.blk, 0, none⟩)) := nd_r (hy.2.1.later hX)
      unfold Oper.wp
      simp [execOp, go_sem, u14, cc]
      exact came _ rfl (Below.refl _ _) rfl (fun h => absurd h (by decide))
    | 16, _, ho =>
      simp only [List.getElem?_cons_succ, List.getElem?_cons_zero, Option.some.injEq] at ho
      subst ho
      unfold Oper.wp
      simp [execOp, go_sem, t1]
      exact came _ rfl (Below.refl _ _) rfl (fun h => absurd h (by decide))
    | 17, _, ho =>
      simp only [List.getElem?_cons_succ, List.getElem?_cons_zero, Option.some.injEq] at ho
      subst ho
      obtain ⟨u16, e16⟩ := hdep ⟨16, .data⟩ (by simp) rfl _ 49 rfl rfl
      rw [show vals 16 = .pointer (some ⟨b, 0, none⟩) from e16] at u16
      unfold Oper.wp
      simp [execOp, go_sem, u16]
      exact came _ rfl (Below.refl _ _) rfl (fun h => absurd h (by decide))
    | 18, _, ho =>
      simp only [List.getElem?_cons_succ, List.getElem?_cons_zero, Option.some.injEq] at ho
      subst ho
      obtain ⟨u17, e17⟩ := hdep ⟨17, .data⟩ (by simp) rfl _ 50 rfl rfl
      rw [show vals 17 = .pointer (some ⟨b, 0, none⟩) from e17] at u17
      unfold Oper.wp
      simp [execOp, go_sem, u17]
      exact came _ rfl (Below.refl _ _) rfl (fun h => absurd h (by decide))
    | 19, _, ho =>
      simp only [List.getElem?_cons_succ, List.getElem?_cons_zero, Option.some.injEq] at ho
      subst ho
      obtain ⟨u18, e18⟩ := hdep ⟨18, .data⟩ (by simp) rfl _ 51 rfl rfl
      rw [show vals 18 = .pointer (some ⟨b, 1, none⟩) from e18] at u18
      have cc : x.cell? ⟨b, 1, none⟩ = some (.pointer (some ⟨nz.blk, 0, none⟩)) := nd_r (hy.later hX)
      unfold Oper.wp
      simp [execOp, go_sem, u18, cc]
      exact came _ rfl (Below.refl _ _) rfl (fun h => absurd h (by decide))
    | 20, _, ho =>
      simp only [List.getElem?_cons_succ, List.getElem?_cons_zero, Option.some.injEq] at ho
      subst ho
      obtain ⟨u15, e15⟩ := hdep ⟨15, .data⟩ (by simp) rfl _ 48 rfl rfl
      rw [show vals 15 = .pointer (some ⟨nq.blk, 0, none⟩) from e15] at u15
      obtain ⟨u19, e19⟩ := hdep ⟨19, .data⟩ (by simp) rfl _ 52 rfl rfl
      rw [show vals 19 = .pointer (some ⟨nz.blk, 0, none⟩) from e19] at u19
      unfold Oper.wp
      simp [go_sem, u15, u19]
      refine (inner_any (hy.2.1.2.2.later hX) (hy.2.2.later hX) fy.1.2 fy.2 (by simp only [List.length_append]; have := HN.out; omega)).mono ?_
      rintro r x1 ⟨bb, _, rfl, ht, hb1⟩
      exact came _ rfl hb1 ⟨.inner bb nq nz, rfl, ht, ⟨fy.1.2, fy.2⟩, by show Nd.els nq ++ Nd.els nz = _; rfl, by show Nd.leaves nq ++ Nd.leaves nz = _; rfl⟩ (fun h => absurd h (by decide))
    | 21, _, ho =>
      simp only [List.getElem?_cons_succ, List.getElem?_cons_zero, Option.some.injEq] at ho
      subst ho
      obtain ⟨u8, e8⟩ := hdep ⟨8, .data⟩ (by simp) rfl _ 41 rfl rfl
      obtain ⟨n8, p8, g8, f8, l8, v8⟩ : TreeOf R ((nx.els) ++ (np.els)) ((nx.leaves) ++ (np.leaves)) (vals 8) x := e8
      rw [p8] at u8
      unfold pv at u8
      obtain ⟨u20, e20⟩ := hdep ⟨20, .data⟩ (by simp) rfl _ 53 rfl rfl
      obtain ⟨n20, p20, g20, f20, l20, v20⟩ : TreeOf R ((nq.els) ++ (nz.els)) ((nq.leaves) ++ (nz.leaves)) (vals 20) x := e20
      rw [p20] at u20
      unfold pv at u20
      unfold Oper.wp
      simp [go_sem, u8, u20]
      refine (inner_any g8 g20 f8 f20 (by rw [l8, l20]; simp only [List.length_append]; have := HN.out; omega)).mono ?_
      rintro r x1 ⟨bb, _, rfl, ht, hb1⟩
      exact came _ rfl hb1 ⟨.inner bb n8 n20, rfl, ht, ⟨f8, f20⟩, by show Nd.els n8 ++ Nd.els n20 = _; simp only [l8, l20, List.append_assoc], by show Nd.leaves n8 ++ Nd.leaves n20 = _; simp only [v8, v20, List.append_assoc]⟩ (fun h => absurd h (by decide))
    | m + 22, hi, _ => exact absurd hi (by omega)
  · intro vals x' hX hR _
    obtain ⟨t, k1, k2, k3, k4, k5⟩ : TreeOf R (((nx.els) ++ (np.els)) ++ ((nq.els) ++ (nz.els))) (((nx.leaves) ++ (np.leaves)) ++ ((nq.leaves) ++ (nz.leaves))) (vals 21) x' := hR 21 (by decide)
    simp only [List.take, List.drop, putAll, k1]
    unfold pv
    go_wp2
    go_ret
    refine ⟨_, rfl, ⟨t, rfl, k2, k3, ?_, ?_⟩, bgo hB hX⟩
    · rw [k4]; simp only [Nd.els, List.append_assoc]
    · rw [k5]; simp only [Nd.leaves, List.append_assoc]

set_option maxHeartbeats 4000000 in
theorem bal3 {R : Rows} {ny np nq nz : Nd} {b b' : Nat} {w : World} (hx : (Nd.inner b np (Nd.inner b' nq nz)).At R w) (hy : (ny).At R w) (fx : (Nd.inner b np (Nd.inner b' nq nz)).Full) (fy : (ny).Full) (hn : ((Nd.inner b np (Nd.inner b' nq nz)).els ++ (ny).els).length ≤ 1073741824) (c1 : ny.ht + 1 < (Nd.inner b np (Nd.inner b' nq nz)).ht) (c2 : np.ht < (Nd.inner b' nq nz).ht) :
    Calls Tryz.prog 95 #[.pointer (some ⟨b, 0, none⟩), .pointer (some ⟨ny.blk, 0, none⟩)] w fun r w' => ∃ v, r = .returned v ∧ TreeOf R ((Nd.inner b np (Nd.inner b' nq nz)).els ++ (ny).els) ((Nd.inner b np (Nd.inner b' nq nz)).leaves ++ (ny).leaves) v w' ∧ Below w.heap.size w w' := by
  obtain ⟨xh, exh⟩ : ∃ h : Int, ((Nd.inner b np (Nd.inner b' nq nz)).ht : Int) = h := ⟨_, rfl⟩
  obtain ⟨yh, eyh⟩ : ∃ h : Int, ((ny).ht : Int) = h := ⟨_, rfl⟩
  obtain ⟨rh, erh⟩ : ∃ h : Int, ((Nd.inner b' nq nz).ht : Int) = h := ⟨_, rfl⟩
  obtain ⟨ph, eph⟩ : ∃ h : Int, ((np).ht : Int) = h := ⟨_, rfl⟩
  have gx : 0 ≤ xh ∧ xh ≤ 1073741824 := by have := fx.ht_le; rw [List.length_append] at hn; omega
  have gy : 0 ≤ yh ∧ yh ≤ 1073741824 := by have := fy.ht_le; rw [List.length_append] at hn; omega
  have g0 : ¬ xh + 1 < yh := by omega
  have g1 : yh + 1 < xh := by omega
  have g2 : ph < rh := by omega
  clear c1 c2
  simp only [Nd.els, List.length_append] at hn
  have HN := hid_of' hn
  have hB := Below.refl w.heap.size w
  clear hn
  go_enter Tryz.func95, Tryz.ntmps95
  go_upto_region 1 with fail
  have s1 : ∀ s : Wld w, (wOf s).cell? ⟨ny.blk, 3, none⟩ = some (.int .i64 yh) := fun s => eyh ▸ nd_ht (hy.later (wOf_below s))
  have s2 : ∀ s : Wld w, (wOf s).cell? ⟨b, 3, none⟩ = some (.int .i64 xh) := fun s => exh ▸ nd_ht (hx.later (wOf_below s))
  refine wp_region_cls (by kernel_rfl) (by kernel_rfl) ?_
  repeat (first | go_big_quiet_skip | (go_big_quiet_want; first | (go_big_quiet_op; first | go_big_quiet_on | go_big_quiet_call ((fail)))))
  refine wpQuiet_nil ?_
  rintro w1 ⟨s1, e1⟩
  have hb1 := wOf_below s1
  rw [← e1] at hb1
  clear e1 s1
  replace hx := hx.later hb1
  replace hy := hy.later hb1
  replace hB := bgo hB hb1
  clear hb1
  clear s1 s2
  go_upto_region 3 with fail
  have s1 : ∀ s : Wld w1, (wOf s).cell? ⟨ny.blk, 3, none⟩ = some (.int .i64 yh) := fun s => eyh ▸ nd_ht (hy.later (wOf_below s))
  have s2 : ∀ s : Wld w1, (wOf s).cell? ⟨b, 3, none⟩ = some (.int .i64 xh) := fun s => exh ▸ nd_ht (hx.later (wOf_below s))
  refine wp_region_cls (by kernel_rfl) (by kernel_rfl) ?_
  repeat (first | go_big_quiet_skip | (go_big_quiet_want; first | (go_big_quiet_op; first | go_big_quiet_on | go_big_quiet_call ((fail)))))
  refine wpQuiet_nil ?_
  rintro w1 ⟨s1, e1⟩
  have hb1 := wOf_below s1
  rw [← e1] at hb1
  clear e1 s1
  replace hx := hx.later hb1
  replace hy := hy.later hb1
  replace hB := bgo hB hb1
  clear hb1
  clear s1 s2
  go_upto_region 5 with fail
  have s1 : ∀ s : Wld w1, (wOf s).cell? ⟨ny.blk, 3, none⟩ = some (.int .i64 yh) := fun s => eyh ▸ nd_ht (hy.later (wOf_below s))
  have s2 : ∀ s : Wld w1, (wOf s).cell? ⟨b, 3, none⟩ = some (.int .i64 xh) := fun s => exh ▸ nd_ht (hx.later (wOf_below s))
  have s3 : ∀ s : Wld w1, (wOf s).cell? ⟨b, 1, none⟩ = some (.pointer (some ⟨b', 0, none⟩)) := fun s => nd_r (hx.later (wOf_below s))
  have s4 : ∀ s : Wld w1, (wOf s).cell? ⟨b, 0, none⟩ = some (.pointer (some ⟨np.blk, 0, none⟩)) := fun s => nd_l (hx.later (wOf_below s))
  have s5 : ∀ s : Wld w1, (wOf s).cell? ⟨b', 3, none⟩ = some (.int .i64 rh) := fun s => erh ▸ nd_ht (hx.2.2.later (wOf_below s))
  have s6 : ∀ s : Wld w1, (wOf s).cell? ⟨np.blk, 3, none⟩ = some (.int .i64 ph) := fun s => eph ▸ nd_ht (hx.2.1.later (wOf_below s))
  refine wp_region_cls (by kernel_rfl) (by kernel_rfl) ?_
  repeat (first | go_big_quiet_skip | (go_big_quiet_want; first | (go_big_quiet_op; first | go_big_quiet_on | go_big_quiet_call ((fail)))))
  refine wpQuiet_nil ?_
  rintro w1 ⟨s1, e1⟩
  have hb1 := wOf_below s1
  rw [← e1] at hb1
  clear e1 s1
  replace hx := hx.later hb1
  replace hy := hy.later hb1
  replace hB := bgo hB hb1
  clear hb1
  clear s1 s2 s3 s4 s5 s6
  go_upto_region 6 with fail
  refine wp_region_tail 22 (by kernel_rfl) (fun _ => none) (by kernel_rfl) (by kernel_rfl) (by decide) (fun i v x => match i with
    | 0 => v = .pointer (some ⟨b, 0, none⟩)
    | 1 => v = .pointer (some ⟨b, 0, none⟩)
    | 2 => v = .pointer (some ⟨b, 0, none⟩)
    | 3 => v = .pointer (some ⟨np.blk, 0, none⟩)
    | 4 => v = .pointer (some ⟨b, 0, none⟩)
    | 5 => v = .pointer (some ⟨b, 0, none⟩)
    | 6 => v = .pointer (some ⟨b, 1, none⟩)
    | 7 => v = .pointer (some ⟨b', 0, none⟩)
    | 8 => v = .pointer (some ⟨b', 0, none⟩)
    | 9 => v = .pointer (some ⟨b', 0, none⟩)
    | 10 => v = .pointer (some ⟨nq.blk, 0, none⟩)
    | 11 => TreeOf R ((np.els) ++ (nq.els)) ((np.leaves) ++ (nq.leaves)) v x
    | 12 => v = .pointer (some ⟨b, 0, none⟩)
    | 13 => v = .pointer (some ⟨b, 0, none⟩)
    | 14 => v = .pointer (some ⟨b, 1, none⟩)
    | 15 => v = .pointer (some ⟨b', 0, none⟩)
    | 16 => v = .pointer (some ⟨b', 0, none⟩)
    | 17 => v = .pointer (some ⟨b', 1, none⟩)
    | 18 => v = .pointer (some ⟨nz.blk, 0, none⟩)
    | 19 => v = .pointer (some ⟨ny.blk, 0, none⟩)
    | 20 => TreeOf R ((nz.els) ++ (ny.els)) ((nz.leaves) ++ (ny.leaves)) v x
    | 21 => TreeOf R (((np.els) ++ (nq.els)) ++ ((nz.els) ++ (ny.els))) (((np.leaves) ++ (nq.leaves)) ++ ((nz.leaves) ++ (ny.leaves))) v x
    | _ => True) (fun _ => false) (fun _ _ _ _ h => by cases h) ?_ ?_ ?_
  · intro i v x x' hR hb
    match i, hR with
    | 0, h => exact h
    | 1, h => exact h
    | 2, h => exact h
    | 3, h => exact h
    | 4, h => exact h
    | 5, h => exact h
    | 6, h => exact h
    | 7, h => exact h
    | 8, h => exact h
    | 9, h => exact h
    | 10, h => exact h
    | 11, h => exact TreeOf.later h hb
    | 12, h => exact h
    | 13, h => exact h
    | 14, h => exact h
    | 15, h => exact h
    | 16, h => exact h
    | 17, h => exact h
    | 18, h => exact h
    | 19, h => exact h
    | 20, h => exact TreeOf.later h hb
    | 21, h => exact TreeOf.later h hb
    | m + 22, h => exact h
  · intro i o hi ho q x vals hX hdep hoth
    have t0 : q.tmps[0]? = some (.pointer (some ⟨b, 0, none⟩)) := by rw [hoth 0 (by kernel_rfl)]; rfl
    have t1 : q.tmps[1]? = some (.pointer (some ⟨ny.blk, 0, none⟩)) := by rw [hoth 1 (by kernel_rfl)]; rfl
    match i, hi, ho with
    | 0, _, ho =>
      simp only [List.getElem?_cons_zero, Option.some.injEq] at ho
      subst ho
      unfold Oper.wp
      simp [execOp, go_sem, t0]
      exact came _ rfl (Below.refl _ _) rfl (fun h => absurd h (by decide))
    | 1, _, ho =>
      simp only [List.getElem?_cons_succ, List.getElem?_cons_zero, Option.some.injEq] at ho
      subst ho
      obtain ⟨u0, e0⟩ := hdep ⟨0, .data⟩ (by simp) rfl _ 105 rfl rfl
      rw [show vals 0 = .pointer (some ⟨b, 0, none⟩) from e0] at u0
      unfold Oper.wp
      simp [execOp, go_sem, u0]
      exact came _ rfl (Below.refl _ _) rfl (fun h => absurd h (by decide))
    | 2, _, ho =>
      simp only [List.getElem?_cons_succ, List.getElem?_cons_zero, Option.some.injEq] at ho
      subst ho
      obtain ⟨u1, e1⟩ := hdep ⟨1, .data⟩ (by simp) rfl _ 106 rfl rfl
      rw [show vals 1 = .pointer (some ⟨b, 0, none⟩) from e1] at u1
      unfold Oper.wp
      simp [execOp, go_sem, u1]
      exact came _ rfl (Below.refl _ _) rfl (fun h => absurd h (by decide))
    | 3, _, ho =>
      simp only [List.getElem?_cons_succ, List.getElem?_cons_zero, Option.some.injEq] at ho
      subst ho
      obtain ⟨u2, e2⟩ := hdep ⟨2, .data⟩ (by simp) rfl _ 107 rfl rfl
      rw [show vals 2 = .pointer (some ⟨b, 0, none⟩) from e2] at u2
      have cc : x.cell? ⟨b, 0, none⟩ = some (.pointer (some ⟨np.blk, 0, none⟩)) := nd_l (hx.later hX)
      unfold Oper.wp
      simp [execOp, go_sem, u2, cc]
      exact came _ rfl (Below.refl _ _) rfl (fun h => absurd h (by decide))
    | 4, _, ho =>
      simp only [List.getElem?_cons_succ, List.getElem?_cons_zero, Option.some.injEq] at ho
      subst ho
      unfold Oper.wp
      simp [execOp, go_sem, t0]
      exact came _ rfl (Below.refl _ _) rfl (fun h => absurd h (by decide))
    | 5, _, ho =>
      simp only [List.getElem?_cons_succ, List.getElem?_cons_zero, Option.some.injEq] at ho
      subst ho
      obtain ⟨u4, e4⟩ := hdep ⟨4, .data⟩ (by simp) rfl _ 109 rfl rfl
      rw [show vals 4 = .pointer (some ⟨b, 0, none⟩) from e4] at u4
      unfold Oper.wp
      simp [execOp, go_sem, u4]
      exact came _ rfl (Below.refl _ _) rfl (fun h => absurd h (by decide))
    | 6, _, ho =>
      simp only [List.getElem?_cons_succ, List.getElem?_cons_zero, Option.some.injEq] at ho
      subst ho
      obtain ⟨u5, e5⟩ := hdep ⟨5, .data⟩ (by simp) rfl _ 110 rfl rfl
      rw [show vals 5 = .pointer (some ⟨b, 0, none⟩) from e5] at u5
      unfold Oper.wp
      simp [execOp, go_sem, u5]
      exact came _ rfl (Below.refl _ _) rfl (fun h => absurd h (by decide))
    | 7, _, ho =>
      simp only [List.getElem?_cons_succ, List.getElem?_cons_zero, Option.some.injEq] at ho
      subst ho
      obtain ⟨u6, e6⟩ := hdep ⟨6, .data⟩ (by simp) rfl _ 111 rfl rfl
      rw [show vals 6 = .pointer (some ⟨b, 1, none⟩) from e6] at u6
      have cc : x.cell? ⟨b, 1, none⟩ = some (.pointer (some ⟨b', 0, none⟩)) := nd_r (hx.later hX)
      unfold Oper.wp
      simp [execOp, go_sem, u6, cc]
      exact came _ rfl (Below.refl _ _) rfl (fun h => absurd h (by decide))
    | 8, _, ho =>
      simp only [List.getElem?_cons_succ, List.getElem?_cons_zero, Option.some.injEq] at ho
      subst ho
      obtain ⟨u7, e7⟩ := hdep ⟨7, .data⟩ (by simp) rfl _ 112 rfl rfl
      rw [show vals 7 = .pointer (some ⟨b', 0, none⟩) from e7] at u7
      unfold Oper.wp
      simp [execOp, go_sem, u7]
      exact came _ rfl (Below.refl _ _) rfl (fun h => absurd h (by decide))
    | 9, _, ho =>
      simp only [List.getElem?_cons_succ, List.getElem?_cons_zero, Option.some.injEq] at ho
      subst ho
      obtain ⟨u8, e8⟩ := hdep ⟨8, .data⟩ (by simp) rfl _ 113 rfl rfl
      rw [show vals 8 = .pointer (some ⟨b', 0, none⟩) from e8] at u8
      unfold Oper.wp
      simp [execOp, go_sem, u8]
      exact came _ rfl (Below.refl _ _) rfl (fun h => absurd h (by decide))
    | 10, _, ho =>
      simp only [List.getElem?_cons_succ, List.getElem?_cons_zero, Option.some.injEq] at ho
      subst ho
      obtain ⟨u9, e9⟩ := hdep ⟨9, .data⟩ (by simp) rfl _ 114 rfl rfl
      rw [show vals 9 = .pointer (some ⟨b', 0, none⟩) from e9] at u9
      have cc : x.cell? ⟨b', 0, none⟩ = some (.pointer (some ⟨nq.blk, 0, none⟩)) := nd_l (hx.2.2.later hX)
      unfold Oper.wp
      simp [execOp, go_sem, u9, cc]
      exact came _ rfl (Below.refl _ _) rfl (fun h => absurd h (by decide))
    | 11, _, ho =>
      simp only [List.getElem?_cons_succ, List.getElem?_cons_zero, Option.some.injEq] at ho
      subst ho
      obtain ⟨u3, e3⟩ := hdep ⟨3, .data⟩ (by simp) rfl _ 108 rfl rfl
      rw [show vals 3 = .pointer (some ⟨np.blk, 0, none⟩) from e3] at u3
      obtain ⟨u10, e10⟩ := hdep ⟨10, .data⟩ (by simp) rfl _ 115 rfl rfl
      rw [show vals 10 = .pointer (some ⟨nq.blk, 0, none⟩) from e10] at u10
      unfold Oper.wp
      simp [go_sem, u3, u10]
      refine (inner_any (hx.2.1.later hX) (hx.2.2.2.1.later hX) fx.1 fx.2.1 (by simp only [List.length_append]; have := HN.out; omega)).mono ?_
      rintro r x1 ⟨bb, _, rfl, ht, hb1⟩
      exact came _ rfl hb1 ⟨.inner bb np nq, rfl, ht, ⟨fx.1, fx.2.1⟩, by show Nd.els np ++ Nd.els nq = _; rfl, by show Nd.leaves np ++ Nd.leaves nq = _; rfl⟩ (fun h => absurd h (by decide))
    | 12, _, ho =>
      simp only [List.getElem?_cons_succ, List.getElem?_cons_zero, Option.some.injEq] at ho
      subst ho
      unfold Oper.wp
      simp [execOp, go_sem, t0]
      exact came _ rfl (Below.refl _ _) rfl (fun h => absurd h (by decide))
    | 13, _, ho =>
      simp only [List.getElem?_cons_succ, List.getElem?_cons_zero, Option.some.injEq] at ho
      subst ho
      obtain ⟨u12, e12⟩ := hdep ⟨12, .data⟩ (by simp) rfl _ 117 rfl rfl
      rw [show vals 12 = .pointer (some ⟨b, 0, none⟩) from e12] at u12
      unfold Oper.wp
      simp [execOp, go_sem, u12]
      exact came _ rfl (Below.refl _ _) rfl (fun h => absurd h (by decide))
    | 14, _, ho =>
      simp only [List.getElem?_cons_succ, List.getElem?_cons_zero, Option.some.injEq] at ho
      subst ho
      obtain ⟨u13, e13⟩ := hdep ⟨13, .data⟩ (by simp) rfl _ 118 rfl rfl
      rw [show vals 13 = .pointer (some ⟨b, 0, none⟩) from e13] at u13
      unfold Oper.wp
      simp [execOp, go_sem, u13]
      exact came _ rfl (Below.refl _ _) rfl (fun h => absurd h (by decide))
    | 15, _, ho =>
      simp only [List.getElem?_cons_succ, List.getElem?_cons_zero, Option.some.injEq] at ho
      subst ho
      obtain ⟨u14, e14⟩ := hdep ⟨14, .data⟩ (by simp) rfl _ 119 rfl rfl
      rw [show vals 14 = .pointer (some ⟨b, 1, none⟩) from e14] at u14
      have cc : x.cell? ⟨b, 1, none⟩ = some (.pointer (some ⟨b', 0, none⟩)) := nd_r (hx.later hX)
      unfold Oper.wp
      simp [execOp, go_sem, u14, cc]
      exact came _ rfl (Below.refl _ _) rfl (fun h => absurd h (by decide))
    | 16, _, ho =>
      simp only [List.getElem?_cons_succ, List.getElem?_cons_zero, Option.some.injEq] at ho
      subst ho
      obtain ⟨u15, e15⟩ := hdep ⟨15, .data⟩ (by simp) rfl _ 120 rfl rfl
      rw [show vals 15 = .pointer (some ⟨b', 0, none⟩) from e15] at u15
      unfold Oper.wp
      simp [execOp, go_sem, u15]
      exact came _ rfl (Below.refl _ _) rfl (fun h => absurd h (by decide))
    | 17, _, ho =>
      simp only [List.getElem?_cons_succ, List.getElem?_cons_zero, Option.some.injEq] at ho
      subst ho
      obtain ⟨u16, e16⟩ := hdep ⟨16, .data⟩ (by simp) rfl _ 121 rfl rfl
      rw [show vals 16 = .pointer (some ⟨b', 0, none⟩) from e16] at u16
      unfold Oper.wp
      simp [execOp, go_sem, u16]
      exact came _ rfl (Below.refl _ _) rfl (fun h => absurd h (by decide))
    | 18, _, ho =>
      simp only [List.getElem?_cons_succ, List.getElem?_cons_zero, Option.some.injEq] at ho
      subst ho
      obtain ⟨u17, e17⟩ := hdep ⟨17, .data⟩ (by simp) rfl _ 122 rfl rfl
      rw [show vals 17 = .pointer (some ⟨b', 1, none⟩) from e17] at u17
      have cc : x.cell? ⟨b', 1, none⟩ = some (.pointer (some ⟨nz.blk, 0, none⟩)) := nd_r (hx.2.2.later hX)
      unfold Oper.wp
      simp [execOp, go_sem, u17, cc]
      exact came _ rfl (Below.refl _ _) rfl (fun h => absurd h (by decide))
    | 19, _, ho =>
      simp only [List.getElem?_cons_succ, List.getElem?_cons_zero, Option.some.injEq] at ho
      subst ho
      unfold Oper.wp
      simp [execOp, go_sem, t1]
      exact came _ rfl (Below.refl _ _) rfl (fun h => absurd h (by decide))
    | 20, _, ho =>
      simp only [List.getElem?_cons_succ, List.getElem?_cons_zero, Option.some.injEq] at ho
      subst ho
      obtain ⟨u18, e18⟩ := hdep ⟨18, .data⟩ (by simp) rfl _ 123 rfl rfl
      rw [show vals 18 = .pointer (some ⟨nz.blk, 0, none⟩) from e18] at u18
      obtain ⟨u19, e19⟩ := hdep ⟨19, .data⟩ (by simp) rfl _ 124 rfl rfl
      rw [show vals 19 = .pointer (some ⟨ny.blk, 0, none⟩) from e19] at u19
      unfold Oper.wp
      simp [go_sem, u18, u19]
      refine (inner_any (hx.2.2.2.2.later hX) (hy.later hX) fx.2.2 fy (by simp only [List.length_append]; have := HN.out; omega)).mono ?_
      rintro r x1 ⟨bb, _, rfl, ht, hb1⟩
      exact came _ rfl hb1 ⟨.inner bb nz ny, rfl, ht, ⟨fx.2.2, fy⟩, by show Nd.els nz ++ Nd.els ny = _; rfl, by show Nd.leaves nz ++ Nd.leaves ny = _; rfl⟩ (fun h => absurd h (by decide))
    | 21, _, ho =>
      simp only [List.getElem?_cons_succ, List.getElem?_cons_zero, Option.some.injEq] at ho
      subst ho
      obtain ⟨u11, e11⟩ := hdep ⟨11, .data⟩ (by simp) rfl _ 116 rfl rfl
      obtain ⟨n11, p11, g11, f11, l11, v11⟩ : TreeOf R ((np.els) ++ (nq.els)) ((np.leaves) ++ (nq.leaves)) (vals 11) x := e11
      rw [p11] at u11
      unfold pv at u11
      obtain ⟨u20, e20⟩ := hdep ⟨20, .data⟩ (by simp) rfl _ 125 rfl rfl
      obtain ⟨n20, p20, g20, f20, l20, v20⟩ : TreeOf R ((nz.els) ++ (ny.els)) ((nz.leaves) ++ (ny.leaves)) (vals 20) x := e20
      rw [p20] at u20
      unfold pv at u20
      unfold Oper.wp
      simp [go_sem, u11, u20]
      refine (inner_any g11 g20 f11 f20 (by rw [l11, l20]; simp only [List.length_append]; have := HN.out; omega)).mono ?_
      rintro r x1 ⟨bb, _, rfl, ht, hb1⟩
      exact came _ rfl hb1 ⟨.inner bb n11 n20, rfl, ht, ⟨f11, f20⟩, by show Nd.els n11 ++ Nd.els n20 = _; simp only [l11, l20, List.append_assoc], by show Nd.leaves n11 ++ Nd.leaves n20 = _; simp only [v11, v20, List.append_assoc]⟩ (fun h => absurd h (by decide))
    | m + 22, hi, _ => exact absurd hi (by omega)
  · intro vals x' hX hR _
    obtain ⟨t, k1, k2, k3, k4, k5⟩ : TreeOf R (((np.els) ++ (nq.els)) ++ ((nz.els) ++ (ny.els))) (((np.leaves) ++ (nq.leaves)) ++ ((nz.leaves) ++ (ny.leaves))) (vals 21) x' := hR 21 (by decide)
    simp only [List.take, List.drop, putAll, k1]
    unfold pv
    go_wp2
    go_ret
    refine ⟨_, rfl, ⟨t, rfl, k2, k3, ?_, ?_⟩, bgo hB hX⟩
    · rw [k4]; simp only [Nd.els, List.append_assoc]
    · rw [k5]; simp only [Nd.leaves, List.append_assoc]

set_option maxHeartbeats 4000000 in
theorem bal4 {R : Rows} {ny np nq : Nd} {b : Nat} {w : World} (hx : (Nd.inner b np nq).At R w) (hy : (ny).At R w) (fx : (Nd.inner b np nq).Full) (fy : (ny).Full) (hn : ((Nd.inner b np nq).els ++ (ny).els).length ≤ 1073741824) (c1 : ny.ht + 1 < (Nd.inner b np nq).ht) (c2 : ¬ np.ht < nq.ht) :
    Calls Tryz.prog 95 #[.pointer (some ⟨b, 0, none⟩), .pointer (some ⟨ny.blk, 0, none⟩)] w fun r w' => ∃ v, r = .returned v ∧ TreeOf R ((Nd.inner b np nq).els ++ (ny).els) ((Nd.inner b np nq).leaves ++ (ny).leaves) v w' ∧ Below w.heap.size w w' := by
  obtain ⟨xh, exh⟩ : ∃ h : Int, ((Nd.inner b np nq).ht : Int) = h := ⟨_, rfl⟩
  obtain ⟨yh, eyh⟩ : ∃ h : Int, ((ny).ht : Int) = h := ⟨_, rfl⟩
  obtain ⟨qh, eqh⟩ : ∃ h : Int, ((nq).ht : Int) = h := ⟨_, rfl⟩
  obtain ⟨ph, eph⟩ : ∃ h : Int, ((np).ht : Int) = h := ⟨_, rfl⟩
  have gx : 0 ≤ xh ∧ xh ≤ 1073741824 := by have := fx.ht_le; rw [List.length_append] at hn; omega
  have gy : 0 ≤ yh ∧ yh ≤ 1073741824 := by have := fy.ht_le; rw [List.length_append] at hn; omega
  have g0 : ¬ xh + 1 < yh := by omega
  have g1 : yh + 1 < xh := by omega
  have g2 : ¬ ph < qh := by omega
  clear c1 c2
  simp only [Nd.els, List.length_append] at hn
  have HN := hid_of' hn
  have hB := Below.refl w.heap.size w
  clear hn
  go_enter Tryz.func95, Tryz.ntmps95
  go_upto_region 1 with fail
  have s1 : ∀ s : Wld w, (wOf s).cell? ⟨ny.blk, 3, none⟩ = some (.int .i64 yh) := fun s => eyh ▸ nd_ht (hy.later (wOf_below s))
  have s2 : ∀ s : Wld w, (wOf s).cell? ⟨b, 3, none⟩ = some (.int .i64 xh) := fun s => exh ▸ nd_ht (hx.later (wOf_below s))
  refine wp_region_cls (by kernel_rfl) (by kernel_rfl) ?_
  repeat (first | go_big_quiet_skip | (go_big_quiet_want; first | (go_big_quiet_op; first | go_big_quiet_on | go_big_quiet_call ((fail)))))
  refine wpQuiet_nil ?_
  rintro w1 ⟨s1, e1⟩
  have hb1 := wOf_below s1
  rw [← e1] at hb1
  clear e1 s1
  replace hx := hx.later hb1
  replace hy := hy.later hb1
  replace hB := bgo hB hb1
  clear hb1
  clear s1 s2
  go_upto_region 3 with fail
  have s1 : ∀ s : Wld w1, (wOf s).cell? ⟨ny.blk, 3, none⟩ = some (.int .i64 yh) := fun s => eyh ▸ nd_ht (hy.later (wOf_below s))
  have s2 : ∀ s : Wld w1, (wOf s).cell? ⟨b, 3, none⟩ = some (.int .i64 xh) := fun s => exh ▸ nd_ht (hx.later (wOf_below s))
  refine wp_region_cls (by kernel_rfl) (by kernel_rfl) ?_
  repeat (first | go_big_quiet_skip | (go_big_quiet_want; first | (go_big_quiet_op; first | go_big_quiet_on | go_big_quiet_call ((fail)))))
  refine wpQuiet_nil ?_
  rintro w1 ⟨s1, e1⟩
  have hb1 := wOf_below s1
  rw [← e1] at hb1
  clear e1 s1
  replace hx := hx.later hb1
  replace hy := hy.later hb1
  replace hB := bgo hB hb1
  clear hb1
  clear s1 s2
  go_upto_region 5 with fail
  have s1 : ∀ s : Wld w1, (wOf s).cell? ⟨ny.blk, 3, none⟩ = some (.int .i64 yh) := fun s => eyh ▸ nd_ht (hy.later (wOf_below s))
  have s2 : ∀ s : Wld w1, (wOf s).cell? ⟨b, 3, none⟩ = some (.int .i64 xh) := fun s => exh ▸ nd_ht (hx.later (wOf_below s))
  have s3 : ∀ s : Wld w1, (wOf s).cell? ⟨b, 1, none⟩ = some (.pointer (some ⟨nq.blk, 0, none⟩)) := fun s => nd_r (hx.later (wOf_below s))
  have s4 : ∀ s : Wld w1, (wOf s).cell? ⟨b, 0, none⟩ = some (.pointer (some ⟨np.blk, 0, none⟩)) := fun s => nd_l (hx.later (wOf_below s))
  have s5 : ∀ s : Wld w1, (wOf s).cell? ⟨nq.blk, 3, none⟩ = some (.int .i64 qh) := fun s => eqh ▸ nd_ht (hx.2.2.later (wOf_below s))
  have s6 : ∀ s : Wld w1, (wOf s).cell? ⟨np.blk, 3, none⟩ = some (.int .i64 ph) := fun s => eph ▸ nd_ht (hx.2.1.later (wOf_below s))
  refine wp_region_cls (by kernel_rfl) (by kernel_rfl) ?_
  repeat (first | go_big_quiet_skip | (go_big_quiet_want; first | (go_big_quiet_op; first | go_big_quiet_on | go_big_quiet_call ((fail)))))
  refine wpQuiet_nil ?_
  rintro w1 ⟨s1, e1⟩
  have hb1 := wOf_below s1
  rw [← e1] at hb1
  clear e1 s1
  replace hx := hx.later hb1
  replace hy := hy.later hb1
  replace hB := bgo hB hb1
  clear hb1
  clear s1 s2 s3 s4 s5 s6
  go_upto_region 7 with fail
  have s1 : ∀ s : Wld w1, (wOf s).cell? ⟨ny.blk, 3, none⟩ = some (.int .i64 yh) := fun s => eyh ▸ nd_ht (hy.later (wOf_below s))
  have s2 : ∀ s : Wld w1, (wOf s).cell? ⟨b, 3, none⟩ = some (.int .i64 xh) := fun s => exh ▸ nd_ht (hx.later (wOf_below s))
  refine wp_region_cls (by kernel_rfl) (by kernel_rfl) ?_
  repeat (first | go_big_quiet_skip | (go_big_quiet_want; first | (go_big_quiet_op; first | go_big_quiet_on | go_big_quiet_call ((fail)))))
  refine wpQuiet_nil ?_
  rintro w1 ⟨s1, e1⟩
  have hb1 := wOf_below s1
  rw [← e1] at hb1
  clear e1 s1
  replace hx := hx.later hb1
  replace hy := hy.later hb1
  replace hB := bgo hB hb1
  clear hb1
  clear s1 s2
  go_upto_region 8 with fail
  refine wp_region_tail 11 (by kernel_rfl) (fun _ => none) (by kernel_rfl) (by kernel_rfl) (by decide) (fun i v x => match i with
    | 0 => v = .pointer (some ⟨b, 0, none⟩)
    | 1 => v = .pointer (some ⟨b, 0, none⟩)
    | 2 => v = .pointer (some ⟨b, 0, none⟩)
    | 3 => v = .pointer (some ⟨np.blk, 0, none⟩)
    | 4 => v = .pointer (some ⟨b, 0, none⟩)
    | 5 => v = .pointer (some ⟨b, 0, none⟩)
    | 6 => v = .pointer (some ⟨b, 1, none⟩)
    | 7 => v = .pointer (some ⟨nq.blk, 0, none⟩)
    | 8 => v = .pointer (some ⟨ny.blk, 0, none⟩)
    | 9 => TreeOf R ((nq.els) ++ (ny.els)) ((nq.leaves) ++ (ny.leaves)) v x
    | 10 => TreeOf R ((np.els) ++ ((nq.els) ++ (ny.els))) ((np.leaves) ++ ((nq.leaves) ++ (ny.leaves))) v x
    | _ => True) (fun _ => false) (fun _ _ _ _ h => by cases h) ?_ ?_ ?_
  · intro i v x x' hR hb
    match i, hR with
    | 0, h => exact h
    | 1, h => exact h
    | 2, h => exact h
    | 3, h => exact h
    | 4, h => exact h
    | 5, h => exact h
    | 6, h => exact h
    | 7, h => exact h
    | 8, h => exact h
    | 9, h => exact TreeOf.later h hb
    | 10, h => exact TreeOf.later h hb
    | m + 11, h => exact h
  · intro i o hi ho q x vals hX hdep hoth
    have t0 : q.tmps[0]? = some (.pointer (some ⟨b, 0, none⟩)) := by rw [hoth 0 (by kernel_rfl)]; rfl
    have t1 : q.tmps[1]? = some (.pointer (some ⟨ny.blk, 0, none⟩)) := by rw [hoth 1 (by kernel_rfl)]; rfl
    match i, hi, ho with
    | 0, _, ho =>
      simp only [List.getElem?_cons_zero, Option.some.injEq] at ho
      subst ho
      unfold Oper.wp
      simp [execOp, go_sem, t0]
      exact came _ rfl (Below.refl _ _) rfl (fun h => absurd h (by decide))
    | 1, _, ho =>
      simp only [List.getElem?_cons_succ, List.getElem?_cons_zero, Option.some.injEq] at ho
      subst ho
      obtain ⟨u0, e0⟩ := hdep ⟨0, .data⟩ (by simp) rfl _ 138 rfl rfl
      rw [show vals 0 = .pointer (some ⟨b, 0, none⟩) from e0] at u0
      unfold Oper.wp
      simp [execOp, go_sem, u0]
      exact came _ rfl (Below.refl _ _) rfl (fun h => absurd h (by decide))
    | 2, _, ho =>
      simp only [List.getElem?_cons_succ, List.getElem?_cons_zero, Option.some.injEq] at ho
      subst ho
      obtain ⟨u1, e1⟩ := hdep ⟨1, .data⟩ (by simp) rfl _ 139 rfl rfl
      rw [show vals 1 = .pointer (some ⟨b, 0, none⟩) from e1] at u1
      unfold Oper.wp
      simp [execOp, go_sem, u1]
      exact came _ rfl (Below.refl _ _) rfl (fun h => absurd h (by decide))
    | 3, _, ho =>
      simp only [List.getElem?_cons_succ, List.getElem?_cons_zero, Option.some.injEq] at ho
      subst ho
      obtain ⟨u2, e2⟩ := hdep ⟨2, .data⟩ (by simp) rfl _ 140 rfl rfl
      rw [show vals 2 = .pointer (some ⟨b, 0, none⟩) from e2] at u2
      have cc : x.cell? ⟨b, 0, none⟩ = some (.pointer (some ⟨np.blk, 0, none⟩)) := nd_l (hx.later hX)
      unfold Oper.wp
      simp [execOp, go_sem, u2, cc]
      exact came _ rfl (Below.refl _ _) rfl (fun h => absurd h (by decide))
    | 4, _, ho =>
      simp only [List.getElem?_cons_succ, List.getElem?_cons_zero, Option.some.injEq] at ho
      subst ho
      unfold Oper.wp
      simp [execOp, go_sem, t0]
      exact came _ rfl (Below.refl _ _) rfl (fun h => absurd h (by decide))
    | 5, _, ho =>
      simp only [List.getElem?_cons_succ, List.getElem?_cons_zero, Option.some.injEq] at ho
      subst ho
      obtain ⟨u4, e4⟩ := hdep ⟨4, .data⟩ (by simp) rfl _ 142 rfl rfl
      rw [show vals 4 = .pointer (some ⟨b, 0, none⟩) from e4] at u4
      unfold Oper.wp
      simp [execOp, go_sem, u4]
      exact came _ rfl (Below.refl _ _) rfl (fun h => absurd h (by decide))
    | 6, _, ho =>
      simp only [List.getElem?_cons_succ, List.getElem?_cons_zero, Option.some.injEq] at ho
      subst ho
      obtain ⟨u5, e5⟩ := hdep ⟨5, .data⟩ (by simp) rfl _ 143 rfl rfl
      rw [show vals 5 = .pointer (some ⟨b, 0, none⟩) from e5] at u5
      unfold Oper.wp
      simp [execOp, go_sem, u5]
      exact came _ rfl (Below.refl _ _) rfl (fun h => absurd h (by decide))
    | 7, _, ho =>
      simp only [List.getElem?_cons_succ, List.getElem?_cons_zero, Option.some.injEq] at ho
      subst ho
      obtain ⟨u6, e6⟩ := hdep ⟨6, .data⟩ (by simp) rfl _ 144 rfl rfl
      rw [show vals 6 = .pointer (some ⟨b, 1, none⟩) from e6] at u6
      have cc : x.cell? ⟨b, 1, none⟩ = some (.pointer (some ⟨nq.blk, 0, none⟩)) := nd_r (hx.later hX)
      unfold Oper.wp
      simp [execOp, go_sem, u6, cc]
      exact came _ rfl (Below.refl _ _) rfl (fun h => absurd h (by decide))
    | 8, _, ho =>
      simp only [List.getElem?_cons_succ, List.getElem?_cons_zero, Option.some.injEq] at ho
      subst ho
      unfold Oper.wp
      simp [execOp, go_sem, t1]
      exact came _ rfl (Below.refl _ _) rfl (fun h => absurd h (by decide))
    | 9, _, ho =>
      simp only [List.getElem?_cons_succ, List.getElem?_cons_zero, Option.some.injEq] at ho
      subst ho
      obtain ⟨u7, e7⟩ := hdep ⟨7, .data⟩ (by simp) rfl _ 145 rfl rfl
      rw [show vals 7 = .pointer (some ⟨nq.blk, 0, none⟩) from e7] at u7
      obtain ⟨u8, e8⟩ := hdep ⟨8, .data⟩ (by simp) rfl _ 146 rfl rfl
      rw [show vals 8 = .pointer (some ⟨ny.blk, 0, none⟩) from e8] at u8
      unfold Oper.wp
      simp [go_sem, u7, u8]
      refine (inner_any (hx.2.2.later hX) (hy.later hX) fx.2 fy (by simp only [List.length_append]; have := HN.out; omega)).mono ?_
      rintro r x1 ⟨bb, _, rfl, ht, hb1⟩
      exact came _ rfl hb1 ⟨.inner bb nq ny, rfl, ht, ⟨fx.2, fy⟩, by show Nd.els nq ++ Nd.els ny = _; rfl, by show Nd.leaves nq ++ Nd.leaves ny = _; rfl⟩ (fun h => absurd h (by decide))
    | 10, _, ho =>
      simp only [List.getElem?_cons_succ, List.getElem?_cons_zero, Option.some.injEq] at ho
      subst ho
      obtain ⟨u3, e3⟩ := hdep ⟨3, .data⟩ (by simp) rfl _ 141 rfl rfl
      rw [show vals 3 = .pointer (some ⟨np.blk, 0, none⟩) from e3] at u3
      obtain ⟨u9, e9⟩ := hdep ⟨9, .data⟩ (by simp) rfl _ 147 rfl rfl
      obtain ⟨n9, p9, g9, f9, l9, v9⟩ : TreeOf R ((nq.els) ++ (ny.els)) ((nq.leaves) ++ (ny.leaves)) (vals 9) x := e9
      rw [p9] at u9
      unfold pv at u9
      unfold Oper.wp
      simp [go_sem, u3, u9]
      refine (inner_any (hx.2.1.later hX) g9 fx.1 f9 (by rw [l9]; simp only [List.length_append]; have := HN.out; omega)).mono ?_
      rintro r x1 ⟨bb, _, rfl, ht, hb1⟩
      exact came _ rfl hb1 ⟨.inner bb np n9, rfl, ht, ⟨fx.1, f9⟩, by show Nd.els np ++ Nd.els n9 = _; simp only [l9], by show Nd.leaves np ++ Nd.leaves n9 = _; simp only [v9]⟩ (fun h => absurd h (by decide))
    | m + 11, hi, _ => exact absurd hi (by omega)
  · intro vals x' hX hR _
    obtain ⟨t, k1, k2, k3, k4, k5⟩ : TreeOf R ((np.els) ++ ((nq.els) ++ (ny.els))) ((np.leaves) ++ ((nq.leaves) ++ (ny.leaves))) (vals 10) x' := hR 10 (by decide)
    simp only [List.take, List.drop, putAll, k1]
    unfold pv
    go_wp2
    go_ret
    refine ⟨_, rfl, ⟨t, rfl, k2, k3, ?_, ?_⟩, bgo hB hX⟩
    · rw [k4]; simp only [Nd.els, List.append_assoc]
    · rw [k5]; simp only [Nd.leaves, List.append_assoc]
end Go.Proofs.YtjalehlmldlooaaGreatDoor
