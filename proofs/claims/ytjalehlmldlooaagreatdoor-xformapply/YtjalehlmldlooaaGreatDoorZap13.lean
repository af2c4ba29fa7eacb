
/-
  tree.balanced of any two trees; tree.joined.
-/
import Derived.Test.YtjalehlmldlooaaGreatDoorZap12
namespace Go.Proofs.YtjalehlmldlooaaGreatDoor
open Go.RowKit
set_option maxRecDepth 100000

set_option maxHeartbeats 4000000 in
theorem bal5 {R : Rows} {nx ny : Nd} {w : World} (hx : (nx).At R w) (hy : (ny).At R w) (fx : (nx).Full) (fy : (ny).Full) (hn : ((nx).els ++ (ny).els).length ≤ 1073741824) (c1 : ¬ nx.ht + 1 < ny.ht) (c2 : ¬ ny.ht + 1 < nx.ht) :
    Calls Tryz.prog 95 #[.pointer (some ⟨nx.blk, 0, none⟩), .pointer (some ⟨ny.blk, 0, none⟩)] w fun r w' => ∃ v, r = .returned v ∧ TreeOf R ((nx).els ++ (ny).els) ((nx).leaves ++ (ny).leaves) v w' ∧ Below w.heap.size w w' := by
  obtain ⟨xh, exh⟩ : ∃ h : Int, ((nx).ht : Int) = h := ⟨_, rfl⟩
  obtain ⟨yh, eyh⟩ : ∃ h : Int, ((ny).ht : Int) = h := ⟨_, rfl⟩
  have gx : 0 ≤ xh ∧ xh ≤ 1073741824 := by have := fx.ht_le; rw [List.length_append] at hn; omega
  have gy : 0 ≤ yh ∧ yh ≤ 1073741824 := by have := fy.ht_le; rw [List.length_append] at hn; omega
  have g1 : ¬ xh + 1 < yh := by omega
  have g2 : ¬ yh + 1 < xh := by omega
  have HN := hid_of' (show (nx.els ++ ny.els).length ≤ 1099511627776 by omega)
  have hB := Below.refl w.heap.size w
  clear hn c1 c2
  go_enter Tryz.func95, Tryz.ntmps95
  go_upto_region 1 with fail
  have s1 : ∀ s : Wld w, (wOf s).cell? ⟨ny.blk, 3, none⟩ = some (.int .i64 yh) := fun s => eyh ▸ nd_ht (hy.later (wOf_below s))
  have s2 : ∀ s : Wld w, (wOf s).cell? ⟨nx.blk, 3, none⟩ = some (.int .i64 xh) := fun s => exh ▸ nd_ht (hx.later (wOf_below s))
  refine wp_region_cls (by kernel_rfl) (by kernel_rfl) ?_
  repeat (first | go_big_quiet_skip | (go_big_quiet_want; first | (go_big_quiet_op; first | go_big_quiet_on | go_big_quiet_call ((fail)))))
  refine wpQuiet_nil ?_
  rintro w1 ⟨s1, e1⟩
  have hb1 := wOf_below s1
  rw [← e1] at hb1
  clear e1 s1
  replace hx := hx.later hb1
  replace hy := hy.later hb1
  replace hB := bgo hB hb1
  clear hb1
  clear s1 s2
  go_upto_region 3 with fail
  have s1 : ∀ s : Wld w1, (wOf s).cell? ⟨ny.blk, 3, none⟩ = some (.int .i64 yh) := fun s => eyh ▸ nd_ht (hy.later (wOf_below s))
  have s2 : ∀ s : Wld w1, (wOf s).cell? ⟨nx.blk, 3, none⟩ = some (.int .i64 xh) := fun s => exh ▸ nd_ht (hx.later (wOf_below s))
  refine wp_region_cls (by kernel_rfl) (by kernel_rfl) ?_
  repeat (first | go_big_quiet_skip | (go_big_quiet_want; first | (go_big_quiet_op; first | go_big_quiet_on | go_big_quiet_call ((fail)))))
  refine wpQuiet_nil ?_
  rintro w1 ⟨s1, e1⟩
  have hb1 := wOf_below s1
  rw [← e1] at hb1
  clear e1 s1
  replace hx := hx.later hb1
  replace hy := hy.later hb1
  replace hB := bgo hB hb1
  clear hb1
  clear s1 s2
  go_upto_region 5 with fail
  have s1 : ∀ s : Wld w1, (wOf s).cell? ⟨ny.blk, 3, none⟩ = some (.int .i64 yh) := fun s => eyh ▸ nd_ht (hy.later (wOf_below s))
  have s2 : ∀ s : Wld w1, (wOf s).cell? ⟨nx.blk, 3, none⟩ = some (.int .i64 xh) := fun s => exh ▸ nd_ht (hx.later (wOf_below s))
  refine wp_region_cls (by kernel_rfl) (by kernel_rfl) ?_
  repeat (first | go_big_quiet_skip | (go_big_quiet_want; first | (go_big_quiet_op; first | go_big_quiet_on | go_big_quiet_call ((fail)))))
  refine wpQuiet_nil ?_
  rintro w1 ⟨s1, e1⟩
  have hb1 := wOf_below s1
  rw [← e1] at hb1
  clear e1 s1
  replace hx := hx.later hb1
  replace hy := hy.later hb1
  replace hB := bgo hB hb1
  clear hb1
  clear s1 s2
  go_upto_region 7 with fail
  have s1 : ∀ s : Wld w1, (wOf s).cell? ⟨ny.blk, 3, none⟩ = some (.int .i64 yh) := fun s => eyh ▸ nd_ht (hy.later (wOf_below s))
  have s2 : ∀ s : Wld w1, (wOf s).cell? ⟨nx.blk, 3, none⟩ = some (.int .i64 xh) := fun s => exh ▸ nd_ht (hx.later (wOf_below s))
  refine wp_region_cls (by kernel_rfl) (by kernel_rfl) ?_
  repeat (first | go_big_quiet_skip | (go_big_quiet_want; first | (go_big_quiet_op; first | go_big_quiet_on | go_big_quiet_call ((fail)))))
  refine wpQuiet_nil ?_
  rintro w1 ⟨s1, e1⟩
  have hb1 := wOf_below s1
  rw [← e1] at hb1
  clear e1 s1
  replace hx := hx.later hb1
  replace hy := hy.later hb1
  replace hB := bgo hB hb1
  clear hb1
  clear s1 s2
  have HI := hid_of' (inner_any hx hy fx fy HN.out)
  unfold pv at HI
  go_wp2_with (go_at_call 65; refine HI.out.mono ?_; rintro r w2 ⟨bb, _, rfl, ht, hb2⟩)
  go_ret
  exact ⟨_, rfl, ⟨.inner bb nx ny, rfl, ht, ⟨fx, fy⟩, rfl, rfl⟩, bgo hB hb2⟩

theorem balanced_any {R : Rows} {nx ny : Nd} {w : World} (hx : (nx).At R w) (hy : (ny).At R w) (fx : (nx).Full) (fy : (ny).Full) (hn : ((nx).els ++ (ny).els).length ≤ 1073741824) :
    Calls Tryz.prog 95 #[.pointer (some ⟨nx.blk, 0, none⟩), .pointer (some ⟨ny.blk, 0, none⟩)] w fun r w' => ∃ v, r = .returned v ∧ TreeOf R ((nx).els ++ (ny).els) ((nx).leaves ++ (ny).leaves) v w' ∧ Below w.heap.size w w' := by
  by_cases c1 : nx.ht + 1 < ny.ht
  · cases ny with
    | leaf b g o_ c l => simp [Nd.ht] at c1
    | inner b np nq =>
      by_cases c2 : nq.ht < np.ht
      · cases np with
        | leaf b' g o_ c l => simp [Nd.ht] at c2
        | inner b' p1 p2 => exact bal1 hx hy fx fy hn c1 c2
      · exact bal2 hx hy fx fy hn c1 c2
  · by_cases c3 : ny.ht + 1 < nx.ht
    · cases nx with
      | leaf b g o_ c l => simp [Nd.ht] at c3
      | inner b np nq =>
        by_cases c2 : np.ht < nq.ht
        · cases nq with
          | leaf b' g o_ c l => simp [Nd.ht] at c2
          | inner b' p1 p2 => exact bal3 hx hy fx fy hn c3 c2
        · exact bal4 hx hy fx fy hn c3 c2
    · exact bal5 hx hy fx fy hn c1 c3

set_option maxHeartbeats 4000000 in
theorem join5 {R : Rows} {nx ny : Nd} {w : World} (hx : (nx).At R w) (hy : (ny).At R w) (fx : (nx).Full) (fy : (ny).Full) (hn : ((nx).els ++ (ny).els).length ≤ 1073741824) (c1 : ¬ nx.ht + 1 < ny.ht) (c2 : ¬ ny.ht + 1 < nx.ht) :
    Calls Tryz.prog 82 #[.pointer (some ⟨nx.blk, 0, none⟩), .pointer (some ⟨ny.blk, 0, none⟩)] w fun r w' => ∃ v, r = .returned v ∧ TreeOf R ((nx).els ++ (ny).els) ((nx).leaves ++ (ny).leaves) v w' ∧ Below w.heap.size w w' := by
  obtain ⟨xh, exh⟩ : ∃ h : Int, ((nx).ht : Int) = h := ⟨_, rfl⟩
  obtain ⟨yh, eyh⟩ : ∃ h : Int, ((ny).ht : Int) = h := ⟨_, rfl⟩
  have gx : 0 ≤ xh ∧ xh ≤ 1073741824 := by have := fx.ht_le; rw [List.length_append] at hn; omega
  have gy : 0 ≤ yh ∧ yh ≤ 1073741824 := by have := fy.ht_le; rw [List.length_append] at hn; omega
  have g1 : ¬ xh + 1 < yh := by omega
  have g2 : ¬ yh + 1 < xh := by omega
  have HN := hid_of' (show (nx.els ++ ny.els).length ≤ 1099511627776 by omega)
  have hB := Below.refl w.heap.size w
  clear hn c1 c2
  go_enter Tryz.func82, Tryz.ntmps82
  go_upto_region 5 with fail
  have s1 : ∀ s : Wld w, (wOf s).cell? ⟨ny.blk, 3, none⟩ = some (.int .i64 yh) := fun s => eyh ▸ nd_ht (hy.later (wOf_below s))
  have s2 : ∀ s : Wld w, (wOf s).cell? ⟨nx.blk, 3, none⟩ = some (.int .i64 xh) := fun s => exh ▸ nd_ht (hx.later (wOf_below s))
  refine wp_region_cls (by kernel_rfl) (by kernel_rfl) ?_
  repeat (first | go_big_quiet_skip | (go_big_quiet_want; first | (go_big_quiet_op; first | go_big_quiet_on | go_big_quiet_call ((fail)))))
  refine wpQuiet_nil ?_
  rintro w1 ⟨s1, e1⟩
  have hb1 := wOf_below s1
  rw [← e1] at hb1
  clear e1 s1
  replace hx := hx.later hb1
  replace hy := hy.later hb1
  replace hB := bgo hB hb1
  clear hb1
  clear s1 s2
  go_upto_region 7 with fail
  have s1 : ∀ s : Wld w1, (wOf s).cell? ⟨ny.blk, 3, none⟩ = some (.int .i64 yh) := fun s => eyh ▸ nd_ht (hy.later (wOf_below s))
  have s2 : ∀ s : Wld w1, (wOf s).cell? ⟨nx.blk, 3, none⟩ = some (.int .i64 xh) := fun s => exh ▸ nd_ht (hx.later (wOf_below s))
  refine wp_region_cls (by kernel_rfl) (by kernel_rfl) ?_
  repeat (first | go_big_quiet_skip | (go_big_quiet_want; first | (go_big_quiet_op; first | go_big_quiet_on | go_big_quiet_call ((fail)))))
  refine wpQuiet_nil ?_
  rintro w1 ⟨s1, e1⟩
  have hb1 := wOf_below s1
  rw [← e1] at hb1
  clear e1 s1
  replace hx := hx.later hb1
  replace hy := hy.later hb1
  replace hB := bgo hB hb1
  clear hb1
  clear s1 s2
  have HI := hid_of' (inner_any hx hy fx fy HN.out)
  unfold pv at HI
  go_wp2_with (go_at_call 65; refine HI.out.mono ?_; rintro r w2 ⟨bb, _, rfl, ht, hb2⟩)
  go_ret
  exact ⟨_, rfl, ⟨.inner bb nx ny, rfl, ht, ⟨fx, fy⟩, rfl, rfl⟩, bgo hB hb2⟩

set_option maxHeartbeats 4000000 in
theorem join1 {R : Rows} {np nq ny : Nd} {b : Nat} {w : World} (hx : (Nd.inner b np nq).At R w) (hy : (ny).At R w) (fx : (Nd.inner b np nq).Full) (fy : (ny).Full) (hn : ((Nd.inner b np nq).els ++ (ny).els).length ≤ 1073741824) (c1 : ny.ht + 1 < (Nd.inner b np nq).ht)
    (C0 : ∀ (ta tb : Nd), ta.ht + tb.ht < (Nd.inner b np nq).ht + (ny).ht → ∀ w : World, ta.At R w → tb.At R w → ta.Full → tb.Full → (ta.els ++ tb.els).length ≤ 1073741824 → Calls Tryz.prog 82 #[.pointer (some ⟨ta.blk, 0, none⟩), .pointer (some ⟨tb.blk, 0, none⟩)] w fun r w' => ∃ v, r = .returned v ∧ TreeOf R ((ta).els ++ (tb).els) ((ta).leaves ++ (tb).leaves) v w' ∧ Below w.heap.size w w') :
    Calls Tryz.prog 82 #[.pointer (some ⟨b, 0, none⟩), .pointer (some ⟨ny.blk, 0, none⟩)] w fun r w' => ∃ v, r = .returned v ∧ TreeOf R ((Nd.inner b np nq).els ++ (ny).els) ((Nd.inner b np nq).leaves ++ (ny).leaves) v w' ∧ Below w.heap.size w w' := by
  obtain ⟨xh, exh⟩ : ∃ h : Int, ((Nd.inner b np nq).ht : Int) = h := ⟨_, rfl⟩
  obtain ⟨yh, eyh⟩ : ∃ h : Int, ((ny).ht : Int) = h := ⟨_, rfl⟩
  have gx : 0 ≤ xh ∧ xh ≤ 1073741824 := by have := fx.ht_le; rw [List.length_append] at hn; omega
  have gy : 0 ≤ yh ∧ yh ≤ 1073741824 := by have := fy.ht_le; rw [List.length_append] at hn; omega
  have g1 : yh + 1 < xh := by omega
  have HM := hid_of' (show nq.ht + ny.ht < (Nd.inner b np nq).ht + (ny).ht by simp only [Nd.ht]; omega)
  have C := hid_of' C0
  simp only [Nd.els, List.length_append] at hn
  have HN := hid_of' hn
  have hB := Below.refl w.heap.size w
  clear hn c1 C0
  go_enter Tryz.func82, Tryz.ntmps82
  go_upto_region 5 with fail
  have s1 : ∀ s : Wld w, (wOf s).cell? ⟨ny.blk, 3, none⟩ = some (.int .i64 yh) := fun s => eyh ▸ nd_ht (hy.later (wOf_below s))
  have s2 : ∀ s : Wld w, (wOf s).cell? ⟨b, 3, none⟩ = some (.int .i64 xh) := fun s => exh ▸ nd_ht (hx.later (wOf_below s))
  refine wp_region_cls (by kernel_rfl) (by kernel_rfl) ?_
  repeat (first | go_big_quiet_skip | (go_big_quiet_want; first | (go_big_quiet_op; first | go_big_quiet_on | go_big_quiet_call ((fail)))))
  refine wpQuiet_nil ?_
  rintro w1 ⟨s1, e1⟩
  have hb1 := wOf_below s1
  rw [← e1] at hb1
  clear e1 s1
  replace hx := hx.later hb1
  replace hy := hy.later hb1
  replace hB := bgo hB hb1
  clear hb1
  clear s1 s2
  go_upto_region 6 with fail
  refine wp_region_tail 11 (by kernel_rfl) (fun _ => none) (by kernel_rfl) (by kernel_rfl) (by decide) (fun i v x => match i with
    | 0 => v = .pointer (some ⟨b, 0, none⟩)
    | 1 => v = .pointer (some ⟨b, 0, none⟩)
    | 2 => v = .pointer (some ⟨b, 0, none⟩)
    | 3 => v = .pointer (some ⟨np.blk, 0, none⟩)
    | 4 => v = .pointer (some ⟨b, 0, none⟩)
    | 5 => v = .pointer (some ⟨b, 0, none⟩)
    | 6 => v = .pointer (some ⟨b, 1, none⟩)
    | 7 => v = .pointer (some ⟨nq.blk, 0, none⟩)
    | 8 => v = .pointer (some ⟨ny.blk, 0, none⟩)
    | 9 => TreeOf R ((nq.els) ++ (ny.els)) ((nq.leaves) ++ (ny.leaves)) v x
    | 10 => TreeOf R ((np.els) ++ ((nq.els) ++ (ny.els))) ((np.leaves) ++ ((nq.leaves) ++ (ny.leaves))) v x
    | _ => True) (fun _ => false) (fun _ _ _ _ h => by cases h) ?_ ?_ ?_
  · intro i v x x' hR hb
    match i, hR with
    | 0, h => exact h
    | 1, h => exact h
    | 2, h => exact h
    | 3, h => exact h
    | 4, h => exact h
    | 5, h => exact h
    | 6, h => exact h
    | 7, h => exact h
    | 8, h => exact h
    | 9, h => exact TreeOf.later h hb
    | 10, h => exact TreeOf.later h hb
    | m + 11, h => exact h
  · intro i o hi ho q x vals hX hdep hoth
    have t0 : q.tmps[0]? = some (.pointer (some ⟨b, 0, none⟩)) := by rw [hoth 0 (by kernel_rfl)]; rfl
    have t1 : q.tmps[1]? = some (.pointer (some ⟨ny.blk, 0, none⟩)) := by rw [hoth 1 (by kernel_rfl)]; rfl
    match i, hi, ho with
    | 0, _, ho =>
      simp only [List.getElem?_cons_zero, Option.some.injEq] at ho
      subst ho
      unfold Oper.wp
      simp [execOp, go_sem, t0]
      exact came _ rfl (Below.refl _ _) rfl (fun h => absurd h (by decide))
    | 1, _, ho =>
      simp only [List.getElem?_cons_succ, List.getElem?_cons_zero, Option.some.injEq] at ho
      subst ho
      obtain ⟨u0, e0⟩ := hdep ⟨0, .data⟩ (by simp) rfl _ 24 rfl rfl
      rw [show vals 0 = .pointer (some ⟨b, 0, none⟩) from e0] at u0
      unfold Oper.wp
      simp [execOp, go_sem, u0]
      exact came _ rfl (Below.refl _ _) rfl (fun h => absurd h (by decide))
    | 2, _, ho =>
      simp only [List.getElem?_cons_succ, List.getElem?_cons_zero, Option.some.injEq] at ho
      subst ho
      obtain ⟨u1, e1⟩ := hdep ⟨1, .data⟩ (by simp) rfl _ 25 rfl rfl
      rw [show vals 1 = .pointer (some ⟨b, 0, none⟩) from e1] at u1
      unfold Oper.wp
      simp [execOp, go_sem, u1]
      exact came _ rfl (Below.refl _ _) rfl (fun h => absurd h (by decide))
    | 3, _, ho =>
      simp only [List.getElem?_cons_succ, List.getElem?_cons_zero, Option.some.injEq] at ho
      subst ho
      obtain ⟨u2, e2⟩ := hdep ⟨2, .data⟩ (by simp) rfl _ 26 rfl rfl
      rw [show vals 2 = .pointer (some ⟨b, 0, none⟩) from e2] at u2
      have cc : x.cell? ⟨b, 0, none⟩ = some (.pointer (some ⟨np.blk, 0, none⟩)) := nd_l (hx.later hX)
      unfold Oper.wp
      simp [execOp, go_sem, u2, cc]
      exact came _ rfl (Below.refl _ _) rfl (fun h => absurd h (by decide))
    | 4, _, ho =>
      simp only [List.getElem?_cons_succ, List.getElem?_cons_zero, Option.some.injEq] at ho
      subst ho
      unfold Oper.wp
      simp [execOp, go_sem, t0]
      exact came _ rfl (Below.refl _ _) rfl (fun h => absurd h (by decide))
    | 5, _, ho =>
      simp only [List.getElem?_cons_succ, List.getElem?_cons_zero, Option.some.injEq] at ho
      subst ho
      obtain ⟨u4, e4⟩ := hdep ⟨4, .data⟩ (by simp) rfl _ 28 rfl rfl
      rw [show vals 4 = .pointer (some ⟨b, 0, none⟩) from e4] at u4
      unfold Oper.wp
      simp [execOp, go_sem, u4]
      exact came _ rfl (Below.refl _ _) rfl (fun h => absurd h (by decide))
    | 6, _, ho =>
      simp only [List.getElem?_cons_succ, List.getElem?_cons_zero, Option.some.injEq] at ho
      subst ho
      obtain ⟨u5, e5⟩ := hdep ⟨5, .data⟩ (by simp) rfl _ 29 rfl rfl
      rw [show vals 5 = .pointer (some ⟨b, 0, none⟩) from e5] at u5
      unfold Oper.wp
      simp [execOp, go_sem, u5]
      exact came _ rfl (Below.refl _ _) rfl (fun h => absurd h (by decide))
    | 7, _, ho =>
      simp only [List.getElem?_cons_succ, List.getElem?_cons_zero, Option.some.injEq] at ho
      subst ho
      obtain ⟨u6, e6⟩ := hdep ⟨6, .data⟩ (by simp) rfl _ 30 rfl rfl
      rw [show vals 6 = .pointer (some ⟨b, 1, none⟩) from e6] at u6
      have cc : x.cell? ⟨b, 1, none⟩ = some (.pointer (some ⟨nq.blk, 0, none⟩)) := nd_r (hx.later hX)
      unfold Oper.wp
      simp [execOp, go_sem, u6, cc]
      exact came _ rfl (Below.refl _ _) rfl (fun h => absurd h (by decide))
    | 8, _, ho =>
      simp only [List.getElem?_cons_succ, List.getElem?_cons_zero, Option.some.injEq] at ho
      subst ho
      unfold Oper.wp
      simp [execOp, go_sem, t1]
      exact came _ rfl (Below.refl _ _) rfl (fun h => absurd h (by decide))
    | 9, _, ho =>
      simp only [List.getElem?_cons_succ, List.getElem?_cons_zero, Option.some.injEq] at ho
      subst ho
      obtain ⟨u7, e7⟩ := hdep ⟨7, .data⟩ (by simp) rfl _ 31 rfl rfl
      rw [show vals 7 = .pointer (some ⟨nq.blk, 0, none⟩) from e7] at u7
      obtain ⟨u8, e8⟩ := hdep ⟨8, .data⟩ (by simp) rfl _ 32 rfl rfl
      rw [show vals 8 = .pointer (some ⟨ny.blk, 0, none⟩) from e8] at u8
      unfold Oper.wp
      simp [go_sem, u7, u8]
      refine (C.out nq ny HM.out _ (hx.2.2.later hX) (hy.later hX) fx.2 fy (by simp only [List.length_append]; have := HN.out; omega)).mono ?_
      rintro r x1 ⟨v, rfl, hv, hb1⟩
      exact came _ rfl hb1 (by simpa only [List.append_assoc] using hv) (fun h => absurd h (by decide))
    | 10, _, ho =>
      simp only [List.getElem?_cons_succ, List.getElem?_cons_zero, Option.some.injEq] at ho
      subst ho
      obtain ⟨u3, e3⟩ := hdep ⟨3, .data⟩ (by simp) rfl _ 27 rfl rfl
      rw [show vals 3 = .pointer (some ⟨np.blk, 0, none⟩) from e3] at u3
      obtain ⟨u9, e9⟩ := hdep ⟨9, .data⟩ (by simp) rfl _ 33 rfl rfl
      obtain ⟨n9, p9, g9, f9, l9, v9⟩ : TreeOf R ((nq.els) ++ (ny.els)) ((nq.leaves) ++ (ny.leaves)) (vals 9) x := e9
      rw [p9] at u9
      unfold pv at u9
      unfold Oper.wp
      simp [go_sem, u3, u9]
      refine (balanced_any (hx.2.1.later hX) g9 fx.1 f9 (by rw [l9]; simp only [List.length_append]; have := HN.out; omega)).mono ?_
      rintro r x1 ⟨v, rfl, hv, hb1⟩
      exact came _ rfl hb1 (by rw [l9, v9] at hv; simpa only [List.append_assoc] using hv) (fun h => absurd h (by decide))
    | m + 11, hi, _ => exact absurd hi (by omega)
  · intro vals x' hX hR _
    obtain ⟨t, k1, k2, k3, k4, k5⟩ : TreeOf R ((np.els) ++ ((nq.els) ++ (ny.els))) ((np.leaves) ++ ((nq.leaves) ++ (ny.leaves))) (vals 10) x' := hR 10 (by decide)
    simp only [List.take, List.drop, putAll, k1]
    unfold pv
    go_wp2
    go_ret
    refine ⟨_, rfl, ⟨t, rfl, k2, k3, ?_, ?_⟩, bgo hB hX⟩
    · rw [k4]; simp only [Nd.els, List.append_assoc]
    · rw [k5]; simp only [Nd.leaves, List.append_assoc]

set_option maxHeartbeats 4000000 in
theorem join2 {R : Rows} {nx np nq : Nd} {b : Nat} {w : World} (hx : (nx).At R w) (hy : (Nd.inner b np nq).At R w) (fx : (nx).Full) (fy : (Nd.inner b np nq).Full) (hn : ((nx).els ++ (Nd.inner b np nq).els).length ≤ 1073741824) (c1 : nx.ht + 1 < (Nd.inner b np nq).ht)
    (C0 : ∀ (ta tb : Nd), ta.ht + tb.ht < (nx).ht + (Nd.inner b np nq).ht → ∀ w : World, ta.At R w → tb.At R w → ta.Full → tb.Full → (ta.els ++ tb.els).length ≤ 1073741824 → Calls Tryz.prog 82 #[.pointer (some ⟨ta.blk, 0, none⟩), .pointer (some ⟨tb.blk, 0, none⟩)] w fun r w' => ∃ v, r = .returned v ∧ TreeOf R ((ta).els ++ (tb).els) ((ta).leaves ++ (tb).leaves) v w' ∧ Below w.heap.size w w') :
    Calls Tryz.prog 82 #[.pointer (some ⟨nx.blk, 0, none⟩), .pointer (some ⟨b, 0, none⟩)] w fun r w' => ∃ v, r = .returned v ∧ TreeOf R ((nx).els ++ (Nd.inner b np nq).els) ((nx).leaves ++ (Nd.inner b np nq).leaves) v w' ∧ Below w.heap.size w w' := by
  obtain ⟨xh, exh⟩ : ∃ h : Int, ((nx).ht : Int) = h := ⟨_, rfl⟩
  obtain ⟨yh, eyh⟩ : ∃ h : Int, ((Nd.inner b np nq).ht : Int) = h := ⟨_, rfl⟩
  have gx : 0 ≤ xh ∧ xh ≤ 1073741824 := by have := fx.ht_le; rw [List.length_append] at hn; omega
  have gy : 0 ≤ yh ∧ yh ≤ 1073741824 := by have := fy.ht_le; rw [List.length_append] at hn; omega
  have g1 : xh + 1 < yh := by omega
  have g0 : ¬ yh + 1 < xh := by omega
  have HM := hid_of' (show nx.ht + np.ht < (nx).ht + (Nd.inner b np nq).ht by simp only [Nd.ht]; omega)
  have C := hid_of' C0
  simp only [Nd.els, List.length_append] at hn
  have HN := hid_of' hn
  have hB := Below.refl w.heap.size w
  clear hn c1 C0
  go_enter Tryz.func82, Tryz.ntmps82
  go_upto_region 5 with fail
  have s1 : ∀ s : Wld w, (wOf s).cell? ⟨b, 3, none⟩ = some (.int .i64 yh) := fun s => eyh ▸ nd_ht (hy.later (wOf_below s))
  have s2 : ∀ s : Wld w, (wOf s).cell? ⟨nx.blk, 3, none⟩ = some (.int .i64 xh) := fun s => exh ▸ nd_ht (hx.later (wOf_below s))
  refine wp_region_cls (by kernel_rfl) (by kernel_rfl) ?_
  repeat (first | go_big_quiet_skip | (go_big_quiet_want; first | (go_big_quiet_op; first | go_big_quiet_on | go_big_quiet_call ((fail)))))
  refine wpQuiet_nil ?_
  rintro w1 ⟨s1, e1⟩
  have hb1 := wOf_below s1
  rw [← e1] at hb1
  clear e1 s1
  replace hx := hx.later hb1
  replace hy := hy.later hb1
  replace hB := bgo hB hb1
  clear hb1
  clear s1 s2
  go_upto_region 7 with fail
  have s1 : ∀ s : Wld w1, (wOf s).cell? ⟨b, 3, none⟩ = some (.int .i64 yh) := fun s => eyh ▸ nd_ht (hy.later (wOf_below s))
  have s2 : ∀ s : Wld w1, (wOf s).cell? ⟨nx.blk, 3, none⟩ = some (.int .i64 xh) := fun s => exh ▸ nd_ht (hx.later (wOf_below s))
  refine wp_region_cls (by kernel_rfl) (by kernel_rfl) ?_
  repeat (first | go_big_quiet_skip | (go_big_quiet_want; first | (go_big_quiet_op; first | go_big_quiet_on | go_big_quiet_call ((fail)))))
  refine wpQuiet_nil ?_
  rintro w1 ⟨s1, e1⟩
  have hb1 := wOf_below s1
  rw [← e1] at hb1
  clear e1 s1
  replace hx := hx.later hb1
  replace hy := hy.later hb1
  replace hB := bgo hB hb1
  clear hb1
  clear s1 s2
  go_upto_region 8 with fail
  refine wp_region_tail 11 (by kernel_rfl) (fun _ => none) (by kernel_rfl) (by kernel_rfl) (by decide) (fun i v x => match i with
    | 0 => v = .pointer (some ⟨nx.blk, 0, none⟩)
    | 1 => v = .pointer (some ⟨b, 0, none⟩)
    | 2 => v = .pointer (some ⟨b, 0, none⟩)
    | 3 => v = .pointer (some ⟨b, 0, none⟩)
    | 4 => v = .pointer (some ⟨np.blk, 0, none⟩)
    | 5 => TreeOf R ((nx.els) ++ (np.els)) ((nx.leaves) ++ (np.leaves)) v x
    | 6 => v = .pointer (some ⟨b, 0, none⟩)
    | 7 => v = .pointer (some ⟨b, 0, none⟩)
    | 8 => v = .pointer (some ⟨b, 1, none⟩)
    | 9 => v = .pointer (some ⟨nq.blk, 0, none⟩)
    | 10 => TreeOf R (((nx.els) ++ (np.els)) ++ (nq.els)) (((nx.leaves) ++ (np.leaves)) ++ (nq.leaves)) v x
    | _ => True) (fun _ => false) (fun _ _ _ _ h => by cases h) ?_ ?_ ?_
  · intro i v x x' hR hb
    match i, hR with
    | 0, h => exact h
    | 1, h => exact h
    | 2, h => exact h
    | 3, h => exact h
    | 4, h => exact h
    | 5, h => exact TreeOf.later h hb
    | 6, h => exact h
    | 7, h => exact h
    | 8, h => exact h
    | 9, h => exact h
    | 10, h => exact TreeOf.later h hb
    | m + 11, h => exact h
  · intro i o hi ho q x vals hX hdep hoth
    have t0 : q.tmps[0]? = some (.pointer (some ⟨nx.blk, 0, none⟩)) := by rw [hoth 0 (by kernel_rfl)]; rfl
    have t1 : q.tmps[1]? = some (.pointer (some ⟨b, 0, none⟩)) := by rw [hoth 1 (by kernel_rfl)]; rfl
    match i, hi, ho with
    | 0, _, ho =>
      simp only [List.getElem?_cons_zero, Option.some.injEq] at ho
      subst ho
      unfold Oper.wp
      simp [execOp, go_sem, t0]
      exact came _ rfl (Below.refl _ _) rfl (fun h => absurd h (by decide))
    | 1, _, ho =>
      simp only [List.getElem?_cons_succ, List.getElem?_cons_zero, Option.some.injEq] at ho
      subst ho
      unfold Oper.wp
      simp [execOp, go_sem, t1]
      exact came _ rfl (Below.refl _ _) rfl (fun h => absurd h (by decide))
    | 2, _, ho =>
      simp only [List.getElem?_cons_succ, List.getElem?_cons_zero, Option.some.injEq] at ho
      subst ho
      obtain ⟨u1, e1⟩ := hdep ⟨1, .data⟩ (by simp) rfl _ 47 rfl rfl
      rw [show vals 1 = .pointer (some ⟨b, 0, none⟩) from e1] at u1
      unfold Oper.wp
      simp [execOp, go_sem, u1]
      exact came _ rfl (Below.refl _ _) rfl (fun h => absurd h (by decide))
    | 3, _, ho =>
      simp only [List.getElem?_cons_succ, List.getElem?_cons_zero, Option.some.injEq] at ho
      subst ho
      obtain ⟨u2, e2⟩ := hdep ⟨2, .data⟩ (by simp) rfl _ 48 rfl rfl
      rw [show vals 2 = .pointer (some ⟨b, 0, none⟩) from e2] at u2
      unfold Oper.wp
      simp [execOp, go_sem, u2]
      exact came _ rfl (Below.refl _ _) rfl (fun h => absurd h (by decide))
    | 4, _, ho =>
      simp only [List.getElem?_cons_succ, List.getElem?_cons_zero, Option.some.injEq] at ho
      subst ho
      obtain ⟨u3, e3⟩ := hdep ⟨3, .data⟩ (by simp) rfl _ 49 rfl rfl
      rw [show vals 3 = .pointer (some ⟨b, 0, none⟩) from e3] at u3
      have cc : x.cell? ⟨b, 0, none⟩ = some (.pointer (some ⟨np.blk, 0, none⟩)) := nd_l (hy.later hX)
      unfold Oper.wp
      simp [execOp, go_sem, u3, cc]
      exact came _ rfl (Below.refl _ _) rfl (fun h => absurd h (by decide))
    | 5, _, ho =>
      simp only [List.getElem?_cons_succ, List.getElem?_cons_zero, Option.some.injEq] at ho
      subst ho
      obtain ⟨u0, e0⟩ := hdep ⟨0, .data⟩ (by simp) rfl _ 46 rfl rfl
      rw [show vals 0 = .pointer (some ⟨nx.blk, 0, none⟩) from e0] at u0
      obtain ⟨u4, e4⟩ := hdep ⟨4, .data⟩ (by simp) rfl _ 50 rfl rfl
      rw [show vals 4 = .pointer (some ⟨np.blk, 0, none⟩) from e4] at u4
      unfold Oper.wp
      simp [go_sem, u0, u4]
      refine (C.out nx np HM.out _ (hx.later hX) (hy.2.1.later hX) fx fy.1 (by simp only [List.length_append]; have := HN.out; omega)).mono ?_
      rintro r x1 ⟨v, rfl, hv, hb1⟩
      exact came _ rfl hb1 (by simpa only [List.append_assoc] using hv) (fun h => absurd h (by decide))
    | 6, _, ho =>
      simp only [List.getElem?_cons_succ, List.getElem?_cons_zero, Option.some.injEq] at ho
      subst ho
      unfold Oper.wp
      simp [execOp, go_sem, t1]
      exact came _ rfl (Below.refl _ _) rfl (fun h => absurd h (by decide))
    | 7, _, ho =>
      simp only [List.getElem?_cons_succ, List.getElem?_cons_zero, Option.some.injEq] at ho
      subst ho
      obtain ⟨u6, e6⟩ := hdep ⟨6, .data⟩ (by simp) rfl _ 52 rfl rfl
      rw [show vals 6 = .pointer (some ⟨b, 0, none⟩) from e6] at u6
      unfold Oper.wp
      simp [execOp, go_sem, u6]
      exact came _ rfl (Below.refl _ _) rfl (fun h => absurd h (by decide))
    | 8, _, ho =>
      simp only [List.getElem?_cons_succ, List.getElem?_cons_zero, Option.some.injEq] at ho
      subst ho
      obtain ⟨u7, e7⟩ := hdep ⟨7, .data⟩ (by simp) rfl _ 53 rfl rfl
      rw [show vals 7 = .pointer (some ⟨b, 0, none⟩) from e7] at u7
      unfold Oper.wp
      simp [execOp, go_sem, u7]
      exact came _ rfl (Below.refl _ _) rfl (fun h => absurd h (by decide))
    | 9, _, ho =>
      simp only [List.getElem?_cons_succ, List.getElem?_cons_zero, Option.some.injEq] at ho
      subst ho
      obtain ⟨u8, e8⟩ := hdep ⟨8, .data⟩ (by simp) rfl _ 54 rfl rfl
      rw [show vals 8 = .pointer (some ⟨b, 1, none⟩) from e8] at u8
      have cc : x.cell? ⟨b, 1, none⟩ = some (.pointer (some ⟨nq.blk, 0, none⟩)) := nd_r (hy.later hX)
      unfold Oper.wp
      simp [execOp, go_sem, u8, cc]
      exact came _ rfl (Below.refl _ _) rfl (fun h => absurd h (by decide))
    | 10, _, ho =>
      simp only [List.getElem?_cons_succ, List.getElem?_cons_zero, Option.some.injEq] at ho
      subst ho
      obtain ⟨u5, e5⟩ := hdep ⟨5, .data⟩ (by simp) rfl _ 51 rfl rfl
      obtain ⟨n5, p5, g5, f5, l5, v5⟩ : TreeOf R ((nx.els) ++ (np.els)) ((nx.leaves) ++ (np.leaves)) (vals 5) x := e5
      rw [p5] at u5
      unfold pv at u5
      obtain ⟨u9, e9⟩ := hdep ⟨9, .data⟩ (by simp) rfl _ 55 rfl rfl
      rw [show vals 9 = .pointer (some ⟨nq.blk, 0, none⟩) from e9] at u9
      unfold Oper.wp
      simp [go_sem, u5, u9]
      refine (balanced_any g5 (hy.2.2.later hX) f5 fy.2 (by rw [l5]; simp only [List.length_append]; have := HN.out; omega)).mono ?_
      rintro r x1 ⟨v, rfl, hv, hb1⟩
      exact came _ rfl hb1 (by rw [l5, v5] at hv; simpa only [List.append_assoc] using hv) (fun h => absurd h (by decide))
    | m + 11, hi, _ => exact absurd hi (by omega)
  · intro vals x' hX hR _
    obtain ⟨t, k1, k2, k3, k4, k5⟩ : TreeOf R (((nx.els) ++ (np.els)) ++ (nq.els)) (((nx.leaves) ++ (np.leaves)) ++ (nq.leaves)) (vals 10) x' := hR 10 (by decide)
    simp only [List.take, List.drop, putAll, k1]
    unfold pv
    go_wp2
    go_ret
    refine ⟨_, rfl, ⟨t, rfl, k2, k3, ?_, ?_⟩, bgo hB hX⟩
    · rw [k4]; simp only [Nd.els, List.append_assoc]
    · rw [k5]; simp only [Nd.leaves, List.append_assoc]

theorem joined_any {R : Rows} : ∀ (n : Nat) (nx ny : Nd), nx.ht + ny.ht = n → ∀ w : World, nx.At R w → ny.At R w → nx.Full → ny.Full → (nx.els ++ ny.els).length ≤ 1073741824 → Calls Tryz.prog 82 #[.pointer (some ⟨nx.blk, 0, none⟩), .pointer (some ⟨ny.blk, 0, none⟩)] w fun r w' => ∃ v, r = .returned v ∧ TreeOf R ((nx).els ++ (ny).els) ((nx).leaves ++ (ny).leaves) v w' ∧ Below w.heap.size w w' := by
  intro n
  induction n using Nat.strongRecOn with
  | ind n ih =>
    intro nx ny hm w hx hy fx fy hn
    subst hm
    have C : ∀ (ta tb : Nd), ta.ht + tb.ht < nx.ht + ny.ht → ∀ w : World, ta.At R w → tb.At R w → ta.Full → tb.Full → (ta.els ++ tb.els).length ≤ 1073741824 → Calls Tryz.prog 82 #[.pointer (some ⟨ta.blk, 0, none⟩), .pointer (some ⟨tb.blk, 0, none⟩)] w fun r w' => ∃ v, r = .returned v ∧ TreeOf R ((ta).els ++ (tb).els) ((ta).leaves ++ (tb).leaves) v w' ∧ Below w.heap.size w w' := fun ta tb h w h1 h2 h3 h4 h5 => ih _ h ta tb rfl w h1 h2 h3 h4 h5
    by_cases c1 : ny.ht + 1 < nx.ht
    · cases nx with
      | leaf b g o_ c l => simp [Nd.ht] at c1
      | inner b np nq => exact join1 hx hy fx fy hn c1 C
    · by_cases c2 : nx.ht + 1 < ny.ht
      · cases ny with
        | leaf b g o_ c l => simp [Nd.ht] at c2
        | inner b np nq => exact join2 hx hy fx fy hn c2 C
      · exact join5 hx hy fx fy hn c2 c1
end Go.Proofs.YtjalehlmldlooaaGreatDoor
