
/-
  tree.back: what stands from a place on.
-/
import Derived.Test.YtjalehlmldlooaaGreatDoorZap14
namespace Go.Proofs.YtjalehlmldlooaaGreatDoor
open Go.RowKit
set_option maxRecDepth 100000

set_option maxHeartbeats 2000000 in
theorem back_leaf {R : Rows} (b g o_ c : Nat) (l : List El) (ip : Nat) (w : World) (ht : (Nd.leaf b g o_ c l).At R w) (hi : ip ≤ l.length) :
    Calls Tryz.prog 67 #[.pointer (some ⟨b, 0, none⟩), .int .i64 (ip : Int)] w fun r w' => ∃ u v, r = .returned (.tuple #[u, v]) ∧ SlE w' u (l.drop ip) ∧ OTree R [] v w' ∧ Below w.heap.size w w' := by
  have HI := hid_of' (isLeaf_any ht)
  unfold pv Nd.blk Nd.isL at HI
  have d2 : w.cell? ⟨b, 2, none⟩ = some (.slice (some ⟨g, o_, none⟩) l.length c) := ht.1.cell 2
  obtain ⟨hE, hlc, hc9, _⟩ := ht.2
  have e1 : ip ≤ l.length := hi
  have e0 : 0 ≤ (ip : Int) := by omega
  by_cases hc : c = ip
  · have hl : l.length = ip := by omega
    have hE2 : Hid (SlE w (.slice (some ⟨g, o_, none⟩) 0 0) (l.drop ip)) := .inl ⟨List.drop_eq_nil_of_le (by omega), _, _, rfl⟩
    subst hc
    rw [hl] at d2
    clear hE ht hl hlc e1 hi
    go_enter Tryz.func67, Tryz.ntmps67
    go_wp2_with (go_at_call 62; refine HI.out.mono ?_; rintro r w1 ⟨rfl, hw⟩; obtain rfl := hw.symm)
    go_ret2
    exact ⟨_, _, rfl, hE2.out, .inl ⟨rfl, rfl⟩, Below.refl _ _⟩
  · have hE2 : Hid (SlE w (.slice (some ⟨g, o_ + ip * 5, none⟩) (l.length - ip) (c - ip)) (l.drop ip)) := .inr ⟨g, o_ + ip * 5, c - ip, by rw [List.length_drop], hE.drop ip⟩
    clear hE ht
    go_enter Tryz.func67, Tryz.ntmps67
    go_wp2_with (go_at_call 62; refine HI.out.mono ?_; rintro r w1 ⟨rfl, hw⟩; obtain rfl := hw.symm)
    go_ret2
    exact ⟨_, _, rfl, hE2.out, .inl ⟨rfl, rfl⟩, Below.refl _ _⟩

set_option maxHeartbeats 2000000 in
theorem back_low {R : Rows} {nx ny : Nd} {b : Nat} {w : World} (ip : Nat) (ht : (Nd.inner b nx ny).At R w) (hf : ny.Full) (hlt : ip < nx.els.length) (hn : (nx.els ++ ny.els).length ≤ 1073741824)
    (C0 : Calls Tryz.prog 67 #[.pointer (some ⟨nx.blk, 0, none⟩), .int .i64 (ip : Int)] w fun r w' => ∃ u v, r = .returned (.tuple #[u, v]) ∧ SlE w' u ((nx).bk ip).1 ∧ OTree R ((nx).bk ip).2 v w' ∧ Below w.heap.size w w') :
    Calls Tryz.prog 67 #[.pointer (some ⟨b, 0, none⟩), .int .i64 (ip : Int)] w fun r w' => ∃ u v, r = .returned (.tuple #[u, v]) ∧ SlE w' u ((Nd.inner b nx ny).bk ip).1 ∧ OTree R ((Nd.inner b nx ny).bk ip).2 v w' ∧ Below w.heap.size w w' := by
  have HI := hid_of' (isLeaf_any ht)
  unfold pv Nd.blk Nd.isL at HI
  have d0 := nd_l ht
  have d4 := nd_sz ht.2.1
  have C := hid_of' C0
  have hli : (ip : Int) < (nx.els.length : Int) := by omega
  have HE : Hid ((Nd.inner b nx ny).bk ip = ((nx.bk ip).1, (nx.bk ip).2 ++ ny.leaves)) := by show Nd.bk _ _ = _; rw [Nd.bk, if_pos hlt]
  have HN : Hid (((nx.bk ip).2 ++ ny.leaves).flatten.length ≤ 1073741824) := by
    have h1 := congrArg List.length (Nd.bk_els nx ip)
    rw [List.length_append, List.length_drop] at h1
    rw [List.length_append] at hn
    show _ ≤ _
    rw [List.flatten_append, List.length_append, ← Nd.els_flat]
    omega
  have HX := hid_of' (show (Nd.inner b nx ny).At R w ∧ ny.Full from ⟨ht, hf⟩)
  have hxl : nx.els.length ≤ 1073741824 := by rw [List.length_append] at hn; omega
  clear C0 ht hlt hn
  go_enter Tryz.func67, Tryz.ntmps67
  go_upto_region 7 with (first | (go_at_call 62; refine HI.out.mono ?_; rintro r w1 ⟨rfl, hw⟩; obtain rfl := hw.symm) | (go_at_call 67; with_reducible refine C.out.mono ?_; rintro r w1 ⟨v1, v2, rfl, g1, g2, hb1⟩))
  have d1 := nd_r (HX.out.1.later hb1)
  have HJ := hid_of' (joinedO g2 (.inr ⟨ny, rfl, (HX.out.1.later hb1).2.2, HX.out.2, rfl⟩) HN.out)
  clear d0 d4
  go_wp2_with (go_at_call 82; with_reducible refine HJ.out.mono ?_; rintro r w2 ⟨v3, rfl, g3, hb2⟩)
  go_ret2
  rw [HE.out]
  exact ⟨_, _, rfl, g1.later hb2, g3, bgo hb1 hb2⟩
set_option maxHeartbeats 4000000 in
theorem back_high {R : Rows} {nx ny : Nd} {b : Nat} {w : World} (ip : Nat) (ht : (Nd.inner b nx ny).At R w) (hlt : ¬ ip < nx.els.length) (hi : ip ≤ 1073741824) (hxl : nx.els.length ≤ 1073741824)
    (C0 : ∀ w' : World, Below w.heap.size w w' → Calls Tryz.prog 67 #[.pointer (some ⟨ny.blk, 0, none⟩), .int .i64 ((ip - nx.els.length : Nat) : Int)] w' fun r w'' => ∃ u v, r = .returned (.tuple #[u, v]) ∧ SlE w'' u (ny.bk (ip - nx.els.length)).1 ∧ OTree R (ny.bk (ip - nx.els.length)).2 v w'' ∧ Below w'.heap.size w' w'') :
    Calls Tryz.prog 67 #[.pointer (some ⟨b, 0, none⟩), .int .i64 (ip : Int)] w fun r w' => ∃ u v, r = .returned (.tuple #[u, v]) ∧ SlE w' u ((Nd.inner b nx ny).bk ip).1 ∧ OTree R ((Nd.inner b nx ny).bk ip).2 v w' ∧ Below w.heap.size w w' := by
  have HI := hid_of' (isLeaf_any ht)
  unfold pv Nd.blk Nd.isL at HI
  have d0 := nd_l ht
  have d4 := nd_sz ht.2.1
  have C := hid_of' C0
  have hli : ¬ (ip : Int) < (nx.els.length : Int) := by omega
  have HE : Hid ((Nd.inner b nx ny).bk ip = (ny.bk (ip - nx.els.length))) := by show Nd.bk _ _ = _; rw [Nd.bk, if_neg hlt]
  clear C0
  go_enter Tryz.func67, Tryz.ntmps67
  go_upto_region 8 with (go_at_call 62; refine HI.out.mono ?_; rintro r w1 ⟨rfl, hw⟩; obtain rfl := hw.symm)
  refine wp_region_tail 18 (by kernel_rfl) (fun _ => none) (by kernel_rfl) (by kernel_rfl) (by decide) (fun i v x => match i with
    | 0 => v = .pointer (some ⟨b, 0, none⟩)
    | 1 => v = .pointer (some ⟨b, 0, none⟩)
    | 2 => v = .pointer (some ⟨b, 1, none⟩)
    | 3 => v = .pointer (some ⟨ny.blk, 0, none⟩)
    | 4 => v = .int .i64 (ip : Int)
    | 5 => v = .pointer (some ⟨b, 0, none⟩)
    | 6 => v = .pointer (some ⟨b, 0, none⟩)
    | 7 => v = .pointer (some ⟨b, 0, none⟩)
    | 8 => v = .pointer (some ⟨nx.blk, 0, none⟩)
    | 9 => v = .pointer (some ⟨nx.blk, 0, none⟩)
    | 10 => v = .pointer (some ⟨nx.blk, 4, none⟩)
    | 11 => v = .int .i64 (nx.els.length : Int)
    | 12 => v = .int .i64 ((ip - nx.els.length : Nat) : Int)
    | 13 => ∃ p1 p2, v = .tuple #[p1, p2] ∧ SlE x p1 (ny.bk (ip - nx.els.length)).1 ∧ OTree R (ny.bk (ip - nx.els.length)).2 p2 x
    | 14 => SlE x v (ny.bk (ip - nx.els.length)).1
    | 15 => OTree R (ny.bk (ip - nx.els.length)).2 v x
    | 16 => SlE x v (ny.bk (ip - nx.els.length)).1
    | 17 => OTree R (ny.bk (ip - nx.els.length)).2 v x
    | _ => True) (fun _ => false) (fun _ _ _ _ h => by cases h) ?_ ?_ ?_
  · intro i v x x' hR hb
    match i, hR with
    | 0, h => exact h
    | 1, h => exact h
    | 2, h => exact h
    | 3, h => exact h
    | 4, h => exact h
    | 5, h => exact h
    | 6, h => exact h
    | 7, h => exact h
    | 8, h => exact h
    | 9, h => exact h
    | 10, h => exact h
    | 11, h => exact h
    | 12, h => exact h
    | 13, h => exact (by obtain ⟨p1, p2, k1, k2, k3⟩ := h; exact ⟨p1, p2, k1, k2.later hb, k3.later hb⟩)
    | 14, h => exact SlE.later h hb
    | 15, h => exact OTree.later h hb
    | 16, h => exact SlE.later h hb
    | 17, h => exact OTree.later h hb
    | m + 18, h => exact h
  · intro i o hi ho q x vals hX hdep hoth
    have t0 : q.tmps[0]? = some (.pointer (some ⟨b, 0, none⟩)) := by rw [hoth 0 (by kernel_rfl)]; rfl
    have t1 : q.tmps[1]? = some (.int .i64 (ip : Int)) := by rw [hoth 1 (by kernel_rfl)]; rfl
    match i, hi, ho with
    | 0, _, ho =>
      simp only [List.getElem?_cons_zero, Option.some.injEq] at ho
      subst ho
      unfold Oper.wp
      simp [execOp, go_sem, t0]
      exact came _ rfl (Below.refl _ _) rfl (fun h => absurd h (by decide))
    | 1, _, ho =>
      simp only [List.getElem?_cons_succ, List.getElem?_cons_zero, Option.some.injEq] at ho
      subst ho
      obtain ⟨u0, e0⟩ := hdep ⟨0, .data⟩ (by simp) rfl _ 46 rfl rfl
      rw [show vals 0 = .pointer (some ⟨b, 0, none⟩) from e0] at u0
      unfold Oper.wp
      simp [execOp, go_sem, u0]
      exact came _ rfl (Below.refl _ _) rfl (fun h => absurd h (by decide))
    | 2, _, ho =>
      simp only [List.getElem?_cons_succ, List.getElem?_cons_zero, Option.some.injEq] at ho
      subst ho
      obtain ⟨u1, e1⟩ := hdep ⟨1, .data⟩ (by simp) rfl _ 47 rfl rfl
      rw [show vals 1 = .pointer (some ⟨b, 0, none⟩) from e1] at u1
      unfold Oper.wp
      simp [execOp, go_sem, u1]
      exact came _ rfl (Below.refl _ _) rfl (fun h => absurd h (by decide))
    | 3, _, ho =>
      simp only [List.getElem?_cons_succ, List.getElem?_cons_zero, Option.some.injEq] at ho
      subst ho
      obtain ⟨u2, e2⟩ := hdep ⟨2, .data⟩ (by simp) rfl _ 48 rfl rfl
      rw [show vals 2 = .pointer (some ⟨b, 1, none⟩) from e2] at u2
      have cc := nd_r (ht.later hX)
      unfold Oper.wp
      simp [execOp, go_sem, u2, cc]
      exact came _ rfl (Below.refl _ _) rfl (fun h => absurd h (by decide))
    | 4, _, ho =>
      simp only [List.getElem?_cons_succ, List.getElem?_cons_zero, Option.some.injEq] at ho
      subst ho
      unfold Oper.wp
      simp [execOp, go_sem, t1]
      exact came _ rfl (Below.refl _ _) rfl (fun h => absurd h (by decide))
    | 5, _, ho =>
      simp only [List.getElem?_cons_succ, List.getElem?_cons_zero, Option.some.injEq] at ho
      subst ho
      unfold Oper.wp
      simp [execOp, go_sem, t0]
      exact came _ rfl (Below.refl _ _) rfl (fun h => absurd h (by decide))
    | 6, _, ho =>
      simp only [List.getElem?_cons_succ, List.getElem?_cons_zero, Option.some.injEq] at ho
      subst ho
      obtain ⟨u5, e5⟩ := hdep ⟨5, .data⟩ (by simp) rfl _ 51 rfl rfl
      rw [show vals 5 = .pointer (some ⟨b, 0, none⟩) from e5] at u5
      unfold Oper.wp
      simp [execOp, go_sem, u5]
      exact came _ rfl (Below.refl _ _) rfl (fun h => absurd h (by decide))
    | 7, _, ho =>
      simp only [List.getElem?_cons_succ, List.getElem?_cons_zero, Option.some.injEq] at ho
      subst ho
      obtain ⟨u6, e6⟩ := hdep ⟨6, .data⟩ (by simp) rfl _ 52 rfl rfl
      rw [show vals 6 = .pointer (some ⟨b, 0, none⟩) from e6] at u6
      unfold Oper.wp
      simp [execOp, go_sem, u6]
      exact came _ rfl (Below.refl _ _) rfl (fun h => absurd h (by decide))
    | 8, _, ho =>
      simp only [List.getElem?_cons_succ, List.getElem?_cons_zero, Option.some.injEq] at ho
      subst ho
      obtain ⟨u7, e7⟩ := hdep ⟨7, .data⟩ (by simp) rfl _ 53 rfl rfl
      rw [show vals 7 = .pointer (some ⟨b, 0, none⟩) from e7] at u7
      have cc := nd_l (ht.later hX)
      unfold Oper.wp
      simp [execOp, go_sem, u7, cc]
      exact came _ rfl (Below.refl _ _) rfl (fun h => absurd h (by decide))
    | 9, _, ho =>
      simp only [List.getElem?_cons_succ, List.getElem?_cons_zero, Option.some.injEq] at ho
      subst ho
      obtain ⟨u8, e8⟩ := hdep ⟨8, .data⟩ (by simp) rfl _ 54 rfl rfl
      rw [show vals 8 = .pointer (some ⟨nx.blk, 0, none⟩) from e8] at u8
      unfold Oper.wp
      simp [execOp, go_sem, u8]
      exact came _ rfl (Below.refl _ _) rfl (fun h => absurd h (by decide))
    | 10, _, ho =>
      simp only [List.getElem?_cons_succ, List.getElem?_cons_zero, Option.some.injEq] at ho
      subst ho
      obtain ⟨u9, e9⟩ := hdep ⟨9, .data⟩ (by simp) rfl _ 55 rfl rfl
      rw [show vals 9 = .pointer (some ⟨nx.blk, 0, none⟩) from e9] at u9
      unfold Oper.wp
      simp [execOp, go_sem, u9]
      exact came _ rfl (Below.refl _ _) rfl (fun h => absurd h (by decide))
    | 11, _, ho =>
      simp only [List.getElem?_cons_succ, List.getElem?_cons_zero, Option.some.injEq] at ho
      subst ho
      obtain ⟨u10, e10⟩ := hdep ⟨10, .data⟩ (by simp) rfl _ 56 rfl rfl
      rw [show vals 10 = .pointer (some ⟨nx.blk, 4, none⟩) from e10] at u10
      have cc := nd_sz (ht.2.1.later hX)
      unfold Oper.wp
      simp [execOp, go_sem, u10, cc]
      exact came _ rfl (Below.refl _ _) rfl (fun h => absurd h (by decide))
    | 12, _, ho =>
      simp only [List.getElem?_cons_succ, List.getElem?_cons_zero, Option.some.injEq] at ho
      subst ho
      obtain ⟨u4, e4⟩ := hdep ⟨4, .data⟩ (by simp) rfl _ 50 rfl rfl
      rw [show vals 4 = .int .i64 (ip : Int) from e4] at u4
      obtain ⟨u11, e11⟩ := hdep ⟨11, .data⟩ (by simp) rfl _ 57 rfl rfl
      rw [show vals 11 = .int .i64 (nx.els.length : Int) from e11] at u11
      have wr1 : IntKind.i64.wrap ((ip : Int) - (nx.els.length : Int)) = ((ip - nx.els.length : Nat) : Int) := by rw [IntKind.wrap_i64]; omega
      unfold Oper.wp
      simp [execOp, go_sem, u4, u11, wr1]
      exact came _ rfl (Below.refl _ _) rfl (fun h => absurd h (by decide))
    | 13, _, ho =>
      simp only [List.getElem?_cons_succ, List.getElem?_cons_zero, Option.some.injEq] at ho
      subst ho
      obtain ⟨u3, e3⟩ := hdep ⟨3, .data⟩ (by simp) rfl _ 49 rfl rfl
      rw [show vals 3 = .pointer (some ⟨ny.blk, 0, none⟩) from e3] at u3
      obtain ⟨u12, e12⟩ := hdep ⟨12, .data⟩ (by simp) rfl _ 58 rfl rfl
      rw [show vals 12 = .int .i64 ((ip - nx.els.length : Nat) : Int) from e12] at u12
      unfold Oper.wp
      simp [go_sem, u3, u12]
      refine (C.out _ hX).mono ?_
      rintro r x1 ⟨v1, v2, rfl, g1, g2, hb1⟩
      exact came _ rfl hb1 ⟨v1, v2, rfl, g1, g2⟩ (fun h => absurd h (by decide))
    | 14, _, ho =>
      simp only [List.getElem?_cons_succ, List.getElem?_cons_zero, Option.some.injEq] at ho
      subst ho
      obtain ⟨u13, e13⟩ := hdep ⟨13, .data⟩ (by simp) rfl _ 59 rfl rfl
      obtain ⟨p1, p2, k1, k2, k3⟩ : ∃ p1 p2, vals 13 = .tuple #[p1, p2] ∧ SlE x p1 (ny.bk (ip - nx.els.length)).1 ∧ OTree R (ny.bk (ip - nx.els.length)).2 p2 x := e13
      rw [k1] at u13
      unfold Oper.wp
      simp [execOp, go_sem, u13]
      exact came _ rfl (Below.refl _ _) k2 (fun h => absurd h (by decide))
    | 15, _, ho =>
      simp only [List.getElem?_cons_succ, List.getElem?_cons_zero, Option.some.injEq] at ho
      subst ho
      obtain ⟨u13, e13⟩ := hdep ⟨13, .data⟩ (by simp) rfl _ 59 rfl rfl
      obtain ⟨p1, p2, k1, k2, k3⟩ : ∃ p1 p2, vals 13 = .tuple #[p1, p2] ∧ SlE x p1 (ny.bk (ip - nx.els.length)).1 ∧ OTree R (ny.bk (ip - nx.els.length)).2 p2 x := e13
      rw [k1] at u13
      unfold Oper.wp
      simp [execOp, go_sem, u13]
      exact came _ rfl (Below.refl _ _) k3 (fun h => absurd h (by decide))
    | 16, _, ho =>
      simp only [List.getElem?_cons_succ, List.getElem?_cons_zero, Option.some.injEq] at ho
      subst ho
      obtain ⟨u14, e14⟩ := hdep ⟨14, .data⟩ (by simp) rfl _ 60 rfl rfl
      unfold Oper.wp
      simp [execOp, go_sem, u14]
      exact came _ rfl (Below.refl _ _) e14 (fun h => absurd h (by decide))
    | 17, _, ho =>
      simp only [List.getElem?_cons_succ, List.getElem?_cons_zero, Option.some.injEq] at ho
      subst ho
      obtain ⟨u15, e15⟩ := hdep ⟨15, .data⟩ (by simp) rfl _ 61 rfl rfl
      unfold Oper.wp
      simp [execOp, go_sem, u15]
      exact came _ rfl (Below.refl _ _) e15 (fun h => absurd h (by decide))
    | m + 18, hi, _ => exact absurd hi (by omega)
  · intro vals x' hX hR _
    have r16 : SlE x' (vals 16) (ny.bk (ip - nx.els.length)).1 := hR 16 (by decide)
    have r17 : OTree R (ny.bk (ip - nx.els.length)).2 (vals 17) x' := hR 17 (by decide)
    clear d0 d4 ht
    simp only [List.take, List.drop, putAll, List.setIfInBounds_toArray, List.set_cons_succ, List.set_cons_zero]
    go_wp2
    go_ret2
    rw [HE.out]
    exact ⟨_, _, rfl, r16, r17, hX⟩

theorem back_any {R : Rows} : ∀ (t : Nd) (ip : Nat) (w : World), t.At R w → t.Full → t.els.length ≤ 1073741824 → ip ≤ t.els.length → Calls Tryz.prog 67 #[.pointer (some ⟨t.blk, 0, none⟩), .int .i64 (ip : Int)] w fun r w' => ∃ u v, r = .returned (.tuple #[u, v]) ∧ SlE w' u ((t).bk ip).1 ∧ OTree R ((t).bk ip).2 v w' ∧ Below w.heap.size w w'
  | .leaf b g o_ c l, ip, w, ht, _, _, hi => back_leaf b g o_ c l ip w ht hi
  | .inner b nx ny, ip, w, ht, hf, hn, hi => by
    simp only [Nd.els, List.length_append] at hn hi
    by_cases hlt : ip < nx.els.length
    · exact back_low ip ht hf.2 hlt (by rw [List.length_append]; omega) (back_any nx ip w ht.2.1 hf.1 (by omega) (by omega))
    · exact back_high ip ht hlt (by omega) (by omega) (fun w' hb => back_any ny (ip - nx.els.length) w' (ht.2.2.later hb) hf.2 (by omega) (by omega))
end Go.Proofs.YtjalehlmldlooaaGreatDoor
