/-
  barrowref05.Cut; barrowkeep.Within; barrowref05.Weigh.
-/
import Derived.Test.YtppfgmggcihmoaaGreatDoorTrPut
namespace Go.Proofs.YtppfgmggcihmoaaGreatDoor
open Go.RowKit
set_option maxRecDepth 100000

theorem OwnE.base {b b' : Nat} {v : Value} {l : List El} {w : World} (h : OwnE b v l w) (hb : b' ≤ b) : OwnE b' v l w := by
  refine ⟨h.1, ?_⟩
  rcases h.2 with h1 | ⟨g, cap, cur, h1, h2, h3⟩
  · exact .inl h1
  · exact .inr ⟨g, cap, cur, h1, Nat.le_trans hb h2, h3⟩
set_option maxHeartbeats 1000000 in
theorem within_any (n : Int) (m : Nat) (w : World) (hm : 0 < m) (hm2 : m ≤ 1073741824) (_h1 : -9223372036854775808 ≤ n) (_h2 : n ≤ 9223372036854775807) :
    Calls Tryz.prog 7 #[.int .i64 n, .int .i64 (m : Int)] w fun r w' => ∃ k : Nat, k < m ∧ r = .returned (.int .i64 (k : Int)) ∧ w' = w := by
  have m0 : ((m : Int) == 0) = false := by rw [beq_eq_false_iff_ne]; omega
  have t1 : n.tmod (m : Int) < (m : Int) := Int.tmod_lt_of_pos n (by omega)
  have t2 : -(m : Int) < n.tmod (m : Int) := by
    have := Int.tmod_lt_of_pos (-n) (show (0 : Int) < (m : Int) by omega)
    rw [Int.neg_tmod] at this
    omega
  obtain ⟨t, et⟩ : ∃ t, n.tmod (m : Int) = t := ⟨_, rfl⟩
  rw [et] at t1 t2
  by_cases ht : t < 0
  · go_enter Tryz.func7, Tryz.ntmps7
    go_wp2
    go_ret
    exact ⟨(t + m).toNat, by omega, by rw [Int.toNat_of_nonneg (by omega)]; rfl, rfl⟩
  · go_enter Tryz.func7, Tryz.ntmps7
    go_wp2
    go_ret
    exact ⟨t.toNat, by omega, by rw [Int.toNat_of_nonneg (by omega)]; rfl, rfl⟩

set_option maxHeartbeats 4000000 in
theorem cut_none {w : World} (l : List El) (ip cn : Nat) (hn : l.length ≤ 1073741824) (hl : l = []) (h0 : ip = 0) (h9 : cn = 0) :
    Calls Tryz.prog 27 #[.slice none 0 0, .int .i64 (ip : Int), .int .i64 (cn : Int)] w fun r w' => ∃ v, r = .returned v ∧ OwnE w.heap.size v (l.take ip ++ l.drop (ip + cn)) w' ∧ Below w.heap.size w w' := by
  have q1 : Hid (∀ x, Below w.heap.size w x → SlE x (.slice none 0 0) (l.take ip)) := fun x _ => .inl ⟨by rw [hl]; simp, _, _, rfl⟩
  have q2 : Hid (∀ x, Below w.heap.size w x → SlE x (.slice none 0 0) (l.drop (ip + cn))) := fun x _ => .inl ⟨by rw [hl]; simp, _, _, rfl⟩
  have b2 : (l.take ip).length + (l.drop (ip + cn)).length ≤ 1099511627776 := by rw [List.length_take, List.length_drop]; omega
  go_enter Tryz.func27, Tryz.ntmps27
  go_upto_region 1 with fail
  refine wp_region_tail 9 (by kernel_rfl) (fun _ => none) (by kernel_rfl) (by kernel_rfl) (by decide) (fun i v x => match i with
    | 0 => v = .slice none 0 0
    | 1 => v = .int .i64 (ip : Int)
    | 2 => v = .slice none 0 0
    | 3 => OwnE w.heap.size v (l.take ip) x
    | 4 => v = .slice none 0 0
    | 5 => v = .int .i64 (ip : Int)
    | 6 => v = .int .i64 (cn : Int)
    | 7 => v = .int .i64 ((ip + cn : Nat) : Int)
    | 8 => v = .slice none 0 0
    | _ => True) (fun _ => false) (fun _ _ _ _ h => by cases h) ?_ ?_ ?_
  · intro i v x x' hR hb
    match i, hR with
    | 0, h => exact h
    | 1, h => exact h
    | 2, h => exact h
    | 3, h => exact OwnE.later h hb
    | 4, h => exact h
    | 5, h => exact h
    | 6, h => exact h
    | 7, h => exact h
    | 8, h => exact h
    | m + 9, h => exact h
  · intro i o hi ho q x vals hX hdep hoth
    have t0 : q.tmps[0]? = some (.slice none 0 0) := by rw [hoth 0 (by kernel_rfl)]; rfl
    have t1 : q.tmps[1]? = some (.int .i64 (ip : Int)) := by rw [hoth 1 (by kernel_rfl)]; rfl
    have t2 : q.tmps[2]? = some (.int .i64 (cn : Int)) := by rw [hoth 2 (by kernel_rfl)]; rfl
    match i, hi, ho with
    | 0, _, ho =>
      simp only [List.getElem?_cons_zero, Option.some.injEq] at ho
      subst ho
      unfold Oper.wp
      simp [execOp, go_sem, t0]
      exact came _ rfl (Below.refl _ _) rfl (fun h => absurd h (by decide))
    | 1, _, ho =>
      simp only [List.getElem?_cons_succ, List.getElem?_cons_zero, Option.some.injEq] at ho
      subst ho
      unfold Oper.wp
      simp [execOp, go_sem, t1]
      exact came _ rfl (Below.refl _ _) rfl (fun h => absurd h (by decide))
    | 2, _, ho =>
      simp only [List.getElem?_cons_succ, List.getElem?_cons_zero, Option.some.injEq] at ho
      subst ho
      obtain ⟨u0, e0⟩ := hdep ⟨0, .data⟩ (by simp) rfl _ 7 rfl rfl
      rw [show vals 0 = .slice none 0 0 from e0] at u0
      obtain ⟨u1, e1⟩ := hdep ⟨1, .data⟩ (by simp) rfl _ 8 rfl rfl
      rw [show vals 1 = .int .i64 (ip : Int) from e1] at u1
      have hp : ip = 0 := h0
      unfold Oper.wp
      simp [execOp, go_sem, u0, u1, hp]
      exact came _ rfl (Below.refl _ _) rfl (fun h => absurd h (by decide))
    | 3, _, ho =>
      simp only [List.getElem?_cons_succ, List.getElem?_cons_zero, Option.some.injEq] at ho
      subst ho
      obtain ⟨u2, e2⟩ := hdep ⟨2, .data⟩ (by simp) rfl _ 9 rfl rfl
      rw [show vals 2 = .slice none 0 0 from e2] at u2
      unfold Oper.wp
      simp [go_sem, u2]
      refine (copy_ok (q1.out _ hX) (by rw [List.length_take]; omega)).mono ?_
      rintro r x1 ⟨v1, rfl, ho1, hb1⟩
      exact came _ rfl hb1 (ho1.base hX.size) (fun h => absurd h (by decide))
    | 4, _, ho =>
      simp only [List.getElem?_cons_succ, List.getElem?_cons_zero, Option.some.injEq] at ho
      subst ho
      unfold Oper.wp
      simp [execOp, go_sem, t0]
      exact came _ rfl (Below.refl _ _) rfl (fun h => absurd h (by decide))
    | 5, _, ho =>
      simp only [List.getElem?_cons_succ, List.getElem?_cons_zero, Option.some.injEq] at ho
      subst ho
      unfold Oper.wp
      simp [execOp, go_sem, t1]
      exact came _ rfl (Below.refl _ _) rfl (fun h => absurd h (by decide))
    | 6, _, ho =>
      simp only [List.getElem?_cons_succ, List.getElem?_cons_zero, Option.some.injEq] at ho
      subst ho
      unfold Oper.wp
      simp [execOp, go_sem, t2]
      exact came _ rfl (Below.refl _ _) rfl (fun h => absurd h (by decide))
    | 7, _, ho =>
      simp only [List.getElem?_cons_succ, List.getElem?_cons_zero, Option.some.injEq] at ho
      subst ho
      obtain ⟨u5, e5⟩ := hdep ⟨5, .data⟩ (by simp) rfl _ 12 rfl rfl
      rw [show vals 5 = .int .i64 (ip : Int) from e5] at u5
      obtain ⟨u6, e6⟩ := hdep ⟨6, .data⟩ (by simp) rfl _ 13 rfl rfl
      rw [show vals 6 = .int .i64 (cn : Int) from e6] at u6
      have wr1 : IntKind.i64.wrap ((ip : Int) + (cn : Int)) = ((ip + cn : Nat) : Int) := by rw [IntKind.wrap_i64]; omega
      unfold Oper.wp
      simp [execOp, go_sem, u5, u6, wr1]
      exact came _ rfl (Below.refl _ _) rfl (fun h => absurd h (by decide))
    | 8, _, ho =>
      simp only [List.getElem?_cons_succ, List.getElem?_cons_zero, Option.some.injEq] at ho
      subst ho
      obtain ⟨u4, e4⟩ := hdep ⟨4, .data⟩ (by simp) rfl _ 11 rfl rfl
      rw [show vals 4 = .slice none 0 0 from e4] at u4
      obtain ⟨u7, e7⟩ := hdep ⟨7, .data⟩ (by simp) rfl _ 14 rfl rfl
      rw [show vals 7 = .int .i64 ((ip + cn : Nat) : Int) from e7] at u7
      have hp : ip = 0 := h0
      have hq : cn = 0 := h9
      unfold Oper.wp
      simp [execOp, go_sem, u4, u7, hp, hq]
      exact came _ rfl (Below.refl _ _) rfl (fun h => absurd h (by decide))
    | m + 9, hi, _ => exact absurd hi (by omega)
  · intro vals w1 hX hR _
    have ho : OwnE w.heap.size (vals 3) (l.take ip) w1 := hR 3 (by decide)
    have e8 : vals 8 = .slice none 0 0 := hR 8 (by decide)
    have h2 := q2.out _ hX
    simp only [List.take, List.drop, putAll, e8, List.setIfInBounds_toArray, List.set_cons_succ, List.set_cons_zero]
    go_wp2_with (at_builtin; refine wpL_appE rfl _ _ rfl rfl rfl ho h2 b2 hX.size ?_; intro v3 w3 ho3 hg3)
    go_ret
    exact ⟨_, rfl, ho3, hX.grown hg3 hX.size (fun k hk => (ho.lt k hk).1)⟩

set_option maxHeartbeats 4000000 in
theorem cut_end {w : World} (l : List El) (ip cn : Nat) (hn : l.length ≤ 1073741824) (g : Nat) (hE : ElsAt g 0 l w) (e3 : l.length = ip + cn) :
    Calls Tryz.prog 27 #[.slice (some ⟨g, 0, none⟩) l.length (ip + cn), .int .i64 (ip : Int), .int .i64 (cn : Int)] w fun r w' => ∃ v, r = .returned v ∧ OwnE w.heap.size v (l.take ip ++ l.drop (ip + cn)) w' ∧ Below w.heap.size w w' := by
  have q1 : Hid (∀ x, Below w.heap.size w x → SlE x (.slice (some ⟨g, 0, none⟩) ip (ip + cn)) (l.take ip)) := fun x hx => .inr ⟨g, 0, ip + cn, by rw [List.length_take, Nat.min_eq_left (by omega)], (hE.later hx).take ip⟩
  have q2 : Hid (∀ x, Below w.heap.size w x → SlE x (.slice (some ⟨g, 0, none⟩) 0 0) (l.drop (ip + cn))) := fun x _ => .inl ⟨List.drop_eq_nil_of_le (by omega), _, _, rfl⟩
  have b2 : (l.take ip).length + (l.drop (ip + cn)).length ≤ 1099511627776 := by rw [List.length_take, List.length_drop]; omega
  go_enter Tryz.func27, Tryz.ntmps27
  go_upto_region 1 with fail
  refine wp_region_tail 9 (by kernel_rfl) (fun _ => none) (by kernel_rfl) (by kernel_rfl) (by decide) (fun i v x => match i with
    | 0 => v = .slice (some ⟨g, 0, none⟩) l.length (ip + cn)
    | 1 => v = .int .i64 (ip : Int)
    | 2 => v = .slice (some ⟨g, 0, none⟩) ip (ip + cn)
    | 3 => OwnE w.heap.size v (l.take ip) x
    | 4 => v = .slice (some ⟨g, 0, none⟩) l.length (ip + cn)
    | 5 => v = .int .i64 (ip : Int)
    | 6 => v = .int .i64 (cn : Int)
    | 7 => v = .int .i64 ((ip + cn : Nat) : Int)
    | 8 => v = .slice (some ⟨g, 0, none⟩) 0 0
    | _ => True) (fun _ => false) (fun _ _ _ _ h => by cases h) ?_ ?_ ?_
  · intro i v x x' hR hb
    match i, hR with
    | 0, h => exact h
    | 1, h => exact h
    | 2, h => exact h
    | 3, h => exact OwnE.later h hb
    | 4, h => exact h
    | 5, h => exact h
    | 6, h => exact h
    | 7, h => exact h
    | 8, h => exact h
    | m + 9, h => exact h
  · intro i o hi ho q x vals hX hdep hoth
    have t0 : q.tmps[0]? = some (.slice (some ⟨g, 0, none⟩) l.length (ip + cn)) := by rw [hoth 0 (by kernel_rfl)]; rfl
    have t1 : q.tmps[1]? = some (.int .i64 (ip : Int)) := by rw [hoth 1 (by kernel_rfl)]; rfl
    have t2 : q.tmps[2]? = some (.int .i64 (cn : Int)) := by rw [hoth 2 (by kernel_rfl)]; rfl
    match i, hi, ho with
    | 0, _, ho =>
      simp only [List.getElem?_cons_zero, Option.some.injEq] at ho
      subst ho
      unfold Oper.wp
      simp [execOp, go_sem, t0]
      exact came _ rfl (Below.refl _ _) rfl (fun h => absurd h (by decide))
    | 1, _, ho =>
      simp only [List.getElem?_cons_succ, List.getElem?_cons_zero, Option.some.injEq] at ho
      subst ho
      unfold Oper.wp
      simp [execOp, go_sem, t1]
      exact came _ rfl (Below.refl _ _) rfl (fun h => absurd h (by decide))
    | 2, _, ho =>
      simp only [List.getElem?_cons_succ, List.getElem?_cons_zero, Option.some.injEq] at ho
      subst ho
      obtain ⟨u0, e0⟩ := hdep ⟨0, .data⟩ (by simp) rfl _ 7 rfl rfl
      rw [show vals 0 = .slice (some ⟨g, 0, none⟩) l.length (ip + cn) from e0] at u0
      obtain ⟨u1, e1⟩ := hdep ⟨1, .data⟩ (by simp) rfl _ 8 rfl rfl
      rw [show vals 1 = .int .i64 (ip : Int) from e1] at u1
      have k1 : 0 ≤ (ip : Int) := by omega
      have k2 : (ip : Int) ≤ (ip : Int) + (cn : Int) := by omega
      unfold Oper.wp
      simp [execOp, go_sem, u0, u1, k1, k2]
      exact came _ rfl (Below.refl _ _) rfl (fun h => absurd h (by decide))
    | 3, _, ho =>
      simp only [List.getElem?_cons_succ, List.getElem?_cons_zero, Option.some.injEq] at ho
      subst ho
      obtain ⟨u2, e2⟩ := hdep ⟨2, .data⟩ (by simp) rfl _ 9 rfl rfl
      rw [show vals 2 = .slice (some ⟨g, 0, none⟩) ip (ip + cn) from e2] at u2
      unfold Oper.wp
      simp [go_sem, u2]
      refine (copy_ok (q1.out _ hX) (by rw [List.length_take]; omega)).mono ?_
      rintro r x1 ⟨v1, rfl, ho1, hb1⟩
      exact came _ rfl hb1 (ho1.base hX.size) (fun h => absurd h (by decide))
    | 4, _, ho =>
      simp only [List.getElem?_cons_succ, List.getElem?_cons_zero, Option.some.injEq] at ho
      subst ho
      unfold Oper.wp
      simp [execOp, go_sem, t0]
      exact came _ rfl (Below.refl _ _) rfl (fun h => absurd h (by decide))
    | 5, _, ho =>
      simp only [List.getElem?_cons_succ, List.getElem?_cons_zero, Option.some.injEq] at ho
      subst ho
      unfold Oper.wp
      simp [execOp, go_sem, t1]
      exact came _ rfl (Below.refl _ _) rfl (fun h => absurd h (by decide))
    | 6, _, ho =>
      simp only [List.getElem?_cons_succ, List.getElem?_cons_zero, Option.some.injEq] at ho
      subst ho
      unfold Oper.wp
      simp [execOp, go_sem, t2]
      exact came _ rfl (Below.refl _ _) rfl (fun h => absurd h (by decide))
    | 7, _, ho =>
      simp only [List.getElem?_cons_succ, List.getElem?_cons_zero, Option.some.injEq] at ho
      subst ho
      obtain ⟨u5, e5⟩ := hdep ⟨5, .data⟩ (by simp) rfl _ 12 rfl rfl
      rw [show vals 5 = .int .i64 (ip : Int) from e5] at u5
      obtain ⟨u6, e6⟩ := hdep ⟨6, .data⟩ (by simp) rfl _ 13 rfl rfl
      rw [show vals 6 = .int .i64 (cn : Int) from e6] at u6
      have wr1 : IntKind.i64.wrap ((ip : Int) + (cn : Int)) = ((ip + cn : Nat) : Int) := by rw [IntKind.wrap_i64]; omega
      unfold Oper.wp
      simp [execOp, go_sem, u5, u6, wr1]
      exact came _ rfl (Below.refl _ _) rfl (fun h => absurd h (by decide))
    | 8, _, ho =>
      simp only [List.getElem?_cons_succ, List.getElem?_cons_zero, Option.some.injEq] at ho
      subst ho
      obtain ⟨u4, e4⟩ := hdep ⟨4, .data⟩ (by simp) rfl _ 11 rfl rfl
      rw [show vals 4 = .slice (some ⟨g, 0, none⟩) l.length (ip + cn) from e4] at u4
      obtain ⟨u7, e7⟩ := hdep ⟨7, .data⟩ (by simp) rfl _ 14 rfl rfl
      rw [show vals 7 = .int .i64 ((ip + cn : Nat) : Int) from e7] at u7
      have f1 : 0 ≤ (ip : Int) + (cn : Int) := by omega
      have f2 : ((ip : Int) + (cn : Int)).toNat = ip + cn := by omega
      have f3 : l.length = ip + cn := e3
      unfold Oper.wp
      simp [execOp, go_sem, u4, u7, f1, f2, f3]
      exact came _ rfl (Below.refl _ _) rfl (fun h => absurd h (by decide))
    | m + 9, hi, _ => exact absurd hi (by omega)
  · intro vals w1 hX hR _
    have ho : OwnE w.heap.size (vals 3) (l.take ip) w1 := hR 3 (by decide)
    have e8 : vals 8 = .slice (some ⟨g, 0, none⟩) 0 0 := hR 8 (by decide)
    have h2 := q2.out _ hX
    simp only [List.take, List.drop, putAll, e8, List.setIfInBounds_toArray, List.set_cons_succ, List.set_cons_zero]
    go_wp2_with (at_builtin; refine wpL_appE rfl _ _ rfl rfl rfl ho h2 b2 hX.size ?_; intro v3 w3 ho3 hg3)
    go_ret
    exact ⟨_, rfl, ho3, hX.grown hg3 hX.size (fun k hk => (ho.lt k hk).1)⟩

set_option maxHeartbeats 4000000 in
theorem cut_mid {w : World} (l : List El) (ip cn : Nat) (hn : l.length ≤ 1073741824) (g c : Nat) (hE : ElsAt g 0 l w) (hic : ip + cn ≤ l.length) (hlc : l.length ≤ c) (_hc9 : c ≤ 9223372036854775807) (hc : ¬ c = ip + cn) :
    Calls Tryz.prog 27 #[.slice (some ⟨g, 0, none⟩) l.length c, .int .i64 (ip : Int), .int .i64 (cn : Int)] w fun r w' => ∃ v, r = .returned v ∧ OwnE w.heap.size v (l.take ip ++ l.drop (ip + cn)) w' ∧ Below w.heap.size w w' := by
  have q1 : Hid (∀ x, Below w.heap.size w x → SlE x (.slice (some ⟨g, 0, none⟩) ip c) (l.take ip)) := fun x hx => .inr ⟨g, 0, c, by rw [List.length_take, Nat.min_eq_left (by omega)], (hE.later hx).take ip⟩
  have q2 : Hid (∀ x, Below w.heap.size w x → SlE x (.slice (some ⟨g, (ip + cn) * 5, none⟩) (l.length - (ip + cn)) (c - (ip + cn))) (l.drop (ip + cn))) := fun x hx => .inr ⟨g, (ip + cn) * 5, c - (ip + cn), by rw [List.length_drop], by have := (hE.later hx).drop (ip + cn); rwa [Nat.zero_add] at this⟩
  have b2 : (l.take ip).length + (l.drop (ip + cn)).length ≤ 1099511627776 := by rw [List.length_take, List.length_drop]; omega
  go_enter Tryz.func27, Tryz.ntmps27
  go_upto_region 1 with fail
  refine wp_region_tail 9 (by kernel_rfl) (fun _ => none) (by kernel_rfl) (by kernel_rfl) (by decide) (fun i v x => match i with
    | 0 => v = .slice (some ⟨g, 0, none⟩) l.length c
    | 1 => v = .int .i64 (ip : Int)
    | 2 => v = .slice (some ⟨g, 0, none⟩) ip c
    | 3 => OwnE w.heap.size v (l.take ip) x
    | 4 => v = .slice (some ⟨g, 0, none⟩) l.length c
    | 5 => v = .int .i64 (ip : Int)
    | 6 => v = .int .i64 (cn : Int)
    | 7 => v = .int .i64 ((ip + cn : Nat) : Int)
    | 8 => v = .slice (some ⟨g, (ip + cn) * 5, none⟩) (l.length - (ip + cn)) (c - (ip + cn))
    | _ => True) (fun _ => false) (fun _ _ _ _ h => by cases h) ?_ ?_ ?_
  · intro i v x x' hR hb
    match i, hR with
    | 0, h => exact h
    | 1, h => exact h
    | 2, h => exact h
    | 3, h => exact OwnE.later h hb
    | 4, h => exact h
    | 5, h => exact h
    | 6, h => exact h
    | 7, h => exact h
    | 8, h => exact h
    | m + 9, h => exact h
  · intro i o hi ho q x vals hX hdep hoth
    have t0 : q.tmps[0]? = some (.slice (some ⟨g, 0, none⟩) l.length c) := by rw [hoth 0 (by kernel_rfl)]; rfl
    have t1 : q.tmps[1]? = some (.int .i64 (ip : Int)) := by rw [hoth 1 (by kernel_rfl)]; rfl
    have t2 : q.tmps[2]? = some (.int .i64 (cn : Int)) := by rw [hoth 2 (by kernel_rfl)]; rfl
    match i, hi, ho with
    | 0, _, ho =>
      simp only [List.getElem?_cons_zero, Option.some.injEq] at ho
      subst ho
      unfold Oper.wp
      simp [execOp, go_sem, t0]
      exact came _ rfl (Below.refl _ _) rfl (fun h => absurd h (by decide))
    | 1, _, ho =>
      simp only [List.getElem?_cons_succ, List.getElem?_cons_zero, Option.some.injEq] at ho
      subst ho
      unfold Oper.wp
      simp [execOp, go_sem, t1]
      exact came _ rfl (Below.refl _ _) rfl (fun h => absurd h (by decide))
    | 2, _, ho =>
      simp only [List.getElem?_cons_succ, List.getElem?_cons_zero, Option.some.injEq] at ho
      subst ho
      obtain ⟨u0, e0⟩ := hdep ⟨0, .data⟩ (by simp) rfl _ 7 rfl rfl
      rw [show vals 0 = .slice (some ⟨g, 0, none⟩) l.length c from e0] at u0
      obtain ⟨u1, e1⟩ := hdep ⟨1, .data⟩ (by simp) rfl _ 8 rfl rfl
      rw [show vals 1 = .int .i64 (ip : Int) from e1] at u1
      have k1 : 0 ≤ (ip : Int) := by omega
      have k2 : (ip : Int) ≤ (c : Int) := by omega
      unfold Oper.wp
      simp [execOp, go_sem, u0, u1, k1, k2]
      exact came _ rfl (Below.refl _ _) rfl (fun h => absurd h (by decide))
    | 3, _, ho =>
      simp only [List.getElem?_cons_succ, List.getElem?_cons_zero, Option.some.injEq] at ho
      subst ho
      obtain ⟨u2, e2⟩ := hdep ⟨2, .data⟩ (by simp) rfl _ 9 rfl rfl
      rw [show vals 2 = .slice (some ⟨g, 0, none⟩) ip c from e2] at u2
      unfold Oper.wp
      simp [go_sem, u2]
      refine (copy_ok (q1.out _ hX) (by rw [List.length_take]; omega)).mono ?_
      rintro r x1 ⟨v1, rfl, ho1, hb1⟩
      exact came _ rfl hb1 (ho1.base hX.size) (fun h => absurd h (by decide))
    | 4, _, ho =>
      simp only [List.getElem?_cons_succ, List.getElem?_cons_zero, Option.some.injEq] at ho
      subst ho
      unfold Oper.wp
      simp [execOp, go_sem, t0]
      exact came _ rfl (Below.refl _ _) rfl (fun h => absurd h (by decide))
    | 5, _, ho =>
      simp only [List.getElem?_cons_succ, List.getElem?_cons_zero, Option.some.injEq] at ho
      subst ho
      unfold Oper.wp
      simp [execOp, go_sem, t1]
      exact came _ rfl (Below.refl _ _) rfl (fun h => absurd h (by decide))
    | 6, _, ho =>
      simp only [List.getElem?_cons_succ, List.getElem?_cons_zero, Option.some.injEq] at ho
      subst ho
      unfold Oper.wp
      simp [execOp, go_sem, t2]
      exact came _ rfl (Below.refl _ _) rfl (fun h => absurd h (by decide))
    | 7, _, ho =>
      simp only [List.getElem?_cons_succ, List.getElem?_cons_zero, Option.some.injEq] at ho
      subst ho
      obtain ⟨u5, e5⟩ := hdep ⟨5, .data⟩ (by simp) rfl _ 12 rfl rfl
      rw [show vals 5 = .int .i64 (ip : Int) from e5] at u5
      obtain ⟨u6, e6⟩ := hdep ⟨6, .data⟩ (by simp) rfl _ 13 rfl rfl
      rw [show vals 6 = .int .i64 (cn : Int) from e6] at u6
      have wr1 : IntKind.i64.wrap ((ip : Int) + (cn : Int)) = ((ip + cn : Nat) : Int) := by rw [IntKind.wrap_i64]; omega
      unfold Oper.wp
      simp [execOp, go_sem, u5, u6, wr1]
      exact came _ rfl (Below.refl _ _) rfl (fun h => absurd h (by decide))
    | 8, _, ho =>
      simp only [List.getElem?_cons_succ, List.getElem?_cons_zero, Option.some.injEq] at ho
      subst ho
      obtain ⟨u4, e4⟩ := hdep ⟨4, .data⟩ (by simp) rfl _ 11 rfl rfl
      rw [show vals 4 = .slice (some ⟨g, 0, none⟩) l.length c from e4] at u4
      obtain ⟨u7, e7⟩ := hdep ⟨7, .data⟩ (by simp) rfl _ 14 rfl rfl
      rw [show vals 7 = .int .i64 ((ip + cn : Nat) : Int) from e7] at u7
      have f1 : 0 ≤ (ip : Int) + (cn : Int) := by omega
      have f2 : (ip : Int) + (cn : Int) ≤ (l.length : Int) := by omega
      have f3 : ((ip : Int) + (cn : Int)).toNat = ip + cn := by omega
      have f5 : ¬ (c = ip + cn) := hc
      unfold Oper.wp
      simp [execOp, go_sem, u4, u7, f1, f2, f3, f5]
      exact came _ rfl (Below.refl _ _) rfl (fun h => absurd h (by decide))
    | m + 9, hi, _ => exact absurd hi (by omega)
  · intro vals w1 hX hR _
    have ho : OwnE w.heap.size (vals 3) (l.take ip) w1 := hR 3 (by decide)
    have e8 : vals 8 = .slice (some ⟨g, (ip + cn) * 5, none⟩) (l.length - (ip + cn)) (c - (ip + cn)) := hR 8 (by decide)
    have h2 := q2.out _ hX
    simp only [List.take, List.drop, putAll, e8, List.setIfInBounds_toArray, List.set_cons_succ, List.set_cons_zero]
    go_wp2_with (at_builtin; refine wpL_appE rfl _ _ rfl rfl rfl ho h2 b2 hX.size ?_; intro v3 w3 ho3 hg3)
    go_ret
    exact ⟨_, rfl, ho3, hX.grown hg3 hX.size (fun k hk => (ho.lt k hk).1)⟩

theorem cut_ok {R : Rows} {w : World} {u : Value} {l : List El} (hl : PlAt R w u l) (ip cn : Nat) (hip : ip + cn ≤ l.length) (hn : l.length ≤ 1073741824) :
    Calls Tryz.prog 27 #[u, .int .i64 (ip : Int), .int .i64 (cn : Int)] w fun r w' => ∃ v, r = .returned v ∧ OwnE w.heap.size v (l.take ip ++ l.drop (ip + cn)) w' ∧ Below w.heap.size w w' := by
  rcases hl with ⟨h1, rfl⟩ | ⟨g, c, rfl, hE, _, h4, h5⟩
  · rw [h1] at hip
    simp only [List.length_nil] at hip
    exact cut_none l ip cn hn h1 (by omega) (by omega)
  · by_cases hc : c = ip + cn
    · have e3 : l.length = ip + cn := by omega
      rw [hc]
      exact cut_end l ip cn hn g hE e3
    · exact cut_mid l ip cn hn g c hE hip h4 h5 hc
end Go.Proofs.YtppfgmggcihmoaaGreatDoor
