
/-
  tree.cut: a row cut into leaves; tree.packed.
-/
import Derived.Test.YtjalehlmldlooaaGreatDoorZap06
namespace Go.Proofs.YtjalehlmldlooaaGreatDoor
open Go.RowKit
set_option maxRecDepth 100000

/-- The rows of the leaves. -/
def Nd.leaves : Nd → List (List El)
  | .leaf _ _ _ _ l => [l]
  | .inner _ x y => x.leaves ++ y.leaves
/-- A row cut into n. -/
def cutL (n : Nat) (l : List El) : List (List El) :=
  if _h : n ≤ 1 then [l] else cutL (n / 2) (l.take (l.length * (n / 2) / n)) ++ cutL (n - n / 2) (l.drop (l.length * (n / 2) / n))
termination_by n
decreasing_by all_goals omega
theorem cut_at {len n h : Nat} (hn : n ≤ len) (hh : h ≤ n) (h0 : 0 < n) : h ≤ len * h / n ∧ len * h / n ≤ len ∧ n - h ≤ len - len * h / n := by
  have h1 : h ≤ len * h / n := (Nat.le_div_iff_mul_le h0).2 (by rw [Nat.mul_comm]; exact Nat.mul_le_mul_right h hn)
  obtain ⟨k, rfl⟩ : ∃ k, n = h + k := ⟨n - h, by omega⟩
  obtain ⟨a, ha⟩ : ∃ a, len * h / (h + k) = a := ⟨_, rfl⟩
  have h2 : a * (h + k) ≤ len * h := by rw [← ha]; exact Nat.div_mul_le_self _ _
  rw [ha] at h1 ⊢
  have h3 : a + k ≤ len := by
    apply Classical.byContradiction
    intro hc
    have e1 : (len + 1) * (h + k) ≤ (a + k) * (h + k) := Nat.mul_le_mul_right _ (by omega)
    have e2 : k * (h + k) ≤ len * k := by rw [Nat.mul_comm]; exact Nat.mul_le_mul_right k hn
    rw [Nat.add_mul, Nat.add_mul, Nat.mul_add len] at e1
    omega
  exact ⟨h1, by omega, by omega⟩
theorem ElsAt.take {g o_ : Nat} {l : List El} {w : World} (h : ElsAt g o_ l w) (k : Nat) : ElsAt g o_ (l.take k) w := fun i e he => h i e (by
  rw [List.getElem?_take] at he
  split at he
  · exact he
  · cases he)
theorem ElsAt.drop {g o_ : Nat} {l : List El} {w : World} (h : ElsAt g o_ l w) (k : Nat) : ElsAt g (o_ + k * 5) (l.drop k) w := fun i e he => by
  rw [List.getElem?_drop] at he
  have := h (k + i) e he
  rw [Nat.add_mul, ← Nat.add_assoc] at this
  exact this

/-- A tree of this row, of these leaves. -/
def TreeOf (R : Rows) (l : List El) (ls : List (List El)) (v : Value) (w : World) : Prop := ∃ t : Nd, v = pv t.blk ∧ t.At R w ∧ t.Full ∧ t.els = l ∧ t.leaves = ls
theorem TreeOf.later {R : Rows} {l : List El} {ls : List (List El)} {v : Value} {w w' : World} (h : TreeOf R l ls v w) (hb : Below w.heap.size w w') : TreeOf R l ls v w' := by
  obtain ⟨t, h1, h2, h3⟩ := h
  exact ⟨t, h1, h2.later hb, h3⟩

set_option maxHeartbeats 2000000 in
theorem cut_one {R : Rows} (l : List El) (g o_ c : Nat) (w : World) (hl : ElsAt g o_ l w) (hn : l.length ≤ 1073741824) (h0 : l ≠ []) (hz : R.hi ≤ w.heap.size) :
    Calls Tryz.prog 83 #[.slice (some ⟨g, o_, none⟩) l.length c, .int .i64 1] w fun r w' => ∃ v, r = .returned v ∧ TreeOf R l [l] v w' ∧ Below w.heap.size w w' := by
  have HC := hid_of' (clone_some l g o_ c w hl (by omega))
  go_enter Tryz.func83, Tryz.ntmps83
  go_wp2_with (first | (go_at_call 96; refine HC.out.mono ?_; rintro r w1 ⟨v, rfl, ho, hb1⟩; obtain ⟨g1, c1, hg1, rfl, he1, hlc1, hc1⟩ := ho.room h0; clear ho) | (go_at_call 63; refine (leafOf_any l g1 0 c1 _ he1 (by omega) hlc1 hc1 (Rk.new (Nat.le_trans hz hg1)) (Nat.le_trans hz hb1.size)).mono ?_; rintro r w2 ⟨b, _, rfl, ht, hb2⟩; unfold pv))
  go_ret
  exact ⟨_, rfl, ⟨.leaf b g1 0 c1 l, rfl, ht, h0, rfl, rfl⟩, bgo hb1 hb2⟩

set_option maxHeartbeats 8000000 in
theorem cut_step {R : Rows} (l : List El) (n hf at_ g o_ c : Nat) (w : World) (hl : ElsAt g o_ l w) (hlc : l.length ≤ c) (hc : c ≤ 9223372036854775807) (hn : l.length ≤ 1073741824) (hn2 : 2 ≤ n) (hnl : n ≤ l.length) (hhf : n / 2 = hf) (hat : l.length * hf / n = at_) (hz : R.hi ≤ w.heap.size)
    (C : ∀ (m : Nat), m < n → ∀ (l' : List El) (o' c' : Nat) (x : World), ElsAt g o' l' x → R.hi ≤ x.heap.size → l'.length ≤ c' → c' ≤ 9223372036854775807 → l'.length ≤ 1073741824 → 1 ≤ m → m ≤ l'.length → Calls Tryz.prog 83 #[.slice (some ⟨g, o', none⟩) l'.length c', .int .i64 (m : Int)] x fun r w' => ∃ v, r = .returned v ∧ TreeOf R l' (cutL m l') v w' ∧ Below x.heap.size x w') :
    Calls Tryz.prog 83 #[.slice (some ⟨g, o_, none⟩) l.length c, .int .i64 (n : Int)] w fun r w' => ∃ v, r = .returned v ∧ TreeOf R l (cutL n l) v w' ∧ Below w.heap.size w w' := by
  have hc0 := cut_at (len := l.length) (n := n) (h := hf) hnl (by omega) (by omega)
  rw [hat] at hc0
  obtain ⟨k1, k2, k3⟩ := hc0
  have hf1 : 1 ≤ hf := by omega
  have hfn : hf < n := by omega
  have ht : (l.take at_).length = at_ := by rw [List.length_take]; omega
  have hd : (l.drop at_).length = l.length - at_ := List.length_drop
  have C1 := hid_of' (fun x (hx : Below w.heap.size w x) => C hf hfn (l.take at_) o_ c x ((hl.later hx).take at_) (Nat.le_trans hz hx.size) (by omega) hc (by omega) hf1 (by omega))
  have C2 := hid_of' (fun x (hx : Below w.heap.size w x) => C (n - hf) (by omega) (l.drop at_) (o_ + at_ * 5) (c - at_) x ((hl.later hx).drop at_) (Nat.le_trans hz hx.size) (by omega) (by omega) (by omega) (by omega) (by omega))
  rw [ht] at C1
  rw [hd] at C2
  have HL : Hid (cutL n l = cutL hf (l.take at_) ++ cutL (n - hf) (l.drop at_) ∧ l.take at_ ++ l.drop at_ = l ∧ (l.take at_ ++ l.drop at_).length ≤ 1099511627776) := by
    refine ⟨?_, List.take_append_drop _ _, ?_⟩
    · rw [cutL, dif_neg (by omega), hhf, hat]
    · rw [List.take_append_drop]; omega
  have q1 : ((n : Int)).tdiv 2 = (hf : Int) := by rw [Int.tdiv_eq_ediv_of_nonneg (by omega)]; omega
  have q2 : ((l.length : Int) * (hf : Int)).tdiv (n : Int) = (at_ : Int) := by
    rw [Int.tdiv_eq_ediv_of_nonneg (Int.mul_nonneg (by omega) (by omega)), ← hat]
    simp
  have m1 : (l.length : Int) * (hf : Int) ≤ 1152921504606846976 := by
    have := Nat.mul_le_mul hn (show hf ≤ 1073741824 by omega)
    have e : ((l.length * hf : Nat) : Int) = (l.length : Int) * (hf : Int) := by simp
    omega
  have m2 : 0 ≤ (l.length : Int) * (hf : Int) := Int.mul_nonneg (by omega) (by omega)
  obtain ⟨mm, em⟩ : ∃ m, (l.length : Int) * (hf : Int) = m := ⟨_, rfl⟩
  rw [em] at q2 m1 m2
  have n1 : ((n : Int) == 1) = false := by rw [beq_eq_false_iff_ne]; omega
  have n0 : ((n : Int) == 0) = false := by rw [beq_eq_false_iff_ne]; omega
  have s1 : (at_ : Int) ≤ (l.length : Int) := by omega
  have sb : ((n - hf : Nat) : Int) = (n : Int) - (hf : Int) := by omega
  have hne : ¬ c = at_ := by omega
  clear C hhf hat ht hd k1 k3
  go_enter Tryz.func83, Tryz.ntmps83
  go_upto_region 5 with fail
  refine wp_region_tail 13 (by kernel_rfl) (fun _ => none) (by kernel_rfl) (by kernel_rfl) (by decide) (fun i v x => match i with
    | 0 => v = .slice (some ⟨g, o_, none⟩) l.length c
    | 1 => v = .int .i64 (at_ : Int)
    | 2 => v = .slice (some ⟨g, o_, none⟩) at_ c
    | 3 => v = .int .i64 (hf : Int)
    | 4 => TreeOf R (l.take at_) (cutL hf (l.take at_)) v x
    | 5 => v = .slice (some ⟨g, o_, none⟩) l.length c
    | 6 => v = .int .i64 (at_ : Int)
    | 7 => v = .slice (some ⟨g, o_ + at_ * 5, none⟩) (l.length - at_) (c - at_)
    | 8 => v = .int .i64 (n : Int)
    | 9 => v = .int .i64 (hf : Int)
    | 10 => v = .int .i64 ((n - hf : Nat) : Int)
    | 11 => TreeOf R (l.drop at_) (cutL (n - hf) (l.drop at_)) v x
    | 12 => TreeOf R l (cutL n l) v x
    | _ => True) (fun _ => false) (fun _ _ _ _ h => by cases h) ?_ ?_ ?_
  · intro i v x x' hR hb
    match i, hR with
    | 0, h => exact h
    | 1, h => exact h
    | 2, h => exact h
    | 3, h => exact h
    | 4, h => exact TreeOf.later h hb
    | 5, h => exact h
    | 6, h => exact h
    | 7, h => exact h
    | 8, h => exact h
    | 9, h => exact h
    | 10, h => exact h
    | 11, h => exact TreeOf.later h hb
    | 12, h => exact TreeOf.later h hb
    | m + 13, h => exact h
  · intro i o hi ho q x vals hX hdep hoth
    have t0 : q.tmps[0]? = some (.slice (some ⟨g, o_, none⟩) l.length c) := by rw [hoth 0 (by kernel_rfl)]; rfl
    have t1 : q.tmps[1]? = some (.int .i64 (n : Int)) := by rw [hoth 1 (by kernel_rfl)]; rfl
    have t5 : q.tmps[5]? = some (.int .i64 (hf : Int)) := by rw [hoth 5 (by kernel_rfl)]; rfl
    have t6 : q.tmps[6]? = some (.int .i64 (at_ : Int)) := by rw [hoth 6 (by kernel_rfl)]; rfl
    have b1 : 0 ≤ (at_ : Int) := by omega
    have b2 : (at_ : Int) ≤ (c : Int) := by omega
    match i, hi, ho with
    | 0, _, ho =>
      simp only [List.getElem?_cons_zero, Option.some.injEq] at ho
      subst ho
      unfold Oper.wp
      simp [execOp, go_sem, t0]
      exact came _ rfl (Below.refl _ _) rfl (fun h => absurd h (by decide))
    | 1, _, ho =>
      simp only [List.getElem?_cons_succ, List.getElem?_cons_zero, Option.some.injEq] at ho
      subst ho
      unfold Oper.wp
      simp [execOp, go_sem, t6]
      exact came _ rfl (Below.refl _ _) rfl (fun h => absurd h (by decide))
    | 2, _, ho =>
      simp only [List.getElem?_cons_succ, List.getElem?_cons_zero, Option.some.injEq] at ho
      subst ho
      obtain ⟨u0, e0⟩ := hdep ⟨0, .data⟩ (by simp) rfl _ 20 rfl rfl
      rw [show vals 0 = .slice (some ⟨g, o_, none⟩) l.length c from e0] at u0
      obtain ⟨u1, e1⟩ := hdep ⟨1, .data⟩ (by simp) rfl _ 21 rfl rfl
      rw [show vals 1 = .int .i64 (at_ : Int) from e1] at u1
      unfold Oper.wp
      simp [execOp, go_sem, u0, u1, b1, b2]
      exact came _ rfl (Below.refl _ _) rfl (fun h => absurd h (by decide))
    | 3, _, ho =>
      simp only [List.getElem?_cons_succ, List.getElem?_cons_zero, Option.some.injEq] at ho
      subst ho
      unfold Oper.wp
      simp [execOp, go_sem, t5]
      exact came _ rfl (Below.refl _ _) rfl (fun h => absurd h (by decide))
    | 4, _, ho =>
      simp only [List.getElem?_cons_succ, List.getElem?_cons_zero, Option.some.injEq] at ho
      subst ho
      obtain ⟨u2, e2⟩ := hdep ⟨2, .data⟩ (by simp) rfl _ 22 rfl rfl
      rw [show vals 2 = .slice (some ⟨g, o_, none⟩) at_ c from e2] at u2
      obtain ⟨u3, e3⟩ := hdep ⟨3, .data⟩ (by simp) rfl _ 23 rfl rfl
      rw [show vals 3 = .int .i64 (hf : Int) from e3] at u3
      unfold Oper.wp
      simp [go_sem, u2, u3]
      refine (C1.out _ hX).mono ?_
      rintro r x1 ⟨v, rfl, hv, hb1⟩
      exact came _ rfl hb1 hv (fun h => absurd h (by decide))
    | 5, _, ho =>
      simp only [List.getElem?_cons_succ, List.getElem?_cons_zero, Option.some.injEq] at ho
      subst ho
      unfold Oper.wp
      simp [execOp, go_sem, t0]
      exact came _ rfl (Below.refl _ _) rfl (fun h => absurd h (by decide))
    | 6, _, ho =>
      simp only [List.getElem?_cons_succ, List.getElem?_cons_zero, Option.some.injEq] at ho
      subst ho
      unfold Oper.wp
      simp [execOp, go_sem, t6]
      exact came _ rfl (Below.refl _ _) rfl (fun h => absurd h (by decide))
    | 7, _, ho =>
      simp only [List.getElem?_cons_succ, List.getElem?_cons_zero, Option.some.injEq] at ho
      subst ho
      obtain ⟨u5, e5⟩ := hdep ⟨5, .data⟩ (by simp) rfl _ 25 rfl rfl
      rw [show vals 5 = .slice (some ⟨g, o_, none⟩) l.length c from e5] at u5
      obtain ⟨u6, e6⟩ := hdep ⟨6, .data⟩ (by simp) rfl _ 26 rfl rfl
      rw [show vals 6 = .int .i64 (at_ : Int) from e6] at u6
      unfold Oper.wp
      simp [execOp, go_sem, u5, u6, b1, k2, hne]
      exact came _ rfl (Below.refl _ _) rfl (fun h => absurd h (by decide))
    | 8, _, ho =>
      simp only [List.getElem?_cons_succ, List.getElem?_cons_zero, Option.some.injEq] at ho
      subst ho
      unfold Oper.wp
      simp [execOp, go_sem, t1]
      exact came _ rfl (Below.refl _ _) rfl (fun h => absurd h (by decide))
    | 9, _, ho =>
      simp only [List.getElem?_cons_succ, List.getElem?_cons_zero, Option.some.injEq] at ho
      subst ho
      unfold Oper.wp
      simp [execOp, go_sem, t5]
      exact came _ rfl (Below.refl _ _) rfl (fun h => absurd h (by decide))
    | 10, _, ho =>
      simp only [List.getElem?_cons_succ, List.getElem?_cons_zero, Option.some.injEq] at ho
      subst ho
      obtain ⟨u8, e8⟩ := hdep ⟨8, .data⟩ (by simp) rfl _ 28 rfl rfl
      rw [show vals 8 = .int .i64 (n : Int) from e8] at u8
      obtain ⟨u9, e9⟩ := hdep ⟨9, .data⟩ (by simp) rfl _ 29 rfl rfl
      rw [show vals 9 = .int .i64 (hf : Int) from e9] at u9
      have wr1 : IntKind.i64.wrap ((n : Int) - (hf : Int)) = ((n - hf : Nat) : Int) := by rw [IntKind.wrap_i64]; omega
      unfold Oper.wp
      simp [execOp, go_sem, u8, u9, wr1]
      exact came _ rfl (Below.refl _ _) rfl (fun h => absurd h (by decide))
    | 11, _, ho =>
      simp only [List.getElem?_cons_succ, List.getElem?_cons_zero, Option.some.injEq] at ho
      subst ho
      obtain ⟨u7, e7⟩ := hdep ⟨7, .data⟩ (by simp) rfl _ 27 rfl rfl
      rw [show vals 7 = .slice (some ⟨g, o_ + at_ * 5, none⟩) (l.length - at_) (c - at_) from e7] at u7
      obtain ⟨u10, e10⟩ := hdep ⟨10, .data⟩ (by simp) rfl _ 30 rfl rfl
      rw [show vals 10 = .int .i64 ((n - hf : Nat) : Int) from e10] at u10
      unfold Oper.wp
      simp [go_sem, u7, u10]
      refine (C2.out _ hX).mono ?_
      rintro r x1 ⟨v, rfl, hv, hb1⟩
      exact came _ rfl hb1 hv (fun h => absurd h (by decide))
    | 12, _, ho =>
      simp only [List.getElem?_cons_succ, List.getElem?_cons_zero, Option.some.injEq] at ho
      subst ho
      obtain ⟨u4, e4⟩ := hdep ⟨4, .data⟩ (by simp) rfl _ 24 rfl rfl
      obtain ⟨u11, e11⟩ := hdep ⟨11, .data⟩ (by simp) rfl _ 31 rfl rfl
      obtain ⟨ta, a1, a2, a3, a4, a5⟩ : TreeOf R (l.take at_) (cutL hf (l.take at_)) (vals 4) x := e4
      obtain ⟨tb, b1', b2', b3', b4', b5'⟩ : TreeOf R (l.drop at_) (cutL (n - hf) (l.drop at_)) (vals 11) x := e11
      rw [a1] at u4
      rw [b1'] at u11
      unfold Oper.wp
      simp [go_sem, u4, u11]
      refine (inner_any a2 b2' a3 b3' (by rw [a4, b4']; exact HL.out.2.2)).mono ?_
      rintro r x1 ⟨bb, _, rfl, ht, hb1⟩
      exact came _ rfl hb1 ⟨.inner bb ta tb, rfl, ht, ⟨a3, b3'⟩, by show ta.els ++ tb.els = l; rw [a4, b4']; exact HL.out.2.1, by show ta.leaves ++ tb.leaves = _; rw [a5, b5']; exact HL.out.1.symm⟩ (fun h => absurd h (by decide))
    | m + 13, hi, _ => exact absurd hi (by omega)
  · intro vals x' hX hR _
    obtain ⟨t, k1, k2, k3⟩ : TreeOf R l (cutL n l) (vals 12) x' := hR 12 (by decide)
    simp only [List.take, List.drop, putAll, k1]
    unfold pv
    go_wp2
    go_ret
    exact ⟨_, rfl, ⟨t, rfl, k2, k3⟩, hX⟩

theorem cut_any {R : Rows} (g : Nat) : ∀ (n : Nat) (l : List El) (o_ c : Nat) (w : World), ElsAt g o_ l w → R.hi ≤ w.heap.size → l.length ≤ c → c ≤ 9223372036854775807 → l.length ≤ 1073741824 → 1 ≤ n → n ≤ l.length →
    Calls Tryz.prog 83 #[.slice (some ⟨g, o_, none⟩) l.length c, .int .i64 (n : Int)] w fun r w' => ∃ v, r = .returned v ∧ TreeOf R l (cutL n l) v w' ∧ Below w.heap.size w w' := by
  intro n
  induction n using Nat.strongRecOn with
  | ind n ih =>
    intro l o_ c w hl hz hlc hc hn h1 hnl
    by_cases hn1 : n = 1
    · subst hn1
      have := cut_one l g o_ c w hl hn (by intro e; subst e; simp at hnl) hz
      rw [cutL, dif_pos (by omega)]
      exact this
    · exact cut_step l n _ _ g o_ c w hl hlc hc hn (by omega) hnl rfl rfl hz (fun m hm l' o' c' x g1 g0 g2 g3 g4 g5 g6 => ih m hm l' o' c' x g1 g0 g2 g3 g4 g5 g6)
end Go.Proofs.YtjalehlmldlooaaGreatDoor
