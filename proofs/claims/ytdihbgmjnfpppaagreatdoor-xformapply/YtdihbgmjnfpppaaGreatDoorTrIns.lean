
/-
  (*tree.Tree).Insert into an empty tree.
-/
import Derived.Test.YtdihbgmjnfpppaaGreatDoorTrTree
namespace Go.Proofs.YtdihbgmjnfpppaaGreatDoor
open Go.RowKit
set_option maxRecDepth 100000

set_option maxHeartbeats 1000000 in
theorem insert_none (b ch : Nat) (a : Option Addr) (c : Nat) (w : World) (h1 : RowAt b #[.int .i64 (ch : Int), .pointer none] 89 w) :
    Calls Tryz.prog 19 #[pv b, .int .i64 0, .slice a 0 c] w fun r w' => r = .returned .nilIface ∧ w' = w := by
  have HL := hid_of' (len_any (R := R0) (.inl ⟨rfl, h1⟩))
  unfold pv at *
  go_enter Tryz.func19, Tryz.ntmps19
  go_wp2_with (go_at_call 42; refine HL.out.mono ?_; rintro r w1 ⟨rfl, hw⟩; obtain rfl := hw.symm)
  go_ret
  exact ⟨rfl, rfl⟩

set_option maxHeartbeats 4000000 in
theorem insert_nil {R : Rows} (b ch : Nat) (l : List El) (u : Value) (w : World) (h1 : RowAt b #[.int .i64 (ch : Int), .pointer none] 89 w) (hu : SlE w u l) (hn : l.length ≤ 1073741824) (h0 : l ≠ []) (c1 : 1 ≤ ch) (c2 : ch ≤ 64) (hz : R.hi ≤ w.heap.size) :
    Calls Tryz.prog 19 #[pv b, .int .i64 0, u] w fun r w' => r = .returned .nilIface ∧ ∃ (w2 : World) (t : Nd), w' = w2.setCell ⟨b, 1, none⟩ (pv t.blk) ∧ Below w.heap.size w w2 ∧ t.At R w2 ∧ t.Full ∧ t.els = l := by
  obtain ⟨a', c', rfl⟩ := hu.form
  have hp : 0 < l.length := List.length_pos_iff.2 h0
  have hl0 : ((l.length : Int) == 0) = false := by rw [beq_eq_false_iff_ne]; omega
  have HL := hid_of' (len_any (R := R0) (.inl ⟨rfl, h1⟩))
  have HR := hid_of' (hasRoom_nil (ch := ch) 0 (l.length : Int) h1)
  have HC : Hid (∀ x, Below w.heap.size w x → _) := fun x hx => spliced_nil ch l _ x (hu.later hx) hn h0 c1 c2 (Nat.le_trans hz hx.size)
  have HN := hid_of' h1
  unfold pv at HL HR ⊢
  clear hu hp
  go_enter Tryz.func19, Tryz.ntmps19
  go_upto_region 7 with (first | (go_at_call 42; refine HL.out.mono ?_; rintro r w1 ⟨rfl, hw⟩; obtain rfl := hw.symm) | (go_at_call 44; refine HR.out.mono ?_; rintro r w1 ⟨rfl, hw⟩; obtain rfl := hw.symm))
  clear HL HR
  refine wp_region_tail 12 (by kernel_rfl) (fun _ => none) (by kernel_rfl) (by kernel_rfl) (by decide) (fun i v x => match i with
    | 0 => v = .pointer (some ⟨b, 0, none⟩)
    | 1 => v = .pointer (some ⟨b, 0, none⟩)
    | 2 => v = .pointer (some ⟨b, 0, none⟩)
    | 3 => v = .pointer (some ⟨b, 0, none⟩)
    | 4 => v = .int .i64 (ch : Int)
    | 5 => v = .pointer (some ⟨b, 0, none⟩)
    | 6 => v = .pointer (some ⟨b, 0, none⟩)
    | 7 => v = .pointer (some ⟨b, 1, none⟩)
    | 8 => v = .pointer none
    | 9 => v = .int .i64 0
    | 10 => v = .slice a' l.length c'
    | 11 => TreeOf R l (cutL (pkN ch l.length) l) v x
    | _ => True) (fun _ => false) (fun _ _ _ _ h => by cases h) ?_ ?_ ?_
  · intro i v x x' hR hb
    match i, hR with
    | 0, h => exact h
    | 1, h => exact h
    | 2, h => exact h
    | 3, h => exact h
    | 4, h => exact h
    | 5, h => exact h
    | 6, h => exact h
    | 7, h => exact h
    | 8, h => exact h
    | 9, h => exact h
    | 10, h => exact h
    | 11, h => exact TreeOf.later h hb
    | m + 12, h => exact h
  · intro i o hi ho q x vals hX hdep hoth
    have t0 : q.tmps[0]? = some (.pointer (some ⟨b, 0, none⟩)) := by rw [hoth 0 (by kernel_rfl)]; rfl
    have t1 : q.tmps[1]? = some (.int .i64 0) := by rw [hoth 1 (by kernel_rfl)]; rfl
    have t2 : q.tmps[2]? = some (.slice a' l.length c') := by rw [hoth 2 (by kernel_rfl)]; rfl
    match i, hi, ho with
    | 0, _, ho =>
      simp only [List.getElem?_cons_zero, Option.some.injEq] at ho
      subst ho
      unfold Oper.wp
      simp [execOp, go_sem, t0]
      exact came _ rfl (Below.refl _ _) rfl (fun h => absurd h (by decide))
    | 1, _, ho =>
      simp only [List.getElem?_cons_succ, List.getElem?_cons_zero, Option.some.injEq] at ho
      subst ho
      unfold Oper.wp
      simp [execOp, go_sem, t0]
      exact came _ rfl (Below.refl _ _) rfl (fun h => absurd h (by decide))
    | 2, _, ho =>
      simp only [List.getElem?_cons_succ, List.getElem?_cons_zero, Option.some.injEq] at ho
      subst ho
      obtain ⟨u1, e1⟩ := hdep ⟨1, .data⟩ (by simp) rfl _ 36 rfl rfl
      rw [show vals 1 = .pointer (some ⟨b, 0, none⟩) from e1] at u1
      unfold Oper.wp
      simp [execOp, go_sem, u1]
      exact came _ rfl (Below.refl _ _) rfl (fun h => absurd h (by decide))
    | 3, _, ho =>
      simp only [List.getElem?_cons_succ, List.getElem?_cons_zero, Option.some.injEq] at ho
      subst ho
      obtain ⟨u2, e2⟩ := hdep ⟨2, .data⟩ (by simp) rfl _ 37 rfl rfl
      rw [show vals 2 = .pointer (some ⟨b, 0, none⟩) from e2] at u2
      unfold Oper.wp
      simp [execOp, go_sem, u2]
      exact came _ rfl (Below.refl _ _) rfl (fun h => absurd h (by decide))
    | 4, _, ho =>
      simp only [List.getElem?_cons_succ, List.getElem?_cons_zero, Option.some.injEq] at ho
      subst ho
      obtain ⟨u3, e3⟩ := hdep ⟨3, .data⟩ (by simp) rfl _ 38 rfl rfl
      rw [show vals 3 = .pointer (some ⟨b, 0, none⟩) from e3] at u3
      have cc := (h1.later hX).cell 0
      unfold Oper.wp
      simp [execOp, go_sem, u3, cc]
      exact came _ rfl (Below.refl _ _) rfl (fun h => absurd h (by decide))
    | 5, _, ho =>
      simp only [List.getElem?_cons_succ, List.getElem?_cons_zero, Option.some.injEq] at ho
      subst ho
      unfold Oper.wp
      simp [execOp, go_sem, t0]
      exact came _ rfl (Below.refl _ _) rfl (fun h => absurd h (by decide))
    | 6, _, ho =>
      simp only [List.getElem?_cons_succ, List.getElem?_cons_zero, Option.some.injEq] at ho
      subst ho
      obtain ⟨u5, e5⟩ := hdep ⟨5, .data⟩ (by simp) rfl _ 40 rfl rfl
      rw [show vals 5 = .pointer (some ⟨b, 0, none⟩) from e5] at u5
      unfold Oper.wp
      simp [execOp, go_sem, u5]
      exact came _ rfl (Below.refl _ _) rfl (fun h => absurd h (by decide))
    | 7, _, ho =>
      simp only [List.getElem?_cons_succ, List.getElem?_cons_zero, Option.some.injEq] at ho
      subst ho
      obtain ⟨u6, e6⟩ := hdep ⟨6, .data⟩ (by simp) rfl _ 41 rfl rfl
      rw [show vals 6 = .pointer (some ⟨b, 0, none⟩) from e6] at u6
      unfold Oper.wp
      simp [execOp, go_sem, u6]
      exact came _ rfl (Below.refl _ _) rfl (fun h => absurd h (by decide))
    | 8, _, ho =>
      simp only [List.getElem?_cons_succ, List.getElem?_cons_zero, Option.some.injEq] at ho
      subst ho
      obtain ⟨u7, e7⟩ := hdep ⟨7, .data⟩ (by simp) rfl _ 42 rfl rfl
      rw [show vals 7 = .pointer (some ⟨b, 1, none⟩) from e7] at u7
      have cc := (h1.later hX).cell 1
      unfold Oper.wp
      simp [execOp, go_sem, u7, cc]
      exact came _ rfl (Below.refl _ _) rfl (fun h => absurd h (by decide))
    | 9, _, ho =>
      simp only [List.getElem?_cons_succ, List.getElem?_cons_zero, Option.some.injEq] at ho
      subst ho
      unfold Oper.wp
      simp [execOp, go_sem, t1]
      exact came _ rfl (Below.refl _ _) rfl (fun h => absurd h (by decide))
    | 10, _, ho =>
      simp only [List.getElem?_cons_succ, List.getElem?_cons_zero, Option.some.injEq] at ho
      subst ho
      unfold Oper.wp
      simp [execOp, go_sem, t2]
      exact came _ rfl (Below.refl _ _) rfl (fun h => absurd h (by decide))
    | 11, _, ho =>
      simp only [List.getElem?_cons_succ, List.getElem?_cons_zero, Option.some.injEq] at ho
      subst ho
      obtain ⟨u4, e4⟩ := hdep ⟨4, .data⟩ (by simp) rfl _ 39 rfl rfl
      rw [show vals 4 = .int .i64 (ch : Int) from e4] at u4
      obtain ⟨u8, e8⟩ := hdep ⟨8, .data⟩ (by simp) rfl _ 43 rfl rfl
      rw [show vals 8 = .pointer none from e8] at u8
      obtain ⟨u9, e9⟩ := hdep ⟨9, .data⟩ (by simp) rfl _ 44 rfl rfl
      rw [show vals 9 = .int .i64 0 from e9] at u9
      obtain ⟨u10, e10⟩ := hdep ⟨10, .data⟩ (by simp) rfl _ 45 rfl rfl
      rw [show vals 10 = .slice a' l.length c' from e10] at u10
      unfold Oper.wp
      simp [go_sem, u4, u8, u9, u10]
      refine (HC.out _ hX).mono ?_
      rintro r x1 ⟨v, rfl, hv, hb1⟩
      exact came _ rfl hb1 hv (fun h => absurd h (by decide))
    | m + 12, hi, _ => exact absurd hi (by omega)
  · intro vals x' hX hR _
    obtain ⟨t, k1, k2, k3, k4, _⟩ : TreeOf R l (cutL (pkN ch l.length) l) (vals 11) x' := hR 11 (by decide)
    have r0 : vals 0 = .pointer (some ⟨b, 0, none⟩) := hR 0 (by decide)
    have cc := (h1.later hX).cell 1
    have cf : x'.frozen? ⟨b, 1, none⟩ = false := Lib.frozen_of_heap (h1.later hX) 1
    simp only [List.take, List.drop, putAll, k1, r0, pv]
    go_wp2
    go_ret
    exact ⟨rfl, x', t, rfl, hX, k2, k3, k4⟩
end Go.Proofs.YtdihbgmjnfpppaaGreatDoor
