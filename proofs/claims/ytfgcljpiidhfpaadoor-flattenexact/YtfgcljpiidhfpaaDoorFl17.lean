
/-
  Package flatten: a Desk's Join.
-/
import Derived.Test.YtfgcljpiidhfpaaDoorFl13
namespace Go.Proofs.YtfgcljpiidhfpaaDoor
open Go.RowKit
set_option maxRecDepth 100000

set_option maxHeartbeats 2000000 in
theorem deskJoin_any {d : Nat} {n s : Int} {l m : List Rnd} {w : World} (h : DkAt d n s l w) (om : OkL m) :
    Calls Tryd.prog 38 #[.pointer (some ⟨d, 0, none⟩), .agg (cv (rs m))] w fun e w' => e = .returned (.bool (!(l == joinL l m))) ∧ DkAt d n s (joinL l m) w' ∧ Ch (fun k => k = d) w w' := by
  have r0 := RowAt.news w (cv (rs m)) 46
  have hB := below_one w (.cells (cv (rs m)) 46)
  have ok := h.2
  have H1 := hid_of' (And.intro (h.later hB) (And.intro r0 hB))
  clear h r0 hB
  go_enter Tryd.func38, Tryd.ntmps38
  go_upto_region 1 with fail
  obtain ⟨b, hb⟩ : ∃ b, w.heap.size = b := ⟨_, rfl⟩
  generalize w.alloc (.cells (cv (rs m)) 46) = W1 at H1 ⊢
  rw [hb] at ⊢
  have H1 : Hid (DkAt d n s l W1 ∧ RowAt b (cv (rs m)) 46 W1 ∧ Below w.heap.size w W1) := by
    have q := H1.out
    rw [← hb]
    exact q
  clear hb
  refine wp_region_tail 7 (by kernel_rfl) (fun _ => none) (by kernel_rfl) (by kernel_rfl) (by decide) (fun ii u X => match ii with
    | 0 => u = .pointer (some ⟨d, 0, none⟩)
    | 1 => u = .pointer (some ⟨d, 0, none⟩)
    | 2 => u = .pointer (some ⟨d, 0, none⟩)
    | 3 => u = .pointer (some ⟨d, 2, none⟩)
    | 4 => u = .agg (cv (rs l))
    | 5 => u = .agg (cv (rs m))
    | 6 => u = .agg (cv (rs (joinL l m)))
    | _ => True) (fun _ => false) (fun _ _ _ _ h => by cases h) ?_ ?_ ?_
  · intro ii u X X' hR hb
    match ii, hR with
    | 0, h => exact h
    | 1, h => exact h
    | 2, h => exact h
    | 3, h => exact h
    | 4, h => exact h
    | 5, h => exact h
    | 6, h => exact h
    | m + 7, h => exact h
  · intro ii o hi ho qq X vals hX hdep hoth
    have t0 : qq.tmps[0]? = some (.pointer (some ⟨d, 0, none⟩)) := by rw [hoth 0 (by kernel_rfl)]; rfl
    have t3 : qq.tmps[3]? = some (.pointer (some ⟨b, 0, none⟩)) := by rw [hoth 3 (by kernel_rfl)]; rfl
    match ii, hi, ho with
    | 0, _, ho =>
      simp only [List.getElem?_cons_zero, Option.some.injEq] at ho
      subst ho
      unfold Oper.wp
      simp [execOp, go_sem, t0]
      exact came _ rfl (Below.refl _ _) rfl (fun h => absurd h (by decide))
    | 1, _, ho =>
      simp only [List.getElem?_cons_succ, List.getElem?_cons_zero, Option.some.injEq] at ho
      subst ho
      unfold Oper.wp
      simp [execOp, go_sem, t0]
      exact came _ rfl (Below.refl _ _) rfl (fun h => absurd h (by decide))
    | 2, _, ho =>
      simp only [List.getElem?_cons_succ, List.getElem?_cons_zero, Option.some.injEq] at ho
      subst ho
      obtain ⟨u1, e1⟩ := hdep ⟨1, .data⟩ (by simp) rfl _ 6 rfl rfl
      rw [show vals 1 = .pointer (some ⟨d, 0, none⟩) from e1] at u1
      unfold Oper.wp
      simp [execOp, go_sem, u1]
      exact came _ rfl (Below.refl _ _) rfl (fun h => absurd h (by decide))
    | 3, _, ho =>
      simp only [List.getElem?_cons_succ, List.getElem?_cons_zero, Option.some.injEq] at ho
      subst ho
      obtain ⟨u2, e2⟩ := hdep ⟨2, .data⟩ (by simp) rfl _ 7 rfl rfl
      rw [show vals 2 = .pointer (some ⟨d, 0, none⟩) from e2] at u2
      unfold Oper.wp
      simp [execOp, go_sem, u2]
      exact came _ rfl (Below.refl _ _) rfl (fun h => absurd h (by decide))
    | 4, _, ho =>
      simp only [List.getElem?_cons_succ, List.getElem?_cons_zero, Option.some.injEq] at ho
      subst ho
      obtain ⟨u3, e3⟩ := hdep ⟨3, .data⟩ (by simp) rfl _ 8 rfl rfl
      rw [show vals 3 = .pointer (some ⟨d, 2, none⟩) from e3] at u3
      exact opRnds ok _ rfl (by simp [Act.eval, u3]) (DkAt.later H1.out.1 hX).rounds (came _ rfl (Below.refl _ _) rfl (fun h => absurd h (by decide)))
    | 5, _, ho =>
      simp only [List.getElem?_cons_succ, List.getElem?_cons_zero, Option.some.injEq] at ho
      subst ho
      exact opRnds om _ rfl (by simp [Act.eval, t3]) (RowAt.later H1.out.2.1 hX).in (came _ rfl (Below.refl _ _) rfl (fun h => absurd h (by decide)))
    | 6, _, ho =>
      simp only [List.getElem?_cons_succ, List.getElem?_cons_zero, Option.some.injEq] at ho
      subst ho
      obtain ⟨u4, e4⟩ := hdep ⟨4, .data⟩ (by simp) rfl _ 9 rfl rfl
      rw [show vals 4 = .agg (cv (rs l)) from e4] at u4
      obtain ⟨u5, e5⟩ := hdep ⟨5, .data⟩ (by simp) rfl _ 10 rfl rfl
      rw [show vals 5 = .agg (cv (rs m)) from e5] at u5
      unfold Oper.wp
      simp [go_sem, u4, u5]
      refine (join_any ok om X).mono ?_
      rintro r x1 ⟨rfl, hb1⟩
      exact came _ rfl hb1 rfl (fun h => absurd h (by decide))
    | m + 7, hi, _ => exact absurd hi (by omega)
  · intro vals X hX hR _
    have e0 : vals 0 = .pointer (some ⟨d, 0, none⟩) := hR 0 (by decide)
    have e6 : vals 6 = .agg (cv (rs (joinL l m))) := hR 6 (by decide)
    have HB := hid_of' (become_any (DkAt.later H1.out.1 hX) (joinL_ok ok om))
    have HC := hid_of' (bgo H1.out.2.2 hX)
    clear hR hX
    simp only [List.drop, List.take, putAll, List.setIfInBounds_toArray, List.set_cons_succ, List.set_cons_zero, e0, e6]
    clear e0 e6
    go_wp2_with (go_at_call 63; refine HB.out.mono ?_; rintro e w3 ⟨rfl, hd3, hc3⟩; clear HB)
    go_ret
    exact ⟨rfl, hd3, (Ch.of HC.out).trans hc3⟩
end Go.Proofs.YtfgcljpiidhfpaaDoor
