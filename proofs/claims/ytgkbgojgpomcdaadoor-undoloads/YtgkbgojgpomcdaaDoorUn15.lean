
/-
  undo.Edits; barrowkeep.Histories.
-/
import Derived.Test.YtgkbgojgpomcdaaDoorUn14
namespace Go.Proofs.YtgkbgojgpomcdaaDoor
open Go.RowKit Go.Extern.Stop Go.Stop Go.Extern
set_option maxRecDepth 100000

set_option maxHeartbeats 2000000 in
theorem edits_ok {B : Nat} {vd vu : Value} {F : Nat → Prop} {d u : List (List Xg)} {w : World} (h : SkAt 68 B vd vu F d u w) :
    Calls Tryd.prog 24 #[.pointer (some ⟨B, 0, none⟩)] w fun e w' => ∃ x y, e = .returned (.tuple #[x, y]) ∧ NwE w.heap.size x d w' ∧ NwE w.heap.size y u w' ∧ Below w.heap.size w w' := by
  obtain ⟨a0, c0, hv0, _⟩ := h.rd.form
  obtain ⟨a1, c1, hv1, _⟩ := h.ru.form
  have HLN := hid_of' (And.intro h.ld h.lu)
  have HK := hid_of' h
  have HR := hid_of' h.lies
  generalize d.length = n0 at hv0
  generalize u.length = n1 at hv1
  subst hv0 hv1
  clear h
  go_enter Tryd.func24, Tryd.ntmps24
  go_upto_region 1 with fail
  refine wp_region_tail 10 (by kernel_rfl) (fun _ => none) (by kernel_rfl) (by kernel_rfl) (by decide) (fun i v x => match i with
    | 0 => v = .pointer (some ⟨B, 0, none⟩)
    | 1 => v = .pointer (some ⟨B, 0, none⟩)
    | 2 => v = .pointer (some ⟨B, 0, none⟩)
    | 3 => v = .slice a0 n0 c0
    | 4 => NwE w.heap.size v d x
    | 5 => v = .pointer (some ⟨B, 0, none⟩)
    | 6 => v = .pointer (some ⟨B, 0, none⟩)
    | 7 => v = .pointer (some ⟨B, 1, none⟩)
    | 8 => v = .slice a1 n1 c1
    | 9 => NwE w.heap.size v u x
    | _ => True) (fun _ => false) (fun _ _ _ _ h => by cases h) ?_ ?_ ?_
  · intro i v x x' hR hb
    match i, hR with
    | 0, h => exact h
    | 1, h => exact h
    | 2, h => exact h
    | 3, h => exact h
    | 4, h => exact h.later hb
    | 5, h => exact h
    | 6, h => exact h
    | 7, h => exact h
    | 8, h => exact h
    | 9, h => exact h.later hb
    | m + 10, h => exact h
  · intro i o hi ho q x vals hX hdep hoth
    have t0 : q.tmps[0]? = some (.pointer (some ⟨B, 0, none⟩)) := by rw [hoth 0 (by kernel_rfl)]; rfl
    match i, hi, ho with
    | 0, _, ho =>
      simp only [List.getElem?_cons_zero, Option.some.injEq] at ho
      subst ho
      unfold Oper.wp
      simp [execOp, go_sem, t0]
      exact came _ rfl (Below.refl _ _) rfl (fun h => absurd h (by decide))
    | 1, _, ho =>
      simp only [List.getElem?_cons_succ, List.getElem?_cons_zero, Option.some.injEq] at ho
      subst ho
      obtain ⟨u0, e0⟩ := hdep ⟨0, .data⟩ (by simp) rfl _ 4 rfl rfl
      rw [show vals 0 = .pointer (some ⟨B, 0, none⟩) from e0] at u0
      unfold Oper.wp
      simp [execOp, go_sem, u0]
      exact came _ rfl (Below.refl _ _) rfl (fun h => absurd h (by decide))
    | 2, _, ho =>
      simp only [List.getElem?_cons_succ, List.getElem?_cons_zero, Option.some.injEq] at ho
      subst ho
      obtain ⟨u1, e1⟩ := hdep ⟨1, .data⟩ (by simp) rfl _ 5 rfl rfl
      rw [show vals 1 = .pointer (some ⟨B, 0, none⟩) from e1] at u1
      unfold Oper.wp
      simp [execOp, go_sem, u1]
      exact came _ rfl (Below.refl _ _) rfl (fun h => absurd h (by decide))
    | 3, _, ho =>
      simp only [List.getElem?_cons_succ, List.getElem?_cons_zero, Option.some.injEq] at ho
      subst ho
      obtain ⟨u2, e2⟩ := hdep ⟨2, .data⟩ (by simp) rfl _ 6 rfl rfl
      rw [show vals 2 = .pointer (some ⟨B, 0, none⟩) from e2] at u2
      have cc : x.cell? ⟨B, 0, none⟩ = some (.slice a0 n0 c0) := (HR.out.later hX).cellIs 0 rfl
      unfold Oper.wp
      simp [execOp, go_sem, u2, cc]
      exact came _ rfl (Below.refl _ _) rfl (fun h => absurd h (by decide))
    | 4, _, ho =>
      simp only [List.getElem?_cons_succ, List.getElem?_cons_zero, Option.some.injEq] at ho
      subst ho
      obtain ⟨u3, e3⟩ := hdep ⟨3, .data⟩ (by simp) rfl _ 7 rfl rfl
      rw [show vals 3 = .slice a0 n0 c0 from e3] at u3
      unfold Oper.wp
      simp [go_sem, u3]
      refine (copied_ok (ERow.sl (HK.out.rd.later hX)) (ERow.fits HK.out.rd) (by have := HLN.out; omega)).mono ?_
      rintro r x1 ⟨v1, rfl, hn1, hb1⟩
      exact came _ rfl hb1 (hn1.mono hX.size) (fun h => absurd h (by decide))
    | 5, _, ho =>
      simp only [List.getElem?_cons_succ, List.getElem?_cons_zero, Option.some.injEq] at ho
      subst ho
      unfold Oper.wp
      simp [execOp, go_sem, t0]
      exact came _ rfl (Below.refl _ _) rfl (fun h => absurd h (by decide))
    | 6, _, ho =>
      simp only [List.getElem?_cons_succ, List.getElem?_cons_zero, Option.some.injEq] at ho
      subst ho
      obtain ⟨u5, e5⟩ := hdep ⟨5, .data⟩ (by simp) rfl _ 9 rfl rfl
      rw [show vals 5 = .pointer (some ⟨B, 0, none⟩) from e5] at u5
      unfold Oper.wp
      simp [execOp, go_sem, u5]
      exact came _ rfl (Below.refl _ _) rfl (fun h => absurd h (by decide))
    | 7, _, ho =>
      simp only [List.getElem?_cons_succ, List.getElem?_cons_zero, Option.some.injEq] at ho
      subst ho
      obtain ⟨u6, e6⟩ := hdep ⟨6, .data⟩ (by simp) rfl _ 10 rfl rfl
      rw [show vals 6 = .pointer (some ⟨B, 0, none⟩) from e6] at u6
      unfold Oper.wp
      simp [execOp, go_sem, u6]
      exact came _ rfl (Below.refl _ _) rfl (fun h => absurd h (by decide))
    | 8, _, ho =>
      simp only [List.getElem?_cons_succ, List.getElem?_cons_zero, Option.some.injEq] at ho
      subst ho
      obtain ⟨u7, e7⟩ := hdep ⟨7, .data⟩ (by simp) rfl _ 11 rfl rfl
      rw [show vals 7 = .pointer (some ⟨B, 1, none⟩) from e7] at u7
      have cc : x.cell? ⟨B, 1, none⟩ = some (.slice a1 n1 c1) := (HR.out.later hX).cellIs 1 rfl
      unfold Oper.wp
      simp [execOp, go_sem, u7, cc]
      exact came _ rfl (Below.refl _ _) rfl (fun h => absurd h (by decide))
    | 9, _, ho =>
      simp only [List.getElem?_cons_succ, List.getElem?_cons_zero, Option.some.injEq] at ho
      subst ho
      obtain ⟨u8, e8⟩ := hdep ⟨8, .data⟩ (by simp) rfl _ 12 rfl rfl
      rw [show vals 8 = .slice a1 n1 c1 from e8] at u8
      unfold Oper.wp
      simp [go_sem, u8]
      refine (copied_ok (ERow.sl (HK.out.ru.later hX)) (ERow.fits HK.out.ru) (by have := HLN.out; omega)).mono ?_
      rintro r x1 ⟨v1, rfl, hn1, hb1⟩
      exact came _ rfl hb1 (hn1.mono hX.size) (fun h => absurd h (by decide))
    | m + 10, hi, _ => exact absurd hi (by omega)
  · intro vals x hX hR _
    have q1 : NwE w.heap.size (vals 4) d x := hR 4 (by decide)
    have q2 : NwE w.heap.size (vals 9) u x := hR 9 (by decide)
    obtain ⟨us, h1, _⟩ := q1.ex
    obtain ⟨ub, h2, _⟩ := q2.ex
    obtain ⟨a4, c4, hv4⟩ := h1.form
    obtain ⟨a9, c9, hv9⟩ := h2.form
    generalize us.length = n4 at hv4
    generalize ub.length = n9 at hv9
    rw [hv4] at q1
    rw [hv9] at q2
    have HQ := hid_of' (And.intro q1 (And.intro q2 hX))
    clear q1 q2 hX hR h1 h2
    simp only [List.drop, List.take, putAll, List.setIfInBounds_toArray, List.set_cons_succ, List.set_cons_zero, hv4, hv9]
    clear hv4 hv9
    go_wp2
    go_ret2
    exact ⟨_, _, rfl, HQ.out.1, HQ.out.2.1, HQ.out.2.2⟩
theorem SlE.later {w w' : World} {v : Value} {ls : List (List Xg)} (h : SlE w v ls) (hb : Below w.heap.size w w') : SlE w' v ls := by
  rcases h with h | ⟨g, o_, c, us, rfl, h1, h2, h3⟩
  · exact .inl h
  · refine .inr ⟨g, o_, c, us, rfl, h1, fun i u hu => ?_, fun i u l a b => (h3 i u l a b).later hb⟩
    have := h2 i u hu
    rw [hb.cell (World.block_lt_of_cell? _ _ this)]
    exact this
theorem cls_cell {w : World} {p : Addr} {v : Value} (h : w.cell? p = some v) (s : Wld w) : (wOf s).cell? p = some v := by
  rw [(wOf_below s).cell (World.block_lt_of_cell? _ _ h)]
  exact h
set_option maxHeartbeats 2000000 in
/-- Two lists of the same rows are alike. -/
theorem histories_same {w : World} {u v : Value} {ls : List (List Xg)} (h : SlE w u ls) (h' : SlE w v ls) (hf : ∀ l ∈ ls, l.length ≤ 4398046510976) (hl : ls.length ≤ 100000) :
    Calls Tryd.prog 27 #[u, v] w fun e w' => e = .returned (.bool true) ∧ Below w.heap.size w w' := by
  obtain ⟨a0, c0, rfl⟩ := h.form
  obtain ⟨a1, c1, rfl⟩ := h'.form
  have HD := hid_of' (And.intro h (And.intro h' hf))
  obtain ⟨n, hn⟩ : ∃ n, n = ls.length := ⟨_, rfl⟩
  rw [← hn] at HD hl ⊢
  replace hn := hid_of' hn
  clear h h' hf
  go_enter Tryd.func27, Tryd.ntmps27
  go_wp2
  go_loopw [5] (fun i wr => ∃ k : Nat, i = .int .i64 (k : Int) ∧ k ≤ n ∧ Below w.heap.size w wr) (fun i _ => n - (intOf i).toNat)
  case atStart => exact ⟨0, rfl, Nat.zero_le _, Below.refl _ _⟩
  case round =>
    obtain ⟨k, rfl, hk, hB⟩ := hrel
    by_cases q0 : k < n
    · have p0 : (k : Int) < (n : Int) := by omega
      obtain ⟨l, hl9⟩ : ∃ l, ls[k]? = some l := ⟨_, List.getElem?_eq_getElem (by rw [← hn.out]; exact q0)⟩
      obtain ⟨g0, o0, y0, rfl, hc0, hs0⟩ := (HD.out.1.later hB).at hl9
      obtain ⟨g1, o1, y1, rfl, hc1, hs1⟩ := (HD.out.2.1.later hB).at hl9
      have hll := HD.out.2.2 l (List.mem_of_getElem? hl9)
      obtain ⟨b0, d0, rfl⟩ := hs0.form
      obtain ⟨b1, d1, rfl⟩ := hs1.form
      have HC := hid_of' (fun z (hz : Below wr.heap.size wr z) => changes_same (hs0.later hz) (hs1.later hz) (Nat.le_trans hll (by decide)))
      generalize l.length = nl at hc0 hc1 HC
      have k0 := cls_cell hc0
      have k1 := cls_cell hc1
      clear hc0 hc1 hs0 hs1 hl9 hll
      go_upto_region 6 with fail
      refine wp_region_cls (by kernel_rfl) (by kernel_rfl) ?_
      repeat (first | go_big_quiet_skip | (go_big_quiet_want; first | (go_big_quiet_op; first | go_big_quiet_on | go_big_quiet_call ((go_at_call 20; exact cls_of (HC.out _ (wOf_below _)))))))
      refine wpQuiet_nil ?_
      rintro w1 ⟨s1, e1⟩
      have hb1 := wOf_below s1
      rw [← e1] at hb1
      clear e1 s1
      replace hB := bgo hB hb1
      clear hb1
      go_wp2
      go_roundw
      case rel => exact ⟨k + 1, by go_num, by omega, hB⟩
      case measure => simp [intOf]; omega
    · have p0 : ¬ (k : Int) < (n : Int) := by omega
      go_wp2
      go_ret
      exact ⟨rfl, hB⟩
end Go.Proofs.YtgkbgojgpomcdaaDoor
