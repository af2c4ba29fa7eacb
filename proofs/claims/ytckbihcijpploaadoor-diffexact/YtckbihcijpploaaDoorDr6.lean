
/-
  barrowref15.Distance, Edits, Common of two texts; barrowkeep.Edits.
-/
import Derived.Test.YtckbihcijpploaaDoorDr4
import Derived.Test.YtckbihcijpploaaDoorDr5
namespace Go.Proofs.YtckbihcijpploaaDoor
open Go.RowKit Go.Extern.Stop Go.Stop Go.Extern
set_option maxRecDepth 100000

theorem TbAt.zero {e : IntKind} {t tt : TypeId} {xs ys : List Int} {T s0 : Nat} {w : World} (h : TbAt e t tt xs ys T s0 w) : TbAt e t tt xs ys T 0 w := by
  obtain ⟨cur, N, q1, _, q3⟩ := h
  refine ⟨cur, N, q1, Nat.zero_le _, fun k h1 h2 => ?_⟩
  obtain ⟨b, row, r1, r2, _, r⟩ := q3 k h1 h2
  exact ⟨b, row, r1, r2, Nat.zero_le _, r⟩
set_option maxHeartbeats 4000000 in
theorem rDist_ok (w : World) (a b : ByteArray) (ha : a.size ≤ 120) (hb : b.size ≤ 120) (va : Lib.validD a.data.toList = true) (vb : Lib.validD b.data.toList = true) :
    Calls Tryd.prog 11 #[.string a, .string b] w fun e w' => e = .returned (.tuple #[.int .i64 (ds (rn a.data.toList) (rn b.data.toList) : Int), .agg (nov 0 none 0 0 none 0 0)]) ∧ Below w.heap.size w w' := by
  have r0 := RowAt.new w (nov 0 none 0 0 none 0 0) 30
  have b0 := below_one w (.cells (nov 0 none 0 0 none 0 0) 30)
  have HRd := hid_of' (fun x => read_ok x bDist a b ha hb va vb)
  have hru := rn_ru _ _ (Nat.le_refl _) vb
  have hrx := rn_ru _ _ (Nat.le_refl _) va
  have hal := Nat.le_trans (rn_len a.data.toList) (show a.data.toList.length ≤ 120 by rw [Array.length_toList]; exact ha)
  have hbl := Nat.le_trans (rn_len b.data.toList) (show b.data.toList.length ≤ 120 by rw [Array.length_toList]; exact hb)
  generalize rn a.data.toList = xs at HRd hal hrx ⊢
  generalize rn b.data.toList = ys at HRd hbl hru ⊢
  have HF := hid_of' (And.intro hru (And.intro hrx (And.intro hal hbl)))
  clear hru hrx hal hbl va vb
  go_enter Tryd.func11, Tryd.ntmps11
  go_upto_region 1 with fail
  change Code.wp _ _ _ _ (w.alloc (.cells (nov 0 none 0 0 none 0 0) 30))
  generalize w.alloc (.cells (nov 0 none 0 0 none 0 0) 30) = X0 at r0 b0 ⊢
  generalize hnb5 : w.heap.size = nb5 at r0 ⊢
  go_upto_region 2 with (first | (go_at_call 29; refine (HRd.out _).mono ?_; rintro e w1 ⟨v1, v2, rfl, h1, h2, hb1⟩) | (refine wpL_storeNo rfl _ _ rfl rfl rfl (RowAt.new w1 _ _) ?_))
  have r7 := (RowAt.new w1 (nov 0 none 0 0 none 0 0) 30).put (nov 0 none 0 0 none 0 0)
  have b7 := below_row (below_one w1 (.cells (nov 0 none 0 0 none 0 0) 30)) (Nat.le_refl _) (nov 0 none 0 0 none 0 0)
  change Code.wp _ _ _ _ ((w1.alloc (.cells (nov 0 none 0 0 none 0 0) 30)).setRow w1.heap.size (nov 0 none 0 0 none 0 0))
  generalize (w1.alloc (.cells (nov 0 none 0 0 none 0 0) 30)).setRow w1.heap.size (nov 0 none 0 0 none 0 0) = W2 at r7 b7 ⊢
  generalize hnb7 : w1.heap.size = nb7 at r7 ⊢
  have c7 : W2.cell? ⟨nb7, 0, none⟩ = some (.int .i64 0) := r7.is rfl
  have HN7 := hid_of' r7
  have hn5 := hid_of' (r0.later (bgo hb1 b7))
  have HB0 := hid_of' (And.intro b0 (And.intro r0.lt (bgo hb1 b7)))
  have HX := hid_of' (And.intro (h1.later b7) (h2.later b7))
  obtain ⟨o1, c1, e1, _⟩ := h1.form
  obtain ⟨o2, c2, e2, _⟩ := h2.form
  subst e1 e2
  clear r7 r0 b0 b7 h1 h2 hb1
  go_upto_region 4 with fail
  clear c7
  refine wp_region_tail 9 (by kernel_rfl) (fun _ => none) (by kernel_rfl) (by kernel_rfl) (by decide) (fun i v x => match i with
    | 0 => v = .slice o1 xs.length c1
    | 1 => v = .slice o2 ys.length c2
    | 2 => ∃ T, v = .slice (some ⟨T, 0, none⟩) (xs.length + 1) (xs.length + 1) ∧ TbAt .i64 3 28 xs ys T 0 x
    | 3 => ∃ T, v = .pointer (some ⟨T, 0, none⟩) ∧ TbAt .i64 3 28 xs ys T 0 x
    | 4 => ∃ b, v = .slice (some ⟨b, 0, none⟩) (ys.length + 1) (ys.length + 1) ∧ x.cell? ⟨b, 0, none⟩ = some (.int .i64 (ds xs ys : Int))
    | 5 => ∃ b, v = .pointer (some ⟨b, 0, none⟩) ∧ x.cell? ⟨b, 0, none⟩ = some (.int .i64 (ds xs ys : Int))
    | 6 => v = .int .i64 (ds xs ys : Int)
    | 7 => v = .agg (nov 0 none 0 0 none 0 0)
    | 8 => v = .int .i64 (ds xs ys : Int)
    | _ => True) (fun _ => false) (fun _ _ _ _ h => by cases h) ?_ ?_ ?_
  · intro i v x x' hR hb
    match i, hR with
    | 0, h => exact h
    | 1, h => exact h
    | 2, h => exact (let ⟨T, h1, h2⟩ := h; ⟨T, h1, h2.later hb⟩)
    | 3, h => exact (let ⟨T, h1, h2⟩ := h; ⟨T, h1, h2.later hb⟩)
    | 4, h => exact (let ⟨b, h1, h2⟩ := h; ⟨b, h1, by rw [hb.cell (World.block_lt_of_cell? _ _ h2)]; exact h2⟩)
    | 5, h => exact (let ⟨b, h1, h2⟩ := h; ⟨b, h1, by rw [hb.cell (World.block_lt_of_cell? _ _ h2)]; exact h2⟩)
    | 6, h => exact h
    | 7, h => exact h
    | 8, h => exact h
    | m + 9, h => exact h
  · intro i o hi ho q x vals hX hdep hoth
    have t6 : q.tmps[6]? = some (.slice o1 xs.length c1) := by rw [hoth 6 (by kernel_rfl)]; rfl
    have t7 : q.tmps[7]? = some (.slice o2 ys.length c2) := by rw [hoth 7 (by kernel_rfl)]; rfl
    have t8 : q.tmps[8]? = some (.pointer (some ⟨nb7, 0, none⟩)) := by rw [hoth 8 (by kernel_rfl)]; rfl
    match i, hi, ho with
    | 0, _, ho =>
      simp only [List.getElem?_cons_zero, Option.some.injEq] at ho
      subst ho
      unfold Oper.wp
      simp [execOp, go_sem, t6]
      exact came _ rfl (Below.refl _ _) rfl (fun h => absurd h (by decide))
    | 1, _, ho =>
      simp only [List.getElem?_cons_succ, List.getElem?_cons_zero, Option.some.injEq] at ho
      subst ho
      unfold Oper.wp
      simp [execOp, go_sem, t7]
      exact came _ rfl (Below.refl _ _) rfl (fun h => absurd h (by decide))
    | 2, _, ho =>
      simp only [List.getElem?_cons_succ, List.getElem?_cons_zero, Option.some.injEq] at ho
      subst ho
      obtain ⟨u0, e0⟩ := hdep ⟨0, .data⟩ (by simp) rfl _ 20 rfl rfl
      rw [show vals 0 = .slice o1 xs.length c1 from e0] at u0
      obtain ⟨u1, e1⟩ := hdep ⟨1, .data⟩ (by simp) rfl _ 21 rfl rfl
      rw [show vals 1 = .slice o2 ys.length c2 from e1] at u1
      unfold Oper.wp
      simp [go_sem, u0, u1]
      refine (table_ok (HX.out.1.later hX) (HX.out.2.later hX) (by have := HF.out.2.2; omega)).mono ?_
      rintro r x1 ⟨T, rfl, hT, hb1⟩
      exact came _ rfl hb1 ⟨T, rfl, hT.zero⟩ (fun h => absurd h (by decide))
    | 3, _, ho =>
      simp only [List.getElem?_cons_succ, List.getElem?_cons_zero, Option.some.injEq] at ho
      subst ho
      obtain ⟨u2, e2⟩ := hdep ⟨2, .data⟩ (by simp) rfl _ 22 rfl rfl
      obtain ⟨T, h1, h2⟩ : ∃ T, vals 2 = .slice (some ⟨T, 0, none⟩) (xs.length + 1) (xs.length + 1) ∧ TbAt .i64 3 28 xs ys T 0 x := e2
      rw [h1] at u2
      unfold Oper.wp
      simp [execOp, go_sem, u2]
      exact came _ rfl (Below.refl _ _) ⟨T, rfl, h2⟩ (fun h => absurd h (by decide))
    | 4, _, ho =>
      simp only [List.getElem?_cons_succ, List.getElem?_cons_zero, Option.some.injEq] at ho
      subst ho
      obtain ⟨u3, e3⟩ := hdep ⟨3, .data⟩ (by simp) rfl _ 23 rfl rfl
      obtain ⟨T, h1, h2⟩ : ∃ T, vals 3 = .pointer (some ⟨T, 0, none⟩) ∧ TbAt .i64 3 28 xs ys T 0 x := e3
      rw [h1] at u3
      obtain ⟨b9, q1, q2⟩ := h2.row (k := 0) (Nat.zero_le _)
      have q3 := q2 0 (Nat.zero_le _)
      rw [List.drop_zero, List.drop_zero] at q3
      unfold Oper.wp
      simp [execOp, go_sem, u3, q1]
      exact came _ rfl (Below.refl _ _) ⟨b9, rfl, q3⟩ (fun h => absurd h (by decide))
    | 5, _, ho =>
      simp only [List.getElem?_cons_succ, List.getElem?_cons_zero, Option.some.injEq] at ho
      subst ho
      obtain ⟨u4, e4⟩ := hdep ⟨4, .data⟩ (by simp) rfl _ 24 rfl rfl
      obtain ⟨b9, h1, h2⟩ : ∃ b, vals 4 = .slice (some ⟨b, 0, none⟩) (ys.length + 1) (ys.length + 1) ∧ x.cell? ⟨b, 0, none⟩ = some (.int .i64 (ds xs ys : Int)) := e4
      rw [h1] at u4
      unfold Oper.wp
      simp [execOp, go_sem, u4]
      exact came _ rfl (Below.refl _ _) ⟨b9, rfl, h2⟩ (fun h => absurd h (by decide))
    | 6, _, ho =>
      simp only [List.getElem?_cons_succ, List.getElem?_cons_zero, Option.some.injEq] at ho
      subst ho
      obtain ⟨u5, e5⟩ := hdep ⟨5, .data⟩ (by simp) rfl _ 25 rfl rfl
      obtain ⟨b9, h1, h2⟩ : ∃ b, vals 5 = .pointer (some ⟨b, 0, none⟩) ∧ x.cell? ⟨b, 0, none⟩ = some (.int .i64 (ds xs ys : Int)) := e5
      rw [h1] at u5
      unfold Oper.wp
      simp [execOp, go_sem, u5, h2]
      exact came _ rfl (Below.refl _ _) rfl (fun h => absurd h (by decide))
    | 7, _, ho =>
      simp only [List.getElem?_cons_succ, List.getElem?_cons_zero, Option.some.injEq] at ho
      subst ho
      exact opw_loadNo _ rfl (by simp [Act.eval, t8]) (HN7.out.later hX) rfl (came _ rfl (Below.refl _ _) rfl (fun h => absurd h (by decide)))
    | 8, _, ho =>
      simp only [List.getElem?_cons_succ, List.getElem?_cons_zero, Option.some.injEq] at ho
      subst ho
      obtain ⟨u6, e6⟩ := hdep ⟨6, .data⟩ (by simp) rfl _ 26 rfl rfl
      rw [show vals 6 = .int .i64 (ds xs ys : Int) from e6] at u6
      unfold Oper.wp
      simp [execOp, go_sem, u6]
      exact came _ rfl (Below.refl _ _) rfl (fun h => absurd h (by decide))
    | m + 9, hi, _ => exact absurd hi (by omega)
  · intro vals x hX hR _
    obtain ⟨T2, f2, _⟩ : ∃ T, vals 2 = .slice (some ⟨T, 0, none⟩) (xs.length + 1) (xs.length + 1) ∧ TbAt .i64 3 28 xs ys T 0 x := hR 2 (by decide)
    obtain ⟨T3, f3, _⟩ : ∃ T, vals 3 = .pointer (some ⟨T, 0, none⟩) ∧ TbAt .i64 3 28 xs ys T 0 x := hR 3 (by decide)
    obtain ⟨T4, f4, _⟩ : ∃ b, vals 4 = .slice (some ⟨b, 0, none⟩) (ys.length + 1) (ys.length + 1) ∧ x.cell? ⟨b, 0, none⟩ = some (.int .i64 (ds xs ys : Int)) := hR 4 (by decide)
    obtain ⟨T5, f5, _⟩ : ∃ b, vals 5 = .pointer (some ⟨b, 0, none⟩) ∧ x.cell? ⟨b, 0, none⟩ = some (.int .i64 (ds xs ys : Int)) := hR 5 (by decide)
    have f0 : vals 0 = .slice o1 xs.length c1 := hR 0 (by decide)
    have f1 : vals 1 = .slice o2 ys.length c2 := hR 1 (by decide)
    have f6 : vals 6 = .int .i64 (ds xs ys : Int) := hR 6 (by decide)
    have f7 : vals 7 = .agg (nov 0 none 0 0 none 0 0) := hR 7 (by decide)
    have f8 : vals 8 = .int .i64 (ds xs ys : Int) := hR 8 (by decide)
    simp only [List.drop, List.take, putAll, List.setIfInBounds_toArray, List.set_cons_succ, List.set_cons_zero, f0, f1, f6, f7, f8, f2, f3, f4, f5]
    clear f0 f1 f6 f7 f8 hR
    clear f2 f3 f4 f5
    have rx := hn5.out.later hX
    go_wp2_with (refine wpL_storeNo rfl _ _ rfl rfl rfl rx ?_)
    exact bodyPost_ret (v := .tuple #[.int .i64 (ds xs ys : Int), .agg (nov 0 none 0 0 none 0 0)]) (results_tNo (fn := Tryd.f11) (t := 4) (u := 5) rfl rfl (rx.put (nov 0 none 0 0 none 0 0)) rfl) rfl ⟨rfl, hnb5 ▸ below_row (bgo HB0.out.1 (bgo HB0.out.2.2 hX)) (by omega) _⟩
set_option maxHeartbeats 4000000 in
theorem rEdits_ok (w : World) (a b : ByteArray) (ha : a.size ≤ 120) (hb : b.size ≤ 120) (va : Lib.validD a.data.toList = true) (vb : Lib.validD b.data.toList = true) :
    Calls Tryd.prog 14 #[.string a, .string b] w fun e w' => ∃ v, e = .returned (.tuple #[v, .agg (nov 0 none 0 0 none 0 0)]) ∧ RwE v (eds (rn a.data.toList) (rn b.data.toList)) w' ∧ Below w.heap.size w w' := by
  have r0 := RowAt.new w (nov 0 none 0 0 none 0 0) 30
  have b0 := below_one w (.cells (nov 0 none 0 0 none 0 0) 30)
  have HRd := hid_of' (fun x => read_ok x bEdits a b ha hb va vb)
  have hru := rn_ru _ _ (Nat.le_refl _) vb
  have hrx := rn_ru _ _ (Nat.le_refl _) va
  have hal := Nat.le_trans (rn_len a.data.toList) (show a.data.toList.length ≤ 120 by rw [Array.length_toList]; exact ha)
  have hbl := Nat.le_trans (rn_len b.data.toList) (show b.data.toList.length ≤ 120 by rw [Array.length_toList]; exact hb)
  generalize rn a.data.toList = xs at HRd hal hrx ⊢
  generalize rn b.data.toList = ys at HRd hbl hru ⊢
  have HF := hid_of' (And.intro hru (And.intro hrx (And.intro hal hbl)))
  clear hru hrx hal hbl va vb
  go_enter Tryd.func14, Tryd.ntmps14
  go_upto_region 1 with fail
  change Code.wp _ _ _ _ (w.alloc (.cells (nov 0 none 0 0 none 0 0) 30))
  generalize w.alloc (.cells (nov 0 none 0 0 none 0 0) 30) = X0 at r0 b0 ⊢
  generalize hnb5 : w.heap.size = nb5 at r0 ⊢
  go_upto_region 2 with (first | (go_at_call 29; refine (HRd.out _).mono ?_; rintro e w1 ⟨v1, v2, rfl, h1, h2, hb1⟩) | (refine wpL_storeNo rfl _ _ rfl rfl rfl (RowAt.new w1 _ _) ?_))
  have r7 := (RowAt.new w1 (nov 0 none 0 0 none 0 0) 30).put (nov 0 none 0 0 none 0 0)
  have b7 := below_row (below_one w1 (.cells (nov 0 none 0 0 none 0 0) 30)) (Nat.le_refl _) (nov 0 none 0 0 none 0 0)
  change Code.wp _ _ _ _ ((w1.alloc (.cells (nov 0 none 0 0 none 0 0) 30)).setRow w1.heap.size (nov 0 none 0 0 none 0 0))
  generalize (w1.alloc (.cells (nov 0 none 0 0 none 0 0) 30)).setRow w1.heap.size (nov 0 none 0 0 none 0 0) = W2 at r7 b7 ⊢
  generalize hnb7 : w1.heap.size = nb7 at r7 ⊢
  have c7 : W2.cell? ⟨nb7, 0, none⟩ = some (.int .i64 0) := r7.is rfl
  have HN7 := hid_of' r7
  have hn5 := hid_of' (r0.later (bgo hb1 b7))
  have HB0 := hid_of' (And.intro b0 (And.intro r0.lt (bgo hb1 b7)))
  have HX := hid_of' (And.intro (h1.later b7) (h2.later b7))
  obtain ⟨o1, c1, e1, _⟩ := h1.form
  obtain ⟨o2, c2, e2, _⟩ := h2.form
  subst e1 e2
  clear r7 r0 b0 b7 h1 h2 hb1
  go_upto_region 4 with fail
  clear c7
  have HWk := hid_of' (walk_ok HX.out.1 HX.out.2 HF.out.1 (by have := HF.out.2.2; omega))
  go_upto_region 5 with (go_at_call 37; (with_reducible refine HWk.out.mono ?_); rintro e W4 ⟨y1, y2, rfl, k1, ow1, k2, hb4⟩)
  obtain ⟨p1, d1, e1, _⟩ := Rw.form k1
  obtain ⟨p2, d2, e2, _⟩ := k2.form
  generalize (eds xs ys).length = m1 at e1
  generalize (cm xs ys).length = m2 at e2
  subst e1 e2
  have HW := hid_of' (And.intro k1 (And.intro k2 hb4))
  have HOw := hid_of' (fun k hk e => by have h5 := ow1 k hk; have h6 := hn5.out.lt; omega : ∀ k, Value.ownBlock (.slice p1 m1 d1) = some k → ¬ k = nb5)
  replace HN7 := hid_of' (HN7.out.later hb4)
  clear k1 k2 hb4 HWk ow1
  refine wp_region_tail 3 (by kernel_rfl) (fun _ => none) (by kernel_rfl) (by kernel_rfl) (by decide) (fun i v x => match i with
    | 0 => v = .slice p1 m1 d1
    | 1 => v = .agg (nov 0 none 0 0 none 0 0)
    | 2 => v = .slice p1 m1 d1
    | _ => True) (fun _ => false) (fun _ _ _ _ h => by cases h) ?_ ?_ ?_
  · intro i v x x' hR hb
    match i, hR with
    | 0, h => exact h
    | 1, h => exact h
    | 2, h => exact h
    | m + 3, h => exact h
  · intro i o hi ho q x vals hX hdep hoth
    have t9 : q.tmps[9]? = some (.slice p1 m1 d1) := by rw [hoth 9 (by kernel_rfl)]; rfl
    have t8 : q.tmps[8]? = some (.pointer (some ⟨nb7, 0, none⟩)) := by rw [hoth 8 (by kernel_rfl)]; rfl
    match i, hi, ho with
    | 0, _, ho =>
      simp only [List.getElem?_cons_zero, Option.some.injEq] at ho
      subst ho
      unfold Oper.wp
      simp [execOp, go_sem, t9]
      exact came _ rfl (Below.refl _ _) rfl (fun h => absurd h (by decide))
    | 1, _, ho =>
      simp only [List.getElem?_cons_succ, List.getElem?_cons_zero, Option.some.injEq] at ho
      subst ho
      exact opw_loadNo _ rfl (by simp [Act.eval, t8]) (HN7.out.later hX) rfl (came _ rfl (Below.refl _ _) rfl (fun h => absurd h (by decide)))
    | 2, _, ho =>
      simp only [List.getElem?_cons_succ, List.getElem?_cons_zero, Option.some.injEq] at ho
      subst ho
      obtain ⟨u0, e0⟩ := hdep ⟨0, .data⟩ (by simp) rfl _ 28 rfl rfl
      rw [show vals 0 = .slice p1 m1 d1 from e0] at u0
      unfold Oper.wp
      simp [execOp, go_sem, u0]
      exact came _ rfl (Below.refl _ _) rfl (fun h => absurd h (by decide))
    | m + 3, hi, _ => exact absurd hi (by omega)
  · intro vals x hX hR _
    have f0 : vals 0 = .slice p1 m1 d1 := hR 0 (by decide)
    have f1 : vals 1 = .agg (nov 0 none 0 0 none 0 0) := hR 1 (by decide)
    have f2 : vals 2 = .slice p1 m1 d1 := hR 2 (by decide)
    simp only [List.drop, List.take, putAll, List.setIfInBounds_toArray, List.set_cons_succ, List.set_cons_zero, f0, f1, f2]
    clear f0 f1 f2 hR
    have rx := hn5.out.later (bgo HW.out.2.2 hX)
    have k4 := Ch.row (S := fun k => k = nb5) (Ch.refl _ x) (.inl rfl) (nov 0 none 0 0 none 0 0)
    have hown : ∀ k, Value.ownBlock (.slice p1 m1 d1) = some k → ¬ k = nb5 := fun k hk e => HOw.out k hk e
    go_wp2_with (refine wpL_storeNo rfl _ _ rfl rfl rfl rx ?_)
    exact bodyPost_ret (v := .tuple #[.slice p1 m1 d1, .agg (nov 0 none 0 0 none 0 0)]) (results_tNo (fn := Tryd.f14) (t := 4) (u := 5) rfl rfl (rx.put (nov 0 none 0 0 none 0 0)) rfl) rfl ⟨_, rfl, Rw.ch (HW.out.1.later hX) k4 hown, hnb5 ▸ below_row (bgo HB0.out.1 (bgo HB0.out.2.2 (bgo HW.out.2.2 hX))) (by omega) _⟩
set_option maxHeartbeats 4000000 in
theorem rCommon_ok (w : World) (a b : ByteArray) (ha : a.size ≤ 120) (hb : b.size ≤ 120) (va : Lib.validD a.data.toList = true) (vb : Lib.validD b.data.toList = true) :
    Calls Tryd.prog 17 #[.string a, .string b] w fun e w' => e = .returned (.tuple #[.string (tx (cm (rn a.data.toList) (rn b.data.toList))), .agg (nov 0 none 0 0 none 0 0)]) ∧ Below w.heap.size w w' := by
  have r0 := RowAt.new w (nov 0 none 0 0 none 0 0) 30
  have b0 := below_one w (.cells (nov 0 none 0 0 none 0 0) 30)
  have HRd := hid_of' (fun x => read_ok x bCommon a b ha hb va vb)
  have hru := rn_ru _ _ (Nat.le_refl _) vb
  have hrx := rn_ru _ _ (Nat.le_refl _) va
  have hal := Nat.le_trans (rn_len a.data.toList) (show a.data.toList.length ≤ 120 by rw [Array.length_toList]; exact ha)
  have hbl := Nat.le_trans (rn_len b.data.toList) (show b.data.toList.length ≤ 120 by rw [Array.length_toList]; exact hb)
  generalize rn a.data.toList = xs at HRd hal hrx ⊢
  generalize rn b.data.toList = ys at HRd hbl hru ⊢
  have HF := hid_of' (And.intro hru (And.intro hrx (And.intro hal hbl)))
  clear hru hrx hal hbl va vb
  go_enter Tryd.func17, Tryd.ntmps17
  go_upto_region 1 with fail
  change Code.wp _ _ _ _ (w.alloc (.cells (nov 0 none 0 0 none 0 0) 30))
  generalize w.alloc (.cells (nov 0 none 0 0 none 0 0) 30) = X0 at r0 b0 ⊢
  generalize hnb5 : w.heap.size = nb5 at r0 ⊢
  go_upto_region 2 with (first | (go_at_call 29; refine (HRd.out _).mono ?_; rintro e w1 ⟨v1, v2, rfl, h1, h2, hb1⟩) | (refine wpL_storeNo rfl _ _ rfl rfl rfl (RowAt.new w1 _ _) ?_))
  have r7 := (RowAt.new w1 (nov 0 none 0 0 none 0 0) 30).put (nov 0 none 0 0 none 0 0)
  have b7 := below_row (below_one w1 (.cells (nov 0 none 0 0 none 0 0) 30)) (Nat.le_refl _) (nov 0 none 0 0 none 0 0)
  change Code.wp _ _ _ _ ((w1.alloc (.cells (nov 0 none 0 0 none 0 0) 30)).setRow w1.heap.size (nov 0 none 0 0 none 0 0))
  generalize (w1.alloc (.cells (nov 0 none 0 0 none 0 0) 30)).setRow w1.heap.size (nov 0 none 0 0 none 0 0) = W2 at r7 b7 ⊢
  generalize hnb7 : w1.heap.size = nb7 at r7 ⊢
  have c7 : W2.cell? ⟨nb7, 0, none⟩ = some (.int .i64 0) := r7.is rfl
  have HN7 := hid_of' r7
  have hn5 := hid_of' (r0.later (bgo hb1 b7))
  have HB0 := hid_of' (And.intro b0 (And.intro r0.lt (bgo hb1 b7)))
  have HX := hid_of' (And.intro (h1.later b7) (h2.later b7))
  obtain ⟨o1, c1, e1, _⟩ := h1.form
  obtain ⟨o2, c2, e2, _⟩ := h2.form
  subst e1 e2
  clear r7 r0 b0 b7 h1 h2 hb1
  go_upto_region 4 with fail
  clear c7
  have HWk := hid_of' (walk_ok HX.out.1 HX.out.2 HF.out.1 (by have := HF.out.2.2; omega))
  go_upto_region 5 with (go_at_call 37; (with_reducible refine HWk.out.mono ?_); rintro e W4 ⟨y1, y2, rfl, k1, ow1, k2, hb4⟩)
  obtain ⟨p1, d1, e1, _⟩ := Rw.form k1
  obtain ⟨p2, d2, e2, _⟩ := k2.form
  generalize (eds xs ys).length = m1 at e1
  generalize (cm xs ys).length = m2 at e2
  subst e1 e2
  have HW := hid_of' (And.intro k1 (And.intro k2 hb4))
  have HOw := hid_of' (fun k hk e => by have h5 := ow1 k hk; have h6 := hn5.out.lt; omega : ∀ k, Value.ownBlock (.slice p1 m1 d1) = some k → ¬ k = nb5)
  replace HN7 := hid_of' (HN7.out.later hb4)
  clear k1 k2 hb4 HWk ow1
  refine wp_region_tail 4 (by kernel_rfl) (fun _ => none) (by kernel_rfl) (by kernel_rfl) (by decide) (fun i v x => match i with
    | 0 => v = .slice p2 m2 d2
    | 1 => v = .string (tx (cm xs ys))
    | 2 => v = .agg (nov 0 none 0 0 none 0 0)
    | 3 => v = .string (tx (cm xs ys))
    | _ => True) (fun _ => false) (fun _ _ _ _ h => by cases h) ?_ ?_ ?_
  · intro i v x x' hR hb
    match i, hR with
    | 0, h => exact h
    | 1, h => exact h
    | 2, h => exact h
    | 3, h => exact h
    | m + 4, h => exact h
  · intro i o hi ho q x vals hX hdep hoth
    have t10 : q.tmps[10]? = some (.slice p2 m2 d2) := by rw [hoth 10 (by kernel_rfl)]; rfl
    have t8 : q.tmps[8]? = some (.pointer (some ⟨nb7, 0, none⟩)) := by rw [hoth 8 (by kernel_rfl)]; rfl
    match i, hi, ho with
    | 0, _, ho =>
      simp only [List.getElem?_cons_zero, Option.some.injEq] at ho
      subst ho
      unfold Oper.wp
      simp [execOp, go_sem, t10]
      exact came _ rfl (Below.refl _ _) rfl (fun h => absurd h (by decide))
    | 1, _, ho =>
      simp only [List.getElem?_cons_succ, List.getElem?_cons_zero, Option.some.injEq] at ho
      subst ho
      obtain ⟨u0, e0⟩ := hdep ⟨0, .data⟩ (by simp) rfl _ 28 rfl rfl
      rw [show vals 0 = .slice p2 m2 d2 from e0] at u0
      unfold Oper.wp
      simp [go_sem, u0]
      refine (utf8_is (HW.out.2.1.later hX) (fun r hr => HF.out.2.1 r (cm_mem hr)) (by have := (cm_sub xs ys).1.length_le; have := HF.out.2.2.1; omega)).mono ?_
      rintro r x1 ⟨rfl, hb1⟩
      exact came _ rfl hb1 rfl (fun h => absurd h (by decide))
    | 2, _, ho =>
      simp only [List.getElem?_cons_succ, List.getElem?_cons_zero, Option.some.injEq] at ho
      subst ho
      exact opw_loadNo _ rfl (by simp [Act.eval, t8]) (HN7.out.later hX) rfl (came _ rfl (Below.refl _ _) rfl (fun h => absurd h (by decide)))
    | 3, _, ho =>
      simp only [List.getElem?_cons_succ, List.getElem?_cons_zero, Option.some.injEq] at ho
      subst ho
      obtain ⟨u1, e1⟩ := hdep ⟨1, .data⟩ (by simp) rfl _ 29 rfl rfl
      rw [show vals 1 = .string (tx (cm xs ys)) from e1] at u1
      unfold Oper.wp
      simp [execOp, go_sem, u1]
      exact came _ rfl (Below.refl _ _) rfl (fun h => absurd h (by decide))
    | m + 4, hi, _ => exact absurd hi (by omega)
  · intro vals x hX hR _
    have f0 : vals 0 = .slice p2 m2 d2 := hR 0 (by decide)
    have f1 : vals 1 = .string (tx (cm xs ys)) := hR 1 (by decide)
    have f2 : vals 2 = .agg (nov 0 none 0 0 none 0 0) := hR 2 (by decide)
    have f3 : vals 3 = .string (tx (cm xs ys)) := hR 3 (by decide)
    simp only [List.drop, List.take, putAll, List.setIfInBounds_toArray, List.set_cons_succ, List.set_cons_zero, f0, f1, f2, f3]
    clear f0 f1 f2 f3 hR
    have rx := hn5.out.later (bgo HW.out.2.2 hX)
    go_wp2_with (refine wpL_storeNo rfl _ _ rfl rfl rfl rx ?_)
    exact bodyPost_ret (v := .tuple #[.string (tx (cm xs ys)), .agg (nov 0 none 0 0 none 0 0)]) (results_tNo (fn := Tryd.f17) (t := 4) (u := 5) rfl rfl (rx.put (nov 0 none 0 0 none 0 0)) rfl) rfl ⟨rfl, hnb5 ▸ below_row (bgo HB0.out.1 (bgo HB0.out.2.2 (bgo HW.out.2.2 hX))) (by omega) _⟩
end Go.Proofs.YtckbihcijpploaaDoor
