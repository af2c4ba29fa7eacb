
/-
  barrowref15.Apply, barrowref15.Invert.
-/
import Derived.Test.YtaimmjoekahleaaDoorZa36
import Derived.Test.YtaimmjoekahleaaDoorZa37
import Derived.Test.YtaimmjoekahleaaDoorZa47
namespace Go.Proofs.YtaimmjoekahleaaDoor
open Go.RowKit Go.Extern.Stop Go.Stop Go.Extern
set_option maxRecDepth 100000

set_option maxHeartbeats 4000000 in
theorem rApply_of (w : World) (a : ByteArray) (oa : Option Addr) (nl ca : Nat) (ys : List Int) (o : Rf) (hys : ∀ r ∈ ys, Ru r) (hyl : ys.length ≤ 100000)
    (hC : ∀ x, Below w.heap.size w x → Calls Tryd.prog 14 #[.string bApply, .string a, .slice oa nl ca] x fun e w' => ∃ t b q p n c p' n' c', e = .returned (.tuple #[t, b, .agg (nov q p n c p' n' c')]) ∧ RwR t ys w' ∧ (∃ a1 n1 c1, b = .slice a1 n1 c1) ∧ NoR x.heap.size o (.agg (nov q p n c p' n' c')) w' ∧ Below x.heap.size x w') :
    Calls Tryd.prog 7 #[.string a, .slice oa nl ca] w fun e w' => ∃ z, e = .returned (.tuple #[.string (tx ys), z]) ∧ NoR w.heap.size o z w' ∧ Below w.heap.size w w' := by
  have HU := hid_of' (fun (t : Value) (x : World) (h : RwR t ys x) => utf8_is h hys (by omega))
  clear hys hyl
  obtain ⟨tt, htt⟩ : ∃ tt, tt = tx ys := ⟨_, rfl⟩
  rw [← htt] at HU ⊢
  clear htt
  have HC := hid_of' hC
  clear hC
  have r0 := RowAt.new w (nov 0 none 0 0 none 0 0) 34
  have b0 := below_one w (.cells (nov 0 none 0 0 none 0 0) 34)
  go_enter Tryd.func7, Tryd.ntmps7
  go_upto_region 1 with fail
  change Code.wp _ _ _ _ (w.alloc (.cells (nov 0 none 0 0 none 0 0) 34))
  generalize w.alloc (.cells (nov 0 none 0 0 none 0 0) 34) = X0 at r0 b0 ⊢
  generalize hnb5 : w.heap.size = nb5 at r0 ⊢
  have HP := hid_of' (HC.out X0 b0)
  clear HC
  go_upto_region 2 with (first | (go_at_call 14; refine HP.out.mono ?_; rintro e w1 ⟨t, b, q, p, n, c, p', n', c', rfl, ht, ⟨a1, n1, c1, rfl⟩, hn4, hb1⟩; have HV := hid_of' (And.intro hn4 hb1); have HT := hid_of' ht; obtain ⟨a2, c2, rfl, _⟩ := ht.form; clear HP hb1 hn4 ht) | (refine wpL_storeNo rfl _ _ rfl rfl rfl (RowAt.new w1 _ _) ?_))
  have r7 := (RowAt.new w1 (nov 0 none 0 0 none 0 0) 34).put (nov q p n c p' n' c')
  have b7 := below_row (below_one w1 (.cells (nov 0 none 0 0 none 0 0) 34)) (Nat.le_refl _) (nov q p n c p' n' c')
  change Code.wp _ _ _ _ ((w1.alloc (.cells (nov 0 none 0 0 none 0 0) 34)).setRow w1.heap.size (nov q p n c p' n' c'))
  generalize (w1.alloc (.cells (nov 0 none 0 0 none 0 0) 34)).setRow w1.heap.size (nov q p n c p' n' c') = W2 at r7 b7 ⊢
  generalize hnb7 : w1.heap.size = nb7 at r7 ⊢
  have HN7 := hid_of' r7
  have hn5 := hid_of' (r0.later (bgo HV.out.2 b7))
  have HB0 := hid_of' (And.intro b0 (And.intro r0.lt b7))
  have HT2 := hid_of' (HT.out.later b7)
  clear r0 b0 b7
  clear r7
  refine wp_region_tail 4 (by kernel_rfl) (fun _ => none) (by kernel_rfl) (by kernel_rfl) (by decide) (fun i v x => match i with
    | 0 => v = .slice a2 ys.length c2
    | 1 => v = .string tt
    | 2 => v = .agg (nov q p n c p' n' c')
    | 3 => v = .string tt
    | _ => True) (fun _ => false) (fun _ _ _ _ h => by cases h) ?_ ?_ ?_
  · intro i v x x' hR hb
    match i, hR with
    | 0, h => exact h
    | 1, h => exact h
    | 2, h => exact h
    | 3, h => exact h
    | m + 4, h => exact h
  · intro i o hi ho q x vals hX hdep hoth
    have t6 : q.tmps[6]? = some (.slice a2 ys.length c2) := by rw [hoth 6 (by kernel_rfl)]; rfl
    have t8 : q.tmps[8]? = some (.pointer (some ⟨nb7, 0, none⟩)) := by rw [hoth 8 (by kernel_rfl)]; rfl
    match i, hi, ho with
    | 0, _, ho =>
      simp only [List.getElem?_cons_zero, Option.some.injEq] at ho
      subst ho
      unfold Oper.wp
      simp [execOp, go_sem, t6]
      exact came _ rfl (Below.refl _ _) rfl (fun h => absurd h (by decide))
    | 1, _, ho =>
      simp only [List.getElem?_cons_succ, List.getElem?_cons_zero, Option.some.injEq] at ho
      subst ho
      obtain ⟨u0, e0⟩ := hdep ⟨0, .data⟩ (by simp) rfl _ 16 rfl rfl
      rw [show vals 0 = .slice a2 ys.length c2 from e0] at u0
      unfold Oper.wp
      simp [go_sem, u0]
      refine (HU.out _ x (HT2.out.later hX)).mono ?_
      rintro r x1 ⟨rfl, hb1⟩
      exact came _ rfl hb1 rfl (fun h => absurd h (by decide))
    | 2, _, ho =>
      simp only [List.getElem?_cons_succ, List.getElem?_cons_zero, Option.some.injEq] at ho
      subst ho
      exact opw_loadNo _ rfl (by simp [Act.eval, t8]) (HN7.out.later hX) rfl (came _ rfl (Below.refl _ _) rfl (fun h => absurd h (by decide)))
    | 3, _, ho =>
      simp only [List.getElem?_cons_succ, List.getElem?_cons_zero, Option.some.injEq] at ho
      subst ho
      obtain ⟨u1, e1⟩ := hdep ⟨1, .data⟩ (by simp) rfl _ 17 rfl rfl
      rw [show vals 1 = .string tt from e1] at u1
      unfold Oper.wp
      simp [execOp, go_sem, u1]
      exact came _ rfl (Below.refl _ _) rfl (fun h => absurd h (by decide))
    | m + 4, hi, _ => exact absurd hi (by omega)
  · intro vals x hX hR _
    have f0 : vals 0 = .slice a2 ys.length c2 := hR 0 (by decide)
    have f1 : vals 1 = .string tt := hR 1 (by decide)
    have f2 : vals 2 = .agg (nov q p n c p' n' c') := hR 2 (by decide)
    have f3 : vals 3 = .string tt := hR 3 (by decide)
    simp only [List.drop, List.take, putAll, f0, f1, f2, f3]
    clear f0 f1 f2 f3 hR
    have rx := hn5.out.later hX
    go_wp2_with (refine wpL_storeNo rfl _ _ rfl rfl rfl rx ?_)
    have k4 := Ch.row (S := fun k => k = nb5) (Ch.refl _ x) (.inl rfl) (nov q p n c p' n' c')
    have hn9 := NoR.ch (NoR.later (NoR.later HV.out.1 HB0.out.2.2) hX) k4 (fun s hs e => by have := HB0.out.2.1; have e' : s = nb5 := e; omega)
    have hn6 := NoR.down hn9 HB0.out.1.size
    exact bodyPost_ret (v := .tuple #[.string tt, .agg (nov q p n c p' n' c')]) (results_tNo (fn := Tryd.f7) (t := 4) (u := 5) rfl rfl (rx.put (nov q p n c p' n' c')) rfl) rfl ⟨_, rfl, hnb5 ▸ hn6, hnb5 ▸ below_row (bgo HB0.out.1 (bgo HV.out.2 (bgo HB0.out.2.2 hX))) (by omega) _⟩
set_option maxHeartbeats 4000000 in
theorem rInvert_no (w : World) (a : ByteArray) (oa : Option Addr) (nl ca : Nat) (o : Rf)
    (hC : ∀ x, Below w.heap.size w x → Calls Tryd.prog 14 #[.string bInvert, .string a, .slice oa nl ca] x fun e w' => ∃ t b q p n c p' n' c', e = .returned (.tuple #[t, b, .agg (nov q p n c p' n' c')]) ∧ (∃ a2 n2 c2, t = .slice a2 n2 c2) ∧ (∃ a1 n1 c1, b = .slice a1 n1 c1) ∧ ¬ q = 0 ∧ NoR x.heap.size o (.agg (nov q p n c p' n' c')) w' ∧ Below x.heap.size x w') :
    Calls Tryd.prog 11 #[.string a, .slice oa nl ca] w fun e w' => ∃ z, e = .returned (.tuple #[.slice none 0 0, z]) ∧ NoR w.heap.size o z w' ∧ Below w.heap.size w w' := by
  have HC := hid_of' hC
  clear hC
  have r0 := RowAt.new w (nov 0 none 0 0 none 0 0) 34
  have b0 := below_one w (.cells (nov 0 none 0 0 none 0 0) 34)
  go_enter Tryd.func11, Tryd.ntmps11
  go_upto_region 1 with fail
  change Code.wp _ _ _ _ (w.alloc (.cells (nov 0 none 0 0 none 0 0) 34))
  generalize w.alloc (.cells (nov 0 none 0 0 none 0 0) 34) = X0 at r0 b0 ⊢
  generalize hnb5 : w.heap.size = nb5 at r0 ⊢
  have HP := hid_of' (HC.out X0 b0)
  clear HC
  go_upto_region 2 with (first | (go_at_call 14; refine HP.out.mono ?_; rintro e w1 ⟨t, b, q, p, n, c, p', n', c', rfl, ⟨a2, n2, c2, rfl⟩, ⟨a1, n1, c1, rfl⟩, hq, hn4, hb1⟩; have HV := hid_of' (And.intro hn4 hb1); clear HP hb1 hn4) | (refine wpL_storeNo rfl _ _ rfl rfl rfl (RowAt.new w1 _ _) ?_))
  have r7 := (RowAt.new w1 (nov 0 none 0 0 none 0 0) 34).put (nov q p n c p' n' c')
  have b7 := below_row (below_one w1 (.cells (nov 0 none 0 0 none 0 0) 34)) (Nat.le_refl _) (nov q p n c p' n' c')
  change Code.wp _ _ _ _ ((w1.alloc (.cells (nov 0 none 0 0 none 0 0) 34)).setRow w1.heap.size (nov q p n c p' n' c'))
  generalize (w1.alloc (.cells (nov 0 none 0 0 none 0 0) 34)).setRow w1.heap.size (nov q p n c p' n' c') = W2 at r7 b7 ⊢
  generalize hnb7 : w1.heap.size = nb7 at r7 ⊢
  have HN7 := hid_of' r7
  have hn5 := hid_of' (r0.later (bgo HV.out.2 b7))
  have HB0 := hid_of' (And.intro b0 (And.intro r0.lt b7))
  have c7 : W2.cell? ⟨nb7, 0, none⟩ = some (.int .i64 q) := r7.is rfl
  clear r0 b0 b7
  clear r7
  go_upto_region 3 with fail
  clear c7
  refine wp_region_tail 2 (by kernel_rfl) (fun _ => none) (by kernel_rfl) (by kernel_rfl) (by decide) (fun i v x => match i with
    | 0 => v = .agg (nov q p n c p' n' c')
    | 1 => v = .slice none 0 0
    | _ => True) (fun _ => false) (fun _ _ _ _ h => by cases h) ?_ ?_ ?_
  · intro i v x x' hR hb
    match i, hR with
    | 0, h => exact h
    | 1, h => exact h
    | m + 2, h => exact h
  · intro i o hi ho q x vals hX hdep hoth
    have t8 : q.tmps[8]? = some (.pointer (some ⟨nb7, 0, none⟩)) := by rw [hoth 8 (by kernel_rfl)]; rfl
    match i, hi, ho with
    | 0, _, ho =>
      simp only [List.getElem?_cons_zero, Option.some.injEq] at ho
      subst ho
      exact opw_loadNo _ rfl (by simp [Act.eval, t8]) (HN7.out.later hX) rfl (came _ rfl (Below.refl _ _) rfl (fun h => absurd h (by decide)))
    | 1, _, ho =>
      simp only [List.getElem?_cons_succ, List.getElem?_cons_zero, Option.some.injEq] at ho
      subst ho
      unfold Oper.wp
      simp [execOp, go_sem, ]
      exact came _ rfl (Below.refl _ _) rfl (fun h => absurd h (by decide))
    | m + 2, hi, _ => exact absurd hi (by omega)
  · intro vals x hX hR _
    have f0 : vals 0 = .agg (nov q p n c p' n' c') := hR 0 (by decide)
    have f1 : vals 1 = .slice none 0 0 := hR 1 (by decide)
    simp only [List.drop, List.take, putAll, List.setIfInBounds_toArray, List.set_cons_succ, List.set_cons_zero, f0, f1]
    clear f0 f1 hR
    have rx := hn5.out.later hX
    go_wp2_with (refine wpL_storeNo rfl _ _ rfl rfl rfl rx ?_)
    have k4 := Ch.row (S := fun k => k = nb5) (Ch.refl _ x) (.inl rfl) (nov q p n c p' n' c')
    have hn9 := NoR.ch (NoR.later (NoR.later HV.out.1 HB0.out.2.2) hX) k4 (fun s hs e => by have := HB0.out.2.1; have e' : s = nb5 := e; omega)
    have hn6 := NoR.down hn9 HB0.out.1.size
    exact bodyPost_ret (v := .tuple #[.slice none 0 0, .agg (nov q p n c p' n' c')]) (results_tNo (fn := Tryd.f11) (t := 4) (u := 5) rfl rfl (rx.put (nov q p n c p' n' c')) rfl) rfl ⟨_, rfl, hnb5 ▸ hn6, hnb5 ▸ below_row (bgo HB0.out.1 (bgo HV.out.2 (bgo HB0.out.2.2 hX))) (by omega) _⟩
set_option maxHeartbeats 4000000 in
theorem rInvert_ok (w : World) (a : ByteArray) (oa : Option Addr) (nl ca : Nat) (es : List Edt)
    (hC : ∀ x, Below w.heap.size w x → Calls Tryd.prog 14 #[.string bInvert, .string a, .slice oa nl ca] x fun e w' => ∃ t b, e = .returned (.tuple #[t, b, .agg (nov 0 none 0 0 none 0 0)]) ∧ (∃ a2 n2 c2, t = .slice a2 n2 c2) ∧ RwE b es w' ∧ NoR x.heap.size none (.agg (nov 0 none 0 0 none 0 0)) w' ∧ Below x.heap.size x w') :
    Calls Tryd.prog 11 #[.string a, .slice oa nl ca] w fun e w' => ∃ b z, e = .returned (.tuple #[b, z]) ∧ RwE b es w' ∧ NoR w.heap.size none z w' ∧ Below w.heap.size w w' := by
  have HC := hid_of' hC
  clear hC
  have r0 := RowAt.new w (nov 0 none 0 0 none 0 0) 34
  have b0 := below_one w (.cells (nov 0 none 0 0 none 0 0) 34)
  go_enter Tryd.func11, Tryd.ntmps11
  go_upto_region 1 with fail
  change Code.wp _ _ _ _ (w.alloc (.cells (nov 0 none 0 0 none 0 0) 34))
  generalize w.alloc (.cells (nov 0 none 0 0 none 0 0) 34) = X0 at r0 b0 ⊢
  generalize hnb5 : w.heap.size = nb5 at r0 ⊢
  have HP := hid_of' (HC.out X0 b0)
  clear HC
  go_upto_region 2 with (first | (go_at_call 14; refine HP.out.mono ?_; rintro e w1 ⟨t, b, rfl, ⟨a2, n2, c2, rfl⟩, hb, hn4, hb1⟩; have HV := hid_of' (And.intro hn4 hb1); have HT := hid_of' hb; obtain ⟨a1, c1, rfl, _⟩ := Rw.form hb; clear HP hb1 hn4 hb) | (refine wpL_storeNo rfl _ _ rfl rfl rfl (RowAt.new w1 _ _) ?_))
  have r7 := (RowAt.new w1 (nov 0 none 0 0 none 0 0) 34).put (nov 0 none 0 0 none 0 0)
  have b7 := below_row (below_one w1 (.cells (nov 0 none 0 0 none 0 0) 34)) (Nat.le_refl _) (nov 0 none 0 0 none 0 0)
  change Code.wp _ _ _ _ ((w1.alloc (.cells (nov 0 none 0 0 none 0 0) 34)).setRow w1.heap.size (nov 0 none 0 0 none 0 0))
  generalize (w1.alloc (.cells (nov 0 none 0 0 none 0 0) 34)).setRow w1.heap.size (nov 0 none 0 0 none 0 0) = W2 at r7 b7 ⊢
  generalize hnb7 : w1.heap.size = nb7 at r7 ⊢
  have HN7 := hid_of' r7
  have hn5 := hid_of' (r0.later (bgo HV.out.2 b7))
  have HB0 := hid_of' (And.intro b0 (And.intro r0.lt b7))
  have HT2 := hid_of' (HT.out.later b7)
  have c7 : W2.cell? ⟨nb7, 0, none⟩ = some (.int .i64 0) := r7.is rfl
  clear r0 b0 b7
  clear r7
  go_upto_region 4 with fail
  clear c7
  refine wp_region_tail 3 (by kernel_rfl) (fun _ => none) (by kernel_rfl) (by kernel_rfl) (by decide) (fun i v x => match i with
    | 0 => v = .slice a1 es.length c1
    | 1 => v = .agg (nov 0 none 0 0 none 0 0)
    | 2 => v = .slice a1 es.length c1
    | _ => True) (fun _ => false) (fun _ _ _ _ h => by cases h) ?_ ?_ ?_
  · intro i v x x' hR hb
    match i, hR with
    | 0, h => exact h
    | 1, h => exact h
    | 2, h => exact h
    | m + 3, h => exact h
  · intro i o hi ho q x vals hX hdep hoth
    have t7 : q.tmps[7]? = some (.slice a1 es.length c1) := by rw [hoth 7 (by kernel_rfl)]; rfl
    have t8 : q.tmps[8]? = some (.pointer (some ⟨nb7, 0, none⟩)) := by rw [hoth 8 (by kernel_rfl)]; rfl
    match i, hi, ho with
    | 0, _, ho =>
      simp only [List.getElem?_cons_zero, Option.some.injEq] at ho
      subst ho
      unfold Oper.wp
      simp [execOp, go_sem, t7]
      exact came _ rfl (Below.refl _ _) rfl (fun h => absurd h (by decide))
    | 1, _, ho =>
      simp only [List.getElem?_cons_succ, List.getElem?_cons_zero, Option.some.injEq] at ho
      subst ho
      exact opw_loadNo _ rfl (by simp [Act.eval, t8]) (HN7.out.later hX) rfl (came _ rfl (Below.refl _ _) rfl (fun h => absurd h (by decide)))
    | 2, _, ho =>
      simp only [List.getElem?_cons_succ, List.getElem?_cons_zero, Option.some.injEq] at ho
      subst ho
      obtain ⟨u0, e0⟩ := hdep ⟨0, .data⟩ (by simp) rfl _ 20 rfl rfl
      rw [show vals 0 = .slice a1 es.length c1 from e0] at u0
      unfold Oper.wp
      simp [execOp, go_sem, u0]
      exact came _ rfl (Below.refl _ _) rfl (fun h => absurd h (by decide))
    | m + 3, hi, _ => exact absurd hi (by omega)
  · intro vals x hX hR _
    have f0 : vals 0 = .slice a1 es.length c1 := hR 0 (by decide)
    have f1 : vals 1 = .agg (nov 0 none 0 0 none 0 0) := hR 1 (by decide)
    have f2 : vals 2 = .slice a1 es.length c1 := hR 2 (by decide)
    simp only [List.drop, List.take, putAll, List.setIfInBounds_toArray, List.set_cons_succ, List.set_cons_zero, f0, f1, f2]
    clear f0 f1 f2 hR
    have rx := hn5.out.later hX
    go_wp2_with (refine wpL_storeNo rfl _ _ rfl rfl rfl rx ?_)
    have k4 := Ch.row (S := fun k => k = nb5) (Ch.refl _ x) (.inl rfl) (nov 0 none 0 0 none 0 0)
    have hn9 := NoR.ch (NoR.later (NoR.later HV.out.1 HB0.out.2.2) hX) k4 (fun s hs e => by have := HB0.out.2.1; have e' : s = nb5 := e; omega)
    have hn6 := NoR.down hn9 HB0.out.1.size
    have hE := Rw.ch (HT2.out.later hX) k4 (rw_apart (HT2.out.later hX) rx (by decide))
    exact bodyPost_ret (v := .tuple #[.slice a1 es.length c1, .agg (nov 0 none 0 0 none 0 0)]) (results_tNo (fn := Tryd.f11) (t := 4) (u := 5) rfl rfl (rx.put (nov 0 none 0 0 none 0 0)) rfl) rfl ⟨_, _, rfl, hE, hnb5 ▸ hn6, hnb5 ▸ below_row (bgo HB0.out.1 (bgo HV.out.2 (bgo HB0.out.2.2 hX))) (by omega) _⟩
end Go.Proofs.YtaimmjoekahleaaDoor
