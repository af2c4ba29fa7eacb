
/-
  The document's side: Look and Deliver at a place that is not there.
-/
import Derived.Test.YtdojjhhnciaegaaDoorZb30
namespace Go.Proofs.YtdojjhhnciaegaaDoor
open Go.RowKit Go.Extern.Stop Go.Stop Go.Extern
set_option maxRecDepth 100000

theorem bld_p0 : Tryd.prog.built 65 [] = some (pcv pc0) := by kernel_rfl
theorem opw_bldP {o : Oper} {A : Act} {w : World} {K : Act → World → Prop} {Q : Exit → Act → World → Prop} (ho : o.op = .build 65 #[]) (k : K (A.put o.dst (.agg (pcv pc0))) w) : o.wp Tryd.prog A w K Q := by
  have hb := run_build (P := Tryd.prog) w 65 ((#[] : Array (Nat × Operand)).map (fun x => (x.fst, A.eval x.snd))) (pcv pc0) (by simpa using bld_p0)
  unfold Oper.wp execOp
  simp only [ho, Sem.run_bind, hb, Sem.run_pure, Result.andThen_ok]
  exact k
set_option maxHeartbeats 4000000 in
theorem refLook_out {B : Nat} {v : Value} {g : Bg} {K : Nat → Prop} {w : World} (h : RgAt B v g K w) {i : Int} (hi : i < 0 ∨ (g.l.length : Int) ≤ i) :
    Calls Tryd.prog 37 #[.pointer (some ⟨B, 0, none⟩), .int .i64 i] w fun e w' => ∃ u, e = .returned (.tuple #[.agg (pcv pc0), u]) ∧ NoR w.heap.size (some (bLook, i, 1)) u w' ∧ Below w.heap.size w w' := by
  have r4 := (row_new w (pcv pc0) 65).later (below_one _ (.cells #[.int .i64 0, .slice none 0 0, .slice none 0 0] 32))
  have r5 := row_new2 w (.cells (pcv pc0) 65) #[.int .i64 0, .slice none 0 0, .slice none 0 0] 32
  have hb2 := below_two w (.cells (pcv pc0) 65) (.cells #[.int .i64 0, .slice none 0 0, .slice none 0 0] 32)
  go_enter Tryd.func37, Tryd.ntmps37
  go_upto_region 1 with fail
  generalize hw2 : ((w.alloc (.cells (pcv pc0) 65)).alloc (.cells #[.int .i64 0, .slice none 0 0, .slice none 0 0] 32)) = w2 at r4 r5 hb2
  rw [show ((w.alloc (.cells #[.int .i64 0, .int .i64 0, .int .i64 0, .slice none 0 0] 65)).alloc (.cells #[.int .i64 0, .slice none 0 0, .slice none 0 0] 32)) = w2 from hw2]
  clear hw2
  have HIs := hid_of' (refIs_out (h.later hb2) bLook hi)
  have H := hid_of' (And.intro r4 (And.intro r5 hb2))
  clear h r4 r5 hb2 hi
  go_upto_region 2 with (first | (go_at_call 62; refine HIs.out.mono ?_; rintro e w3 ⟨u, rfl, ⟨g1, g2, rfl, h2, h3, h4, h5⟩, hb3⟩; clear HIs; have HN := hid_of' (And.intro h2 (And.intro h3 (And.intro h4 h5))); clear h2 h3 h4 h5) | (refine wpL_storeNo rfl _ _ rfl rfl (code := ((1 : Nat) : Int) + 1) (a := some ⟨g2, 0, none⟩) (n := 1) (c := 1) (a' := some ⟨g1, 0, none⟩) (n' := 1) (c' := 1) rfl (row_new w3 _ _) ?_))
  have r6 := (row_new w3 #[.int .i64 0, .slice none 0 0, .slice none 0 0] 32).put (nov (((1 : Nat) : Int) + 1) (some ⟨g2, 0, none⟩) 1 1 (some ⟨g1, 0, none⟩) 1 1)
  have hb4 := below_row (below_one w3 (.cells #[.int .i64 0, .slice none 0 0, .slice none 0 0] 32)) (Nat.le_refl _) (nov (((1 : Nat) : Int) + 1) (some ⟨g2, 0, none⟩) 1 1 (some ⟨g1, 0, none⟩) 1 1)
  generalize (w3.alloc (.cells #[.int .i64 0, .slice none 0 0, .slice none 0 0] 32)).setRow w3.heap.size (nov (((1 : Nat) : Int) + 1) (some ⟨g2, 0, none⟩) 1 1 (some ⟨g1, 0, none⟩) 1 1) = w4 at r6 hb4 ⊢
  have hb24 := bgo hb3 hb4
  have hbw4 := bgo H.out.2.2 hb24
  have c6 : w4.cell? ⟨w3.heap.size, 0, none⟩ = some (.int .i64 2) := r6.cellIs 0 rfl
  obtain ⟨b6, hb6⟩ : ∃ b6, w3.heap.size = b6 := ⟨_, rfl⟩
  obtain ⟨b4, hb4'⟩ : ∃ b4, w.heap.size = b4 := ⟨_, rfl⟩
  have r4' := H.out.1.later hb24
  have r5' := H.out.2.1.later hb24
  have hs2 := H.out.2.1.lt
  have hs3 := hb3.size
  have hg1 := HN.out.1
  have hg2 := HN.out.2.1
  rw [hb6] at r6 c6 ⊢
  rw [hb4'] at r4' r5' ⊢
  have hB64 : ¬ some b4 = some b6 := fun e => by have := Option.some.inj e; omega
  have H4 := hid_of' (And.intro r6 (And.intro r4' (And.intro r5' (And.intro hbw4 (And.intro (HN.out.2.2.1.later hb4) (HN.out.2.2.2.later hb4))))))
  clear r6 hb24 hbw4 hb3 hb4 H r4' r5' HN
  go_upto_region 3 with fail
  clear c6
  refine wp_region_once 3 (by kernel_rfl) (fun _ => none) (by kernel_rfl) (by kernel_rfl) (by decide) (fun i v x => match i with
    | 0 => v = .agg (pcv pc0)
    | 1 => v = .agg (nov (((1 : Nat) : Int) + 1) (some ⟨g2, 0, none⟩) 1 1 (some ⟨g1, 0, none⟩) 1 1)
    | 2 => RowAt b4 (pcv pc0) 65 x
    | _ => True) (fun _ => false) (fun _ _ _ _ h => by cases h) 2 (by decide) (fun a b => World.grownBy a b (some b4)) (fun a b => World.grownBy a b (some b4)) (fun _ _ g h => grown_later g h) (fun _ h => grown_of h) (fun _ _ h g => grown_first h g) (fun _ _ g => g.size) ?_ ?_ ?_ ?_
  · intro i v x x' hR hb
    match i, hR with
    | 0, h => exact h
    | 1, h => exact h
    | 2, h => exact h.later hb
    | m + 3, h => exact h
  · intro i v x x' hne hR hb
    match i, hne, hR with
    | 0, hne, h => exact h
    | 1, hne, h => exact h
    | 2, hne, h => exact absurd rfl hne
    | m + 3, _, h => exact h
  · intro i o hi ho q x vals hX hC hdep hoth
    have t6 : q.tmps[6]? = some (.pointer (some ⟨b6, 0, none⟩)) := by rw [hoth 6 (by kernel_rfl)]; rfl
    have t4 : q.tmps[4]? = some (.pointer (some ⟨b4, 0, none⟩)) := by rw [hoth 4 (by kernel_rfl)]; rfl
    match i, hi, ho, hC with
    | 0, _, ho, hC =>
      simp only [List.getElem?_cons_zero, Option.some.injEq] at ho
      subst ho
      exact opw_bldP rfl (cameB _ rfl (by decide) (Below.refl _ _) rfl (fun h => absurd h (by decide)))
    | 1, _, ho, hC =>
      simp only [List.getElem?_cons_succ, List.getElem?_cons_zero, Option.some.injEq] at ho
      subst ho
      exact opw_loadNo _ rfl (by simp [Act.eval, t6]) (RowAt.grow H4.out.1 hX hB64) rfl (cameB _ rfl (by decide) (Below.refl _ _) rfl (fun h => absurd h (by decide)))
    | 2, _, ho, hC =>
      simp only [List.getElem?_cons_succ, List.getElem?_cons_zero, Option.some.injEq] at ho
      subst ho
      obtain ⟨u0, e0⟩ := hdep ⟨0, .data⟩ (by simp) rfl _ 13 rfl rfl
      rw [show vals 0 = .agg (pcv pc0) from e0] at u0
      have hb := hC (.inl rfl)
      have r4x := H4.out.2.1.later hb
      refine wp_store_row _ _ _ rfl b4 (pcv pc0) (by simp [Act.eval, t4]) (by simp [Act.eval, u0]) _ _ r4x (p_size pc0) rfl (pcv_one pc0 rfl) ?_
      exact cameX _ rfl (grown_row _ _ _) (r4x.put _) rfl
    | m + 3, hi, _, _ => exact absurd hi (by omega)
  · intro vals x hX hR _
    have e1 : vals 1 = .agg (nov (((1 : Nat) : Int) + 1) (some ⟨g2, 0, none⟩) 1 1 (some ⟨g1, 0, none⟩) 1 1) := hR 1 (by decide)
    have x4 : RowAt b4 (pcv pc0) 65 x := hR 2 (by decide)
    have gx := grown_ch hX
    have x5 := RowAt.grow H4.out.2.2.1 hX (fun e => by have := Option.some.inj e; omega)
    have hbw := H4.out.2.2.2.1
    have hbx : Below w.heap.size w x := hbw.trans (gx.below (fun s hs e => by have := Option.some.inj e; omega) hbw.size)
    have n1 := H4.out.2.2.2.2.1.ch gx (fun e => by have := Option.some.inj e; omega)
    have n2 := H4.out.2.2.2.2.2.ch gx (fun e => by have := Option.some.inj e; omega)
    have HX := hid_of' (And.intro x4 (And.intro x5 (And.intro hbx (And.intro n1 n2))))
    clear x4 x5 hbx hR hX gx hbw n1 n2
    simp only [List.drop, List.take, putAll, List.setIfInBounds_toArray, List.set_cons_succ, List.set_cons_zero, e1]
    clear e1
    go_wp2_with (refine wpL_storeNo rfl _ _ rfl rfl (code := ((1 : Nat) : Int) + 1) (a := some ⟨g2, 0, none⟩) (n := 1) (c := 1) (a' := some ⟨g1, 0, none⟩) (n' := 1) (c' := 1) rfl HX.out.2.1 ?_)
    have cR := Ch.row (S := fun s => s = b4 + 1) (Ch.refl _ x) (.inl rfl) (nov (((1 : Nat) : Int) + 1) (some ⟨g2, 0, none⟩) 1 1 (some ⟨g1, 0, none⟩) 1 1)
    exact bodyPost_ret (v := .tuple #[.agg (pcv pc0), .agg (nov (((1 : Nat) : Int) + 1) (some ⟨g2, 0, none⟩) 1 1 (some ⟨g1, 0, none⟩) 1 1)]) (results_cn (fn := Tryd.f37) (p := 4) (q := 5) (g := b4) (g' := b4 + 1) rfl rfl (HX.out.1.other _ _ (by omega)) rfl (HX.out.2.1.put _) rfl) rfl ⟨_, rfl, ⟨g1, g2, rfl, by omega, by omega, HX.out.2.2.2.1.ch cR (by omega), HX.out.2.2.2.2.ch cR (by omega)⟩, below_row HX.out.2.2.1 (by omega) _⟩
set_option maxHeartbeats 4000000 in
theorem refDeliver_out {B : Nat} {v : Value} {g : Bg} {K : Nat → Prop} {w : World} (h : RgAt B v g K w) {i : Int} (hi : i < 0 ∨ (g.l.length : Int) ≤ i) :
    Calls Tryd.prog 28 #[.pointer (some ⟨B, 0, none⟩), .int .i64 i] w fun e w' => ∃ u, e = .returned (.tuple #[.agg (pcv pc0), u]) ∧ NoR w.heap.size (some (bDeliver, i, 1)) u w' ∧ Below w.heap.size w w' := by
  have r4 := (row_new w (pcv pc0) 65).later (below_one _ (.cells #[.int .i64 0, .slice none 0 0, .slice none 0 0] 32))
  have r5 := row_new2 w (.cells (pcv pc0) 65) #[.int .i64 0, .slice none 0 0, .slice none 0 0] 32
  have hb2 := below_two w (.cells (pcv pc0) 65) (.cells #[.int .i64 0, .slice none 0 0, .slice none 0 0] 32)
  go_enter Tryd.func28, Tryd.ntmps28
  go_upto_region 1 with fail
  generalize hw2 : ((w.alloc (.cells (pcv pc0) 65)).alloc (.cells #[.int .i64 0, .slice none 0 0, .slice none 0 0] 32)) = w2 at r4 r5 hb2
  rw [show ((w.alloc (.cells #[.int .i64 0, .int .i64 0, .int .i64 0, .slice none 0 0] 65)).alloc (.cells #[.int .i64 0, .slice none 0 0, .slice none 0 0] 32)) = w2 from hw2]
  clear hw2
  have HIs := hid_of' (refIs_out (h.later hb2) bDeliver hi)
  have H := hid_of' (And.intro r4 (And.intro r5 hb2))
  clear h r4 r5 hb2 hi
  go_upto_region 2 with (first | (go_at_call 62; refine HIs.out.mono ?_; rintro e w3 ⟨u, rfl, ⟨g1, g2, rfl, h2, h3, h4, h5⟩, hb3⟩; clear HIs; have HN := hid_of' (And.intro h2 (And.intro h3 (And.intro h4 h5))); clear h2 h3 h4 h5) | (refine wpL_storeNo rfl _ _ rfl rfl (code := ((1 : Nat) : Int) + 1) (a := some ⟨g2, 0, none⟩) (n := 1) (c := 1) (a' := some ⟨g1, 0, none⟩) (n' := 1) (c' := 1) rfl (row_new w3 _ _) ?_))
  have r6 := (row_new w3 #[.int .i64 0, .slice none 0 0, .slice none 0 0] 32).put (nov (((1 : Nat) : Int) + 1) (some ⟨g2, 0, none⟩) 1 1 (some ⟨g1, 0, none⟩) 1 1)
  have hb4 := below_row (below_one w3 (.cells #[.int .i64 0, .slice none 0 0, .slice none 0 0] 32)) (Nat.le_refl _) (nov (((1 : Nat) : Int) + 1) (some ⟨g2, 0, none⟩) 1 1 (some ⟨g1, 0, none⟩) 1 1)
  generalize (w3.alloc (.cells #[.int .i64 0, .slice none 0 0, .slice none 0 0] 32)).setRow w3.heap.size (nov (((1 : Nat) : Int) + 1) (some ⟨g2, 0, none⟩) 1 1 (some ⟨g1, 0, none⟩) 1 1) = w4 at r6 hb4 ⊢
  have hb24 := bgo hb3 hb4
  have hbw4 := bgo H.out.2.2 hb24
  have c6 : w4.cell? ⟨w3.heap.size, 0, none⟩ = some (.int .i64 2) := r6.cellIs 0 rfl
  obtain ⟨b6, hb6⟩ : ∃ b6, w3.heap.size = b6 := ⟨_, rfl⟩
  obtain ⟨b4, hb4'⟩ : ∃ b4, w.heap.size = b4 := ⟨_, rfl⟩
  have r4' := H.out.1.later hb24
  have r5' := H.out.2.1.later hb24
  have hs2 := H.out.2.1.lt
  have hs3 := hb3.size
  have hg1 := HN.out.1
  have hg2 := HN.out.2.1
  rw [hb6] at r6 c6 ⊢
  rw [hb4'] at r4' r5' ⊢
  have hB64 : ¬ some b4 = some b6 := fun e => by have := Option.some.inj e; omega
  have H4 := hid_of' (And.intro r6 (And.intro r4' (And.intro r5' (And.intro hbw4 (And.intro (HN.out.2.2.1.later hb4) (HN.out.2.2.2.later hb4))))))
  clear r6 hb24 hbw4 hb3 hb4 H r4' r5' HN
  go_upto_region 3 with fail
  clear c6
  refine wp_region_once 3 (by kernel_rfl) (fun _ => none) (by kernel_rfl) (by kernel_rfl) (by decide) (fun i v x => match i with
    | 0 => v = .agg (pcv pc0)
    | 1 => v = .agg (nov (((1 : Nat) : Int) + 1) (some ⟨g2, 0, none⟩) 1 1 (some ⟨g1, 0, none⟩) 1 1)
    | 2 => RowAt b4 (pcv pc0) 65 x
    | _ => True) (fun _ => false) (fun _ _ _ _ h => by cases h) 2 (by decide) (fun a b => World.grownBy a b (some b4)) (fun a b => World.grownBy a b (some b4)) (fun _ _ g h => grown_later g h) (fun _ h => grown_of h) (fun _ _ h g => grown_first h g) (fun _ _ g => g.size) ?_ ?_ ?_ ?_
  · intro i v x x' hR hb
    match i, hR with
    | 0, h => exact h
    | 1, h => exact h
    | 2, h => exact h.later hb
    | m + 3, h => exact h
  · intro i v x x' hne hR hb
    match i, hne, hR with
    | 0, hne, h => exact h
    | 1, hne, h => exact h
    | 2, hne, h => exact absurd rfl hne
    | m + 3, _, h => exact h
  · intro i o hi ho q x vals hX hC hdep hoth
    have t6 : q.tmps[6]? = some (.pointer (some ⟨b6, 0, none⟩)) := by rw [hoth 6 (by kernel_rfl)]; rfl
    have t4 : q.tmps[4]? = some (.pointer (some ⟨b4, 0, none⟩)) := by rw [hoth 4 (by kernel_rfl)]; rfl
    match i, hi, ho, hC with
    | 0, _, ho, hC =>
      simp only [List.getElem?_cons_zero, Option.some.injEq] at ho
      subst ho
      exact opw_bldP rfl (cameB _ rfl (by decide) (Below.refl _ _) rfl (fun h => absurd h (by decide)))
    | 1, _, ho, hC =>
      simp only [List.getElem?_cons_succ, List.getElem?_cons_zero, Option.some.injEq] at ho
      subst ho
      exact opw_loadNo _ rfl (by simp [Act.eval, t6]) (RowAt.grow H4.out.1 hX hB64) rfl (cameB _ rfl (by decide) (Below.refl _ _) rfl (fun h => absurd h (by decide)))
    | 2, _, ho, hC =>
      simp only [List.getElem?_cons_succ, List.getElem?_cons_zero, Option.some.injEq] at ho
      subst ho
      obtain ⟨u0, e0⟩ := hdep ⟨0, .data⟩ (by simp) rfl _ 13 rfl rfl
      rw [show vals 0 = .agg (pcv pc0) from e0] at u0
      have hb := hC (.inl rfl)
      have r4x := H4.out.2.1.later hb
      refine wp_store_row _ _ _ rfl b4 (pcv pc0) (by simp [Act.eval, t4]) (by simp [Act.eval, u0]) _ _ r4x (p_size pc0) rfl (pcv_one pc0 rfl) ?_
      exact cameX _ rfl (grown_row _ _ _) (r4x.put _) rfl
    | m + 3, hi, _, _ => exact absurd hi (by omega)
  · intro vals x hX hR _
    have e1 : vals 1 = .agg (nov (((1 : Nat) : Int) + 1) (some ⟨g2, 0, none⟩) 1 1 (some ⟨g1, 0, none⟩) 1 1) := hR 1 (by decide)
    have x4 : RowAt b4 (pcv pc0) 65 x := hR 2 (by decide)
    have gx := grown_ch hX
    have x5 := RowAt.grow H4.out.2.2.1 hX (fun e => by have := Option.some.inj e; omega)
    have hbw := H4.out.2.2.2.1
    have hbx : Below w.heap.size w x := hbw.trans (gx.below (fun s hs e => by have := Option.some.inj e; omega) hbw.size)
    have n1 := H4.out.2.2.2.2.1.ch gx (fun e => by have := Option.some.inj e; omega)
    have n2 := H4.out.2.2.2.2.2.ch gx (fun e => by have := Option.some.inj e; omega)
    have HX := hid_of' (And.intro x4 (And.intro x5 (And.intro hbx (And.intro n1 n2))))
    clear x4 x5 hbx hR hX gx hbw n1 n2
    simp only [List.drop, List.take, putAll, List.setIfInBounds_toArray, List.set_cons_succ, List.set_cons_zero, e1]
    clear e1
    go_wp2_with (refine wpL_storeNo rfl _ _ rfl rfl (code := ((1 : Nat) : Int) + 1) (a := some ⟨g2, 0, none⟩) (n := 1) (c := 1) (a' := some ⟨g1, 0, none⟩) (n' := 1) (c' := 1) rfl HX.out.2.1 ?_)
    have cR := Ch.row (S := fun s => s = b4 + 1) (Ch.refl _ x) (.inl rfl) (nov (((1 : Nat) : Int) + 1) (some ⟨g2, 0, none⟩) 1 1 (some ⟨g1, 0, none⟩) 1 1)
    exact bodyPost_ret (v := .tuple #[.agg (pcv pc0), .agg (nov (((1 : Nat) : Int) + 1) (some ⟨g2, 0, none⟩) 1 1 (some ⟨g1, 0, none⟩) 1 1)]) (results_cn (fn := Tryd.f28) (p := 4) (q := 5) (g := b4) (g' := b4 + 1) rfl rfl (HX.out.1.other _ _ (by omega)) rfl (HX.out.2.1.put _) rfl) rfl ⟨_, rfl, ⟨g1, g2, rfl, by omega, by omega, HX.out.2.2.2.1.ch cR (by omega), HX.out.2.2.2.2.ch cR (by omega)⟩, below_row HX.out.2.2.1 (by omega) _⟩
end Go.Proofs.YtdojjhhnciaegaaDoor
