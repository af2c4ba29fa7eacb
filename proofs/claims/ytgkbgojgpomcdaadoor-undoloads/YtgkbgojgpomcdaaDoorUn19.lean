
/-
  The document's Take refused; barrowlaw14.got.
-/
import Derived.Test.YtgkbgojgpomcdaaDoorUn18
namespace Go.Proofs.YtgkbgojgpomcdaaDoor
open Go.RowKit Go.Extern.Stop Go.Stop Go.Extern
set_option maxRecDepth 100000

set_option maxHeartbeats 2000000 in
theorem refUndo_no {B : Nat} {vd vu : Value} {F : Nat → Prop} {d u : List (List Xg)} {w : World} (h : SkAt 29 B vd vu F d u w) (h0 : d = []) :
    Calls Tryd.prog 33 #[.pointer (some ⟨B, 0, none⟩), .bool false] w fun e w' => ∃ v, e = .returned (.tuple #[.slice none 0 0, v]) ∧ NoR w.heap.size (some (bUndo, -1, 11)) v w' ∧ Below w.heap.size w w' := by
  have r0 := row_new w (nov 0 none 0 0 none 0 0) 47
  have b0 := below_one w (.cells (nov 0 none 0 0 none 0 0) 47)
  have H := hid_of' h
  clear h
  go_enter Tryd.func33, Tryd.ntmps33
  go_upto_region 1 with fail
  change Code.wp _ _ _ _ (w.alloc (.cells (nov 0 none 0 0 none 0 0) 47))
  generalize w.alloc (.cells (nov 0 none 0 0 none 0 0) 47) = X0 at r0 b0 ⊢
  generalize hnb5 : w.heap.size = nb5 at r0 ⊢
  have HP := hid_of' (refPeekUndo_no (H.out.later b0) h0)
  go_upto_region 2 with (first | (go_at_call 36; (with_reducible refine HP.out.mono ?_); rintro e w1 ⟨v0, rfl, hn4, hb1⟩; clear HP; have HV := hid_of' (And.intro hn4 hb1); obtain ⟨g4, g4', rfl, _⟩ := hn4; clear hb1) | (refine wpL_storeNo rfl _ _ rfl rfl rfl (row_new w1 _ _) ?_))
  have r7 := (row_new w1 (nov 0 none 0 0 none 0 0) 47).put (nov (((11 : Nat) : Int) + 1) (some ⟨g4', 0, none⟩) 1 1 (some ⟨g4, 0, none⟩) 1 1)
  have b7 := below_row (below_one w1 (.cells (nov 0 none 0 0 none 0 0) 47)) (Nat.le_refl _) (nov (((11 : Nat) : Int) + 1) (some ⟨g4', 0, none⟩) 1 1 (some ⟨g4, 0, none⟩) 1 1)
  change Code.wp _ _ _ _ ((w1.alloc (.cells (nov 0 none 0 0 none 0 0) 47)).setRow w1.heap.size (nov (((11 : Nat) : Int) + 1) (some ⟨g4', 0, none⟩) 1 1 (some ⟨g4, 0, none⟩) 1 1))
  generalize (w1.alloc (.cells (nov 0 none 0 0 none 0 0) 47)).setRow w1.heap.size (nov (((11 : Nat) : Int) + 1) (some ⟨g4', 0, none⟩) 1 1 (some ⟨g4, 0, none⟩) 1 1) = W2 at r7 b7 ⊢
  generalize hnb7 : w1.heap.size = nb7 at r7 ⊢
  have c7 : W2.cell? ⟨nb7, 0, none⟩ = some (.int .i64 12) := r7.cellIs 0 rfl
  have HN7 := hid_of' r7
  have hn5 := r0.later (bgo HV.out.2 b7)
  have HB0 := hid_of' (And.intro b0 (And.intro r0.lt b7))
  clear r7 r0 b0 b7
  go_upto_region 3 with fail
  clear c7
  refine wp_region_tail 2 (by kernel_rfl) (fun _ => none) (by kernel_rfl) (by kernel_rfl) (by decide) (fun i v x => match i with
    | 0 => v = .agg (nov (((11 : Nat) : Int) + 1) (some ⟨g4', 0, none⟩) 1 1 (some ⟨g4, 0, none⟩) 1 1)
    | 1 => v = .slice none 0 0
    | _ => True) (fun _ => false) (fun _ _ _ _ h => by cases h) ?_ ?_ ?_
  · intro i v x x' hR hb
    match i, hR with
    | 0, h => exact h
    | 1, h => exact h
    | m + 2, h => exact h
  · intro i o hi ho q x vals hX hdep hoth
    have t7 : q.tmps[7]? = some (.pointer (some ⟨nb7, 0, none⟩)) := by rw [hoth 7 (by kernel_rfl)]; rfl
    match i, hi, ho with
    | 0, _, ho =>
      simp only [List.getElem?_cons_zero, Option.some.injEq] at ho
      subst ho
      exact opw_loadNo _ rfl (by simp [Act.eval, t7]) (HN7.out.later hX) rfl (came _ rfl (Below.refl _ _) rfl (fun h => absurd h (by decide)))
    | 1, _, ho =>
      simp only [List.getElem?_cons_succ, List.getElem?_cons_zero, Option.some.injEq] at ho
      subst ho
      unfold Oper.wp
      simp [execOp, go_sem, ]
      exact came _ rfl (Below.refl _ _) rfl (fun h => absurd h (by decide))
    | m + 2, hi, _ => exact absurd hi (by omega)
  · intro vals x hX hR _
    have e1 : vals 0 = .agg (nov (((11 : Nat) : Int) + 1) (some ⟨g4', 0, none⟩) 1 1 (some ⟨g4, 0, none⟩) 1 1) := hR 0 (by decide)
    have e2 : vals 1 = .slice none 0 0 := hR 1 (by decide)
    have rx := hn5.later hX
    simp only [List.drop, List.take, putAll, List.setIfInBounds_toArray, List.set_cons_succ, List.set_cons_zero, e1, e2]
    clear e1 e2 hR
    go_wp2_with (refine wpL_storeNo rfl _ _ rfl rfl rfl rx ?_)
    have k4 := Ch.row (S := fun k => k = nb5) (Ch.refl _ x) (.inl rfl) (nov (((11 : Nat) : Int) + 1) (some ⟨g4', 0, none⟩) 1 1 (some ⟨g4, 0, none⟩) 1 1)
    have hn9 := NoR.ch (NoR.later (NoR.later HV.out.1 HB0.out.2.2) hX) k4 (fun s hs e => by have := HB0.out.2.1; have e' : s = nb5 := e; omega)
    have hn6 : NoR w.heap.size (some (bUndo, -1, 11)) (.agg (nov (((11 : Nat) : Int) + 1) (some ⟨g4', 0, none⟩) 1 1 (some ⟨g4, 0, none⟩) 1 1)) (x.setRow nb5 (nov (((11 : Nat) : Int) + 1) (some ⟨g4', 0, none⟩) 1 1 (some ⟨g4, 0, none⟩) 1 1)) := by
      obtain ⟨y, y', e1, e2, e3, e4, e5⟩ := hn9
      exact ⟨y, y', e1, Nat.le_trans HB0.out.1.size e2, Nat.le_trans HB0.out.1.size e3, e4, e5⟩
    exact bodyPost_ret (v := .tuple #[.slice none 0 0, .agg (nov (((11 : Nat) : Int) + 1) (some ⟨g4', 0, none⟩) 1 1 (some ⟨g4, 0, none⟩) 1 1)]) (results_tNo (fn := Tryd.f33) (t := 4) (u := 5) rfl rfl (rx.put (nov (((11 : Nat) : Int) + 1) (some ⟨g4', 0, none⟩) 1 1 (some ⟨g4, 0, none⟩) 1 1)) rfl) rfl ⟨_, rfl, hnb5 ▸ hn6, hnb5 ▸ below_row (bgo HB0.out.1 (bgo HV.out.2 (bgo HB0.out.2.2 hX))) (by omega) _⟩
set_option maxHeartbeats 2000000 in
theorem refRedo_no {B : Nat} {vd vu : Value} {F : Nat → Prop} {d u : List (List Xg)} {w : World} (h : SkAt 29 B vd vu F d u w) (h0 : u = []) :
    Calls Tryd.prog 33 #[.pointer (some ⟨B, 0, none⟩), .bool true] w fun e w' => ∃ v, e = .returned (.tuple #[.slice none 0 0, v]) ∧ NoR w.heap.size (some (bRedo, -1, 11)) v w' ∧ Below w.heap.size w w' := by
  have r0 := row_new w (nov 0 none 0 0 none 0 0) 47
  have b0 := below_one w (.cells (nov 0 none 0 0 none 0 0) 47)
  have H := hid_of' h
  clear h
  go_enter Tryd.func33, Tryd.ntmps33
  go_upto_region 1 with fail
  change Code.wp _ _ _ _ (w.alloc (.cells (nov 0 none 0 0 none 0 0) 47))
  generalize w.alloc (.cells (nov 0 none 0 0 none 0 0) 47) = X0 at r0 b0 ⊢
  generalize hnb5 : w.heap.size = nb5 at r0 ⊢
  have HP := hid_of' (refPeekRedo_no (H.out.later b0) h0)
  go_upto_region 2 with (first | (go_at_call 36; (with_reducible refine HP.out.mono ?_); rintro e w1 ⟨v0, rfl, hn4, hb1⟩; clear HP; have HV := hid_of' (And.intro hn4 hb1); obtain ⟨g4, g4', rfl, _⟩ := hn4; clear hb1) | (refine wpL_storeNo rfl _ _ rfl rfl rfl (row_new w1 _ _) ?_))
  have r7 := (row_new w1 (nov 0 none 0 0 none 0 0) 47).put (nov (((11 : Nat) : Int) + 1) (some ⟨g4', 0, none⟩) 1 1 (some ⟨g4, 0, none⟩) 1 1)
  have b7 := below_row (below_one w1 (.cells (nov 0 none 0 0 none 0 0) 47)) (Nat.le_refl _) (nov (((11 : Nat) : Int) + 1) (some ⟨g4', 0, none⟩) 1 1 (some ⟨g4, 0, none⟩) 1 1)
  change Code.wp _ _ _ _ ((w1.alloc (.cells (nov 0 none 0 0 none 0 0) 47)).setRow w1.heap.size (nov (((11 : Nat) : Int) + 1) (some ⟨g4', 0, none⟩) 1 1 (some ⟨g4, 0, none⟩) 1 1))
  generalize (w1.alloc (.cells (nov 0 none 0 0 none 0 0) 47)).setRow w1.heap.size (nov (((11 : Nat) : Int) + 1) (some ⟨g4', 0, none⟩) 1 1 (some ⟨g4, 0, none⟩) 1 1) = W2 at r7 b7 ⊢
  generalize hnb7 : w1.heap.size = nb7 at r7 ⊢
  have c7 : W2.cell? ⟨nb7, 0, none⟩ = some (.int .i64 12) := r7.cellIs 0 rfl
  have HN7 := hid_of' r7
  have hn5 := r0.later (bgo HV.out.2 b7)
  have HB0 := hid_of' (And.intro b0 (And.intro r0.lt b7))
  clear r7 r0 b0 b7
  go_upto_region 3 with fail
  clear c7
  refine wp_region_tail 2 (by kernel_rfl) (fun _ => none) (by kernel_rfl) (by kernel_rfl) (by decide) (fun i v x => match i with
    | 0 => v = .agg (nov (((11 : Nat) : Int) + 1) (some ⟨g4', 0, none⟩) 1 1 (some ⟨g4, 0, none⟩) 1 1)
    | 1 => v = .slice none 0 0
    | _ => True) (fun _ => false) (fun _ _ _ _ h => by cases h) ?_ ?_ ?_
  · intro i v x x' hR hb
    match i, hR with
    | 0, h => exact h
    | 1, h => exact h
    | m + 2, h => exact h
  · intro i o hi ho q x vals hX hdep hoth
    have t7 : q.tmps[7]? = some (.pointer (some ⟨nb7, 0, none⟩)) := by rw [hoth 7 (by kernel_rfl)]; rfl
    match i, hi, ho with
    | 0, _, ho =>
      simp only [List.getElem?_cons_zero, Option.some.injEq] at ho
      subst ho
      exact opw_loadNo _ rfl (by simp [Act.eval, t7]) (HN7.out.later hX) rfl (came _ rfl (Below.refl _ _) rfl (fun h => absurd h (by decide)))
    | 1, _, ho =>
      simp only [List.getElem?_cons_succ, List.getElem?_cons_zero, Option.some.injEq] at ho
      subst ho
      unfold Oper.wp
      simp [execOp, go_sem, ]
      exact came _ rfl (Below.refl _ _) rfl (fun h => absurd h (by decide))
    | m + 2, hi, _ => exact absurd hi (by omega)
  · intro vals x hX hR _
    have e1 : vals 0 = .agg (nov (((11 : Nat) : Int) + 1) (some ⟨g4', 0, none⟩) 1 1 (some ⟨g4, 0, none⟩) 1 1) := hR 0 (by decide)
    have e2 : vals 1 = .slice none 0 0 := hR 1 (by decide)
    have rx := hn5.later hX
    simp only [List.drop, List.take, putAll, List.setIfInBounds_toArray, List.set_cons_succ, List.set_cons_zero, e1, e2]
    clear e1 e2 hR
    go_wp2_with (refine wpL_storeNo rfl _ _ rfl rfl rfl rx ?_)
    have k4 := Ch.row (S := fun k => k = nb5) (Ch.refl _ x) (.inl rfl) (nov (((11 : Nat) : Int) + 1) (some ⟨g4', 0, none⟩) 1 1 (some ⟨g4, 0, none⟩) 1 1)
    have hn9 := NoR.ch (NoR.later (NoR.later HV.out.1 HB0.out.2.2) hX) k4 (fun s hs e => by have := HB0.out.2.1; have e' : s = nb5 := e; omega)
    have hn6 : NoR w.heap.size (some (bRedo, -1, 11)) (.agg (nov (((11 : Nat) : Int) + 1) (some ⟨g4', 0, none⟩) 1 1 (some ⟨g4, 0, none⟩) 1 1)) (x.setRow nb5 (nov (((11 : Nat) : Int) + 1) (some ⟨g4', 0, none⟩) 1 1 (some ⟨g4, 0, none⟩) 1 1)) := by
      obtain ⟨y, y', e1, e2, e3, e4, e5⟩ := hn9
      exact ⟨y, y', e1, Nat.le_trans HB0.out.1.size e2, Nat.le_trans HB0.out.1.size e3, e4, e5⟩
    exact bodyPost_ret (v := .tuple #[.slice none 0 0, .agg (nov (((11 : Nat) : Int) + 1) (some ⟨g4', 0, none⟩) 1 1 (some ⟨g4, 0, none⟩) 1 1)]) (results_tNo (fn := Tryd.f33) (t := 4) (u := 5) rfl rfl (rx.put (nov (((11 : Nat) : Int) + 1) (some ⟨g4', 0, none⟩) 1 1 (some ⟨g4, 0, none⟩) 1 1)) rfl) rfl ⟨_, rfl, hnb5 ▸ hn6, hnb5 ▸ below_row (bgo HB0.out.1 (bgo HV.out.2 (bgo HB0.out.2.2 hX))) (by omega) _⟩
set_option maxHeartbeats 2000000 in
theorem got_yes {ad : Nat → Addr} {w : World} {vl vm : Value} {xs : List Xg} (L : Laid ad w) (hl : RwX vl xs w) (hm : SlD w vm xs) (hx : xs.length ≤ 4398046510976)  :
    Calls Tryd.prog 34 #[vl, .nilIface, vm, .agg (nov 0 none 0 0 none 0 0)] w fun e w' => e = .returned (.bool true) ∧ Ch (fun k => vl.ownBlock = some k) w w' := by
  obtain ⟨al, cl, hv1, _⟩ := Rw.form hl
  obtain ⟨am, cm, hv2⟩ := hm.form
  have HS := hid_of' (And.intro hl (And.intro hm hx))
  generalize xs.length = nx at hv1 hv2
  subst hv1 hv2
  have HL := hid_of' L
  have r0 := row_new w (nov 0 none 0 0 none 0 0) 47
  have b0 := below_one w (.cells (nov 0 none 0 0 none 0 0) 47)
  clear L hl hm hx
  go_enter Tryd.func34, Tryd.ntmps34
  go_upto_region 1 with fail
  change Code.wp _ _ _ _ (w.alloc (.cells (nov 0 none 0 0 none 0 0) 47))
  generalize w.alloc (.cells (nov 0 none 0 0 none 0 0) 47) = X0 at r0 b0 ⊢
  generalize hnb5 : w.heap.size = nb5 at r0 ⊢
  have HC := hid_of' (changes_same (HS.out.1.later b0).sl (HS.out.2.1.later b0) (Nat.le_trans HS.out.2.2 (by decide)))
  go_upto_region 2 with (first | (go_at_call 20; (with_reducible refine HC.out.mono ?_); rintro e w1 ⟨rfl, hb1⟩; clear HC; have H1 := hid_of' hb1; have k0 : w1.cell? ⟨nb5, 0, none⟩ = some (.int .i64 0) := (r0.later hb1).cellIs 0 rfl; have k1 : w1.cell? ⟨nb5, 1, none⟩ = some (.slice none 0 0) := (r0.later hb1).cellIs 1 rfl; have k2 : w1.cell? ⟨nb5, 2, none⟩ = some (.slice none 0 0) := (r0.later hb1).cellIs 2 rfl; have HR := hid_of' (refused_is (M := 0) (M' := 0) (o := none) (HL.out.below (bgo b0 H1.out)) rfl rfl); clear hb1) | (go_at_call 16; refine HR.out.mono ?_; rintro e w2 ⟨rfl, hb2⟩; clear HR))
  have HB := hid_of' (bgo b0 (bgo H1.out hb2))
  have HP := hid_of' (spoil_is (HS.out.1.later HB.out) HS.out.2.2)
  clear k0 k1 k2 hb2 H1 r0 b0
  go_wp2_with (go_at_call 23; (with_reducible refine HP.out.mono ?_); rintro e w3 ⟨⟨z3, rfl⟩, hc3⟩; clear HP)
  go_ret
  exact ⟨rfl, (Ch.of HB.out).go hc3 (fun s q => .inl q)⟩
set_option maxHeartbeats 2000000 in
theorem got_no {ad : Nat → Addr} {w : World} {vl vm : Value} {xs : List Xg} (L : Laid ad w) (hl : RwX vl xs w) (hm : SlD w vm xs) (hx : xs.length ≤ 4398046510976) {b4 g4 g4' M M' : Nat} {cc : ByteArray} (he : ErrR ad M (some (cc, -1, 11)) (.iface 90 (.pointer (some ⟨b4, 0, none⟩))) w) (hno : NoR M' (some (cc, -1, 11)) (.agg (nov (((11 : Nat) : Int) + 1) (some ⟨g4', 0, none⟩) 1 1 (some ⟨g4, 0, none⟩) 1 1)) w) :
    Calls Tryd.prog 34 #[vl, .iface 90 (.pointer (some ⟨b4, 0, none⟩)), vm, .agg (nov (((11 : Nat) : Int) + 1) (some ⟨g4', 0, none⟩) 1 1 (some ⟨g4, 0, none⟩) 1 1)] w fun e w' => e = .returned (.bool true) ∧ Ch (fun k => vl.ownBlock = some k) w w' := by
  obtain ⟨al, cl, hv1, _⟩ := Rw.form hl
  obtain ⟨am, cm, hv2⟩ := hm.form
  have HS := hid_of' (And.intro hl (And.intro hm hx))
  generalize xs.length = nx at hv1 hv2
  subst hv1 hv2
  have HL := hid_of' L
  have r0 := row_new w (nov (((11 : Nat) : Int) + 1) (some ⟨g4', 0, none⟩) 1 1 (some ⟨g4, 0, none⟩) 1 1) 47
  have b0 := below_one w (.cells (nov (((11 : Nat) : Int) + 1) (some ⟨g4', 0, none⟩) 1 1 (some ⟨g4, 0, none⟩) 1 1) 47)
  clear L hl hm hx
  go_enter Tryd.func34, Tryd.ntmps34
  go_upto_region 1 with fail
  change Code.wp _ _ _ _ (w.alloc (.cells (nov (((11 : Nat) : Int) + 1) (some ⟨g4', 0, none⟩) 1 1 (some ⟨g4, 0, none⟩) 1 1) 47))
  generalize w.alloc (.cells (nov (((11 : Nat) : Int) + 1) (some ⟨g4', 0, none⟩) 1 1 (some ⟨g4, 0, none⟩) 1 1) 47) = X0 at r0 b0 ⊢
  generalize hnb5 : w.heap.size = nb5 at r0 ⊢
  have HC := hid_of' (changes_same (HS.out.1.later b0).sl (HS.out.2.1.later b0) (Nat.le_trans HS.out.2.2 (by decide)))
  go_upto_region 2 with (first | (go_at_call 20; (with_reducible refine HC.out.mono ?_); rintro e w1 ⟨rfl, hb1⟩; clear HC; have H1 := hid_of' hb1; have k0 : w1.cell? ⟨nb5, 0, none⟩ = some (.int .i64 12) := (r0.later hb1).cellIs 0 rfl; have k1 : w1.cell? ⟨nb5, 1, none⟩ = some (.slice (some ⟨g4', 0, none⟩) 1 1) := (r0.later hb1).cellIs 1 rfl; have k2 : w1.cell? ⟨nb5, 2, none⟩ = some (.slice (some ⟨g4, 0, none⟩) 1 1) := (r0.later hb1).cellIs 2 rfl; have HR := hid_of' (refused_is (HL.out.below (bgo b0 H1.out)) ((he.later b0).later H1.out) ((hno.later b0).later H1.out)); clear hb1) | (go_at_call 16; refine HR.out.mono ?_; rintro e w2 ⟨rfl, hb2⟩; clear HR))
  have HB := hid_of' (bgo b0 (bgo H1.out hb2))
  have HP := hid_of' (spoil_is (HS.out.1.later HB.out) HS.out.2.2)
  clear k0 k1 k2 hb2 H1 r0 b0
  go_wp2_with (go_at_call 23; (with_reducible refine HP.out.mono ?_); rintro e w3 ⟨⟨z3, rfl⟩, hc3⟩; clear HP)
  go_ret
  exact ⟨rfl, (Ch.of HB.out).go hc3 (fun s q => .inl q)⟩
end Go.Proofs.YtgkbgojgpomcdaaDoor
