
/-
  barrowlaw15.DiffApply holds of any texts and edits.
-/
import Derived.Test.YtaimmjoekahleaaDoorZa48
import Derived.Test.YtaimmjoekahleaaDoorZa49
import Derived.Test.YtaimmjoekahleaaDoorZa50
namespace Go.Proofs.YtaimmjoekahleaaDoor
open Go.RowKit Go.Extern.Stop Go.Stop Go.Extern
set_option maxRecDepth 100000

theorem NoR.form {M : Nat} {o : Rf} {v : Value} {w : World} (h : NoR M o v w) : ∃ q p n c p' n' c', v = .agg (nov q p n c p' n' c') := by
  match o, h with
  | none, h => exact ⟨_, _, _, _, _, _, _, h⟩
  | some (_, _, _), ⟨_, _, h1, _⟩ => exact ⟨_, _, _, _, _, _, _, h1⟩
theorem ErrR.ch {ad : Nat → Addr} {M : Nat} {o : Rf} {v : Value} {S : Nat → Prop} {w w' : World} (h : ErrR ad M o v w) (c : Ch S w w') (hS : ∀ s, M ≤ s → ¬ S s) : ErrR ad M o v w' := by
  match o, h with
  | none, h => exact h
  | some (_, _, _), ⟨b, h1, h2, h3, h4⟩ => exact ⟨b, h1, h2, h3, c.heap h4 (hS b h2)⟩
theorem wpL_litE {ops : Array Oper} {rest : List Oper} {o : Oper} {A : Act} {w : World} {Q : Exit → Act → World → Prop} (hgd : o.guard = none) (ho : o.op = .buildSlice 22 0 #[])
    (k : ∀ g x, RwE (.slice (some ⟨g, 0, none⟩) 0 0) [] x → w.heap.size ≤ g → Below w.heap.size w x → wpList Tryd.prog ops Q rest (A.put o.dst (.slice (some ⟨g, 0, none⟩) 0 0)) x) : wpList Tryd.prog ops Q (o :: rest) A w := by
  refine wpList_plain hgd fun _ hK => ?_
  have hk := k w.heap.size (w.alloc (.cells #[] 46)) ⟨by simp [fc], .inr ⟨w.heap.size, 0, #[], rfl, heap_alloc_new w _, Nat.le_refl _, Nat.zero_le _, by simp, by simp [fc]⟩⟩ (Nat.le_refl _) (below_one _ _)
  unfold Oper.wp
  simp [execOp, ho, go_sem]
  exact hK _ _ hk
set_option maxHeartbeats 8000000 in
theorem apply_law {ad : Nat → Addr} {w : World} (L : Laid ad w) (U : U8 w) (a b c : ByteArray) {lv : Value} {l : List Edt} (hs : SlT w lv l) (hz : ∀ e ∈ l, e.ins.size ≤ maxLen) (ha : a.size ≤ 9223372036854775807)
    (s : ByteArray) (es : List Edt) (hel : es.length ≤ 1000000000) (oA oI : Rf)
    (hA : ∀ x v, Below w.heap.size w x → RwE v (cutL l) x → Calls Tryd.prog 6 #[.string (clB a), v] x fun e w' => ∃ z, e = .returned (.tuple #[.string s, z]) ∧ ErrR ad x.heap.size oA z w' ∧ Below x.heap.size x w')
    (hRA : ∀ x v, RwE v (cutL l) x → Calls Tryd.prog 7 #[.string (clB a), v] x fun e w' => ∃ z, e = .returned (.tuple #[.string s, z]) ∧ NoR x.heap.size oA z w' ∧ Below x.heap.size x w')
    (hI : ∀ x v, Below w.heap.size w x → RwE v (cutL l) x → Calls Tryd.prog 10 #[.string (clB a), v] x fun e w' => ∃ u z, e = .returned (.tuple #[u, z]) ∧ RwE u es w' ∧ ErrR ad x.heap.size oI z w' ∧ Below x.heap.size x w')
    (hRI : ∀ x v, RwE v (cutL l) x → Calls Tryd.prog 11 #[.string (clB a), v] x fun e w' => ∃ u z, e = .returned (.tuple #[u, z]) ∧ RwE u es w' ∧ NoR x.heap.size oI z w' ∧ Below x.heap.size x w') :
    Calls Tryd.prog 3 #[.agg #[.string a, .string b, .string c, lv]] w fun e w' => e = .returned (.bool true) ∧ Below w.heap.size w w' := by
  have HCa := hid_of' (fun x => clip_b a ha x)
  have HCt := hid_of' (fun (x : World) (hx : Below w.heap.size w x) => (cut_ok (hs.later hx) hz).mono fun _ _ ⟨u, q1, q2, _, q4⟩ => (⟨u, q1, q2, q4⟩ : ∃ u, _ = Ending.returned u ∧ RwE u (cutL l) _ ∧ Below x.heap.size x _))
  have sl := cutL_len l
  generalize clB a = a1 at HCa hA hRA hI hRI
  generalize cutL l = l1 at HCt sl hA hRA hI hRI
  obtain ⟨al, nl, cl, rfl⟩ : ∃ al nl cl, lv = .slice al nl cl := by obtain ⟨x, y, h⟩ := hs.form; exact ⟨_, _, _, h⟩
  replace hA := hid_of' hA
  replace hRA := hid_of' hRA
  replace hI := hid_of' hI
  replace hRI := hid_of' hRI
  have HL := hid_of' hel
  have HE := hid_of' (L.env U)
  have HSL := hid_of' sl
  replace L := hid_of' L
  clear U hel ha hs hz sl
  go_enter Tryd.func3, Tryd.ntmps3
  go_upto_region 1 with fail
  have r0 := RowAt.new w #[.string a, .string b, .string c, .slice al nl cl] 24
  have b0 := below_one w (.cells #[.string a, .string b, .string c, .slice al nl cl] 24)
  obtain ⟨X, hXe⟩ : ∃ X, X = w.heap.size := ⟨_, rfl⟩
  rw [← hXe] at r0 ⊢
  generalize w.alloc (.cells #[.string a, .string b, .string c, .slice al nl cl] 24) = W0 at r0 b0 ⊢
  refine wp_region_tail 6 (by kernel_rfl) (fun _ => none) (by kernel_rfl) (by kernel_rfl) (by decide) (fun i v x => match i with
    | 0 => v = .pointer (some ⟨X, 0, none⟩)
    | 1 => v = .string a
    | 2 => v = .string a1
    | 3 => v = .pointer (some ⟨X, 3, none⟩)
    | 4 => v = .slice al nl cl
    | 5 => RwE v l1 x
    | _ => True) (fun _ => false) (fun _ _ _ _ h => by cases h) ?_ ?_ ?_
  · intro i v x x' hR hb
    match i, hR with
    | 0, h => exact h
    | 1, h => exact h
    | 2, h => exact h
    | 3, h => exact h
    | 4, h => exact h
    | 5, h => exact h.later hb
    | m + 6, h => exact h
  · intro i o hi ho q x vals hX hdep hoth
    have t1 : q.tmps[1]? = some (.pointer (some ⟨X, 0, none⟩)) := by rw [hoth 1 (by kernel_rfl)]; rfl
    match i, hi, ho with
    | 0, _, ho =>
      simp only [List.getElem?_cons_zero, Option.some.injEq] at ho
      subst ho
      unfold Oper.wp
      simp [execOp, go_sem, t1]
      exact came _ rfl (Below.refl _ _) rfl (fun h => absurd h (by decide))
    | 1, _, ho =>
      simp only [List.getElem?_cons_succ, List.getElem?_cons_zero, Option.some.injEq] at ho
      subst ho
      obtain ⟨u0, e0⟩ := hdep ⟨0, .data⟩ (by simp) rfl _ 12 rfl rfl
      rw [show vals 0 = .pointer (some ⟨X, 0, none⟩) from e0] at u0
      have cc : x.cell? ⟨X, 0, none⟩ = some (.string a) := (r0.later hX).is rfl
      unfold Oper.wp
      simp [execOp, go_sem, u0, cc]
      exact came _ rfl (Below.refl _ _) rfl (fun h => absurd h (by decide))
    | 2, _, ho =>
      simp only [List.getElem?_cons_succ, List.getElem?_cons_zero, Option.some.injEq] at ho
      subst ho
      obtain ⟨u1, e1⟩ := hdep ⟨1, .data⟩ (by simp) rfl _ 13 rfl rfl
      rw [show vals 1 = .string a from e1] at u1
      unfold Oper.wp
      simp [go_sem, u1]
      refine (HCa.out x).mono ?_
      rintro r x1 ⟨rfl, hb1⟩
      exact came _ rfl hb1 rfl (fun h => absurd h (by decide))
    | 3, _, ho =>
      simp only [List.getElem?_cons_succ, List.getElem?_cons_zero, Option.some.injEq] at ho
      subst ho
      unfold Oper.wp
      simp [execOp, go_sem, t1]
      exact came _ rfl (Below.refl _ _) rfl (fun h => absurd h (by decide))
    | 4, _, ho =>
      simp only [List.getElem?_cons_succ, List.getElem?_cons_zero, Option.some.injEq] at ho
      subst ho
      obtain ⟨u3, e3⟩ := hdep ⟨3, .data⟩ (by simp) rfl _ 15 rfl rfl
      rw [show vals 3 = .pointer (some ⟨X, 3, none⟩) from e3] at u3
      have cc : x.cell? ⟨X, 3, none⟩ = some (.slice al nl cl) := (r0.later hX).is rfl
      unfold Oper.wp
      simp [execOp, go_sem, u3, cc]
      exact came _ rfl (Below.refl _ _) rfl (fun h => absurd h (by decide))
    | 5, _, ho =>
      simp only [List.getElem?_cons_succ, List.getElem?_cons_zero, Option.some.injEq] at ho
      subst ho
      obtain ⟨u4, e4⟩ := hdep ⟨4, .data⟩ (by simp) rfl _ 16 rfl rfl
      rw [show vals 4 = .slice al nl cl from e4] at u4
      unfold Oper.wp
      simp [go_sem, u4]
      refine (HCt.out x (bgo b0 hX)).mono ?_
      rintro r x1 ⟨u9, rfl, hu9, hb1⟩
      exact came _ rfl hb1 hu9 (fun h => absurd h (by decide))
    | m + 6, hi, _ => exact absurd hi (by omega)
  · intro vals W1 hX hR _
    have f0 : vals 0 = .pointer (some ⟨X, 0, none⟩) := hR 0 (by decide)
    have f1 : vals 1 = .string a := hR 1 (by decide)
    have f2 : vals 2 = .string a1 := hR 2 (by decide)
    have f3 : vals 3 = .pointer (some ⟨X, 3, none⟩) := hR 3 (by decide)
    have f4 : vals 4 = .slice al nl cl := hR 4 (by decide)
    have h5 : RwE (vals 5) l1 W1 := hR 5 (by decide)
    obtain ⟨a5, c5, f5, _⟩ := Rw.form h5
    rw [f5] at h5
    simp only [List.drop, List.take, putAll, List.setIfInBounds_toArray, List.set_cons_succ, List.set_cons_zero, f0, f1, f2, f3, f4, f5]
    clear f0 f1 f2 f3 f4 f5 hR
    have H1 := hid_of' (And.intro h5 (bgo b0 hX))
    clear h5 hX r0 b0 hXe
    have hl1 : ([] : List Edt).length + l1.length ≤ 4398046511104 := by have := HSL.out; simp only [List.length_nil]; omega
    go_upto_region 3 with (first
      | (refine wpL_litE rfl rfl ?_; intro g2 x2 q1 q2 q3; have H2 := hid_of' (And.intro q1 (And.intro q2 q3)); clear q1 q2 q3)
      | (at_builtin; refine wpL_appE (m := l1) rfl _ _ rfl rfl rfl H2.out.1 (H1.out.1.later H2.out.2.2).so hl1 ?_; intro v5 w2 q1 q2 q3; have H3 := hid_of' (And.intro (show RwE v5 l1 w2 from q1) (H2.out.2.2.grown q2 H2.out.2.2.size (fun g hg => by cases hg; exact H2.out.2.1))); clear q1 q2 q3))
    clear hl1
    obtain ⟨a6, c6, e6, _⟩ := Rw.form H3.out.1
    subst e6
    have H4 := hid_of' (And.intro H3.out.1 (And.intro (H1.out.1.later H3.out.2) (bgo H1.out.2 H3.out.2)))
    clear H1 H2 H3
    go_upto_region 4 with (go_at_call 6; (with_reducible refine (hA.out w2 _ H4.out.2.2 H4.out.1).mono ?_); rintro e w3 ⟨z1, rfl, e1, b3⟩; have H5 := hid_of' (And.intro e1 b3); clear e1 b3)
    go_upto_region 5 with (first | (go_at_call 7; (with_reducible refine (hRA.out w3 _ (H4.out.2.1.later H5.out.2)).mono ?_); rintro e w4 ⟨u1, rfl, n1, b4⟩; have H6 := hid_of' (And.intro n1 b4); obtain ⟨q1, p1, m1, k1, p2, m2, k2, rfl⟩ := n1.form; clear n1 b4) | (refine wpL_storeNo rfl _ _ rfl rfl rfl (RowAt.new w4 _ _) ?_))
    have r8 := (RowAt.new w4 (nov 0 none 0 0 none 0 0) 34).put (nov q1 p1 m1 k1 p2 m2 k2)
    have b8 := below_row (below_one w4 (.cells (nov 0 none 0 0 none 0 0) 34)) (Nat.le_refl _) (nov q1 p1 m1 k1 p2 m2 k2)
    change Code.wp _ _ _ _ ((w4.alloc (.cells (nov 0 none 0 0 none 0 0) 34)).setRow w4.heap.size (nov q1 p1 m1 k1 p2 m2 k2))
    generalize (w4.alloc (.cells (nov 0 none 0 0 none 0 0) 34)).setRow w4.heap.size (nov q1 p1 m1 k1 p2 m2 k2) = W5 at r8 b8 ⊢
    have B25 : Below w2.heap.size w2 W5 := bgo (bgo H5.out.2 H6.out.2) b8
    have HB5 := hid_of' (And.intro (bgo H4.out.2.2 B25) (And.intro (H4.out.1.later B25) (H4.out.2.1.later B25)))
    have HNb := hid_of' (show w.heap.size ≤ w4.heap.size from (bgo H4.out.2.2 (bgo H5.out.2 H6.out.2)).size)
    have HR1 := hid_of' (refused_is (L.out.below HB5.out.1) (H5.out.1.later (bgo H6.out.2 b8)) (H6.out.1.later b8))
    have HK1 := hid_of' (fun (x : World) (hx : Below W5.heap.size W5 x) => keepEdits_is (HB5.out.2.1.later hx) (HB5.out.2.2.later hx) (by have := HSL.out; omega))
    generalize hnb : w4.heap.size = nb at r8 HNb ⊢
    have HN8 := hid_of' r8
    clear r8 b8 B25 H5 H6 H4 hnb
    go_upto_region 7 with (first | (refine opw_loadNo _ rfl rfl HN8.out rfl ?_) | (go_at_call 8; (with_reducible refine HR1.out.mono ?_); rintro e w6 ⟨rfl, b6⟩; have HB6 := hid_of' b6; clear b6 HR1) | (go_at_call 9; (with_reducible refine (HK1.out _ HB6.out).mono ?_); rintro e w7 ⟨rfl, b7⟩; have HB7 := hid_of' (bgo HB6.out b7); clear b7 HK1))
    have HX7 := hid_of' (And.intro (bgo HB5.out.1 HB7.out) (And.intro (HB5.out.2.1.later HB7.out) (And.intro (HB5.out.2.2.later HB7.out) (HN8.out.later HB7.out))))
    clear HB5 HB6 HB7 HN8
    go_upto_region 8 with (go_at_call 10; (with_reducible refine (hI.out w7 _ HX7.out.1 HX7.out.2.1).mono ?_); rintro e w8 ⟨x1, z2, rfl, hx1, e2, b8⟩; obtain ⟨a8, c8, hx1f, _⟩ := Rw.form hx1; subst hx1f; have H8 := hid_of' (And.intro hx1 (And.intro e2 b8)); clear hx1 e2 b8)
    go_upto_region 9 with (first | (go_at_call 11; (with_reducible refine (hRI.out w8 _ (HX7.out.2.2.1.later H8.out.2.2)).mono ?_); rintro e w9 ⟨x2, u2, rfl, hx2, n2, b9⟩; obtain ⟨a9, c9, hx2f, _⟩ := Rw.form hx2; subst hx2f; have H9 := hid_of' (And.intro hx2 (And.intro n2 b9)); obtain ⟨q3, p3, m3, k3, p4, m4, k4, rfl⟩ := n2.form; clear hx2 n2 b9; have R9 := hid_of' (HX7.out.2.2.2.later (bgo H8.out.2.2 H9.out.2.2))) | (refine wpL_storeNo rfl _ _ rfl rfl rfl R9.out ?_))
    have k7 := Ch.row (S := fun k => k = nb) (Ch.refl _ w9) (.inl rfl) (nov q3 p3 m3 k3 p4 m4 k4)
    have hx1 := Rw.ch (H8.out.1.later H9.out.2.2) k7 (rw_apart (H8.out.1.later H9.out.2.2) R9.out (by decide))
    have hx2 := Rw.ch H9.out.1 k7 (rw_apart H9.out.1 R9.out (by decide))
    have B79 : Below w7.heap.size w7 w9 := bgo H8.out.2.2 H9.out.2.2
    have hx3 := Rw.ch (HX7.out.2.1.later B79) k7 (rw_apart (HX7.out.2.1.later B79) R9.out (by decide))
    have hx4 := Rw.ch (HX7.out.2.2.1.later B79) k7 (rw_apart (HX7.out.2.2.1.later B79) R9.out (by decide))
    have l4 := HX7.out.2.2.2.lt
    have l5 := (HX7.out.2.2.2.later H8.out.2.2).lt
    have e7 := (H8.out.2.1.later H9.out.2.2).ch k7 (fun s hs => by omega)
    have n7 := H9.out.2.1.ch k7 (fun s hs => by omega)
    have r7 := R9.out.put (nov q3 p3 m3 k3 p4 m4 k4)
    have b7 := below_row (bgo HX7.out.1 B79) HNb.out (nov q3 p3 m3 k3 p4 m4 k4)
    change Code.wp _ _ _ _ (w9.setRow nb (nov q3 p3 m3 k3 p4 m4 k4))
    generalize w9.setRow nb (nov q3 p3 m3 k3 p4 m4 k4) = W10 at hx1 hx2 hx3 hx4 e7 n7 r7 b7 ⊢
    have HB10 := hid_of' b7
    have HK2 := hid_of' (keepEdits_is hx1 hx2 HL.out)
    have HK3 := hid_of' (fun (x : World) (h : Below W10.heap.size W10 x) => keepEdits_is (Rw.later hx3 h) (Rw.later hx4 h) (by have := HSL.out; omega))
    have HR2 := hid_of' (fun (x : World) (h : Below W10.heap.size W10 x) => refused_is (L.out.below (bgo b7 h)) (e7.later h) (n7.later h))
    have HN10 := hid_of' r7
    have HWk := hid_of' (fun (x : World) (h : Below W10.heap.size W10 x) => wakes_is (HE.out.later (bgo b7 h)))
    clear k7 hx1 hx2 hx3 hx4 B79 l4 l5 e7 n7 r7 b7 H8 H9 R9 HX7
    go_wp2_with (first
      | (go_at_call 9; first
        | ((with_reducible refine HK2.out.mono ?_); rintro e w11 ⟨rfl, b11⟩; have HB11 := hid_of' b11; clear b11 HK2; have d0 : w11.cell? ⟨nb, 0, none⟩ = some (.int .i64 q3) := (HN10.out.later HB11.out).is rfl; have d1 : w11.cell? ⟨nb, 1, none⟩ = some (.slice p3 m3 k3) := (HN10.out.later HB11.out).is rfl; have d2 : w11.cell? ⟨nb, 2, none⟩ = some (.slice p4 m4 k4) := (HN10.out.later HB11.out).is rfl; have HR3 := hid_of' (HR2.out _ HB11.out); unfold nov at HR3)
        | ((with_reducible refine (HK3.out _ HB12.out).mono ?_); rintro e w13 ⟨rfl, b13⟩; have HB13 := hid_of' (bgo HB12.out b13); clear b13 HK3))
      | (go_at_call 8; (with_reducible refine HR3.out.mono ?_); rintro e w12 ⟨rfl, b12⟩; have HB12 := hid_of' (bgo HB11.out b12); clear b12 HR3)
      | (go_at_call 12; (with_reducible refine (HWk.out _ HB13.out).mono ?_); rintro e w14 ⟨rfl, b14⟩))
    go_ret
    exact ⟨rfl, bgo (bgo HB10.out HB13.out) b14⟩
theorem Sml.of (l : List Edt) : Sml (cutL l) := ⟨by have := cutL_len l; omega, fun e he => by have := cutL_small l e he; omega⟩
theorem pfW_code {a : ByteArray} {l : List Edt} {i : Int} {k : Nat} (h : pfW a l = some (i, k)) : k = 1 ∨ k = 2 := by
  unfold pfW at h
  split at h
  · cases h
    exact .inr rfl
  · split at h
    · next hc =>
      cases h
      have : ∀ (m : List Edt) (n : Nat) (ys : List Int) (x : Nat × Nat), ckL n ys m = some x → x.2 = 1 ∨ x.2 = 2 := by
        intro m
        induction m with
        | nil => intro n ys x hx; cases hx
        | cons e m ih =>
          intro n ys x hx
          rw [ckL] at hx
          split at hx
          · next c' hc' =>
            cases hx
            rcases ckE_lt hc' with q | q
            · exact .inl q.1
            · exact .inr q.1
          · exact ih _ _ _ hx
      exact this _ _ _ _ hc
    · cases h
/-- The document's apply, refused. -/
theorem rapply_no (x : World) (c a : ByteArray) {v : Value} {l : List Edt} (hl : RwE v l x) (ha : a.size ≤ 120) (hsm : l.length ≤ 30 ∧ ∀ e ∈ l, e.ins.size ≤ 40) {i : Int} {k : Nat} (h : pfW a l = some (i, k)) :
    Calls Tryd.prog 14 #[.string c, .string a, v] x fun e w' => ∃ z, e = .returned (.tuple #[.slice none 0 0, .slice none 0 0, z]) ∧ NoR x.heap.size (some (c, i, k)) z w' ∧ Below x.heap.size x w' := by
  cases hv : Lib.validD a.data.toList
  · unfold pfW at h
    rw [if_pos hv] at h
    cases h
    exact rapply_bad x c a hl ha hv
  · unfold pfW at h
    rw [if_neg (by rw [hv]; decide)] at h
    refine (rapply_is x c a hl ha hv hsm).mono fun e w' q => ?_
    unfold RfQ at q
    cases hc : ckL 0 (rn a.data.toList) l with
    | none => rw [hc] at h; cases h
    | some kc =>
      obtain ⟨k, cc⟩ := kc
      rw [hc] at h q
      cases h
      exact q
theorem rapply_ok (x : World) (c a : ByteArray) {v : Value} {l : List Edt} (hl : RwE v l x) (ha : a.size ≤ 120) (hsm : l.length ≤ 30 ∧ ∀ e ∈ l, e.ins.size ≤ 40) (h : pfW a l = none) :
    Calls Tryd.prog 14 #[.string c, .string a, v] x fun e w' => ∃ t b, e = .returned (.tuple #[t, b, .agg (nov 0 none 0 0 none 0 0)]) ∧ RwR t (apL (rn a.data.toList) l) w' ∧ RwE b (ivL (rn a.data.toList) l) w' ∧ Below x.heap.size x w' := by
  obtain ⟨hv, hc⟩ := pfW_ok h
  refine (rapply_is x c a hl ha hv hsm).mono fun e w' q => ?_
  unfold RfQ at q
  rw [hc] at q
  exact q
theorem apL_len : ∀ (l : List Edt) (k : Nat) (xs : List Int), ckL k xs l = none → (∀ e ∈ l, e.ins.size ≤ 40) → (apL xs l).length ≤ xs.length + 40 * l.length
  | [], _, _, _, _ => by simp [apL]
  | e :: l, k, xs, h, hs => by
    obtain ⟨h1, h2⟩ := ckL_cons h
    have hl := apE_le h1
    have he := hs e (List.mem_cons_self ..)
    have i1 := apL_len l (k + 1) (apE xs e) h2 (fun x hx => hs x (List.mem_cons_of_mem _ hx))
    rw [apL, List.length_cons]
    omega
theorem diffApply_all {ad : Nat → Addr} {w : World} (L : Laid ad w) (U : U8 w) (a b c : ByteArray) {lv : Value} {l : List Edt} (hs : SlT w lv l) (hz : ∀ e ∈ l, e.ins.size ≤ maxLen) (ha : a.size ≤ 9223372036854775807) :
    Calls Tryd.prog 3 #[.agg #[.string a, .string b, .string c, lv]] w fun e w' => e = .returned (.bool true) ∧ Below w.heap.size w w' := by
  have E : Env3 ad w := ⟨L.env U, L.var 1 (by omega)⟩
  have sa := clB_size a
  have sa6 : (clB a).size ≤ 1000000 := by omega
  have hsm : (cutL l).length ≤ 30 ∧ ∀ e ∈ cutL l, e.ins.size ≤ 40 := ⟨cutL_len l, cutL_small l⟩
  have hS := Sml.of l
  cases hp : pfW (clB a) (cutL l) with
  | some ik =>
    obtain ⟨i, k⟩ := ik
    have t0 : tx [] = .empty := rfl
    have hk := pfW_code hp
    refine apply_law L U a b c hs hz ha .empty [] (Nat.zero_le _) (some (bApply, i, k)) (some (bInvert, i, k)) ?_ ?_ ?_ ?_
    · intro x v hx hv
      exact apply_no (E.later hx) _ hv sa6 hS hp
    · intro x v hv
      obtain ⟨o1, c1, hv1, _⟩ := Rw.form hv
      subst hv1
      rw [← t0]
      refine rApply_of x (clB a) _ _ _ [] _ (fun r hr => by cases hr) (Nat.zero_le _) fun x' hx' => ?_
      refine (rapply_no x' bApply (clB a) (hv.later hx') sa hsm hp).mono ?_
      rintro e w' ⟨z, rfl, hn, hb⟩
      obtain ⟨q, p, n, c', p', n', c2, rfl⟩ := hn.form
      exact ⟨_, _, _, _, _, _, _, _, _, rfl, RwR.nil _, ⟨_, _, _, rfl⟩, hn, hb⟩
    · intro x v hx hv
      refine (invert_no (E.later hx) _ hv sa6 hS hp).mono ?_
      rintro e w' ⟨z, rfl, h1, h2⟩
      exact ⟨_, z, rfl, RwE.nil _, h1, h2⟩
    · intro x v hv
      obtain ⟨o1, c1, hv1, _⟩ := Rw.form hv
      subst hv1
      refine (rInvert_no x (clB a) _ _ _ (some (bInvert, i, k)) fun x' hx' => ?_).mono ?_
      · refine (rapply_no x' bInvert (clB a) (hv.later hx') sa hsm hp).mono ?_
        rintro e w' ⟨z, rfl, hn, hb⟩
        obtain ⟨g, g', h1, h2⟩ := hn
        subst h1
        exact ⟨_, _, _, _, _, _, _, _, _, rfl, ⟨_, _, _, rfl⟩, ⟨_, _, _, rfl⟩, by omega, ⟨g, g', rfl, h2⟩, hb⟩
      · rintro e w' ⟨z, rfl, h1, h2⟩
        exact ⟨_, z, rfl, RwE.nil _, h1, h2⟩
  | none =>
    obtain ⟨hva, hck⟩ := pfW_ok hp
    have hru := apL_ru (cutL l) 0 _ (rn_ru _ _ (Nat.le_refl _) hva) hck
    have hrl := Nat.le_trans (rn_len (clB a).data.toList) (show (clB a).data.toList.length ≤ 120 by rw [Array.length_toList]; exact sa)
    have hal := apL_len (cutL l) 0 _ hck hsm.2
    have hil := ivL_len (cutL l) (rn (clB a).data.toList)
    refine apply_law L U a b c hs hz ha (tx (apL (rn (clB a).data.toList) (cutL l))) (ivL (rn (clB a).data.toList) (cutL l)) (by have := hsm.1; omega) none none ?_ ?_ ?_ ?_
    · intro x v hx hv
      exact (apply_ok (E.later hx) _ hv sa6 hS hp).mono fun _ _ ⟨h1, h2⟩ => ⟨_, h1, rfl, h2⟩
    · intro x v hv
      obtain ⟨o1, c1, hv1, _⟩ := Rw.form hv
      subst hv1
      refine rApply_of x (clB a) _ _ _ _ none hru (by have := hsm.1; omega) fun x' hx' => ?_
      refine (rapply_ok x' bApply (clB a) (hv.later hx') sa hsm hp).mono ?_
      rintro e w' ⟨t, b, rfl, h1, h2, hb⟩
      obtain ⟨o2, c2, hv2, _⟩ := Rw.form h2
      exact ⟨_, _, _, _, _, _, _, _, _, rfl, h1, ⟨_, _, _, hv2⟩, rfl, hb⟩
    · intro x v hx hv
      exact (invert_ok (E.later hx) _ hv sa6 hS hp).mono fun _ _ ⟨u, h1, h2, h3⟩ => ⟨u, _, h1, h2, rfl, h3⟩
    · intro x v hv
      obtain ⟨o1, c1, hv1, _⟩ := Rw.form hv
      subst hv1
      refine rInvert_ok x (clB a) _ _ _ _ fun x' hx' => ?_
      refine (rapply_ok x' bInvert (clB a) (hv.later hx') sa hsm hp).mono ?_
      rintro e w' ⟨t, b, rfl, h1, h2, hb⟩
      obtain ⟨o2, c2, hv2, _⟩ := h1.form
      exact ⟨_, _, rfl, ⟨_, _, _, hv2⟩, h2, rfl, hb⟩
end Go.Proofs.YtaimmjoekahleaaDoor
