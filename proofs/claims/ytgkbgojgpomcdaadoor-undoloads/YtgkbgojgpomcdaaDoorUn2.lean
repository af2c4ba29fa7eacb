
/-
  barrowref13.Back, Again.
-/
import Derived.Test.YtgkbgojgpomcdaaDoorUn1
namespace Go.Proofs.YtgkbgojgpomcdaaDoor
open Go.RowKit Go.Extern.Stop Go.Stop Go.Extern
set_option maxRecDepth 100000

theorem wrapIs {n : Int} (h1 : -9223372036854775808 ≤ n) (h2 : n ≤ 9223372036854775807) : wrap64 n = n := by
  unfold wrap64
  omega
theorem turnR_yes {t : Int → Int} {l : List Xg} {j : Nat} {e : Xg} (h : l[j]? = some e) (hk : okK e.k = true) : turnL t (l.drop j).reverse = turnL t (l.drop (j + 1)).reverse ++ [⟨t e.k, e.a, e.b, e.c⟩] := by
  obtain ⟨hj, rfl⟩ := List.getElem?_eq_some_iff.1 h
  rw [List.drop_eq_getElem_cons hj, List.reverse_cons, turnL_app]
  simp [turnL, hk]
theorem turnR_no {t : Int → Int} {l : List Xg} {j : Nat} {e : Xg} (h : l[j]? = some e) (hk : okK e.k = false) : turnL t (l.drop j).reverse = turnL t (l.drop (j + 1)).reverse := by
  obtain ⟨hj, rfl⟩ := List.getElem?_eq_some_iff.1 h
  rw [List.drop_eq_getElem_cons hj, List.reverse_cons, turnL_app]
  simp [turnL, hk]
theorem turnL_rev (t : Int → Int) : ∀ l : List Xg, turnL t l.reverse = (turnL t l).reverse
  | [] => rfl
  | e :: l => by
    rw [List.reverse_cons, turnL_app, turnL_rev t l]
    simp only [turnL]
    split
    · rw [List.reverse_cons]
    · simp
set_option maxHeartbeats 4000000 in
theorem refBack_ok {w : World} {v : Value} {l : List Xg} (h : SlD w v l) (hl : l.length ≤ 4398046510976) :
    Calls Tryd.prog 21 #[v] w fun e w' => ∃ u, e = .returned u ∧ NwX w.heap.size u (turnL (tT 2 3 2) l.reverse) w' ∧ Below w.heap.size w w' := by
  obtain ⟨a, c, rfl⟩ := h.form
  have ht0 := (row_new w #[.int .i64 0, .int .i64 0, .int .i64 0, .int .i64 0] 85).put #[.int .i64 0, .int .i64 2, .int .i64 3, .int .i64 2]
  have hb0 := below_row (below_one w (.cells #[.int .i64 0, .int .i64 0, .int .i64 0, .int .i64 0] 85)) (Nat.le_refl _) #[.int .i64 0, .int .i64 2, .int .i64 3, .int .i64 2]
  have HD := hid_of' h
  have ew : wrap64 ((l.length : Int) - 1) = (l.length : Int) - 1 := wrapIs (by omega) (by omega)
  clear h
  go_enter Tryd.func21, Tryd.ntmps21
  go_upto_region 2 with (refine wpList_store_row rfl _ _ _ rfl w.heap.size #[.int .i64 0, .int .i64 2, .int .i64 3, .int .i64 2] rfl rfl _ _ (row_new w _ _) (by kernel_rfl) rfl (by simp [Value.oneCell']) ?_)
  change Code.wp _ _ _ _ ((w.alloc (.cells #[.int .i64 0, .int .i64 0, .int .i64 0, .int .i64 0] 85)).setRow w.heap.size #[.int .i64 0, .int .i64 2, .int .i64 3, .int .i64 2])
  generalize (w.alloc (.cells #[.int .i64 0, .int .i64 0, .int .i64 0, .int .i64 0] 85)).setRow w.heap.size #[.int .i64 0, .int .i64 2, .int .i64 3, .int .i64 2] = W0 at ht0 hb0 ⊢
  generalize htb : w.heap.size = tb at ht0 ⊢
  go_upto_region 4 with fail
  go_loopw [4, 5] (fun ov iv wr => ∃ k : Nat, iv = .int .i64 ((k : Int) - 1) ∧ k ≤ l.length ∧ NwX (tb + 1) ov (turnL (tT 2 3 2) (l.drop k).reverse) wr ∧ RowAt tb #[.int .i64 0, .int .i64 2, .int .i64 3, .int .i64 2] 85 wr ∧ Below w.heap.size w wr) (fun _ iv _ => (intOf iv + 1).toNat)
  case atStart => exact ⟨l.length, rfl, Nat.le_refl _, by rw [List.drop_length]; exact ⟨RwX.nil _, fun k hk => by cases hk⟩, ht0, hb0⟩
  case round =>
    obtain ⟨k, rfl, hk, hO, ht, hB⟩ := hrel
    match k, hk, hO with
    | j + 1, hk, hO =>
      have hjn : j < l.length := by omega
      have hji : (j : Int) < (l.length : Int) := by omega
      have hj0 : 0 ≤ (j : Int) := by omega
      have ej : ((j + 1 : Nat) : Int) - 1 = (j : Int) := by omega
      rw [ej]
      clear ej
      obtain ⟨e, he⟩ : ∃ e, l[j]? = some e := ⟨_, List.getElem?_eq_getElem hjn⟩
      obtain ⟨_, g, o_, rfl, hcell⟩ := (HD.out).some' (by rintro rfl; simp at hjn)
      have hce := (hcell j e he).later hB
      have c0 := g_kind hce
      have hOl : (turnL (tT 2 3 2) (l.drop (j + 1)).reverse).length ≤ 4398046510976 := by
        have := turnL_len (tT 2 3 2) (l.drop (j + 1)).reverse
        simp only [List.length_reverse, List.length_drop] at this
        omega
      clear hcell
      obtain ⟨aO, cO, rfl, _⟩ := Rw.form hO.1
      have HLn := hid_of' hOl
      obtain ⟨nO, hnO⟩ : ∃ nO, nO = (turnL (tT 2 3 2) (l.drop (j + 1)).reverse).length := ⟨_, rfl⟩
      rw [← hnO] at hO ⊢
      replace hnO := hid_of' hnO
      have HO := hid_of' hO
      clear hO hOl
      cases hok : okK e.k
      · have HT := hid_of' (turnR_no (t := (tT 2 3 2)) he hok)
        have HR := hid_of' (And.intro ht hB)
        have hno : e.k < 1 ∨ (1 ≤ e.k ∧ ¬ e.k ≤ 3) := by
          simp only [okK, Bool.and_eq_false_iff, decide_eq_false_iff_not] at hok
          omega
        clear ht hB hok he hce
        generalize e.k = ek at c0 hno
        rcases hno with hno | ⟨hn1, hn2⟩
        · have hn1 : ¬ 1 ≤ ek := by omega
          clear hno
          go_wp2
          go_roundw
          case rel =>
            refine ⟨j, by go_num, by omega, ?_, HR.out.1, HR.out.2⟩
            rw [HT.out]
            exact HO.out
          case measure => first | (simp [intOf]; done) | (simp [intOf]; omega)
        · go_wp2
          go_roundw
          case rel =>
            refine ⟨j, by go_num, by omega, ?_, HR.out.1, HR.out.2⟩
            rw [HT.out]
            exact HO.out
          case measure => first | (simp [intOf]; done) | (simp [intOf]; omega)
      · have HT := hid_of' (turnR_yes (t := (tT 2 3 2)) he hok)
        have hk3 := okK_three hok
        clear hok he
        obtain ⟨ek, ea, eb, ec⟩ := e
        have HT : Hid (turnL (tT 2 3 2) (l.drop j).reverse = turnL (tT 2 3 2) (l.drop (j + 1)).reverse ++ [⟨tT 2 3 2 ek, ea, eb, ec⟩]) := HT.out
        have hk3 : ek = 1 ∨ ek = 2 ∨ ek = 3 := hk3
        have c0 : _ = some (Value.int .i64 ek) := c0
        rcases hk3 with hk3 | hk3 | hk3
        · have hkk : ek = 1 := hk3
          subst hkk
          clear hk3
          go_upto_region 7 with fail
          clear c0
          refine wp_region_tailN 15 (by kernel_rfl) (fun _ => none) (by kernel_rfl) (by kernel_rfl) (by decide) (fun i v x9 => match i with
            | 0 => v = .slice aO nO cO
            | 1 => v = .slice (some ⟨g, o_, none⟩) l.length c
            | 2 => v = .int .i64 (j : Int)
            | 3 => v = .pointer (some ⟨g, o_ + j * 4, none⟩)
            | 4 => v = .pointer (some ⟨g, o_ + j * 4, none⟩)
            | 5 => v = .int .i64 1
            | 6 => v = .pointer (some ⟨tb, 1, none⟩)
            | 7 => v = .int .i64 2
            | 8 => v = .slice (some ⟨g, o_, none⟩) l.length c
            | 9 => v = .int .i64 (j : Int)
            | 10 => v = .pointer (some ⟨g, o_ + j * 4, none⟩)
            | 11 => v = .pointer (some ⟨g, o_ + j * 4 + 1, none⟩)
            | 12 => v = .agg #[.int .i64 ea, .int .i64 eb, .int .i64 ec]
            | 13 => v = .agg #[.int .i64 2, .int .i64 ea, .int .i64 eb, .int .i64 ec]
            | 14 => OnX ⟨2, ea, eb, ec⟩ v x9
            | _ => True) (fun _ => false) (fun _ _ _ _ h => by cases h) ?_ ?_ ?_
          · intro i v x9 x9' hR hb
            match i, hR with
            | 0, h => exact h
            | 1, h => exact h
            | 2, h => exact h
            | 3, h => exact h
            | 4, h => exact h
            | 5, h => exact h
            | 6, h => exact h
            | 7, h => exact h
            | 8, h => exact h
            | 9, h => exact h
            | 10, h => exact h
            | 11, h => exact h
            | 12, h => exact h
            | 13, h => exact h
            | 14, h => exact h.later hb
            | m + 15, h => exact h
          · intro i o hi ho q x9 vals hX hdep hoth
            have t4 : q.tmps[4]? = some (.slice aO nO cO) := by rw [hoth 4 (by kernel_rfl)]; rfl
            have t0 : q.tmps[0]? = some (.slice (some ⟨g, o_, none⟩) l.length c) := by rw [hoth 0 (by kernel_rfl)]; rfl
            have t5 : q.tmps[5]? = some (.int .i64 (j : Int)) := by rw [hoth 5 (by kernel_rfl)]; rfl
            have t3 : q.tmps[3]? = some (.pointer (some ⟨tb, 0, none⟩)) := by rw [hoth 3 (by kernel_rfl)]; rfl
            match i, hi, ho with
            | 0, _, ho =>
              simp only [List.getElem?_cons_zero, Option.some.injEq] at ho
              subst ho
              unfold Oper.wp
              simp [execOp, go_sem, t4]
              exact came _ rfl (Below.refl _ _) rfl (fun h => absurd h (by decide))
            | 1, _, ho =>
              simp only [List.getElem?_cons_succ, List.getElem?_cons_zero, Option.some.injEq] at ho
              subst ho
              unfold Oper.wp
              simp [execOp, go_sem, t0]
              exact came _ rfl (Below.refl _ _) rfl (fun h => absurd h (by decide))
            | 2, _, ho =>
              simp only [List.getElem?_cons_succ, List.getElem?_cons_zero, Option.some.injEq] at ho
              subst ho
              unfold Oper.wp
              simp [execOp, go_sem, t5]
              exact came _ rfl (Below.refl _ _) rfl (fun h => absurd h (by decide))
            | 3, _, ho =>
              simp only [List.getElem?_cons_succ, List.getElem?_cons_zero, Option.some.injEq] at ho
              subst ho
              obtain ⟨u1, e1⟩ := hdep ⟨1, .data⟩ (by simp) rfl _ 29 rfl rfl
              rw [show vals 1 = .slice (some ⟨g, o_, none⟩) l.length c from e1] at u1
              obtain ⟨u2, e2⟩ := hdep ⟨2, .data⟩ (by simp) rfl _ 30 rfl rfl
              rw [show vals 2 = .int .i64 (j : Int) from e2] at u2
              unfold Oper.wp
              simp [execOp, go_sem, u1, u2, hji]
              exact came _ rfl (Below.refl _ _) rfl (fun h => absurd h (by decide))
            | 4, _, ho =>
              simp only [List.getElem?_cons_succ, List.getElem?_cons_zero, Option.some.injEq] at ho
              subst ho
              obtain ⟨u3, e3⟩ := hdep ⟨3, .data⟩ (by simp) rfl _ 31 rfl rfl
              rw [show vals 3 = .pointer (some ⟨g, o_ + j * 4, none⟩) from e3] at u3
              unfold Oper.wp
              simp [execOp, go_sem, u3]
              exact came _ rfl (Below.refl _ _) rfl (fun h => absurd h (by decide))
            | 5, _, ho =>
              simp only [List.getElem?_cons_succ, List.getElem?_cons_zero, Option.some.injEq] at ho
              subst ho
              obtain ⟨u4, e4⟩ := hdep ⟨4, .data⟩ (by simp) rfl _ 32 rfl rfl
              rw [show vals 4 = .pointer (some ⟨g, o_ + j * 4, none⟩) from e4] at u4
              have c0 : x9.cell? ⟨g, o_ + j * 4, none⟩ = some (.int .i64 1) := g_kind (hce.later hX)
              unfold Oper.wp
              simp [execOp, go_sem, u4, c0]
              exact came _ rfl (Below.refl _ _) rfl (fun h => absurd h (by decide))
            | 6, _, ho =>
              simp only [List.getElem?_cons_succ, List.getElem?_cons_zero, Option.some.injEq] at ho
              subst ho
              obtain ⟨u5, e5⟩ := hdep ⟨5, .data⟩ (by simp) rfl _ 33 rfl rfl
              rw [show vals 5 = .int .i64 1 from e5] at u5
              unfold Oper.wp
              simp [execOp, go_sem, u5, t3]
              exact came _ rfl (Below.refl _ _) rfl (fun h => absurd h (by decide))
            | 7, _, ho =>
              simp only [List.getElem?_cons_succ, List.getElem?_cons_zero, Option.some.injEq] at ho
              subst ho
              obtain ⟨u6, e6⟩ := hdep ⟨6, .data⟩ (by simp) rfl _ 34 rfl rfl
              rw [show vals 6 = .pointer (some ⟨tb, 1, none⟩) from e6] at u6
              have c0 : x9.cell? ⟨tb, 1, none⟩ = some (.int .i64 2) := (ht.later hX).cellIs 1 rfl
              unfold Oper.wp
              simp [execOp, go_sem, u6, c0]
              exact came _ rfl (Below.refl _ _) rfl (fun h => absurd h (by decide))
            | 8, _, ho =>
              simp only [List.getElem?_cons_succ, List.getElem?_cons_zero, Option.some.injEq] at ho
              subst ho
              unfold Oper.wp
              simp [execOp, go_sem, t0]
              exact came _ rfl (Below.refl _ _) rfl (fun h => absurd h (by decide))
            | 9, _, ho =>
              simp only [List.getElem?_cons_succ, List.getElem?_cons_zero, Option.some.injEq] at ho
              subst ho
              unfold Oper.wp
              simp [execOp, go_sem, t5]
              exact came _ rfl (Below.refl _ _) rfl (fun h => absurd h (by decide))
            | 10, _, ho =>
              simp only [List.getElem?_cons_succ, List.getElem?_cons_zero, Option.some.injEq] at ho
              subst ho
              obtain ⟨u8, e8⟩ := hdep ⟨8, .data⟩ (by simp) rfl _ 36 rfl rfl
              rw [show vals 8 = .slice (some ⟨g, o_, none⟩) l.length c from e8] at u8
              obtain ⟨u9, e9⟩ := hdep ⟨9, .data⟩ (by simp) rfl _ 37 rfl rfl
              rw [show vals 9 = .int .i64 (j : Int) from e9] at u9
              unfold Oper.wp
              simp [execOp, go_sem, u8, u9, hji]
              exact came _ rfl (Below.refl _ _) rfl (fun h => absurd h (by decide))
            | 11, _, ho =>
              simp only [List.getElem?_cons_succ, List.getElem?_cons_zero, Option.some.injEq] at ho
              subst ho
              obtain ⟨u10, e10⟩ := hdep ⟨10, .data⟩ (by simp) rfl _ 38 rfl rfl
              rw [show vals 10 = .pointer (some ⟨g, o_ + j * 4, none⟩) from e10] at u10
              unfold Oper.wp
              simp [execOp, go_sem, u10]
              exact came _ rfl (Below.refl _ _) rfl (fun h => absurd h (by decide))
            | 12, _, ho =>
              simp only [List.getElem?_cons_succ, List.getElem?_cons_zero, Option.some.injEq] at ho
              subst ho
              obtain ⟨u11, e11⟩ := hdep ⟨11, .data⟩ (by simp) rfl _ 39 rfl rfl
              rw [show vals 11 = .pointer (some ⟨g, o_ + j * 4 + 1, none⟩) from e11] at u11
              exact opw_loadID _ rfl (by simp [Act.eval, u11]) ((g_id hce).later hX) (came _ rfl (Below.refl _ _) rfl (fun h => absurd h (by decide)))
            | 13, _, ho =>
              simp only [List.getElem?_cons_succ, List.getElem?_cons_zero, Option.some.injEq] at ho
              subst ho
              obtain ⟨u7, e7⟩ := hdep ⟨7, .data⟩ (by simp) rfl _ 35 rfl rfl
              rw [show vals 7 = .int .i64 2 from e7] at u7
              obtain ⟨u12, e12⟩ := hdep ⟨12, .data⟩ (by simp) rfl _ 40 rfl rfl
              rw [show vals 12 = .agg #[.int .i64 ea, .int .i64 eb, .int .i64 ec] from e12] at u12
              unfold Oper.wp
              simp [execOp, go_sem, u7, u12]
              exact came _ rfl (Below.refl _ _) rfl (fun h => absurd h (by decide))
            | 14, _, ho =>
              simp only [List.getElem?_cons_succ, List.getElem?_cons_zero, Option.some.injEq] at ho
              subst ho
              obtain ⟨u13, e13⟩ := hdep ⟨13, .data⟩ (by simp) rfl _ 41 rfl rfl
              rw [show vals 13 = .agg #[.int .i64 2, .int .i64 ea, .int .i64 eb, .int .i64 ec] from e13] at u13
              unfold Oper.wp
              simp [execOp, go_sem, u13]
              exact came _ rfl (below_one _ _) ⟨x9.heap.size, rfl, so_g x9 ⟨2, ea, eb, ec⟩, by simp⟩ (fun h => absurd h (by decide))
            | m + 15, hi, _ => exact absurd hi (by omega)
          · intro vals x9 hX9 hR9 _
            obtain ⟨g9, q9, qs, qg⟩ : OnX ⟨2, ea, eb, ec⟩ (vals 14) x9 := hR9 14 (by decide)
            have r0 : vals 0 = .slice aO nO cO := hR9 0 (by decide)
            have hsz := hX9.size
            simp only [List.take, List.drop, putAll, r0, q9]
            rw [q9] at qs
            clear q9 r0 hR9
            simp only [List.setIfInBounds_toArray, List.set_cons_succ, List.set_cons_zero]
            go_wp2_with (at_builtin; refine wpL_appG (m := [⟨2, ea, eb, ec⟩]) rfl _ _ rfl rfl rfl (HO.out.1.later hX9) qs (by show _ + 1 ≤ _; have := HLn.out; omega) ?_; intro v3 w3 h3 hg3 hat3; obtain ⟨a3, c3, h3v, _⟩ := Rw.form h3; generalize List.length _ = n3 at h3v; subst h3v)
            have hB3 : Below w.heap.size w w3 := (hB.trans (hX9.mono hB.size)).grown hg3 (by have := hB.size; omega) (fun j hj => by have := HO.out.2 j hj; omega)
            go_roundw
            case rel =>
              have h9 := HT.out
              rw [show tT 2 3 2 1 = 2 from rfl] at h9
              refine ⟨j, by go_num, by omega, ⟨?_, fun j hj => ?_⟩, (ht.later hX9).grow hg3 (fun q9 => by have := HO.out.2 _ q9; omega), hB3⟩
              · show RwX _ _ _
                rw [h9]
                exact h3
              · rcases hat3 j hj with q | q
                · exact HO.out.2 j q
                · have := hB.size; have := ht.lt; omega
            case measure => first | (simp [intOf]; done) | (simp [intOf]; omega)
        · have hkk : ek = 2 := hk3
          subst hkk
          clear hk3
          go_upto_region 7 with fail
          clear c0
          refine wp_region_tailN 15 (by kernel_rfl) (fun _ => none) (by kernel_rfl) (by kernel_rfl) (by decide) (fun i v x9 => match i with
            | 0 => v = .slice aO nO cO
            | 1 => v = .slice (some ⟨g, o_, none⟩) l.length c
            | 2 => v = .int .i64 (j : Int)
            | 3 => v = .pointer (some ⟨g, o_ + j * 4, none⟩)
            | 4 => v = .pointer (some ⟨g, o_ + j * 4, none⟩)
            | 5 => v = .int .i64 2
            | 6 => v = .pointer (some ⟨tb, 2, none⟩)
            | 7 => v = .int .i64 3
            | 8 => v = .slice (some ⟨g, o_, none⟩) l.length c
            | 9 => v = .int .i64 (j : Int)
            | 10 => v = .pointer (some ⟨g, o_ + j * 4, none⟩)
            | 11 => v = .pointer (some ⟨g, o_ + j * 4 + 1, none⟩)
            | 12 => v = .agg #[.int .i64 ea, .int .i64 eb, .int .i64 ec]
            | 13 => v = .agg #[.int .i64 3, .int .i64 ea, .int .i64 eb, .int .i64 ec]
            | 14 => OnX ⟨3, ea, eb, ec⟩ v x9
            | _ => True) (fun _ => false) (fun _ _ _ _ h => by cases h) ?_ ?_ ?_
          · intro i v x9 x9' hR hb
            match i, hR with
            | 0, h => exact h
            | 1, h => exact h
            | 2, h => exact h
            | 3, h => exact h
            | 4, h => exact h
            | 5, h => exact h
            | 6, h => exact h
            | 7, h => exact h
            | 8, h => exact h
            | 9, h => exact h
            | 10, h => exact h
            | 11, h => exact h
            | 12, h => exact h
            | 13, h => exact h
            | 14, h => exact h.later hb
            | m + 15, h => exact h
          · intro i o hi ho q x9 vals hX hdep hoth
            have t4 : q.tmps[4]? = some (.slice aO nO cO) := by rw [hoth 4 (by kernel_rfl)]; rfl
            have t0 : q.tmps[0]? = some (.slice (some ⟨g, o_, none⟩) l.length c) := by rw [hoth 0 (by kernel_rfl)]; rfl
            have t5 : q.tmps[5]? = some (.int .i64 (j : Int)) := by rw [hoth 5 (by kernel_rfl)]; rfl
            have t3 : q.tmps[3]? = some (.pointer (some ⟨tb, 0, none⟩)) := by rw [hoth 3 (by kernel_rfl)]; rfl
            match i, hi, ho with
            | 0, _, ho =>
              simp only [List.getElem?_cons_zero, Option.some.injEq] at ho
              subst ho
              unfold Oper.wp
              simp [execOp, go_sem, t4]
              exact came _ rfl (Below.refl _ _) rfl (fun h => absurd h (by decide))
            | 1, _, ho =>
              simp only [List.getElem?_cons_succ, List.getElem?_cons_zero, Option.some.injEq] at ho
              subst ho
              unfold Oper.wp
              simp [execOp, go_sem, t0]
              exact came _ rfl (Below.refl _ _) rfl (fun h => absurd h (by decide))
            | 2, _, ho =>
              simp only [List.getElem?_cons_succ, List.getElem?_cons_zero, Option.some.injEq] at ho
              subst ho
              unfold Oper.wp
              simp [execOp, go_sem, t5]
              exact came _ rfl (Below.refl _ _) rfl (fun h => absurd h (by decide))
            | 3, _, ho =>
              simp only [List.getElem?_cons_succ, List.getElem?_cons_zero, Option.some.injEq] at ho
              subst ho
              obtain ⟨u1, e1⟩ := hdep ⟨1, .data⟩ (by simp) rfl _ 29 rfl rfl
              rw [show vals 1 = .slice (some ⟨g, o_, none⟩) l.length c from e1] at u1
              obtain ⟨u2, e2⟩ := hdep ⟨2, .data⟩ (by simp) rfl _ 30 rfl rfl
              rw [show vals 2 = .int .i64 (j : Int) from e2] at u2
              unfold Oper.wp
              simp [execOp, go_sem, u1, u2, hji]
              exact came _ rfl (Below.refl _ _) rfl (fun h => absurd h (by decide))
            | 4, _, ho =>
              simp only [List.getElem?_cons_succ, List.getElem?_cons_zero, Option.some.injEq] at ho
              subst ho
              obtain ⟨u3, e3⟩ := hdep ⟨3, .data⟩ (by simp) rfl _ 31 rfl rfl
              rw [show vals 3 = .pointer (some ⟨g, o_ + j * 4, none⟩) from e3] at u3
              unfold Oper.wp
              simp [execOp, go_sem, u3]
              exact came _ rfl (Below.refl _ _) rfl (fun h => absurd h (by decide))
            | 5, _, ho =>
              simp only [List.getElem?_cons_succ, List.getElem?_cons_zero, Option.some.injEq] at ho
              subst ho
              obtain ⟨u4, e4⟩ := hdep ⟨4, .data⟩ (by simp) rfl _ 32 rfl rfl
              rw [show vals 4 = .pointer (some ⟨g, o_ + j * 4, none⟩) from e4] at u4
              have c0 : x9.cell? ⟨g, o_ + j * 4, none⟩ = some (.int .i64 2) := g_kind (hce.later hX)
              unfold Oper.wp
              simp [execOp, go_sem, u4, c0]
              exact came _ rfl (Below.refl _ _) rfl (fun h => absurd h (by decide))
            | 6, _, ho =>
              simp only [List.getElem?_cons_succ, List.getElem?_cons_zero, Option.some.injEq] at ho
              subst ho
              obtain ⟨u5, e5⟩ := hdep ⟨5, .data⟩ (by simp) rfl _ 33 rfl rfl
              rw [show vals 5 = .int .i64 2 from e5] at u5
              unfold Oper.wp
              simp [execOp, go_sem, u5, t3]
              exact came _ rfl (Below.refl _ _) rfl (fun h => absurd h (by decide))
            | 7, _, ho =>
              simp only [List.getElem?_cons_succ, List.getElem?_cons_zero, Option.some.injEq] at ho
              subst ho
              obtain ⟨u6, e6⟩ := hdep ⟨6, .data⟩ (by simp) rfl _ 34 rfl rfl
              rw [show vals 6 = .pointer (some ⟨tb, 2, none⟩) from e6] at u6
              have c0 : x9.cell? ⟨tb, 2, none⟩ = some (.int .i64 3) := (ht.later hX).cellIs 2 rfl
              unfold Oper.wp
              simp [execOp, go_sem, u6, c0]
              exact came _ rfl (Below.refl _ _) rfl (fun h => absurd h (by decide))
            | 8, _, ho =>
              simp only [List.getElem?_cons_succ, List.getElem?_cons_zero, Option.some.injEq] at ho
              subst ho
              unfold Oper.wp
              simp [execOp, go_sem, t0]
              exact came _ rfl (Below.refl _ _) rfl (fun h => absurd h (by decide))
            | 9, _, ho =>
              simp only [List.getElem?_cons_succ, List.getElem?_cons_zero, Option.some.injEq] at ho
              subst ho
              unfold Oper.wp
              simp [execOp, go_sem, t5]
              exact came _ rfl (Below.refl _ _) rfl (fun h => absurd h (by decide))
            | 10, _, ho =>
              simp only [List.getElem?_cons_succ, List.getElem?_cons_zero, Option.some.injEq] at ho
              subst ho
              obtain ⟨u8, e8⟩ := hdep ⟨8, .data⟩ (by simp) rfl _ 36 rfl rfl
              rw [show vals 8 = .slice (some ⟨g, o_, none⟩) l.length c from e8] at u8
              obtain ⟨u9, e9⟩ := hdep ⟨9, .data⟩ (by simp) rfl _ 37 rfl rfl
              rw [show vals 9 = .int .i64 (j : Int) from e9] at u9
              unfold Oper.wp
              simp [execOp, go_sem, u8, u9, hji]
              exact came _ rfl (Below.refl _ _) rfl (fun h => absurd h (by decide))
            | 11, _, ho =>
              simp only [List.getElem?_cons_succ, List.getElem?_cons_zero, Option.some.injEq] at ho
              subst ho
              obtain ⟨u10, e10⟩ := hdep ⟨10, .data⟩ (by simp) rfl _ 38 rfl rfl
              rw [show vals 10 = .pointer (some ⟨g, o_ + j * 4, none⟩) from e10] at u10
              unfold Oper.wp
              simp [execOp, go_sem, u10]
              exact came _ rfl (Below.refl _ _) rfl (fun h => absurd h (by decide))
            | 12, _, ho =>
              simp only [List.getElem?_cons_succ, List.getElem?_cons_zero, Option.some.injEq] at ho
              subst ho
              obtain ⟨u11, e11⟩ := hdep ⟨11, .data⟩ (by simp) rfl _ 39 rfl rfl
              rw [show vals 11 = .pointer (some ⟨g, o_ + j * 4 + 1, none⟩) from e11] at u11
              exact opw_loadID _ rfl (by simp [Act.eval, u11]) ((g_id hce).later hX) (came _ rfl (Below.refl _ _) rfl (fun h => absurd h (by decide)))
            | 13, _, ho =>
              simp only [List.getElem?_cons_succ, List.getElem?_cons_zero, Option.some.injEq] at ho
              subst ho
              obtain ⟨u7, e7⟩ := hdep ⟨7, .data⟩ (by simp) rfl _ 35 rfl rfl
              rw [show vals 7 = .int .i64 3 from e7] at u7
              obtain ⟨u12, e12⟩ := hdep ⟨12, .data⟩ (by simp) rfl _ 40 rfl rfl
              rw [show vals 12 = .agg #[.int .i64 ea, .int .i64 eb, .int .i64 ec] from e12] at u12
              unfold Oper.wp
              simp [execOp, go_sem, u7, u12]
              exact came _ rfl (Below.refl _ _) rfl (fun h => absurd h (by decide))
            | 14, _, ho =>
              simp only [List.getElem?_cons_succ, List.getElem?_cons_zero, Option.some.injEq] at ho
              subst ho
              obtain ⟨u13, e13⟩ := hdep ⟨13, .data⟩ (by simp) rfl _ 41 rfl rfl
              rw [show vals 13 = .agg #[.int .i64 3, .int .i64 ea, .int .i64 eb, .int .i64 ec] from e13] at u13
              unfold Oper.wp
              simp [execOp, go_sem, u13]
              exact came _ rfl (below_one _ _) ⟨x9.heap.size, rfl, so_g x9 ⟨3, ea, eb, ec⟩, by simp⟩ (fun h => absurd h (by decide))
            | m + 15, hi, _ => exact absurd hi (by omega)
          · intro vals x9 hX9 hR9 _
            obtain ⟨g9, q9, qs, qg⟩ : OnX ⟨3, ea, eb, ec⟩ (vals 14) x9 := hR9 14 (by decide)
            have r0 : vals 0 = .slice aO nO cO := hR9 0 (by decide)
            have hsz := hX9.size
            simp only [List.take, List.drop, putAll, r0, q9]
            rw [q9] at qs
            clear q9 r0 hR9
            simp only [List.setIfInBounds_toArray, List.set_cons_succ, List.set_cons_zero]
            go_wp2_with (at_builtin; refine wpL_appG (m := [⟨3, ea, eb, ec⟩]) rfl _ _ rfl rfl rfl (HO.out.1.later hX9) qs (by show _ + 1 ≤ _; have := HLn.out; omega) ?_; intro v3 w3 h3 hg3 hat3; obtain ⟨a3, c3, h3v, _⟩ := Rw.form h3; generalize List.length _ = n3 at h3v; subst h3v)
            have hB3 : Below w.heap.size w w3 := (hB.trans (hX9.mono hB.size)).grown hg3 (by have := hB.size; omega) (fun j hj => by have := HO.out.2 j hj; omega)
            go_roundw
            case rel =>
              have h9 := HT.out
              rw [show tT 2 3 2 2 = 3 from rfl] at h9
              refine ⟨j, by go_num, by omega, ⟨?_, fun j hj => ?_⟩, (ht.later hX9).grow hg3 (fun q9 => by have := HO.out.2 _ q9; omega), hB3⟩
              · show RwX _ _ _
                rw [h9]
                exact h3
              · rcases hat3 j hj with q | q
                · exact HO.out.2 j q
                · have := hB.size; have := ht.lt; omega
            case measure => first | (simp [intOf]; done) | (simp [intOf]; omega)
        · have hkk : ek = 3 := hk3
          subst hkk
          clear hk3
          go_upto_region 7 with fail
          clear c0
          refine wp_region_tailN 15 (by kernel_rfl) (fun _ => none) (by kernel_rfl) (by kernel_rfl) (by decide) (fun i v x9 => match i with
            | 0 => v = .slice aO nO cO
            | 1 => v = .slice (some ⟨g, o_, none⟩) l.length c
            | 2 => v = .int .i64 (j : Int)
            | 3 => v = .pointer (some ⟨g, o_ + j * 4, none⟩)
            | 4 => v = .pointer (some ⟨g, o_ + j * 4, none⟩)
            | 5 => v = .int .i64 3
            | 6 => v = .pointer (some ⟨tb, 3, none⟩)
            | 7 => v = .int .i64 2
            | 8 => v = .slice (some ⟨g, o_, none⟩) l.length c
            | 9 => v = .int .i64 (j : Int)
            | 10 => v = .pointer (some ⟨g, o_ + j * 4, none⟩)
            | 11 => v = .pointer (some ⟨g, o_ + j * 4 + 1, none⟩)
            | 12 => v = .agg #[.int .i64 ea, .int .i64 eb, .int .i64 ec]
            | 13 => v = .agg #[.int .i64 2, .int .i64 ea, .int .i64 eb, .int .i64 ec]
            | 14 => OnX ⟨2, ea, eb, ec⟩ v x9
            | _ => True) (fun _ => false) (fun _ _ _ _ h => by cases h) ?_ ?_ ?_
          · intro i v x9 x9' hR hb
            match i, hR with
            | 0, h => exact h
            | 1, h => exact h
            | 2, h => exact h
            | 3, h => exact h
            | 4, h => exact h
            | 5, h => exact h
            | 6, h => exact h
            | 7, h => exact h
            | 8, h => exact h
            | 9, h => exact h
            | 10, h => exact h
            | 11, h => exact h
            | 12, h => exact h
            | 13, h => exact h
            | 14, h => exact h.later hb
            | m + 15, h => exact h
          · intro i o hi ho q x9 vals hX hdep hoth
            have t4 : q.tmps[4]? = some (.slice aO nO cO) := by rw [hoth 4 (by kernel_rfl)]; rfl
            have t0 : q.tmps[0]? = some (.slice (some ⟨g, o_, none⟩) l.length c) := by rw [hoth 0 (by kernel_rfl)]; rfl
            have t5 : q.tmps[5]? = some (.int .i64 (j : Int)) := by rw [hoth 5 (by kernel_rfl)]; rfl
            have t3 : q.tmps[3]? = some (.pointer (some ⟨tb, 0, none⟩)) := by rw [hoth 3 (by kernel_rfl)]; rfl
            match i, hi, ho with
            | 0, _, ho =>
              simp only [List.getElem?_cons_zero, Option.some.injEq] at ho
              subst ho
              unfold Oper.wp
              simp [execOp, go_sem, t4]
              exact came _ rfl (Below.refl _ _) rfl (fun h => absurd h (by decide))
            | 1, _, ho =>
              simp only [List.getElem?_cons_succ, List.getElem?_cons_zero, Option.some.injEq] at ho
              subst ho
              unfold Oper.wp
              simp [execOp, go_sem, t0]
              exact came _ rfl (Below.refl _ _) rfl (fun h => absurd h (by decide))
            | 2, _, ho =>
              simp only [List.getElem?_cons_succ, List.getElem?_cons_zero, Option.some.injEq] at ho
              subst ho
              unfold Oper.wp
              simp [execOp, go_sem, t5]
              exact came _ rfl (Below.refl _ _) rfl (fun h => absurd h (by decide))
            | 3, _, ho =>
              simp only [List.getElem?_cons_succ, List.getElem?_cons_zero, Option.some.injEq] at ho
              subst ho
              obtain ⟨u1, e1⟩ := hdep ⟨1, .data⟩ (by simp) rfl _ 29 rfl rfl
              rw [show vals 1 = .slice (some ⟨g, o_, none⟩) l.length c from e1] at u1
              obtain ⟨u2, e2⟩ := hdep ⟨2, .data⟩ (by simp) rfl _ 30 rfl rfl
              rw [show vals 2 = .int .i64 (j : Int) from e2] at u2
              unfold Oper.wp
              simp [execOp, go_sem, u1, u2, hji]
              exact came _ rfl (Below.refl _ _) rfl (fun h => absurd h (by decide))
            | 4, _, ho =>
              simp only [List.getElem?_cons_succ, List.getElem?_cons_zero, Option.some.injEq] at ho
              subst ho
              obtain ⟨u3, e3⟩ := hdep ⟨3, .data⟩ (by simp) rfl _ 31 rfl rfl
              rw [show vals 3 = .pointer (some ⟨g, o_ + j * 4, none⟩) from e3] at u3
              unfold Oper.wp
              simp [execOp, go_sem, u3]
              exact came _ rfl (Below.refl _ _) rfl (fun h => absurd h (by decide))
            | 5, _, ho =>
              simp only [List.getElem?_cons_succ, List.getElem?_cons_zero, Option.some.injEq] at ho
              subst ho
              obtain ⟨u4, e4⟩ := hdep ⟨4, .data⟩ (by simp) rfl _ 32 rfl rfl
              rw [show vals 4 = .pointer (some ⟨g, o_ + j * 4, none⟩) from e4] at u4
              have c0 : x9.cell? ⟨g, o_ + j * 4, none⟩ = some (.int .i64 3) := g_kind (hce.later hX)
              unfold Oper.wp
              simp [execOp, go_sem, u4, c0]
              exact came _ rfl (Below.refl _ _) rfl (fun h => absurd h (by decide))
            | 6, _, ho =>
              simp only [List.getElem?_cons_succ, List.getElem?_cons_zero, Option.some.injEq] at ho
              subst ho
              obtain ⟨u5, e5⟩ := hdep ⟨5, .data⟩ (by simp) rfl _ 33 rfl rfl
              rw [show vals 5 = .int .i64 3 from e5] at u5
              unfold Oper.wp
              simp [execOp, go_sem, u5, t3]
              exact came _ rfl (Below.refl _ _) rfl (fun h => absurd h (by decide))
            | 7, _, ho =>
              simp only [List.getElem?_cons_succ, List.getElem?_cons_zero, Option.some.injEq] at ho
              subst ho
              obtain ⟨u6, e6⟩ := hdep ⟨6, .data⟩ (by simp) rfl _ 34 rfl rfl
              rw [show vals 6 = .pointer (some ⟨tb, 3, none⟩) from e6] at u6
              have c0 : x9.cell? ⟨tb, 3, none⟩ = some (.int .i64 2) := (ht.later hX).cellIs 3 rfl
              unfold Oper.wp
              simp [execOp, go_sem, u6, c0]
              exact came _ rfl (Below.refl _ _) rfl (fun h => absurd h (by decide))
            | 8, _, ho =>
              simp only [List.getElem?_cons_succ, List.getElem?_cons_zero, Option.some.injEq] at ho
              subst ho
              unfold Oper.wp
              simp [execOp, go_sem, t0]
              exact came _ rfl (Below.refl _ _) rfl (fun h => absurd h (by decide))
            | 9, _, ho =>
              simp only [List.getElem?_cons_succ, List.getElem?_cons_zero, Option.some.injEq] at ho
              subst ho
              unfold Oper.wp
              simp [execOp, go_sem, t5]
              exact came _ rfl (Below.refl _ _) rfl (fun h => absurd h (by decide))
            | 10, _, ho =>
              simp only [List.getElem?_cons_succ, List.getElem?_cons_zero, Option.some.injEq] at ho
              subst ho
              obtain ⟨u8, e8⟩ := hdep ⟨8, .data⟩ (by simp) rfl _ 36 rfl rfl
              rw [show vals 8 = .slice (some ⟨g, o_, none⟩) l.length c from e8] at u8
              obtain ⟨u9, e9⟩ := hdep ⟨9, .data⟩ (by simp) rfl _ 37 rfl rfl
              rw [show vals 9 = .int .i64 (j : Int) from e9] at u9
              unfold Oper.wp
              simp [execOp, go_sem, u8, u9, hji]
              exact came _ rfl (Below.refl _ _) rfl (fun h => absurd h (by decide))
            | 11, _, ho =>
              simp only [List.getElem?_cons_succ, List.getElem?_cons_zero, Option.some.injEq] at ho
              subst ho
              obtain ⟨u10, e10⟩ := hdep ⟨10, .data⟩ (by simp) rfl _ 38 rfl rfl
              rw [show vals 10 = .pointer (some ⟨g, o_ + j * 4, none⟩) from e10] at u10
              unfold Oper.wp
              simp [execOp, go_sem, u10]
              exact came _ rfl (Below.refl _ _) rfl (fun h => absurd h (by decide))
            | 12, _, ho =>
              simp only [List.getElem?_cons_succ, List.getElem?_cons_zero, Option.some.injEq] at ho
              subst ho
              obtain ⟨u11, e11⟩ := hdep ⟨11, .data⟩ (by simp) rfl _ 39 rfl rfl
              rw [show vals 11 = .pointer (some ⟨g, o_ + j * 4 + 1, none⟩) from e11] at u11
              exact opw_loadID _ rfl (by simp [Act.eval, u11]) ((g_id hce).later hX) (came _ rfl (Below.refl _ _) rfl (fun h => absurd h (by decide)))
            | 13, _, ho =>
              simp only [List.getElem?_cons_succ, List.getElem?_cons_zero, Option.some.injEq] at ho
              subst ho
              obtain ⟨u7, e7⟩ := hdep ⟨7, .data⟩ (by simp) rfl _ 35 rfl rfl
              rw [show vals 7 = .int .i64 2 from e7] at u7
              obtain ⟨u12, e12⟩ := hdep ⟨12, .data⟩ (by simp) rfl _ 40 rfl rfl
              rw [show vals 12 = .agg #[.int .i64 ea, .int .i64 eb, .int .i64 ec] from e12] at u12
              unfold Oper.wp
              simp [execOp, go_sem, u7, u12]
              exact came _ rfl (Below.refl _ _) rfl (fun h => absurd h (by decide))
            | 14, _, ho =>
              simp only [List.getElem?_cons_succ, List.getElem?_cons_zero, Option.some.injEq] at ho
              subst ho
              obtain ⟨u13, e13⟩ := hdep ⟨13, .data⟩ (by simp) rfl _ 41 rfl rfl
              rw [show vals 13 = .agg #[.int .i64 2, .int .i64 ea, .int .i64 eb, .int .i64 ec] from e13] at u13
              unfold Oper.wp
              simp [execOp, go_sem, u13]
              exact came _ rfl (below_one _ _) ⟨x9.heap.size, rfl, so_g x9 ⟨2, ea, eb, ec⟩, by simp⟩ (fun h => absurd h (by decide))
            | m + 15, hi, _ => exact absurd hi (by omega)
          · intro vals x9 hX9 hR9 _
            obtain ⟨g9, q9, qs, qg⟩ : OnX ⟨2, ea, eb, ec⟩ (vals 14) x9 := hR9 14 (by decide)
            have r0 : vals 0 = .slice aO nO cO := hR9 0 (by decide)
            have hsz := hX9.size
            simp only [List.take, List.drop, putAll, r0, q9]
            rw [q9] at qs
            clear q9 r0 hR9
            simp only [List.setIfInBounds_toArray, List.set_cons_succ, List.set_cons_zero]
            go_wp2_with (at_builtin; refine wpL_appG (m := [⟨2, ea, eb, ec⟩]) rfl _ _ rfl rfl rfl (HO.out.1.later hX9) qs (by show _ + 1 ≤ _; have := HLn.out; omega) ?_; intro v3 w3 h3 hg3 hat3; obtain ⟨a3, c3, h3v, _⟩ := Rw.form h3; generalize List.length _ = n3 at h3v; subst h3v)
            have hB3 : Below w.heap.size w w3 := (hB.trans (hX9.mono hB.size)).grown hg3 (by have := hB.size; omega) (fun j hj => by have := HO.out.2 j hj; omega)
            go_roundw
            case rel =>
              have h9 := HT.out
              rw [show tT 2 3 2 3 = 2 from rfl] at h9
              refine ⟨j, by go_num, by omega, ⟨?_, fun j hj => ?_⟩, (ht.later hX9).grow hg3 (fun q9 => by have := HO.out.2 _ q9; omega), hB3⟩
              · show RwX _ _ _
                rw [h9]
                exact h3
              · rcases hat3 j hj with q | q
                · exact HO.out.2 j q
                · have := hB.size; have := ht.lt; omega
            case measure => first | (simp [intOf]; done) | (simp [intOf]; omega)
    | 0, hk, hO =>
      rw [List.drop_zero] at hO
      have HR := hid_of' (And.intro hO hB)
      obtain ⟨a5, c5, rfl, _⟩ := Rw.form hO.1
      clear hO ht hB
      go_wp2
      go_ret
      exact ⟨_, rfl, ⟨HR.out.1.1, fun k hk => by have := HR.out.1.2 k hk; omega⟩, htb ▸ HR.out.2⟩
set_option maxHeartbeats 4000000 in
theorem refAgain_ok {w : World} {v : Value} {l : List Xg} (h : SlD w v l) (hl : l.length ≤ 4398046510976) :
    Calls Tryd.prog 22 #[v] w fun e w' => ∃ u, e = .returned u ∧ NwX w.heap.size u (turnL (tT 3 2 3) l) w' ∧ Below w.heap.size w w' := by
  obtain ⟨a, c, rfl⟩ := h.form
  have ht0 := (row_new w #[.int .i64 0, .int .i64 0, .int .i64 0, .int .i64 0] 85).put #[.int .i64 0, .int .i64 3, .int .i64 2, .int .i64 3]
  have hb0 := below_row (below_one w (.cells #[.int .i64 0, .int .i64 0, .int .i64 0, .int .i64 0] 85)) (Nat.le_refl _) #[.int .i64 0, .int .i64 3, .int .i64 2, .int .i64 3]
  have HD := hid_of' h
  have ew : wrap64 ((l.length : Int) - 1) = (l.length : Int) - 1 := wrapIs (by omega) (by omega)
  clear h
  go_enter Tryd.func22, Tryd.ntmps22
  go_upto_region 2 with (refine wpList_store_row rfl _ _ _ rfl w.heap.size #[.int .i64 0, .int .i64 3, .int .i64 2, .int .i64 3] rfl rfl _ _ (row_new w _ _) (by kernel_rfl) rfl (by simp [Value.oneCell']) ?_)
  change Code.wp _ _ _ _ ((w.alloc (.cells #[.int .i64 0, .int .i64 0, .int .i64 0, .int .i64 0] 85)).setRow w.heap.size #[.int .i64 0, .int .i64 3, .int .i64 2, .int .i64 3])
  generalize (w.alloc (.cells #[.int .i64 0, .int .i64 0, .int .i64 0, .int .i64 0] 85)).setRow w.heap.size #[.int .i64 0, .int .i64 3, .int .i64 2, .int .i64 3] = W0 at ht0 hb0 ⊢
  generalize htb : w.heap.size = tb at ht0 ⊢
  go_upto_region 4 with fail
  go_loopw [4, 5] (fun ov iv wr => ∃ j : Nat, iv = .int .i64 (j : Int) ∧ j ≤ l.length ∧ NwX (tb + 1) ov (turnL (tT 3 2 3) (l.take j)) wr ∧ RowAt tb #[.int .i64 0, .int .i64 3, .int .i64 2, .int .i64 3] 85 wr ∧ Below w.heap.size w wr) (fun _ iv _ => l.length - (intOf iv).toNat)
  case atStart => exact ⟨0, rfl, Nat.zero_le _, ⟨RwX.nil _, fun k hk => by cases hk⟩, ht0, hb0⟩
  case round =>
    obtain ⟨j, rfl, hk, hO, ht, hB⟩ := hrel
    by_cases hjn : j < l.length
    · have hji : (j : Int) < (l.length : Int) := by omega
      obtain ⟨e, he⟩ : ∃ e, l[j]? = some e := ⟨_, List.getElem?_eq_getElem hjn⟩
      obtain ⟨_, g, o_, rfl, hcell⟩ := (HD.out).some' (by rintro rfl; simp at hjn)
      have hce := (hcell j e he).later hB
      have c0 := g_kind hce
      have hOl : (turnL (tT 3 2 3) (l.take j)).length ≤ 4398046510976 := by
        have := turnL_len (tT 3 2 3) (l.take j)
        simp only [List.length_take] at this
        omega
      clear hcell
      obtain ⟨aO, cO, rfl, _⟩ := Rw.form hO.1
      have HLn := hid_of' hOl
      obtain ⟨nO, hnO⟩ : ∃ nO, nO = (turnL (tT 3 2 3) (l.take j)).length := ⟨_, rfl⟩
      rw [← hnO] at hO ⊢
      replace hnO := hid_of' hnO
      have HO := hid_of' hO
      clear hO hOl
      cases hok : okK e.k
      · have HT := hid_of' (turnL_no (t := (tT 3 2 3)) he hok)
        have HR := hid_of' (And.intro ht hB)
        have hno : e.k < 1 ∨ (1 ≤ e.k ∧ ¬ e.k ≤ 3) := by
          simp only [okK, Bool.and_eq_false_iff, decide_eq_false_iff_not] at hok
          omega
        clear ht hB hok he hce
        generalize e.k = ek at c0 hno
        rcases hno with hno | ⟨hn1, hn2⟩
        · have hn1 : ¬ 1 ≤ ek := by omega
          clear hno
          go_wp2
          go_roundw
          case rel =>
            refine ⟨j + 1, by go_num, by omega, ?_, HR.out.1, HR.out.2⟩
            rw [HT.out]
            exact HO.out
          case measure => first | (simp [intOf]; done) | (simp [intOf]; omega)
        · go_wp2
          go_roundw
          case rel =>
            refine ⟨j + 1, by go_num, by omega, ?_, HR.out.1, HR.out.2⟩
            rw [HT.out]
            exact HO.out
          case measure => first | (simp [intOf]; done) | (simp [intOf]; omega)
      · have HT := hid_of' (turnL_yes (t := (tT 3 2 3)) he hok)
        have hk3 := okK_three hok
        clear hok he
        obtain ⟨ek, ea, eb, ec⟩ := e
        have HT : Hid (turnL (tT 3 2 3) (l.take (j + 1)) = turnL (tT 3 2 3) (l.take j) ++ [⟨tT 3 2 3 ek, ea, eb, ec⟩]) := HT.out
        have hk3 : ek = 1 ∨ ek = 2 ∨ ek = 3 := hk3
        have c0 : _ = some (Value.int .i64 ek) := c0
        rcases hk3 with hk3 | hk3 | hk3
        · have hkk : ek = 1 := hk3
          subst hkk
          clear hk3
          go_upto_region 7 with fail
          clear c0
          refine wp_region_tailN 15 (by kernel_rfl) (fun _ => none) (by kernel_rfl) (by kernel_rfl) (by decide) (fun i v x9 => match i with
            | 0 => v = .slice aO nO cO
            | 1 => v = .slice (some ⟨g, o_, none⟩) l.length c
            | 2 => v = .int .i64 (j : Int)
            | 3 => v = .pointer (some ⟨g, o_ + j * 4, none⟩)
            | 4 => v = .pointer (some ⟨g, o_ + j * 4, none⟩)
            | 5 => v = .int .i64 1
            | 6 => v = .pointer (some ⟨tb, 1, none⟩)
            | 7 => v = .int .i64 3
            | 8 => v = .slice (some ⟨g, o_, none⟩) l.length c
            | 9 => v = .int .i64 (j : Int)
            | 10 => v = .pointer (some ⟨g, o_ + j * 4, none⟩)
            | 11 => v = .pointer (some ⟨g, o_ + j * 4 + 1, none⟩)
            | 12 => v = .agg #[.int .i64 ea, .int .i64 eb, .int .i64 ec]
            | 13 => v = .agg #[.int .i64 3, .int .i64 ea, .int .i64 eb, .int .i64 ec]
            | 14 => OnX ⟨3, ea, eb, ec⟩ v x9
            | _ => True) (fun _ => false) (fun _ _ _ _ h => by cases h) ?_ ?_ ?_
          · intro i v x9 x9' hR hb
            match i, hR with
            | 0, h => exact h
            | 1, h => exact h
            | 2, h => exact h
            | 3, h => exact h
            | 4, h => exact h
            | 5, h => exact h
            | 6, h => exact h
            | 7, h => exact h
            | 8, h => exact h
            | 9, h => exact h
            | 10, h => exact h
            | 11, h => exact h
            | 12, h => exact h
            | 13, h => exact h
            | 14, h => exact h.later hb
            | m + 15, h => exact h
          · intro i o hi ho q x9 vals hX hdep hoth
            have t4 : q.tmps[4]? = some (.slice aO nO cO) := by rw [hoth 4 (by kernel_rfl)]; rfl
            have t0 : q.tmps[0]? = some (.slice (some ⟨g, o_, none⟩) l.length c) := by rw [hoth 0 (by kernel_rfl)]; rfl
            have t5 : q.tmps[5]? = some (.int .i64 (j : Int)) := by rw [hoth 5 (by kernel_rfl)]; rfl
            have t3 : q.tmps[3]? = some (.pointer (some ⟨tb, 0, none⟩)) := by rw [hoth 3 (by kernel_rfl)]; rfl
            match i, hi, ho with
            | 0, _, ho =>
              simp only [List.getElem?_cons_zero, Option.some.injEq] at ho
              subst ho
              unfold Oper.wp
              simp [execOp, go_sem, t4]
              exact came _ rfl (Below.refl _ _) rfl (fun h => absurd h (by decide))
            | 1, _, ho =>
              simp only [List.getElem?_cons_succ, List.getElem?_cons_zero, Option.some.injEq] at ho
              subst ho
              unfold Oper.wp
              simp [execOp, go_sem, t0]
              exact came _ rfl (Below.refl _ _) rfl (fun h => absurd h (by decide))
            | 2, _, ho =>
              simp only [List.getElem?_cons_succ, List.getElem?_cons_zero, Option.some.injEq] at ho
              subst ho
              unfold Oper.wp
              simp [execOp, go_sem, t5]
              exact came _ rfl (Below.refl _ _) rfl (fun h => absurd h (by decide))
            | 3, _, ho =>
              simp only [List.getElem?_cons_succ, List.getElem?_cons_zero, Option.some.injEq] at ho
              subst ho
              obtain ⟨u1, e1⟩ := hdep ⟨1, .data⟩ (by simp) rfl _ 28 rfl rfl
              rw [show vals 1 = .slice (some ⟨g, o_, none⟩) l.length c from e1] at u1
              obtain ⟨u2, e2⟩ := hdep ⟨2, .data⟩ (by simp) rfl _ 29 rfl rfl
              rw [show vals 2 = .int .i64 (j : Int) from e2] at u2
              unfold Oper.wp
              simp [execOp, go_sem, u1, u2, hji]
              exact came _ rfl (Below.refl _ _) rfl (fun h => absurd h (by decide))
            | 4, _, ho =>
              simp only [List.getElem?_cons_succ, List.getElem?_cons_zero, Option.some.injEq] at ho
              subst ho
              obtain ⟨u3, e3⟩ := hdep ⟨3, .data⟩ (by simp) rfl _ 30 rfl rfl
              rw [show vals 3 = .pointer (some ⟨g, o_ + j * 4, none⟩) from e3] at u3
              unfold Oper.wp
              simp [execOp, go_sem, u3]
              exact came _ rfl (Below.refl _ _) rfl (fun h => absurd h (by decide))
            | 5, _, ho =>
              simp only [List.getElem?_cons_succ, List.getElem?_cons_zero, Option.some.injEq] at ho
              subst ho
              obtain ⟨u4, e4⟩ := hdep ⟨4, .data⟩ (by simp) rfl _ 31 rfl rfl
              rw [show vals 4 = .pointer (some ⟨g, o_ + j * 4, none⟩) from e4] at u4
              have c0 : x9.cell? ⟨g, o_ + j * 4, none⟩ = some (.int .i64 1) := g_kind (hce.later hX)
              unfold Oper.wp
              simp [execOp, go_sem, u4, c0]
              exact came _ rfl (Below.refl _ _) rfl (fun h => absurd h (by decide))
            | 6, _, ho =>
              simp only [List.getElem?_cons_succ, List.getElem?_cons_zero, Option.some.injEq] at ho
              subst ho
              obtain ⟨u5, e5⟩ := hdep ⟨5, .data⟩ (by simp) rfl _ 32 rfl rfl
              rw [show vals 5 = .int .i64 1 from e5] at u5
              unfold Oper.wp
              simp [execOp, go_sem, u5, t3]
              exact came _ rfl (Below.refl _ _) rfl (fun h => absurd h (by decide))
            | 7, _, ho =>
              simp only [List.getElem?_cons_succ, List.getElem?_cons_zero, Option.some.injEq] at ho
              subst ho
              obtain ⟨u6, e6⟩ := hdep ⟨6, .data⟩ (by simp) rfl _ 33 rfl rfl
              rw [show vals 6 = .pointer (some ⟨tb, 1, none⟩) from e6] at u6
              have c0 : x9.cell? ⟨tb, 1, none⟩ = some (.int .i64 3) := (ht.later hX).cellIs 1 rfl
              unfold Oper.wp
              simp [execOp, go_sem, u6, c0]
              exact came _ rfl (Below.refl _ _) rfl (fun h => absurd h (by decide))
            | 8, _, ho =>
              simp only [List.getElem?_cons_succ, List.getElem?_cons_zero, Option.some.injEq] at ho
              subst ho
              unfold Oper.wp
              simp [execOp, go_sem, t0]
              exact came _ rfl (Below.refl _ _) rfl (fun h => absurd h (by decide))
            | 9, _, ho =>
              simp only [List.getElem?_cons_succ, List.getElem?_cons_zero, Option.some.injEq] at ho
              subst ho
              unfold Oper.wp
              simp [execOp, go_sem, t5]
              exact came _ rfl (Below.refl _ _) rfl (fun h => absurd h (by decide))
            | 10, _, ho =>
              simp only [List.getElem?_cons_succ, List.getElem?_cons_zero, Option.some.injEq] at ho
              subst ho
              obtain ⟨u8, e8⟩ := hdep ⟨8, .data⟩ (by simp) rfl _ 35 rfl rfl
              rw [show vals 8 = .slice (some ⟨g, o_, none⟩) l.length c from e8] at u8
              obtain ⟨u9, e9⟩ := hdep ⟨9, .data⟩ (by simp) rfl _ 36 rfl rfl
              rw [show vals 9 = .int .i64 (j : Int) from e9] at u9
              unfold Oper.wp
              simp [execOp, go_sem, u8, u9, hji]
              exact came _ rfl (Below.refl _ _) rfl (fun h => absurd h (by decide))
            | 11, _, ho =>
              simp only [List.getElem?_cons_succ, List.getElem?_cons_zero, Option.some.injEq] at ho
              subst ho
              obtain ⟨u10, e10⟩ := hdep ⟨10, .data⟩ (by simp) rfl _ 37 rfl rfl
              rw [show vals 10 = .pointer (some ⟨g, o_ + j * 4, none⟩) from e10] at u10
              unfold Oper.wp
              simp [execOp, go_sem, u10]
              exact came _ rfl (Below.refl _ _) rfl (fun h => absurd h (by decide))
            | 12, _, ho =>
              simp only [List.getElem?_cons_succ, List.getElem?_cons_zero, Option.some.injEq] at ho
              subst ho
              obtain ⟨u11, e11⟩ := hdep ⟨11, .data⟩ (by simp) rfl _ 38 rfl rfl
              rw [show vals 11 = .pointer (some ⟨g, o_ + j * 4 + 1, none⟩) from e11] at u11
              exact opw_loadID _ rfl (by simp [Act.eval, u11]) ((g_id hce).later hX) (came _ rfl (Below.refl _ _) rfl (fun h => absurd h (by decide)))
            | 13, _, ho =>
              simp only [List.getElem?_cons_succ, List.getElem?_cons_zero, Option.some.injEq] at ho
              subst ho
              obtain ⟨u7, e7⟩ := hdep ⟨7, .data⟩ (by simp) rfl _ 34 rfl rfl
              rw [show vals 7 = .int .i64 3 from e7] at u7
              obtain ⟨u12, e12⟩ := hdep ⟨12, .data⟩ (by simp) rfl _ 39 rfl rfl
              rw [show vals 12 = .agg #[.int .i64 ea, .int .i64 eb, .int .i64 ec] from e12] at u12
              unfold Oper.wp
              simp [execOp, go_sem, u7, u12]
              exact came _ rfl (Below.refl _ _) rfl (fun h => absurd h (by decide))
            | 14, _, ho =>
              simp only [List.getElem?_cons_succ, List.getElem?_cons_zero, Option.some.injEq] at ho
              subst ho
              obtain ⟨u13, e13⟩ := hdep ⟨13, .data⟩ (by simp) rfl _ 40 rfl rfl
              rw [show vals 13 = .agg #[.int .i64 3, .int .i64 ea, .int .i64 eb, .int .i64 ec] from e13] at u13
              unfold Oper.wp
              simp [execOp, go_sem, u13]
              exact came _ rfl (below_one _ _) ⟨x9.heap.size, rfl, so_g x9 ⟨3, ea, eb, ec⟩, by simp⟩ (fun h => absurd h (by decide))
            | m + 15, hi, _ => exact absurd hi (by omega)
          · intro vals x9 hX9 hR9 _
            obtain ⟨g9, q9, qs, qg⟩ : OnX ⟨3, ea, eb, ec⟩ (vals 14) x9 := hR9 14 (by decide)
            have r0 : vals 0 = .slice aO nO cO := hR9 0 (by decide)
            have hsz := hX9.size
            simp only [List.take, List.drop, putAll, r0, q9]
            rw [q9] at qs
            clear q9 r0 hR9
            simp only [List.setIfInBounds_toArray, List.set_cons_succ, List.set_cons_zero]
            go_wp2_with (at_builtin; refine wpL_appG (m := [⟨3, ea, eb, ec⟩]) rfl _ _ rfl rfl rfl (HO.out.1.later hX9) qs (by show _ + 1 ≤ _; have := HLn.out; omega) ?_; intro v3 w3 h3 hg3 hat3; obtain ⟨a3, c3, h3v, _⟩ := Rw.form h3; generalize List.length _ = n3 at h3v; subst h3v)
            have hB3 : Below w.heap.size w w3 := (hB.trans (hX9.mono hB.size)).grown hg3 (by have := hB.size; omega) (fun j hj => by have := HO.out.2 j hj; omega)
            go_roundw
            case rel =>
              have h9 := HT.out
              rw [show tT 3 2 3 1 = 3 from rfl] at h9
              refine ⟨j + 1, by go_num, by omega, ⟨?_, fun j hj => ?_⟩, (ht.later hX9).grow hg3 (fun q9 => by have := HO.out.2 _ q9; omega), hB3⟩
              · show RwX _ _ _
                rw [h9]
                exact h3
              · rcases hat3 j hj with q | q
                · exact HO.out.2 j q
                · have := hB.size; have := ht.lt; omega
            case measure => first | (simp [intOf]; done) | (simp [intOf]; omega)
        · have hkk : ek = 2 := hk3
          subst hkk
          clear hk3
          go_upto_region 7 with fail
          clear c0
          refine wp_region_tailN 15 (by kernel_rfl) (fun _ => none) (by kernel_rfl) (by kernel_rfl) (by decide) (fun i v x9 => match i with
            | 0 => v = .slice aO nO cO
            | 1 => v = .slice (some ⟨g, o_, none⟩) l.length c
            | 2 => v = .int .i64 (j : Int)
            | 3 => v = .pointer (some ⟨g, o_ + j * 4, none⟩)
            | 4 => v = .pointer (some ⟨g, o_ + j * 4, none⟩)
            | 5 => v = .int .i64 2
            | 6 => v = .pointer (some ⟨tb, 2, none⟩)
            | 7 => v = .int .i64 2
            | 8 => v = .slice (some ⟨g, o_, none⟩) l.length c
            | 9 => v = .int .i64 (j : Int)
            | 10 => v = .pointer (some ⟨g, o_ + j * 4, none⟩)
            | 11 => v = .pointer (some ⟨g, o_ + j * 4 + 1, none⟩)
            | 12 => v = .agg #[.int .i64 ea, .int .i64 eb, .int .i64 ec]
            | 13 => v = .agg #[.int .i64 2, .int .i64 ea, .int .i64 eb, .int .i64 ec]
            | 14 => OnX ⟨2, ea, eb, ec⟩ v x9
            | _ => True) (fun _ => false) (fun _ _ _ _ h => by cases h) ?_ ?_ ?_
          · intro i v x9 x9' hR hb
            match i, hR with
            | 0, h => exact h
            | 1, h => exact h
            | 2, h => exact h
            | 3, h => exact h
            | 4, h => exact h
            | 5, h => exact h
            | 6, h => exact h
            | 7, h => exact h
            | 8, h => exact h
            | 9, h => exact h
            | 10, h => exact h
            | 11, h => exact h
            | 12, h => exact h
            | 13, h => exact h
            | 14, h => exact h.later hb
            | m + 15, h => exact h
          · intro i o hi ho q x9 vals hX hdep hoth
            have t4 : q.tmps[4]? = some (.slice aO nO cO) := by rw [hoth 4 (by kernel_rfl)]; rfl
            have t0 : q.tmps[0]? = some (.slice (some ⟨g, o_, none⟩) l.length c) := by rw [hoth 0 (by kernel_rfl)]; rfl
            have t5 : q.tmps[5]? = some (.int .i64 (j : Int)) := by rw [hoth 5 (by kernel_rfl)]; rfl
            have t3 : q.tmps[3]? = some (.pointer (some ⟨tb, 0, none⟩)) := by rw [hoth 3 (by kernel_rfl)]; rfl
            match i, hi, ho with
            | 0, _, ho =>
              simp only [List.getElem?_cons_zero, Option.some.injEq] at ho
              subst ho
              unfold Oper.wp
              simp [execOp, go_sem, t4]
              exact came _ rfl (Below.refl _ _) rfl (fun h => absurd h (by decide))
            | 1, _, ho =>
              simp only [List.getElem?_cons_succ, List.getElem?_cons_zero, Option.some.injEq] at ho
              subst ho
              unfold Oper.wp
              simp [execOp, go_sem, t0]
              exact came _ rfl (Below.refl _ _) rfl (fun h => absurd h (by decide))
            | 2, _, ho =>
              simp only [List.getElem?_cons_succ, List.getElem?_cons_zero, Option.some.injEq] at ho
              subst ho
              unfold Oper.wp
              simp [execOp, go_sem, t5]
              exact came _ rfl (Below.refl _ _) rfl (fun h => absurd h (by decide))
            | 3, _, ho =>
              simp only [List.getElem?_cons_succ, List.getElem?_cons_zero, Option.some.injEq] at ho
              subst ho
              obtain ⟨u1, e1⟩ := hdep ⟨1, .data⟩ (by simp) rfl _ 28 rfl rfl
              rw [show vals 1 = .slice (some ⟨g, o_, none⟩) l.length c from e1] at u1
              obtain ⟨u2, e2⟩ := hdep ⟨2, .data⟩ (by simp) rfl _ 29 rfl rfl
              rw [show vals 2 = .int .i64 (j : Int) from e2] at u2
              unfold Oper.wp
              simp [execOp, go_sem, u1, u2, hji]
              exact came _ rfl (Below.refl _ _) rfl (fun h => absurd h (by decide))
            | 4, _, ho =>
              simp only [List.getElem?_cons_succ, List.getElem?_cons_zero, Option.some.injEq] at ho
              subst ho
              obtain ⟨u3, e3⟩ := hdep ⟨3, .data⟩ (by simp) rfl _ 30 rfl rfl
              rw [show vals 3 = .pointer (some ⟨g, o_ + j * 4, none⟩) from e3] at u3
              unfold Oper.wp
              simp [execOp, go_sem, u3]
              exact came _ rfl (Below.refl _ _) rfl (fun h => absurd h (by decide))
            | 5, _, ho =>
              simp only [List.getElem?_cons_succ, List.getElem?_cons_zero, Option.some.injEq] at ho
              subst ho
              obtain ⟨u4, e4⟩ := hdep ⟨4, .data⟩ (by simp) rfl _ 31 rfl rfl
              rw [show vals 4 = .pointer (some ⟨g, o_ + j * 4, none⟩) from e4] at u4
              have c0 : x9.cell? ⟨g, o_ + j * 4, none⟩ = some (.int .i64 2) := g_kind (hce.later hX)
              unfold Oper.wp
              simp [execOp, go_sem, u4, c0]
              exact came _ rfl (Below.refl _ _) rfl (fun h => absurd h (by decide))
            | 6, _, ho =>
              simp only [List.getElem?_cons_succ, List.getElem?_cons_zero, Option.some.injEq] at ho
              subst ho
              obtain ⟨u5, e5⟩ := hdep ⟨5, .data⟩ (by simp) rfl _ 32 rfl rfl
              rw [show vals 5 = .int .i64 2 from e5] at u5
              unfold Oper.wp
              simp [execOp, go_sem, u5, t3]
              exact came _ rfl (Below.refl _ _) rfl (fun h => absurd h (by decide))
            | 7, _, ho =>
              simp only [List.getElem?_cons_succ, List.getElem?_cons_zero, Option.some.injEq] at ho
              subst ho
              obtain ⟨u6, e6⟩ := hdep ⟨6, .data⟩ (by simp) rfl _ 33 rfl rfl
              rw [show vals 6 = .pointer (some ⟨tb, 2, none⟩) from e6] at u6
              have c0 : x9.cell? ⟨tb, 2, none⟩ = some (.int .i64 2) := (ht.later hX).cellIs 2 rfl
              unfold Oper.wp
              simp [execOp, go_sem, u6, c0]
              exact came _ rfl (Below.refl _ _) rfl (fun h => absurd h (by decide))
            | 8, _, ho =>
              simp only [List.getElem?_cons_succ, List.getElem?_cons_zero, Option.some.injEq] at ho
              subst ho
              unfold Oper.wp
              simp [execOp, go_sem, t0]
              exact came _ rfl (Below.refl _ _) rfl (fun h => absurd h (by decide))
            | 9, _, ho =>
              simp only [List.getElem?_cons_succ, List.getElem?_cons_zero, Option.some.injEq] at ho
              subst ho
              unfold Oper.wp
              simp [execOp, go_sem, t5]
              exact came _ rfl (Below.refl _ _) rfl (fun h => absurd h (by decide))
            | 10, _, ho =>
              simp only [List.getElem?_cons_succ, List.getElem?_cons_zero, Option.some.injEq] at ho
              subst ho
              obtain ⟨u8, e8⟩ := hdep ⟨8, .data⟩ (by simp) rfl _ 35 rfl rfl
              rw [show vals 8 = .slice (some ⟨g, o_, none⟩) l.length c from e8] at u8
              obtain ⟨u9, e9⟩ := hdep ⟨9, .data⟩ (by simp) rfl _ 36 rfl rfl
              rw [show vals 9 = .int .i64 (j : Int) from e9] at u9
              unfold Oper.wp
              simp [execOp, go_sem, u8, u9, hji]
              exact came _ rfl (Below.refl _ _) rfl (fun h => absurd h (by decide))
            | 11, _, ho =>
              simp only [List.getElem?_cons_succ, List.getElem?_cons_zero, Option.some.injEq] at ho
              subst ho
              obtain ⟨u10, e10⟩ := hdep ⟨10, .data⟩ (by simp) rfl _ 37 rfl rfl
              rw [show vals 10 = .pointer (some ⟨g, o_ + j * 4, none⟩) from e10] at u10
              unfold Oper.wp
              simp [execOp, go_sem, u10]
              exact came _ rfl (Below.refl _ _) rfl (fun h => absurd h (by decide))
            | 12, _, ho =>
              simp only [List.getElem?_cons_succ, List.getElem?_cons_zero, Option.some.injEq] at ho
              subst ho
              obtain ⟨u11, e11⟩ := hdep ⟨11, .data⟩ (by simp) rfl _ 38 rfl rfl
              rw [show vals 11 = .pointer (some ⟨g, o_ + j * 4 + 1, none⟩) from e11] at u11
              exact opw_loadID _ rfl (by simp [Act.eval, u11]) ((g_id hce).later hX) (came _ rfl (Below.refl _ _) rfl (fun h => absurd h (by decide)))
            | 13, _, ho =>
              simp only [List.getElem?_cons_succ, List.getElem?_cons_zero, Option.some.injEq] at ho
              subst ho
              obtain ⟨u7, e7⟩ := hdep ⟨7, .data⟩ (by simp) rfl _ 34 rfl rfl
              rw [show vals 7 = .int .i64 2 from e7] at u7
              obtain ⟨u12, e12⟩ := hdep ⟨12, .data⟩ (by simp) rfl _ 39 rfl rfl
              rw [show vals 12 = .agg #[.int .i64 ea, .int .i64 eb, .int .i64 ec] from e12] at u12
              unfold Oper.wp
              simp [execOp, go_sem, u7, u12]
              exact came _ rfl (Below.refl _ _) rfl (fun h => absurd h (by decide))
            | 14, _, ho =>
              simp only [List.getElem?_cons_succ, List.getElem?_cons_zero, Option.some.injEq] at ho
              subst ho
              obtain ⟨u13, e13⟩ := hdep ⟨13, .data⟩ (by simp) rfl _ 40 rfl rfl
              rw [show vals 13 = .agg #[.int .i64 2, .int .i64 ea, .int .i64 eb, .int .i64 ec] from e13] at u13
              unfold Oper.wp
              simp [execOp, go_sem, u13]
              exact came _ rfl (below_one _ _) ⟨x9.heap.size, rfl, so_g x9 ⟨2, ea, eb, ec⟩, by simp⟩ (fun h => absurd h (by decide))
            | m + 15, hi, _ => exact absurd hi (by omega)
          · intro vals x9 hX9 hR9 _
            obtain ⟨g9, q9, qs, qg⟩ : OnX ⟨2, ea, eb, ec⟩ (vals 14) x9 := hR9 14 (by decide)
            have r0 : vals 0 = .slice aO nO cO := hR9 0 (by decide)
            have hsz := hX9.size
            simp only [List.take, List.drop, putAll, r0, q9]
            rw [q9] at qs
            clear q9 r0 hR9
            simp only [List.setIfInBounds_toArray, List.set_cons_succ, List.set_cons_zero]
            go_wp2_with (at_builtin; refine wpL_appG (m := [⟨2, ea, eb, ec⟩]) rfl _ _ rfl rfl rfl (HO.out.1.later hX9) qs (by show _ + 1 ≤ _; have := HLn.out; omega) ?_; intro v3 w3 h3 hg3 hat3; obtain ⟨a3, c3, h3v, _⟩ := Rw.form h3; generalize List.length _ = n3 at h3v; subst h3v)
            have hB3 : Below w.heap.size w w3 := (hB.trans (hX9.mono hB.size)).grown hg3 (by have := hB.size; omega) (fun j hj => by have := HO.out.2 j hj; omega)
            go_roundw
            case rel =>
              have h9 := HT.out
              rw [show tT 3 2 3 2 = 2 from rfl] at h9
              refine ⟨j + 1, by go_num, by omega, ⟨?_, fun j hj => ?_⟩, (ht.later hX9).grow hg3 (fun q9 => by have := HO.out.2 _ q9; omega), hB3⟩
              · show RwX _ _ _
                rw [h9]
                exact h3
              · rcases hat3 j hj with q | q
                · exact HO.out.2 j q
                · have := hB.size; have := ht.lt; omega
            case measure => first | (simp [intOf]; done) | (simp [intOf]; omega)
        · have hkk : ek = 3 := hk3
          subst hkk
          clear hk3
          go_upto_region 7 with fail
          clear c0
          refine wp_region_tailN 15 (by kernel_rfl) (fun _ => none) (by kernel_rfl) (by kernel_rfl) (by decide) (fun i v x9 => match i with
            | 0 => v = .slice aO nO cO
            | 1 => v = .slice (some ⟨g, o_, none⟩) l.length c
            | 2 => v = .int .i64 (j : Int)
            | 3 => v = .pointer (some ⟨g, o_ + j * 4, none⟩)
            | 4 => v = .pointer (some ⟨g, o_ + j * 4, none⟩)
            | 5 => v = .int .i64 3
            | 6 => v = .pointer (some ⟨tb, 3, none⟩)
            | 7 => v = .int .i64 3
            | 8 => v = .slice (some ⟨g, o_, none⟩) l.length c
            | 9 => v = .int .i64 (j : Int)
            | 10 => v = .pointer (some ⟨g, o_ + j * 4, none⟩)
            | 11 => v = .pointer (some ⟨g, o_ + j * 4 + 1, none⟩)
            | 12 => v = .agg #[.int .i64 ea, .int .i64 eb, .int .i64 ec]
            | 13 => v = .agg #[.int .i64 3, .int .i64 ea, .int .i64 eb, .int .i64 ec]
            | 14 => OnX ⟨3, ea, eb, ec⟩ v x9
            | _ => True) (fun _ => false) (fun _ _ _ _ h => by cases h) ?_ ?_ ?_
          · intro i v x9 x9' hR hb
            match i, hR with
            | 0, h => exact h
            | 1, h => exact h
            | 2, h => exact h
            | 3, h => exact h
            | 4, h => exact h
            | 5, h => exact h
            | 6, h => exact h
            | 7, h => exact h
            | 8, h => exact h
            | 9, h => exact h
            | 10, h => exact h
            | 11, h => exact h
            | 12, h => exact h
            | 13, h => exact h
            | 14, h => exact h.later hb
            | m + 15, h => exact h
          · intro i o hi ho q x9 vals hX hdep hoth
            have t4 : q.tmps[4]? = some (.slice aO nO cO) := by rw [hoth 4 (by kernel_rfl)]; rfl
            have t0 : q.tmps[0]? = some (.slice (some ⟨g, o_, none⟩) l.length c) := by rw [hoth 0 (by kernel_rfl)]; rfl
            have t5 : q.tmps[5]? = some (.int .i64 (j : Int)) := by rw [hoth 5 (by kernel_rfl)]; rfl
            have t3 : q.tmps[3]? = some (.pointer (some ⟨tb, 0, none⟩)) := by rw [hoth 3 (by kernel_rfl)]; rfl
            match i, hi, ho with
            | 0, _, ho =>
              simp only [List.getElem?_cons_zero, Option.some.injEq] at ho
              subst ho
              unfold Oper.wp
              simp [execOp, go_sem, t4]
              exact came _ rfl (Below.refl _ _) rfl (fun h => absurd h (by decide))
            | 1, _, ho =>
              simp only [List.getElem?_cons_succ, List.getElem?_cons_zero, Option.some.injEq] at ho
              subst ho
              unfold Oper.wp
              simp [execOp, go_sem, t0]
              exact came _ rfl (Below.refl _ _) rfl (fun h => absurd h (by decide))
            | 2, _, ho =>
              simp only [List.getElem?_cons_succ, List.getElem?_cons_zero, Option.some.injEq] at ho
              subst ho
              unfold Oper.wp
              simp [execOp, go_sem, t5]
              exact came _ rfl (Below.refl _ _) rfl (fun h => absurd h (by decide))
            | 3, _, ho =>
              simp only [List.getElem?_cons_succ, List.getElem?_cons_zero, Option.some.injEq] at ho
              subst ho
              obtain ⟨u1, e1⟩ := hdep ⟨1, .data⟩ (by simp) rfl _ 28 rfl rfl
              rw [show vals 1 = .slice (some ⟨g, o_, none⟩) l.length c from e1] at u1
              obtain ⟨u2, e2⟩ := hdep ⟨2, .data⟩ (by simp) rfl _ 29 rfl rfl
              rw [show vals 2 = .int .i64 (j : Int) from e2] at u2
              unfold Oper.wp
              simp [execOp, go_sem, u1, u2, hji]
              exact came _ rfl (Below.refl _ _) rfl (fun h => absurd h (by decide))
            | 4, _, ho =>
              simp only [List.getElem?_cons_succ, List.getElem?_cons_zero, Option.some.injEq] at ho
              subst ho
              obtain ⟨u3, e3⟩ := hdep ⟨3, .data⟩ (by simp) rfl _ 30 rfl rfl
              rw [show vals 3 = .pointer (some ⟨g, o_ + j * 4, none⟩) from e3] at u3
              unfold Oper.wp
              simp [execOp, go_sem, u3]
              exact came _ rfl (Below.refl _ _) rfl (fun h => absurd h (by decide))
            | 5, _, ho =>
              simp only [List.getElem?_cons_succ, List.getElem?_cons_zero, Option.some.injEq] at ho
              subst ho
              obtain ⟨u4, e4⟩ := hdep ⟨4, .data⟩ (by simp) rfl _ 31 rfl rfl
              rw [show vals 4 = .pointer (some ⟨g, o_ + j * 4, none⟩) from e4] at u4
              have c0 : x9.cell? ⟨g, o_ + j * 4, none⟩ = some (.int .i64 3) := g_kind (hce.later hX)
              unfold Oper.wp
              simp [execOp, go_sem, u4, c0]
              exact came _ rfl (Below.refl _ _) rfl (fun h => absurd h (by decide))
            | 6, _, ho =>
              simp only [List.getElem?_cons_succ, List.getElem?_cons_zero, Option.some.injEq] at ho
              subst ho
              obtain ⟨u5, e5⟩ := hdep ⟨5, .data⟩ (by simp) rfl _ 32 rfl rfl
              rw [show vals 5 = .int .i64 3 from e5] at u5
              unfold Oper.wp
              simp [execOp, go_sem, u5, t3]
              exact came _ rfl (Below.refl _ _) rfl (fun h => absurd h (by decide))
            | 7, _, ho =>
              simp only [List.getElem?_cons_succ, List.getElem?_cons_zero, Option.some.injEq] at ho
              subst ho
              obtain ⟨u6, e6⟩ := hdep ⟨6, .data⟩ (by simp) rfl _ 33 rfl rfl
              rw [show vals 6 = .pointer (some ⟨tb, 3, none⟩) from e6] at u6
              have c0 : x9.cell? ⟨tb, 3, none⟩ = some (.int .i64 3) := (ht.later hX).cellIs 3 rfl
              unfold Oper.wp
              simp [execOp, go_sem, u6, c0]
              exact came _ rfl (Below.refl _ _) rfl (fun h => absurd h (by decide))
            | 8, _, ho =>
              simp only [List.getElem?_cons_succ, List.getElem?_cons_zero, Option.some.injEq] at ho
              subst ho
              unfold Oper.wp
              simp [execOp, go_sem, t0]
              exact came _ rfl (Below.refl _ _) rfl (fun h => absurd h (by decide))
            | 9, _, ho =>
              simp only [List.getElem?_cons_succ, List.getElem?_cons_zero, Option.some.injEq] at ho
              subst ho
              unfold Oper.wp
              simp [execOp, go_sem, t5]
              exact came _ rfl (Below.refl _ _) rfl (fun h => absurd h (by decide))
            | 10, _, ho =>
              simp only [List.getElem?_cons_succ, List.getElem?_cons_zero, Option.some.injEq] at ho
              subst ho
              obtain ⟨u8, e8⟩ := hdep ⟨8, .data⟩ (by simp) rfl _ 35 rfl rfl
              rw [show vals 8 = .slice (some ⟨g, o_, none⟩) l.length c from e8] at u8
              obtain ⟨u9, e9⟩ := hdep ⟨9, .data⟩ (by simp) rfl _ 36 rfl rfl
              rw [show vals 9 = .int .i64 (j : Int) from e9] at u9
              unfold Oper.wp
              simp [execOp, go_sem, u8, u9, hji]
              exact came _ rfl (Below.refl _ _) rfl (fun h => absurd h (by decide))
            | 11, _, ho =>
              simp only [List.getElem?_cons_succ, List.getElem?_cons_zero, Option.some.injEq] at ho
              subst ho
              obtain ⟨u10, e10⟩ := hdep ⟨10, .data⟩ (by simp) rfl _ 37 rfl rfl
              rw [show vals 10 = .pointer (some ⟨g, o_ + j * 4, none⟩) from e10] at u10
              unfold Oper.wp
              simp [execOp, go_sem, u10]
              exact came _ rfl (Below.refl _ _) rfl (fun h => absurd h (by decide))
            | 12, _, ho =>
              simp only [List.getElem?_cons_succ, List.getElem?_cons_zero, Option.some.injEq] at ho
              subst ho
              obtain ⟨u11, e11⟩ := hdep ⟨11, .data⟩ (by simp) rfl _ 38 rfl rfl
              rw [show vals 11 = .pointer (some ⟨g, o_ + j * 4 + 1, none⟩) from e11] at u11
              exact opw_loadID _ rfl (by simp [Act.eval, u11]) ((g_id hce).later hX) (came _ rfl (Below.refl _ _) rfl (fun h => absurd h (by decide)))
            | 13, _, ho =>
              simp only [List.getElem?_cons_succ, List.getElem?_cons_zero, Option.some.injEq] at ho
              subst ho
              obtain ⟨u7, e7⟩ := hdep ⟨7, .data⟩ (by simp) rfl _ 34 rfl rfl
              rw [show vals 7 = .int .i64 3 from e7] at u7
              obtain ⟨u12, e12⟩ := hdep ⟨12, .data⟩ (by simp) rfl _ 39 rfl rfl
              rw [show vals 12 = .agg #[.int .i64 ea, .int .i64 eb, .int .i64 ec] from e12] at u12
              unfold Oper.wp
              simp [execOp, go_sem, u7, u12]
              exact came _ rfl (Below.refl _ _) rfl (fun h => absurd h (by decide))
            | 14, _, ho =>
              simp only [List.getElem?_cons_succ, List.getElem?_cons_zero, Option.some.injEq] at ho
              subst ho
              obtain ⟨u13, e13⟩ := hdep ⟨13, .data⟩ (by simp) rfl _ 40 rfl rfl
              rw [show vals 13 = .agg #[.int .i64 3, .int .i64 ea, .int .i64 eb, .int .i64 ec] from e13] at u13
              unfold Oper.wp
              simp [execOp, go_sem, u13]
              exact came _ rfl (below_one _ _) ⟨x9.heap.size, rfl, so_g x9 ⟨3, ea, eb, ec⟩, by simp⟩ (fun h => absurd h (by decide))
            | m + 15, hi, _ => exact absurd hi (by omega)
          · intro vals x9 hX9 hR9 _
            obtain ⟨g9, q9, qs, qg⟩ : OnX ⟨3, ea, eb, ec⟩ (vals 14) x9 := hR9 14 (by decide)
            have r0 : vals 0 = .slice aO nO cO := hR9 0 (by decide)
            have hsz := hX9.size
            simp only [List.take, List.drop, putAll, r0, q9]
            rw [q9] at qs
            clear q9 r0 hR9
            simp only [List.setIfInBounds_toArray, List.set_cons_succ, List.set_cons_zero]
            go_wp2_with (at_builtin; refine wpL_appG (m := [⟨3, ea, eb, ec⟩]) rfl _ _ rfl rfl rfl (HO.out.1.later hX9) qs (by show _ + 1 ≤ _; have := HLn.out; omega) ?_; intro v3 w3 h3 hg3 hat3; obtain ⟨a3, c3, h3v, _⟩ := Rw.form h3; generalize List.length _ = n3 at h3v; subst h3v)
            have hB3 : Below w.heap.size w w3 := (hB.trans (hX9.mono hB.size)).grown hg3 (by have := hB.size; omega) (fun j hj => by have := HO.out.2 j hj; omega)
            go_roundw
            case rel =>
              have h9 := HT.out
              rw [show tT 3 2 3 3 = 3 from rfl] at h9
              refine ⟨j + 1, by go_num, by omega, ⟨?_, fun j hj => ?_⟩, (ht.later hX9).grow hg3 (fun q9 => by have := HO.out.2 _ q9; omega), hB3⟩
              · show RwX _ _ _
                rw [h9]
                exact h3
              · rcases hat3 j hj with q | q
                · exact HO.out.2 j q
                · have := hB.size; have := ht.lt; omega
            case measure => first | (simp [intOf]; done) | (simp [intOf]; omega)
    · have hji : ¬ (j : Int) < (l.length : Int) := by omega
      obtain rfl : j = l.length := by omega
      rw [List.take_length] at hO
      have HR := hid_of' (And.intro hO hB)
      obtain ⟨a5, c5, rfl, _⟩ := Rw.form hO.1
      clear hO ht hB
      go_wp2
      go_ret
      exact ⟨_, rfl, ⟨HR.out.1.1, fun k hk => by have := HR.out.1.2 k hk; omega⟩, htb ▸ HR.out.2⟩
end Go.Proofs.YtgkbgojgpomcdaaDoor
