
/-
  The document's Join; barrowlaw12.FlattenJoin answers true.
-/
import Derived.Test.YtfgcljpiidhfpaaDoorFl13
import Derived.Test.YtfgcljpiidhfpaaDoorInvFD
namespace Go.Proofs.YtfgcljpiidhfpaaDoor
open Go.RowKit
set_option maxRecDepth 100000

set_option maxHeartbeats 8000000 in
theorem refJoin_any {a b : List Rnd} (oa : OkL a) (ob : OkL b) (w : World) :
    Calls Tryd.prog 16 #[.agg (cv (rs a)), .agg (cv (rs b))] w fun e w' => e = .returned (.agg (cv (rs (joinL a b)))) ∧ Below w.heap.size w w' := by
  obtain ⟨r1, r2, r3, hB⟩ := three_boxes w (cv (rs a)) (cv (rs b)) (cv (rs rds0)) 46
  have HJ := hid_of' (jn_all oa ob)
  go_enter Tryd.func16, Tryd.ntmps16
  go_upto_region 1 with (refine wpL_alloc rfl _ rfl zRnds ?_)
  simp only [World.size_alloc]
  obtain ⟨A, hA⟩ : ∃ A, w.heap.size = A := ⟨_, rfl⟩
  generalize ((w.alloc (.cells (cv (rs a)) 46)).alloc (.cells (cv (rs b)) 46)).alloc (.cells (cv (rs rds0)) 46) = W at *
  rw [hA] at r1 r2 r3 ⊢
  have HA0 := hid_of' hA
  clear hA
  go_upto_region 2 with fail
  go_loopw [5] (fun i wr => ∃ k : Nat, i = .int .i64 (k : Int) ∧ k ≤ 8 ∧ RowAt A (cv (rs (updK (jnF b) a k))) 46 wr ∧ RowAt (A + 1) (cv (rs b)) 46 wr ∧ RowAt (A + 2) (cv (rs rds0)) 46 wr ∧ Below w.heap.size w wr) (fun i _ => 8 - (intOf i).toNat)
  case atStart => exact ⟨0, rfl, by omega, by rw [updK_zero]; exact r1, r2, r3, hB⟩
  case round =>
    rename World => wr
    clear r1 r2 r3 hB
    obtain ⟨k, rfl, hk, r1, r2, r3, hB⟩ := hrel
    have hLo := updK_ok oa (jnF_ok oa ob) k
    by_cases hlt : k < 8
    · have hki : (k : Int) < 8 := by omega
      have hk8 : (k : Int) < 8 := by omega
      obtain ⟨ra, hxk, hxo⟩ := oa.at hlt
      obtain ⟨rb, hyk, hyo⟩ := ob.at hlt
      have hxL := updK_get (f := jnF b) (k := k) hxk
      rw [if_neg (by omega)] at hxL
      have hnx := updK_next (f := jnF b) hxk
      rw [jnF_at hyk] at hnx
      obtain ⟨L, hL⟩ : ∃ L, updK (jnF b) a k = L := ⟨_, rfl⟩
      rw [hL] at hLo hxL hnx r1
      have HA := hid_of' r1
      have HB2 := hid_of' r2
      have HX := hid_of' hnx
      clear hL hnx hxk
      have hA3 := r3.lt
      go_upto_region 4 with fail
      refine wp_region_floatD (by kernel_rfl) (by kernel_rfl) (fun i v x => match i with
        | 0 => v = .int .i64 (k : Int)
        | 1 => v = .pointer (some ⟨A, k * 18, none⟩)
        | 2 => v = .agg (cv (rc ra))
        | 3 => v = .int .i64 (k : Int)
        | 4 => v = .pointer (some ⟨A + 1, k * 18, none⟩)
        | 5 => v = .agg (cv (rc rb))
        | _ => True) (fun i => match i with | 6 => some (44, 18) | 7 => some (44, 18) | _ => none) (fun i => match i with | 8 => some (6, 2) | 9 => some (7, 5) | _ => none) ?_ ?_ ?_ ?_ ?_ ?_ ?_
      · intro kk f s h
        match kk, h with
        | 8, h => cases h; exact ⟨rfl, (by intro h; cases h), rfl, rfl, _, _, _, _, _, ⟨6, .data⟩, ⟨2, .data⟩, rfl, rfl, rfl, rfl, rfl, (by simp), rfl, rfl, (by simp), rfl, rfl⟩
        | 9, h => cases h; exact ⟨rfl, (by intro h; cases h), rfl, rfl, _, _, _, _, _, ⟨7, .data⟩, ⟨5, .data⟩, rfl, rfl, rfl, rfl, rfl, (by simp), rfl, rfl, (by simp), rfl, rfl⟩
        | 0, h | 1, h | 2, h | 3, h | 4, h | 5, h | 6, h | 7, h => cases h
        | m + 10, h => cases h
      · intro i t n h
        match i, h with
        | 6, h => rfl
        | 7, h => rfl
        | 0, h | 1, h | 2, h | 3, h | 4, h | 5, h | 8, h | 9, h => cases h
        | m + 10, h => cases h
      · intro p q f s s' h1 h2
        have e1 : (p = 8 ∧ f = 6) ∨ (p = 9 ∧ f = 7) := by
          match p, h1 with
          | 8, h => cases h; simp
          | 9, h => cases h; simp
          | 0, h | 1, h | 2, h | 3, h | 4, h | 5, h | 6, h | 7, h => cases h
          | m + 10, h => cases h
        have e2 : (q = 8 ∧ f = 6) ∨ (q = 9 ∧ f = 7) := by
          match q, h2 with
          | 8, h => cases h; simp
          | 9, h => cases h; simp
          | 0, h | 1, h | 2, h | 3, h | 4, h | 5, h | 6, h | 7, h => cases h
          | m + 10, h => cases h
        omega
      · intro i o ho hA hK q x vals S hX hS hdep hoth
        have t5 : q.tmps[5]? = some (.int .i64 (k : Int)) := by rw [hoth 5 (by kernel_rfl)]; rfl
        have t2 : q.tmps[2]? = some (.pointer (some ⟨A, 0, none⟩)) := by rw [hoth 2 (by kernel_rfl)]; rfl
        have t3 : q.tmps[3]? = some (.pointer (some ⟨A + 1, 0, none⟩)) := by rw [hoth 3 (by kernel_rfl)]; rfl
        match i, ho, hA, hK with
        | 0, ho, hA, hK =>
          simp only [List.getElem?_cons_zero, Option.some.injEq] at ho
          subst ho
          unfold Oper.wp
          simp [execOp, go_sem, t5]
          exact cameF _ rfl (Below.refl _ _) (fun _ _ => rfl)
        | 1, ho, hA, hK =>
          simp only [List.getElem?_cons_succ, List.getElem?_cons_zero, Option.some.injEq] at ho
          subst ho
          obtain ⟨u0, e0⟩ := hdep ⟨0, .data⟩ (by simp) rfl _ 13 rfl rfl
          rw [show vals 0 = .int .i64 (k : Int) from e0 rfl rfl x (KeptP.refl _ _)] at u0
          unfold Oper.wp
          simp [execOp, go_sem, u0, t2, hk8]
          exact cameF _ rfl (Below.refl _ _) (fun _ _ => rfl)
        | 2, ho, hA, hK =>
          simp only [List.getElem?_cons_succ, List.getElem?_cons_zero, Option.some.injEq] at ho
          subst ho
          obtain ⟨u1, e1⟩ := hdep ⟨1, .data⟩ (by simp) rfl _ 14 rfl rfl
          rw [show vals 1 = .pointer (some ⟨A, k * 18, none⟩) from e1 rfl rfl x (KeptP.refl _ _)] at u1
          exact opRnd hxo _ rfl (by simp [Act.eval, u1]) ((RowAt.later HA.out hX).subRs hLo hxL) (cameF _ rfl (Below.refl _ _) (fun _ _ => rfl))
        | 3, ho, hA, hK =>
          simp only [List.getElem?_cons_succ, List.getElem?_cons_zero, Option.some.injEq] at ho
          subst ho
          unfold Oper.wp
          simp [execOp, go_sem, t5]
          exact cameF _ rfl (Below.refl _ _) (fun _ _ => rfl)
        | 4, ho, hA, hK =>
          simp only [List.getElem?_cons_succ, List.getElem?_cons_zero, Option.some.injEq] at ho
          subst ho
          obtain ⟨u3, e3⟩ := hdep ⟨3, .data⟩ (by simp) rfl _ 16 rfl rfl
          rw [show vals 3 = .int .i64 (k : Int) from e3 rfl rfl x (KeptP.refl _ _)] at u3
          unfold Oper.wp
          simp [execOp, go_sem, u3, t3, hk8]
          exact cameF _ rfl (Below.refl _ _) (fun _ _ => rfl)
        | 5, ho, hA, hK =>
          simp only [List.getElem?_cons_succ, List.getElem?_cons_zero, Option.some.injEq] at ho
          subst ho
          obtain ⟨u4, e4⟩ := hdep ⟨4, .data⟩ (by simp) rfl _ 17 rfl rfl
          rw [show vals 4 = .pointer (some ⟨A + 1, k * 18, none⟩) from e4 rfl rfl x (KeptP.refl _ _)] at u4
          exact opRnd hyo _ rfl (by simp [Act.eval, u4]) ((RowAt.later HB2.out hX).subRs ob hyk) (cameF _ rfl (Below.refl _ _) (fun _ _ => rfl))
        | 6, ho, hA, hK => cases hA
        | 7, ho, hA, hK => cases hA
        | 8, ho, hA, hK => cases hK
        | 9, ho, hA, hK => cases hK
        | m + 10, ho, hA, hK => simp at ho
      · intro i o t n ho hA q x
        match i, ho, hA with
        | 6, ho, hA =>
          cases hA
          simp only [List.getElem?_cons_succ, List.getElem?_cons_zero, Option.some.injEq] at ho
          subst ho
          unfold Oper.wp
          simp [execOp, go_sem]
          exact ⟨_, rfl, rfl, rfl⟩
        | 7, ho, hA =>
          cases hA
          simp only [List.getElem?_cons_succ, List.getElem?_cons_zero, Option.some.injEq] at ho
          subst ho
          unfold Oper.wp
          simp [execOp, go_sem]
          exact ⟨_, rfl, rfl, rfl⟩
        | 0, ho, hA | 1, ho, hA | 2, ho, hA | 3, ho, hA | 4, ho, hA | 5, ho, hA | 8, ho, hA | 9, ho, hA => cases hA
        | m + 10, ho, hA => cases hA
      · intro i o of os_ f s n g' t df ds sv ho hK hA hf hs hdf hds q x cs0 sf ss hR hg hn
        match i, ho, hK with
        | 8, ho, hK =>
          cases hK
          cases hA
          simp only [List.getElem?_cons_succ, List.getElem?_cons_zero, Option.some.injEq] at ho hf hs
          subst ho hf hs
          cases hdf
          cases hds
          obtain rfl : sv = .agg (cv (rc ra)) := hR
          exact wp_store_row _ _ _ rfl g' ((cv (rc ra))) (by simp [Act.eval, sf]) (by simp [Act.eval, ss]) _ cs0 hg (rnd_size hxo) (by rw [hn, cv_size, rc_len hxo]) (cv_one _) ⟨undef, (cv (rc ra)), rfl, rfl, (by rw [cv_size, rc_len hxo]), rfl⟩
        | 9, ho, hK =>
          cases hK
          cases hA
          simp only [List.getElem?_cons_succ, List.getElem?_cons_zero, Option.some.injEq] at ho hf hs
          subst ho hf hs
          cases hdf
          cases hds
          obtain rfl : sv = .agg (cv (rc rb)) := hR
          exact wp_store_row _ _ _ rfl g' ((cv (rc rb))) (by simp [Act.eval, sf]) (by simp [Act.eval, ss]) _ cs0 hg (rnd_size hyo) (by rw [hn, cv_size, rc_len hyo]) (cv_one _) ⟨undef, (cv (rc rb)), rfl, rfl, (by rw [cv_size, rc_len hyo]), rfl⟩
        | 0, ho, hK | 1, ho, hK | 2, ho, hK | 3, ho, hK | 4, ho, hK | 5, ho, hK | 6, ho, hK | 7, ho, hK => cases hK
        | m + 10, ho, hK => cases hK
      · intro vals W5 hb5 hR5 hBk hAp
        obtain ⟨bx, csx, qx, hbx, hrx, _, hstx⟩ := hBk 6 _ _ (by decide) rfl
        obtain ⟨by_, csy, qy, hby, hry, _, hsty⟩ := hBk 7 _ _ (by decide) rfl
        have v2 : vals 2 = .agg (cv (rc ra)) := hR5 2 (by decide) rfl rfl
        have v5 : vals 5 = .agg (cv (rc rb)) := hR5 5 (by decide) rfl rfl
        have ex : csx = cv (rc ra) := Value.agg.inj ((hstx 8 2 (by decide) rfl).symm.trans v2)
        have ey : csy = cv (rc rb) := Value.agg.inj ((hsty 9 5 (by decide) rfl).symm.trans v5)
        have hxy : ¬ bx = by_ := fun e => hAp 6 7 (by decide) (by decide) (by intro h; cases h) (by intro h; cases h) (by decide) (by rw [qx, qy, e])
        subst ex ey
        have gx : RowAt bx (cv (rc ra)) 44 W5 := hrx
        have gy : RowAt by_ (cv (rc rb)) 44 W5 := hry
        simp only [putAll, qx, qy, v2, v5, List.setIfInBounds_toArray, List.set_cons_succ, List.set_cons_zero]
        clear hrx hry hR5 hBk hstx hsty v2 v5 qx qy hAp HA HB2
        replace r1 := r1.later hb5
        replace r2 := r2.later hb5
        replace r3 := r3.later hb5
        replace hB := bgo hB hb5
        have hbw := HA0.out
        clear hb5
        have n1 := gx.int (k := 0) (by rw [rc_len hxo]; decide)
        have n2 := gy.int (k := 0) (by rw [rc_len hyo]; decide)
        rw [rc_num] at n1 n2
        have hnn : ∀ (x : Prop), x → x := fun _ h => h
        rcases Int.lt_trichotomy ra.num rb.num with hj | hj | hj
        · have hjr : joinR ra rb = rb := joinR_gt hj
          rw [hjr] at HX
          have hne : (rb.num != ra.num) = true := by simpa using (by omega : ¬ rb.num = ra.num)
          clear hjr hbw
          have hp := r1.putC (o := k * 18) (y := rc rb) (by rw [rc_len hyo, rs_len hLo]; omega)
          rw [rs_put hLo hlt hyo, HX.out] at hp
          have hcc := Ch.cells (S := fun j => j = A) (a := W5) (g := A) (.inl rfl) (cv (rc rb)).toList (k * 18) W5 (Ch.refl _ _)
          have HZ := hid_of' (And.intro hp (And.intro (r2.ch hcc (by omega)) (And.intro (r3.ch hcc (by omega)) (And.intro (Ch.none ((Ch.of (S := fun _ => False) hB).go hcc (fun z hz => .inr (by have := HA0.out; omega))) (fun _ _ q => q)) (And.intro (gx.ch hcc (by omega)) (gy.ch hcc (by omega)))))))
          go_upto_region 7 with (first | (refine ldRnd hyo rfl _ rfl rfl gy.in ?_) | (refine stRnd rfl _ _ rfl rfl hyo rfl r1 (by rw [rs_len hLo]; omega) ?_))
          clear hp hcc r1 r2 r3 hB gx gy n1 n2
          generalize W5.setCells A (k * 18) (cv (rc rb)).toList = W6 at HZ ⊢
          have n1 := HZ.out.2.2.2.2.1.int (k := 0) (by rw [rc_len hxo]; decide)
          have n2 := HZ.out.2.2.2.2.2.int (k := 0) (by rw [rc_len hyo]; decide)
          rw [rc_num] at n1 n2
          go_wp2
          go_roundw
          case rel => exact ⟨k + 1, by go_num, by omega, HZ.out.1, HZ.out.2.1, HZ.out.2.2.1, HZ.out.2.2.2.1⟩
          case measure => simp [intOf]; omega
        · have hjr : joinR ra rb = ⟨ra.num, mrg ra.cut rb.cut, mrg ra.vot rb.vot, mx ra.dec rb.dec⟩ := joinR_eq hj.symm
          rw [hjr] at HX
          have hne : (rb.num != ra.num) = false := by simpa using hj.symm
          have hge : ¬ ra.num < rb.num := by omega
          have hml := mrg_len hxo.1 hyo.1
          clear hjr hbw hj
          go_upto_region 8 with fail
          clear n1 n2 hne hge
          have i1 := rnd_cutIn hxo gx
          have i2 := rnd_cutIn hyo gy
          have HM1 := fun X => hid_of' (refMerge_any ra.cut rb.cut X hxo.1 hyo.1)
          go_upto_region 9 with (first | (refine ldCk hxo.1 rfl _ rfl rfl i1 ?_) | (refine ldCk hyo.1 rfl _ rfl rfl i2 ?_) | (go_at_call 47; refine (HM1 _).out.mono ?_; rintro e w3 ⟨rfl, hb3⟩; have gx3 := gx.later hb3) | (refine stCk rfl _ _ rfl rfl hml rfl gx3 (by rw [rc_len hxo]; decide) ?_))
          have hp := gx3.putC (o := 1) (y := mrg ra.cut rb.cut) (by rw [hml, rc_len hxo]; decide)
          rw [rc_putCut hxo hml] at hp
          have hcc := Ch.cells (S := fun j => j = bx) (a := w3) (g := bx) (.inl rfl) (cv (mrg ra.cut rb.cut)).toList 1 w3 (Ch.refl _ _)
          have H3 := hid_of' (And.intro hp (And.intro ((gy.later hb3).ch hcc (by omega)) (And.intro ((r1.later hb3).ch hcc (by omega)) (And.intro ((r2.later hb3).ch hcc (by omega)) (And.intro ((r3.later hb3).ch hcc (by omega)) (Ch.none ((Ch.of (S := fun _ => False) (bgo hB hb3)).go hcc (fun z hz => .inr (by have := HA0.out; omega))) (fun _ _ q => q)))))))
          clear hp hcc gx3 gx gy r1 r2 r3 hB i1 i2 HM1 hb3
          generalize w3.setCells bx 1 (cv (mrg ra.cut rb.cut)).toList = W7 at H3 ⊢
          go_upto_region 10 with fail
          obtain ⟨num, hnum⟩ : ∃ n, ra.num = n := ⟨_, rfl⟩
          obtain ⟨dec, hdec⟩ : ∃ n, ra.dec = n := ⟨_, rfl⟩
          rw [show ({ ra with cut := mrg ra.cut rb.cut } : Rnd) = ⟨num, mrg ra.cut rb.cut, ra.vot, dec⟩ by rw [← hnum, ← hdec]] at H3
          rw [hnum, hdec] at HX
          clear hnum hdec
          go_loopw [8] (fun i wz => ∃ (j : Nat) (x : List Int), i = .int .i64 (j : Int) ∧ j ≤ 8 ∧ upTo mx ra.vot rb.vot j x ∧ RowAt bx (cv (rc ⟨num, mrg ra.cut rb.cut, x, dec⟩)) 44 wz ∧ RowAt by_ (cv (rc rb)) 44 wz ∧ RowAt A (cv (rs L)) 46 wz ∧ RowAt (A + 1) (cv (rs b)) 46 wz ∧ RowAt (A + 2) (cv (rs rds0)) 46 wz ∧ Below w.heap.size w wz) (fun i _ => 8 - (intOf i).toNat)
          case atStart => exact ⟨0, ra.vot, rfl, by omega, upTo.zero hxo.2, H3.out.1, H3.out.2.1, H3.out.2.2.1, H3.out.2.2.2.1, H3.out.2.2.2.2.1, H3.out.2.2.2.2.2⟩
          case round =>
            rename World => wz
            clear H3
            obtain ⟨j, x, rfl, hj8, hu, gx, gy, r1, r2, r3, hB⟩ := hrel
            have ho1 : Rnd.Ok ⟨num, mrg ra.cut rb.cut, x, dec⟩ := ⟨hml, hu.1⟩
            by_cases hjl : j < 8
            · have hji : (j : Int) < 8 := by omega
              have c1 := gx.int (k := 9 + j) (by rw [rc_len ho1]; omega)
              have c2 := gy.int (k := 9 + j) (by rw [rc_len hyo]; omega)
              rw [rc_vot ho1 hjl] at c1
              rw [rc_vot hyo hjl] at c2
              have f1 := gx.frz (9 + j)
              by_cases hc : en x j < en rb.vot j
              · have HN : Hid (upTo mx ra.vot rb.vot (j + 1) (x.set j (en rb.vot j))) := by
                  have := hu.next hjl
                  rwa [show mx (en x j) (en rb.vot j) = en rb.vot j from if_pos (by omega)] at this
                have p := gx.setI (9 + j) (en rb.vot j)
                rw [rc_setVot ho1 hjl] at p
                have HZ := hid_of' p
                clear p
                go_wp2
                go_quiet (fail)
                go_wp2
                go_roundw
                case rel => exact ⟨j + 1, _, by go_num, by omega, HN.out, HZ.out, gy.otherI ⟨bx, 9 + j, none⟩ _ (by show ¬ by_ = bx; omega), r1.otherI ⟨bx, 9 + j, none⟩ _ (by show ¬ A = bx; omega), r2.otherI ⟨bx, 9 + j, none⟩ _ (by show ¬ A + 1 = bx; omega), r3.otherI ⟨bx, 9 + j, none⟩ _ (by show ¬ A + 2 = bx; omega), (below_drewN hB _).setCell (p := ⟨bx, 9 + j, none⟩) (by show w.heap.size ≤ bx; have := HA0.out; omega) _⟩
                case measure => simp [intOf]; omega
              · have HN : Hid (upTo mx ra.vot rb.vot (j + 1) x) := hu.skip hjl (if_neg (by omega))
                go_wp2
                go_quiet (fail)
                go_wp2
                go_roundw
                case rel => exact ⟨j + 1, _, by go_num, by omega, HN.out, gx, gy, r1, r2, r3, below_drewN hB _⟩
                case measure => simp [intOf]; omega
            · have hji : ¬ (j : Int) < 8 := by omega
              obtain rfl : j = 8 := by omega
              obtain rfl := hu.mrg hxo.2 hyo.2
              have c1 := gx.int (k := 17) (by rw [rc_len ho1]; decide)
              have c2 := gy.int (k := 17) (by rw [rc_len hyo]; decide)
              rw [rc_dec ho1] at c1
              rw [rc_dec hyo] at c2
              have f1 := gx.frz 17
              by_cases hd : dec < rb.dec
              · have p := gx.setI 17 rb.dec
                rw [rc_setDec ho1] at p
                have hmx : mx dec rb.dec = rb.dec := if_pos hd
                have HQ := hid_of' (And.intro p (And.intro (gy.otherI ⟨bx, 17, none⟩ (.int .i64 rb.dec) (by show ¬ by_ = bx; omega)) (And.intro (r1.otherI ⟨bx, 17, none⟩ (.int .i64 rb.dec) (by show ¬ A = bx; omega)) (And.intro (r2.otherI ⟨bx, 17, none⟩ (.int .i64 rb.dec) (by show ¬ A + 1 = bx; omega)) (And.intro (r3.otherI ⟨bx, 17, none⟩ (.int .i64 rb.dec) (by show ¬ A + 2 = bx; omega)) (hB.setCell (p := ⟨bx, 17, none⟩) (by show w.heap.size ≤ bx; have := HA0.out; omega) (.int .i64 rb.dec)))))))
                go_upto_region 16 with fail
                rw [hmx] at HX
                clear p c1 c2 f1 gx gy r1 r2 r3 hB hmx hd
                generalize wz.setCell ⟨bx, 17, none⟩ (.int .i64 rb.dec) = W5 at HQ ⊢
                obtain ⟨gx, gy, r1, r2, r3, hB⟩ := HQ.out
                have ho3 : Rnd.Ok ⟨num, mrg ra.cut rb.cut, mrg ra.vot rb.vot, rb.dec⟩ := ⟨hml, mrg_len hxo.2 hyo.2⟩
                have hp := r1.putC (o := k * 18) (y := rc ⟨num, mrg ra.cut rb.cut, mrg ra.vot rb.vot, rb.dec⟩) (by rw [rc_len ho3, rs_len hLo]; omega)
                rw [rs_put hLo hlt ho3, HX.out] at hp
                have hcc := Ch.cells (S := fun j => j = A) (a := W5) (g := A) (.inl rfl) (cv (rc ⟨num, mrg ra.cut rb.cut, mrg ra.vot rb.vot, rb.dec⟩)).toList (k * 18) W5 (Ch.refl _ _)
                have HZ := hid_of' (And.intro hp (And.intro (r2.ch hcc (by omega)) (And.intro (r3.ch hcc (by omega)) (And.intro (Ch.none ((Ch.of (S := fun _ => False) hB).go hcc (fun z hz => .inr (by have := HA0.out; omega))) (fun _ _ q => q)) (And.intro (gx.ch hcc (by omega)) (gy.ch hcc (by omega)))))))
                go_upto_region 3 with (first | (refine ldRnd ho3 rfl _ rfl rfl gx.in ?_) | (refine stRnd rfl _ _ rfl rfl ho3 rfl r1 (by rw [rs_len hLo]; omega) ?_))
                clear hp hcc r1 r2 r3 hB gx gy
                generalize W5.setCells A (k * 18) (cv (rc ⟨num, mrg ra.cut rb.cut, mrg ra.vot rb.vot, rb.dec⟩)).toList = W6 at HZ ⊢
                go_wp2
                go_roundw
                case rel => exact ⟨k + 1, by go_num, by omega, HZ.out.1, HZ.out.2.1, HZ.out.2.2.1, HZ.out.2.2.2.1⟩
                case measure => simp [intOf]; omega
              · have hmx : mx dec rb.dec = dec := if_neg (by omega)
                go_upto_region 16 with fail
                rw [hmx] at HX
                clear c1 c2 f1 hmx hd
                obtain ⟨W5, hW5⟩ : ∃ W5, wz = W5 := ⟨_, rfl⟩
                rw [hW5] at gx gy r1 r2 r3 hB ⊢
                clear hW5
                have ho3 := ho1
                have hp := r1.putC (o := k * 18) (y := rc ⟨num, mrg ra.cut rb.cut, mrg ra.vot rb.vot, dec⟩) (by rw [rc_len ho3, rs_len hLo]; omega)
                rw [rs_put hLo hlt ho3, HX.out] at hp
                have hcc := Ch.cells (S := fun j => j = A) (a := W5) (g := A) (.inl rfl) (cv (rc ⟨num, mrg ra.cut rb.cut, mrg ra.vot rb.vot, dec⟩)).toList (k * 18) W5 (Ch.refl _ _)
                have HZ := hid_of' (And.intro hp (And.intro (r2.ch hcc (by omega)) (And.intro (r3.ch hcc (by omega)) (And.intro (Ch.none ((Ch.of (S := fun _ => False) hB).go hcc (fun z hz => .inr (by have := HA0.out; omega))) (fun _ _ q => q)) (And.intro (gx.ch hcc (by omega)) (gy.ch hcc (by omega)))))))
                go_upto_region 3 with (first | (refine ldRnd ho3 rfl _ rfl rfl gx.in ?_) | (refine stRnd rfl _ _ rfl rfl ho3 rfl r1 (by rw [rs_len hLo]; omega) ?_))
                clear hp hcc r1 r2 r3 hB gx gy
                generalize W5.setCells A (k * 18) (cv (rc ⟨num, mrg ra.cut rb.cut, mrg ra.vot rb.vot, dec⟩)).toList = W6 at HZ ⊢
                go_wp2
                go_roundw
                case rel => exact ⟨k + 1, by go_num, by omega, HZ.out.1, HZ.out.2.1, HZ.out.2.2.1, HZ.out.2.2.2.1⟩
                case measure => simp [intOf]; omega
        · have hjr : joinR ra rb = ra := joinR_lt hj
          rw [hjr] at HX
          have hne : (rb.num != ra.num) = true := by simpa using (by omega : ¬ rb.num = ra.num)
          have hge : ¬ ra.num < rb.num := by omega
          have hset : L.set k ra = L := by
            apply List.ext_getElem?
            intro i
            rw [List.getElem?_set]
            split
            · rename_i e; subst e; rw [hxL]; split
              · rfl
              · rename_i q; exact absurd (List.getElem?_eq_some_iff.1 hxL).1 q
            · rfl
          rw [hset] at HX
          rw [HX.out] at r1
          clear hjr hbw hset hj
          go_wp2
          go_roundw
          case rel => exact ⟨k + 1, by go_num, by omega, r1, r2, r3, hB⟩
          case measure => simp [intOf]; omega
    · have hki : ¬ (k : Int) < 8 := by omega
      obtain rfl : k = 8 := by omega
      rw [HJ.out] at hLo r1
      go_wp2_with (first | (refine ldRnds hLo rfl _ rfl rfl r1.in ?_) | (refine wpL_stRow rfl _ _ _ rfl rfl rfl r3 (rnds_size hLo) (two_sz (by rw [rs_len hLo, rs_len rds0_ok])) (cv_one _) ?_))
      exact bodyPost_ret (v := .agg (cv (rs (joinL a b)))) (results_cell_row rfl _ _ (A + 2) _ _ _ _ rfl (r3.rowI (cv (rs (joinL a b)))) Tryd.underlying46 rfl (rnds_size hLo)) rfl ⟨rfl, below_row hB (by have := HA0.out; omega) _⟩
end Go.Proofs.YtfgcljpiidhfpaaDoor
