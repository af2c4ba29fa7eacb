
/-
  barrowlaw12.FlattenCut answers true.
-/
import Derived.Test.YtfgcljpiidhfpaaDoorFy4
import Derived.Test.YtfgcljpiidhfpaaDoorFz
import Derived.Test.YtfgcljpiidhfpaaDoorFl11
namespace Go.Proofs.YtfgcljpiidhfpaaDoor
open Go.RowKit
set_option maxRecDepth 100000

theorem ixR {ops : Array Oper} {rest : List Oper} {o : Oper} {A : Act} {w : World} {Q : Exit → Act → World → Prop} (hgd : o.guard = none) (x y : Operand) (ho : o.op = .index 46 x y) {l : List Rnd} (ok : OkL l) {c : Nat} {r : Rnd} (h : l[c]? = some r) (hx : A.eval x = .agg (cv (rs l))) (hy : A.eval y = .int .i64 (c : Int))
    (k : wpList Tryd.prog ops Q rest (A.put o.dst (.agg (cv (rc r)))) w) : wpList Tryd.prog ops Q (o :: rest) A w :=
  wpList_plain hgd fun _ hK => by
    unfold Oper.wp execOp
    simp only [ho, hx, hy, Sem.run_bind, run_ixRnds ok h w, Result.andThen_ok]
    exact hK _ _ k
set_option maxHeartbeats 8000000 in
theorem cut_all {ad : Nat → Addr} {w : World} (L : Lz ad w) {rep : Int} (hrep : fitsI rep) {v : Value} {M : List (List Int)} (hl : SlN 4 w v M) (hf : ∀ x ∈ M, x.length = 4 ∧ ∀ z ∈ x, fitsI z) :
    Calls Tryd.prog 8 #[.int .i64 rep, v] w fun e w' => e = .returned (.bool true) ∧ Below w.heap.size w w' := by
  obtain ⟨q, hq⟩ : ∃ q, wiN rep 4 = q := ⟨_, rfl⟩
  have hq4 : q < 4 := hq ▸ wiN_lt (by omega)
  have HW : Hid (Calls Tryd.prog 23 #[.int .i64 rep, .int .i64 4] w fun r w' => r = .returned (.int .i64 (q : Int)) ∧ w' = w) := by rw [← hq]; exact within_is rep 4 w (by omega) (by omega) hrep
  obtain ⟨N, hN⟩ : ∃ N : Nat, 1 + q = N := ⟨_, rfl⟩
  have hNi : 1 + (q : Int) = (N : Int) := by omega
  have h1 : 1 ≤ N := by omega
  have h8 : N ≤ 8 := by omega
  have HP := hid_of' (played_ok L h1 h8 hl hf)
  rw [← hNi] at HP
  obtain ⟨a9, c9, rfl⟩ := hl.form
  clear hq hl hf L hrep
  go_enter Tryd.func8, Tryd.ntmps8
  have HNi := hid_of' hNi
  clear hNi
  go_upto_region 6 with (first | (go_at_call 23; refine HW.out.mono ?_; rintro e w2 ⟨rfl, hw⟩; obtain rfl := hw.symm; clear HW hw) | (go_at_call 24; refine HP.out.mono ?_; rintro e w1 ⟨P, ds, vd, vh, vs, Ls, hs, Ss, rfl, hpl, hpr, hdn, _, hb1⟩; clear HP))
  rw [HNi.out]
  obtain ⟨gd, cd, hvd⟩ := hpl.dpos (by omega)
  obtain ⟨gh, ch, hvh⟩ := hpl.hpos (by rw [hpr.lh]; omega)
  rw [hdn] at hvd
  rw [hpr.lh] at hvh
  subst hvd hvh
  have H0 := hid_of' (And.intro hpl (And.intro hpr (And.intro hdn hb1)))
  clear hpl hpr hdn hb1 hN HNi hq4
  go_loopw [7] (fun i wr => ∃ a : Nat, i = .int .i64 (a : Int) ∧ a ≤ N ∧ PlAt w.heap.size P N ds (.slice (some ⟨gd, 0, none⟩) N cd) (.slice (some ⟨gh, 0, none⟩) N ch) vs Ls hs Ss wr ∧ Below w.heap.size w wr) (fun i _ => N - (intOf i).toNat)
  case atStart => exact ⟨0, rfl, by omega, H0.out.1, H0.out.2.2.2⟩
  case round =>
    rename World => wa
    have HR := hid_of' (And.intro H0.out.2.1 H0.out.2.2.1)
    clear H0
    obtain ⟨a, rfl, haN, hpl, hB⟩ := hrel
    by_cases hlt : a < N
    · have hai : (a : Int) < (N : Int) := by omega
      obtain ⟨ba, hba⟩ : ∃ c, ds[a]? = some c := ⟨_, List.getElem?_eq_getElem (by rw [HR.out.2]; exact hlt)⟩
      obtain ⟨l, hla, hlo⟩ : ∃ l, Ls[a]? = some l ∧ OkL l := ⟨_, List.getElem?_eq_getElem (by rw [HR.out.1.lL]; exact hlt), HR.out.1.okL _ (List.getElem_mem _)⟩
      have HA := hid_of' (And.intro hpl hB)
      clear hpl hB
      go_upto_region 9 with fail
      go_loopw [8] (fun i wr => ∃ c : Nat, i = .int .i64 (c : Int) ∧ c ≤ N ∧ PlAt w.heap.size P N ds (.slice (some ⟨gd, 0, none⟩) N cd) (.slice (some ⟨gh, 0, none⟩) N ch) vs Ls hs Ss wr ∧ Below w.heap.size w wr) (fun i _ => N - (intOf i).toNat)
      case atStart => exact ⟨0, rfl, by omega, HA.out.1, HA.out.2⟩
      case round =>
        rename World => wc
        clear HA
        obtain ⟨c, rfl, hcN, hpl, hB⟩ := hrel
        by_cases hltc : c < N
        · have hci : (c : Int) < (N : Int) := by omega
          have hc8 : (c : Int) < 8 := by omega
          obtain ⟨r, hrc, hro⟩ := hlo.at (i := c) (by omega)
          have c0 := hpl.c0
          have d0 := hpl.pd hba
          have HD := hid_of' (rounds_any (hpl.dk a ba l hba hla))
          have HA := hid_of' (And.intro hpl hB)
          clear hpl hB
          go_upto_region 12 with (first | (go_at_call 25; refine HD.out.mono ?_; rintro e w2 ⟨rfl, hb2⟩; clear HD) | (refine ixR rfl _ _ rfl hlo hrc rfl rfl ?_) | (refine wpL_alloc rfl _ rfl zRnd ?_) | (refine wpL_stRow rfl _ _ _ rfl rfl rfl (RowAt.news w2 _ _) (rnd_size hro) (two_sz (by rw [rc_len hro, rc_len rnd0_ok])) (cv_one _) ?_; go_simp))
          clear c0 d0
          have hB2 := below_row (below_one w2 (.cells (cv (rc rnd0)) 44)) (Nat.le_refl w2.heap.size) (cv (rc r))
          have r2 := (RowAt.news w2 (cv (rc rnd0)) 44).rowI (cv (rc r))
          generalize (w2.alloc (.cells (cv (rc rnd0)) 44)).setRow w2.heap.size (cv (rc r)) = W3 at hB2 r2 ⊢
          obtain ⟨xb, hxb⟩ : ∃ b, w2.heap.size = b := ⟨_, rfl⟩
          rw [hxb] at r2 ⊢
          have HB := hid_of' (And.intro ((HA.out.1.later hb2).later hB2) (bgo (bgo HA.out.2 hb2) hB2))
          clear hxb HA hb2 hB2
          have c17 := r2.int (k := 17) (by rw [rc_len hro]; decide)
          rw [rc_dec hro] at c17
          by_cases hd : r.dec = 1
          · have hd' : (r.dec != 1) = false := by simpa using hd
            have HDec := hid_of' hd
            clear hd
            go_upto_region 14 with fail
            clear c17 hd'
            go_loopw [10] (fun i wr => ∃ b : Nat, i = .int .i64 (b : Int) ∧ b ≤ N ∧ PlAt w.heap.size P N ds (.slice (some ⟨gd, 0, none⟩) N cd) (.slice (some ⟨gh, 0, none⟩) N ch) vs Ls hs Ss wr ∧ RowAt xb (cv (rc r)) 44 wr ∧ Below w.heap.size w wr) (fun i _ => N - (intOf i).toNat)
            case atStart => exact ⟨0, rfl, by omega, HB.out.1, r2, HB.out.2⟩
            case round =>
              rename World => wb
              clear HB r2
              obtain ⟨b, rfl, hbN, hpl, r2, hB⟩ := hrel
              by_cases hltb : b < N
              · have hbi : (b : Int) < (N : Int) := by omega
                obtain ⟨bb, hbb⟩ : ∃ c, ds[b]? = some c := ⟨_, List.getElem?_eq_getElem (by rw [HR.out.2]; exact hltb)⟩
                obtain ⟨m, hmb⟩ : ∃ l, Ls[b]? = some l := ⟨_, List.getElem?_eq_getElem (by rw [HR.out.1.lL]; exact hltb)⟩
                obtain ⟨x, hxb, hx8⟩ : ∃ x, hs[b]? = some x ∧ x.length = 8 := ⟨_, List.getElem?_eq_getElem (by rw [HR.out.1.lh]; exact hltb), HR.out.1.okh _ (List.getElem_mem _)⟩
                obtain ⟨hcut, hfz⟩ := HR.out.1.cuts hla hltc hrc HDec.out hxb hmb
                have HF := fun (X : World) (hX : PlAt w.heap.size P N ds (.slice (some ⟨gd, 0, none⟩) N cd) (.slice (some ⟨gh, 0, none⟩) N ch) vs Ls hs Ss X) => hid_of' (frozen_any (hX.dk b bb m hbb hmb) (by omega))
                have hq := eqIn_ck x r.cut hx8 hro.1
                have hs1 : (x == r.cut) = true := by simpa using hcut
                have hg := ck_guard
                have hci := rnd_cutIn hro r2
                have q0 : ∀ s : Wld wb, (wOf s).cell? ⟨P, 0, none⟩ = some (.slice (some ⟨gd, 0, none⟩) N cd) := fun s => (hpl.later (wOf_below s)).c0
                have q1 : ∀ s : Wld wb, (wOf s).cell? ⟨P, 1, none⟩ = some (.slice (some ⟨gh, 0, none⟩) N ch) := fun s => (hpl.later (wOf_below s)).c1
                have q2 : ∀ s : Wld wb, (wOf s).cell? ⟨gd, b, none⟩ = some (.pointer (some ⟨bb, 0, none⟩)) := fun s => (hpl.later (wOf_below s)).pd hbb
                have hin := hpl.hin hxb
                clear hcut
                by_cases hab : b = a
                · have hab' : ((b : Int) != (a : Int)) = false := by rw [hab]; simp
                  clear hab hfz
                  go_upto_region 16 with fail
                  refine wp_region_cls (by kernel_rfl) (by kernel_rfl) ?_
                  repeat (first | go_big_quiet_skip | (go_big_quiet_want; first | (refine qCk hx8 _ rfl rfl hin.cls ?_; simp only [Act.put, List.setIfInBounds_toArray, List.set_cons_succ, List.set_cons_zero]; go_big_quiet_on) | (refine qCk hro.1 _ rfl rfl hci.cls ?_; simp only [Act.put, List.setIfInBounds_toArray, List.set_cons_succ, List.set_cons_zero]; go_big_quiet_on) | (go_big_quiet_op; first | go_big_quiet_on | go_big_quiet_call ((fail)))))
                  refine wpQuiet_nil ?_
                  rintro w1 ⟨s1, e1⟩
                  have hb1 := wOf_below s1
                  rw [← e1] at hb1
                  clear e1 s1
                  replace hpl := hpl.later hb1
                  replace r2 := r2.later hb1
                  replace hB := bgo hB hb1
                  clear hb1
                  clear q0 q1 q2 hin hci
                  go_wp2
                  go_roundw
                  case rel => exact ⟨b + 1, by go_num, by omega, hpl, r2, hB⟩
                  case measure => simp [intOf]; omega
                · have hab' : ((b : Int) != (a : Int)) = true := by simpa using (by omega : ¬ (b : Int) = (a : Int))
                  have hfr : (m.any fun r => frozR b r) = true := hfz hab
                  rw [hfr] at HF
                  clear hab hfz hfr
                  go_upto_region 16 with fail
                  refine wp_region_cls (by kernel_rfl) (by kernel_rfl) ?_
                  repeat (first | go_big_quiet_skip | (go_big_quiet_want; first | (refine qCk hx8 _ rfl rfl hin.cls ?_; simp only [Act.put, List.setIfInBounds_toArray, List.set_cons_succ, List.set_cons_zero]; go_big_quiet_on) | (refine qCk hro.1 _ rfl rfl hci.cls ?_; simp only [Act.put, List.setIfInBounds_toArray, List.set_cons_succ, List.set_cons_zero]; go_big_quiet_on) | (go_big_quiet_op; first | go_big_quiet_on | go_big_quiet_call ((go_at_call 26; exact cls_of (HF _ (hpl.later (wOf_below _))).out)))))
                  refine wpQuiet_nil ?_
                  rintro w1 ⟨s1, e1⟩
                  have hb1 := wOf_below s1
                  rw [← e1] at hb1
                  clear e1 s1
                  replace hpl := hpl.later hb1
                  replace r2 := r2.later hb1
                  replace hB := bgo hB hb1
                  clear hb1
                  clear q0 q1 q2 hin hci
                  go_wp2
                  go_roundw
                  case rel => exact ⟨b + 1, by go_num, by omega, hpl, r2, hB⟩
                  case measure => simp [intOf]; omega
              · have hbi : ¬ (b : Int) < (N : Int) := by omega
                go_wp2
                go_roundw
                case rel => exact ⟨c + 1, by go_num, by omega, hpl, hB⟩
                case measure => simp [intOf]; omega
          · have hd' : (r.dec != 1) = true := by simpa using hd
            clear hd
            go_wp2
            go_roundw
            case rel => exact ⟨c + 1, by go_num, by omega, HB.out.1, HB.out.2⟩
            case measure => simp [intOf]; omega
        · have hci : ¬ (c : Int) < (N : Int) := by omega
          go_wp2
          go_roundw
          case rel => exact ⟨a + 1, by go_num, by omega, hpl, hB⟩
          case measure => simp [intOf]; omega
    · have hai : ¬ (a : Int) < (N : Int) := by omega
      go_wp2_with (go_at_call 12; refine (wakes12 wa).mono ?_; rintro e w4 ⟨rfl, hb4⟩)
      go_ret
      exact ⟨rfl, bgo hB hb4⟩
end Go.Proofs.YtfgcljpiidhfpaaDoor
