
/-
  barrowlaw12.FlattenAgrees answers true.
-/
import Derived.Test.YtfgcljpiidhfpaaDoorFy4
import Derived.Test.YtfgcljpiidhfpaaDoorFz
import Derived.Test.YtfgcljpiidhfpaaDoorFl11
namespace Go.Proofs.YtfgcljpiidhfpaaDoor
open Go.RowKit
set_option maxRecDepth 100000

theorem CsIn.rnd {g o : Nat} {m : List Rnd} {w : World} (h : CsIn g o (cv (rs m)) w) (ok : OkL m) {c : Nat} {r : Rnd} (hr : m[c]? = some r) : CsIn g (o + c * 18) (cv (rc r)) w := by
  have hc : c < 8 := by have := (List.getElem?_eq_some_iff.1 hr).1; rw [ok.1] at this; exact this
  have hro := ok.2 r (List.mem_of_getElem? hr)
  refine h.sub (c * 18) fun j v hv => ?_
  have hj : j < 18 := by have := (Array.getElem?_eq_some_iff.1 hv).1; rw [cv_size, rc_len hro] at this; exact this
  rw [cv_get (by rw [rc_len hro]; exact hj)] at hv
  rw [cv_get (by rw [rs_len ok]; omega), en_rs ok hr hj]
  exact hv
set_option maxHeartbeats 8000000 in
theorem agrees_all {ad : Nat → Addr} {w : World} (L : Lz ad w) {rep : Int} (hrep : fitsI rep) {v : Value} {M : List (List Int)} (hl : SlN 4 w v M) (hf : ∀ x ∈ M, x.length = 4 ∧ ∀ z ∈ x, fitsI z) :
    Calls Tryd.prog 7 #[.int .i64 rep, v] w fun e w' => e = .returned (.bool true) ∧ Below w.heap.size w w' := by
  obtain ⟨q, hq⟩ : ∃ q, wiN rep 4 = q := ⟨_, rfl⟩
  have hq4 : q < 4 := hq ▸ wiN_lt (by omega)
  have HW : Hid (Calls Tryd.prog 23 #[.int .i64 rep, .int .i64 4] w fun r w' => r = .returned (.int .i64 (q : Int)) ∧ w' = w) := by rw [← hq]; exact within_is rep 4 w (by omega) (by omega) hrep
  obtain ⟨N, hN⟩ : ∃ N : Nat, 1 + q = N := ⟨_, rfl⟩
  have hNi : 1 + (q : Int) = (N : Int) := by omega
  have h1 : 1 ≤ N := by omega
  have h8 : N ≤ 8 := by omega
  have HP := hid_of' (played_ok L h1 h8 hl hf)
  rw [← hNi] at HP
  obtain ⟨a9, c9, rfl⟩ := hl.form
  clear hq hl hf L hrep
  go_enter Tryd.func7, Tryd.ntmps7
  have HNi := hid_of' hNi
  clear hNi
  go_upto_region 6 with (first | (go_at_call 23; refine HW.out.mono ?_; rintro e w2 ⟨rfl, hw⟩; obtain rfl := hw.symm; clear HW hw) | (go_at_call 24; refine HP.out.mono ?_; rintro e w1 ⟨P, ds, vd, vh, vs, Ls, hs, Ss, rfl, hpl, hpr, hdn, hS100, hb1⟩; clear HP))
  rw [HNi.out]
  obtain ⟨sa, sc, hvs⟩ := hpl.sform
  obtain ⟨Ms, hMs⟩ : ∃ M, Ss.length = M := ⟨_, rfl⟩
  rw [hMs] at hvs hS100
  subst hvs
  have hag := hpr.agree
  have HR := hid_of' (And.intro hag (And.intro hpr.okS hMs))
  have H0 := hid_of' (And.intro hpl hb1)
  clear hpl hpr hdn hb1 hN HNi hq4 hag hMs
  go_loopw [7] (fun i wr => ∃ a : Nat, i = .int .i64 (a : Int) ∧ a ≤ Ms ∧ PlAt w.heap.size P N ds vd vh (.slice sa Ms sc) Ls hs Ss wr ∧ Below w.heap.size w wr) (fun i _ => Ms - (intOf i).toNat)
  case atStart => exact ⟨0, rfl, by omega, H0.out.1, H0.out.2⟩
  case round =>
    rename World => wa
    clear H0
    obtain ⟨a, rfl, haN, hpl, hB⟩ := hrel
    by_cases hlt : a < Ms
    · have hai : (a : Int) < (Ms : Int) := by omega
      obtain ⟨gs, sc', hvs2⟩ := hpl.spos (by rw [HR.out.2.2]; omega)
      simp only [Value.slice.injEq] at hvs2
      obtain ⟨rfl, hz9, rfl⟩ := hvs2
      clear hz9
      obtain ⟨m, hma⟩ : ∃ l, Ss[a]? = some l := ⟨_, List.getElem?_eq_getElem (by rw [HR.out.2.2]; exact hlt)⟩
      have om := HR.out.2.1 m (List.mem_of_getElem? hma)
      have c2 := hpl.c2
      have HA := hid_of' (And.intro hpl hB)
      clear hpl hB
      go_upto_region 9 with fail
      clear c2
      go_loopw [8] (fun i wr => ∃ c : Nat, i = .int .i64 (c : Int) ∧ c ≤ N ∧ PlAt w.heap.size P N ds vd vh (.slice (some ⟨gs, 0, none⟩) Ms sc) Ls hs Ss wr ∧ Below w.heap.size w wr) (fun i _ => N - (intOf i).toNat)
      case atStart => exact ⟨0, rfl, by omega, HA.out.1, HA.out.2⟩
      case round =>
        rename World => wc
        clear HA
        obtain ⟨c, rfl, hcN, hpl, hB⟩ := hrel
        by_cases hltc : c < N
        · have hci : (c : Int) < (N : Int) := by omega
          have hc8 : (c : Int) < 8 := by omega
          obtain ⟨r, hrc, hro⟩ := om.at (i := c) (by omega)
          have c2 := hpl.c2
          have hin := (hpl.sin hma).rnd om hrc
          have HA := hid_of' (And.intro hpl hB)
          clear hpl hB
          go_upto_region 12 with (first | (refine ldRnd hro rfl _ rfl rfl hin ?_) | (refine wpL_alloc rfl _ rfl zRnd ?_) | (refine wpL_stRow rfl _ _ _ rfl rfl rfl (RowAt.news wc _ _) (rnd_size hro) (two_sz (by rw [rc_len hro, rc_len rnd0_ok])) (cv_one _) ?_; go_simp))
          clear c2 hin
          have hB2 := below_row (below_one wc (.cells (cv (rc rnd0)) 44)) (Nat.le_refl wc.heap.size) (cv (rc r))
          have r2 := (RowAt.news wc (cv (rc rnd0)) 44).rowI (cv (rc r))
          generalize (wc.alloc (.cells (cv (rc rnd0)) 44)).setRow wc.heap.size (cv (rc r)) = W3 at hB2 r2 ⊢
          obtain ⟨xb, hxb⟩ : ∃ b, wc.heap.size = b := ⟨_, rfl⟩
          rw [hxb] at r2 ⊢
          have hpl := HA.out.1.later hB2
          have hB := bgo HA.out.2 hB2
          clear hxb HA hB2
          have d17 := r2.cls 17 _ (rcv_dec hro)
          have hver : r.dec = 1 → verdI r (N : Int) = 1 := fun e => by
            have := HR.out.1.1 m (List.mem_of_getElem? hma) c r hrc e
            unfold verdI
            rw [if_neg (by omega), show (min (N : Int) 8).toNat = N by omega]
            exact this
          by_cases hd : r.dec = 1
          · have hd' : (r.dec == 1) = true := by simpa using hd
            have hv1 := hver hd
            have HVd : ∀ X, Hid (Calls Tryd.prog 20 #[.agg (cv (rc r)), .int .i64 (N : Int)] X fun e w' => e = .returned (.int .i64 1) ∧ Below X.heap.size X w') := fun X => by have := refVerdict_any r N hro X; rw [hv1] at this; exact this
            clear hd hver hv1
            refine wp_region_cls0 ?_
            repeat (first | go_big_quiet_skip | (go_big_quiet_want; first | (refine qRnd hro _ rfl rfl r2.in.cls ?_; simp only [Act.put, List.setIfInBounds_toArray, List.set_cons_succ, List.set_cons_zero]; go_big_quiet_on) | (go_big_quiet_op; first | go_big_quiet_on | go_big_quiet_call ((go_at_call 20; exact cls_of (HVd _).out)))))
            refine wpQuiet_nil ?_
            rintro w1 ⟨s1, e1⟩
            have hb1 := wOf_below s1
            rw [← e1] at hb1
            clear e1 s1
            replace r2 := r2.later hb1
            replace hpl := hpl.later hb1
            replace hB := bgo hB hb1
            clear hb1
            clear d17 hd' HVd
            go_upto_region 15 with fail
            go_loopw [10] (fun i wr => ∃ k : Nat, i = .int .i64 (k : Int) ∧ k ≤ a ∧ PlAt w.heap.size P N ds vd vh (.slice (some ⟨gs, 0, none⟩) Ms sc) Ls hs Ss wr ∧ RowAt xb (cv (rc r)) 44 wr ∧ Below w.heap.size w wr) (fun i _ => a - (intOf i).toNat)
            case atStart => exact ⟨0, rfl, by omega, hpl, r2, hB⟩
            case round =>
              rename World => wk
              clear hpl r2 hB
              obtain ⟨k, rfl, hk, hpl, r2, hB⟩ := hrel
              by_cases hlk : k < a
              · have hki : (k : Int) < (a : Int) := by omega
                have hkM : (k : Int) < (Ms : Int) := by omega
                obtain ⟨p, hpk⟩ : ∃ l, Ss[k]? = some l := ⟨_, List.getElem?_eq_getElem (by rw [HR.out.2.2]; omega)⟩
                have op := HR.out.2.1 p (List.mem_of_getElem? hpk)
                obtain ⟨t, htc, hto⟩ := op.at (i := c) (by omega)
                have c2 := hpl.c2
                have hin := (hpl.sin hpk).rnd op htc
                have HA := hid_of' (And.intro hpl (And.intro hB r2))
                clear hpl hB r2
                go_upto_region 18 with (first | (refine ldRnd hto rfl _ rfl rfl hin ?_) | (refine wpL_alloc rfl _ rfl zRnd ?_) | (refine wpL_stRow rfl _ _ _ rfl rfl rfl (RowAt.news wk _ _) (rnd_size hto) (two_sz (by rw [rc_len hto, rc_len rnd0_ok])) (cv_one _) ?_; go_simp))
                clear c2 hin
                have hB2 := below_row (below_one wk (.cells (cv (rc rnd0)) 44)) (Nat.le_refl wk.heap.size) (cv (rc t))
                have r3 := (RowAt.news wk (cv (rc rnd0)) 44).rowI (cv (rc t))
                generalize (wk.alloc (.cells (cv (rc rnd0)) 44)).setRow wk.heap.size (cv (rc t)) = W5 at hB2 r3 ⊢
                obtain ⟨yb, hyb⟩ : ∃ b, wk.heap.size = b := ⟨_, rfl⟩
                rw [hyb] at r3 ⊢
                have hpl := HA.out.1.later hB2
                have hB := bgo HA.out.2.1 hB2
                have r2 := HA.out.2.2.later hB2
                clear hyb HA hB2
                have n1 := r2.int (k := 0) (by rw [rc_len hro]; decide)
                have n2 := r3.int (k := 0) (by rw [rc_len hto]; decide)
                rw [rc_num] at n1 n2
                by_cases hnum : r.num = t.num
                · have hnb : (r.num != t.num) = false := by simpa using hnum
                  have HAg := hid_of' (HR.out.1.2 m (List.mem_of_getElem? hma) p (List.mem_of_getElem? hpk) c r t hrc htc hnum)
                  clear hnum
                  go_upto_region 19 with fail
                  clear n1 n2 hnb
                  have d1 := r2.cls 17 _ (rcv_dec hro)
                  have d2 := r3.cls 17 _ (rcv_dec hto)
                  have i1 := rnd_cutIn hro r2
                  have i2 := rnd_cutIn hto r3
                  have hq := eqIn_ck r.cut t.cut hro.1 hto.1
                  have hcs : (r.cut == t.cut) = true := by simpa using HAg.out.1
                  have hg := ck_guard
                  have hdd := HAg.out.2.1
                  by_cases h1d : r.dec = 0
                  · have h1b : (r.dec != 0) = false := by simpa using h1d
                    clear hdd h1d
                    refine wp_region_cls0 ?_
                    repeat (first | go_big_quiet_skip | (go_big_quiet_want; first | (refine qCk hro.1 _ rfl rfl i1.cls ?_; simp only [Act.put, List.setIfInBounds_toArray, List.set_cons_succ, List.set_cons_zero]; go_big_quiet_on) | (refine qCk hto.1 _ rfl rfl i2.cls ?_; simp only [Act.put, List.setIfInBounds_toArray, List.set_cons_succ, List.set_cons_zero]; go_big_quiet_on) | (go_big_quiet_op; first | go_big_quiet_on | go_big_quiet_call ((fail)))))
                    refine wpQuiet_nil ?_
                    rintro w1 ⟨s1, e1⟩
                    have hb1 := wOf_below s1
                    rw [← e1] at hb1
                    clear e1 s1
                    replace r2 := r2.later hb1
                    replace r3 := r3.later hb1
                    replace hpl := hpl.later hb1
                    replace hB := bgo hB hb1
                    clear hb1
                    clear d1 d2 i1 i2 h1b hq hcs
                    go_upto_region 22 with fail
                    go_loopw [12] (fun i wr => ∃ u : Nat, i = .int .i64 (u : Int) ∧ u ≤ 8 ∧ PlAt w.heap.size P N ds vd vh (.slice (some ⟨gs, 0, none⟩) Ms sc) Ls hs Ss wr ∧ RowAt xb (cv (rc r)) 44 wr ∧ RowAt yb (cv (rc t)) 44 wr ∧ Below w.heap.size w wr) (fun i _ => 8 - (intOf i).toNat)
                    case atStart => exact ⟨0, rfl, by omega, hpl, r2, r3, hB⟩
                    case round =>
                      rename World => wu
                      clear hpl r2 r3 hB
                      obtain ⟨u, rfl, hu, hpl, r2, r3, hB⟩ := hrel
                      by_cases hlu : u < 8
                      · have hui : (u : Int) < 8 := by omega
                        have p1 := r2.cls (9 + u) _ (rcv_vot hro hlu)
                        have p2 := r3.cls (9 + u) _ (rcv_vot hto hlu)
                        have hvv := HAg.out.2.2 u hlu
                        by_cases h1v : en r.vot u = 0
                        · have h1b : (en r.vot u != 0) = false := by simpa using h1v
                          clear hvv h1v
                          go_upto_region 24 with fail
                          refine wp_region_cls (by kernel_rfl) (by kernel_rfl) ?_
                          repeat (first | go_big_quiet_skip | (go_big_quiet_want; first | (go_big_quiet_op; first | go_big_quiet_on | go_big_quiet_call ((fail)))))
                          refine wpQuiet_nil ?_
                          rintro w1 ⟨s1, e1⟩
                          have hb1 := wOf_below s1
                          rw [← e1] at hb1
                          clear e1 s1
                          replace r2 := r2.later hb1
                          replace r3 := r3.later hb1
                          replace hpl := hpl.later hb1
                          replace hB := bgo hB hb1
                          clear hb1
                          clear h1b
                          clear p1 p2
                          go_wp2
                          go_roundw
                          case rel => exact ⟨u + 1, by go_num, by omega, hpl, r2, r3, hB⟩
                          case measure => simp [intOf]; omega
                        · have h1b : (en r.vot u != 0) = true := by simpa using h1v
                          by_cases h2v : en t.vot u = 0
                          · have h2b : (en t.vot u != 0) = false := by simpa using h2v
                            clear hvv h1v h2v
                            go_upto_region 24 with fail
                            refine wp_region_cls (by kernel_rfl) (by kernel_rfl) ?_
                            repeat (first | go_big_quiet_skip | (go_big_quiet_want; first | (go_big_quiet_op; first | go_big_quiet_on | go_big_quiet_call ((fail)))))
                            refine wpQuiet_nil ?_
                            rintro w1 ⟨s1, e1⟩
                            have hb1 := wOf_below s1
                            rw [← e1] at hb1
                            clear e1 s1
                            replace r2 := r2.later hb1
                            replace r3 := r3.later hb1
                            replace hpl := hpl.later hb1
                            replace hB := bgo hB hb1
                            clear hb1
                            clear h1b h2b
                            clear p1 p2
                            go_wp2
                            go_roundw
                            case rel => exact ⟨u + 1, by go_num, by omega, hpl, r2, r3, hB⟩
                            case measure => simp [intOf]; omega
                          · have h2b : (en t.vot u != 0) = true := by simpa using h2v
                            have h3b : (en r.vot u != en t.vot u) = false := by simpa using hvv h1v h2v
                            clear hvv h1v h2v
                            go_upto_region 24 with fail
                            refine wp_region_cls (by kernel_rfl) (by kernel_rfl) ?_
                            repeat (first | go_big_quiet_skip | (go_big_quiet_want; first | (go_big_quiet_op; first | go_big_quiet_on | go_big_quiet_call ((fail)))))
                            refine wpQuiet_nil ?_
                            rintro w1 ⟨s1, e1⟩
                            have hb1 := wOf_below s1
                            rw [← e1] at hb1
                            clear e1 s1
                            replace r2 := r2.later hb1
                            replace r3 := r3.later hb1
                            replace hpl := hpl.later hb1
                            replace hB := bgo hB hb1
                            clear hb1
                            clear h1b h2b h3b
                            clear p1 p2
                            go_wp2
                            go_roundw
                            case rel => exact ⟨u + 1, by go_num, by omega, hpl, r2, r3, hB⟩
                            case measure => simp [intOf]; omega
                      · have hui : ¬ (u : Int) < 8 := by omega
                        go_wp2
                        go_roundw
                        case rel => exact ⟨k + 1, by go_num, by omega, hpl, r2, hB⟩
                        case measure => simp [intOf]; omega
                  · have h1b : (r.dec != 0) = true := by simpa using h1d
                    by_cases h2d : t.dec = 0
                    · have h2b : (t.dec != 0) = false := by simpa using h2d
                      clear hdd h1d h2d
                      refine wp_region_cls0 ?_
                      repeat (first | go_big_quiet_skip | (go_big_quiet_want; first | (refine qCk hro.1 _ rfl rfl i1.cls ?_; simp only [Act.put, List.setIfInBounds_toArray, List.set_cons_succ, List.set_cons_zero]; go_big_quiet_on) | (refine qCk hto.1 _ rfl rfl i2.cls ?_; simp only [Act.put, List.setIfInBounds_toArray, List.set_cons_succ, List.set_cons_zero]; go_big_quiet_on) | (go_big_quiet_op; first | go_big_quiet_on | go_big_quiet_call ((fail)))))
                      refine wpQuiet_nil ?_
                      rintro w1 ⟨s1, e1⟩
                      have hb1 := wOf_below s1
                      rw [← e1] at hb1
                      clear e1 s1
                      replace r2 := r2.later hb1
                      replace r3 := r3.later hb1
                      replace hpl := hpl.later hb1
                      replace hB := bgo hB hb1
                      clear hb1
                      clear d1 d2 i1 i2 h1b h2b hq hcs
                      go_upto_region 22 with fail
                      go_loopw [12] (fun i wr => ∃ u : Nat, i = .int .i64 (u : Int) ∧ u ≤ 8 ∧ PlAt w.heap.size P N ds vd vh (.slice (some ⟨gs, 0, none⟩) Ms sc) Ls hs Ss wr ∧ RowAt xb (cv (rc r)) 44 wr ∧ RowAt yb (cv (rc t)) 44 wr ∧ Below w.heap.size w wr) (fun i _ => 8 - (intOf i).toNat)
                      case atStart => exact ⟨0, rfl, by omega, hpl, r2, r3, hB⟩
                      case round =>
                        rename World => wu
                        clear hpl r2 r3 hB
                        obtain ⟨u, rfl, hu, hpl, r2, r3, hB⟩ := hrel
                        by_cases hlu : u < 8
                        · have hui : (u : Int) < 8 := by omega
                          have p1 := r2.cls (9 + u) _ (rcv_vot hro hlu)
                          have p2 := r3.cls (9 + u) _ (rcv_vot hto hlu)
                          have hvv := HAg.out.2.2 u hlu
                          by_cases h1v : en r.vot u = 0
                          · have h1b : (en r.vot u != 0) = false := by simpa using h1v
                            clear hvv h1v
                            go_upto_region 24 with fail
                            refine wp_region_cls (by kernel_rfl) (by kernel_rfl) ?_
                            repeat (first | go_big_quiet_skip | (go_big_quiet_want; first | (go_big_quiet_op; first | go_big_quiet_on | go_big_quiet_call ((fail)))))
                            refine wpQuiet_nil ?_
                            rintro w1 ⟨s1, e1⟩
                            have hb1 := wOf_below s1
                            rw [← e1] at hb1
                            clear e1 s1
                            replace r2 := r2.later hb1
                            replace r3 := r3.later hb1
                            replace hpl := hpl.later hb1
                            replace hB := bgo hB hb1
                            clear hb1
                            clear h1b
                            clear p1 p2
                            go_wp2
                            go_roundw
                            case rel => exact ⟨u + 1, by go_num, by omega, hpl, r2, r3, hB⟩
                            case measure => simp [intOf]; omega
                          · have h1b : (en r.vot u != 0) = true := by simpa using h1v
                            by_cases h2v : en t.vot u = 0
                            · have h2b : (en t.vot u != 0) = false := by simpa using h2v
                              clear hvv h1v h2v
                              go_upto_region 24 with fail
                              refine wp_region_cls (by kernel_rfl) (by kernel_rfl) ?_
                              repeat (first | go_big_quiet_skip | (go_big_quiet_want; first | (go_big_quiet_op; first | go_big_quiet_on | go_big_quiet_call ((fail)))))
                              refine wpQuiet_nil ?_
                              rintro w1 ⟨s1, e1⟩
                              have hb1 := wOf_below s1
                              rw [← e1] at hb1
                              clear e1 s1
                              replace r2 := r2.later hb1
                              replace r3 := r3.later hb1
                              replace hpl := hpl.later hb1
                              replace hB := bgo hB hb1
                              clear hb1
                              clear h1b h2b
                              clear p1 p2
                              go_wp2
                              go_roundw
                              case rel => exact ⟨u + 1, by go_num, by omega, hpl, r2, r3, hB⟩
                              case measure => simp [intOf]; omega
                            · have h2b : (en t.vot u != 0) = true := by simpa using h2v
                              have h3b : (en r.vot u != en t.vot u) = false := by simpa using hvv h1v h2v
                              clear hvv h1v h2v
                              go_upto_region 24 with fail
                              refine wp_region_cls (by kernel_rfl) (by kernel_rfl) ?_
                              repeat (first | go_big_quiet_skip | (go_big_quiet_want; first | (go_big_quiet_op; first | go_big_quiet_on | go_big_quiet_call ((fail)))))
                              refine wpQuiet_nil ?_
                              rintro w1 ⟨s1, e1⟩
                              have hb1 := wOf_below s1
                              rw [← e1] at hb1
                              clear e1 s1
                              replace r2 := r2.later hb1
                              replace r3 := r3.later hb1
                              replace hpl := hpl.later hb1
                              replace hB := bgo hB hb1
                              clear hb1
                              clear h1b h2b h3b
                              clear p1 p2
                              go_wp2
                              go_roundw
                              case rel => exact ⟨u + 1, by go_num, by omega, hpl, r2, r3, hB⟩
                              case measure => simp [intOf]; omega
                        · have hui : ¬ (u : Int) < 8 := by omega
                          go_wp2
                          go_roundw
                          case rel => exact ⟨k + 1, by go_num, by omega, hpl, r2, hB⟩
                          case measure => simp [intOf]; omega
                    · have h2b : (t.dec != 0) = true := by simpa using h2d
                      have h3b : (r.dec != t.dec) = false := by simpa using hdd h1d h2d
                      clear hdd h1d h2d
                      refine wp_region_cls0 ?_
                      repeat (first | go_big_quiet_skip | (go_big_quiet_want; first | (refine qCk hro.1 _ rfl rfl i1.cls ?_; simp only [Act.put, List.setIfInBounds_toArray, List.set_cons_succ, List.set_cons_zero]; go_big_quiet_on) | (refine qCk hto.1 _ rfl rfl i2.cls ?_; simp only [Act.put, List.setIfInBounds_toArray, List.set_cons_succ, List.set_cons_zero]; go_big_quiet_on) | (go_big_quiet_op; first | go_big_quiet_on | go_big_quiet_call ((fail)))))
                      refine wpQuiet_nil ?_
                      rintro w1 ⟨s1, e1⟩
                      have hb1 := wOf_below s1
                      rw [← e1] at hb1
                      clear e1 s1
                      replace r2 := r2.later hb1
                      replace r3 := r3.later hb1
                      replace hpl := hpl.later hb1
                      replace hB := bgo hB hb1
                      clear hb1
                      clear d1 d2 i1 i2 h1b h2b h3b hq hcs
                      go_upto_region 22 with fail
                      go_loopw [12] (fun i wr => ∃ u : Nat, i = .int .i64 (u : Int) ∧ u ≤ 8 ∧ PlAt w.heap.size P N ds vd vh (.slice (some ⟨gs, 0, none⟩) Ms sc) Ls hs Ss wr ∧ RowAt xb (cv (rc r)) 44 wr ∧ RowAt yb (cv (rc t)) 44 wr ∧ Below w.heap.size w wr) (fun i _ => 8 - (intOf i).toNat)
                      case atStart => exact ⟨0, rfl, by omega, hpl, r2, r3, hB⟩
                      case round =>
                        rename World => wu
                        clear hpl r2 r3 hB
                        obtain ⟨u, rfl, hu, hpl, r2, r3, hB⟩ := hrel
                        by_cases hlu : u < 8
                        · have hui : (u : Int) < 8 := by omega
                          have p1 := r2.cls (9 + u) _ (rcv_vot hro hlu)
                          have p2 := r3.cls (9 + u) _ (rcv_vot hto hlu)
                          have hvv := HAg.out.2.2 u hlu
                          by_cases h1v : en r.vot u = 0
                          · have h1b : (en r.vot u != 0) = false := by simpa using h1v
                            clear hvv h1v
                            go_upto_region 24 with fail
                            refine wp_region_cls (by kernel_rfl) (by kernel_rfl) ?_
                            repeat (first | go_big_quiet_skip | (go_big_quiet_want; first | (go_big_quiet_op; first | go_big_quiet_on | go_big_quiet_call ((fail)))))
                            refine wpQuiet_nil ?_
                            rintro w1 ⟨s1, e1⟩
                            have hb1 := wOf_below s1
                            rw [← e1] at hb1
                            clear e1 s1
                            replace r2 := r2.later hb1
                            replace r3 := r3.later hb1
                            replace hpl := hpl.later hb1
                            replace hB := bgo hB hb1
                            clear hb1
                            clear h1b
                            clear p1 p2
                            go_wp2
                            go_roundw
                            case rel => exact ⟨u + 1, by go_num, by omega, hpl, r2, r3, hB⟩
                            case measure => simp [intOf]; omega
                          · have h1b : (en r.vot u != 0) = true := by simpa using h1v
                            by_cases h2v : en t.vot u = 0
                            · have h2b : (en t.vot u != 0) = false := by simpa using h2v
                              clear hvv h1v h2v
                              go_upto_region 24 with fail
                              refine wp_region_cls (by kernel_rfl) (by kernel_rfl) ?_
                              repeat (first | go_big_quiet_skip | (go_big_quiet_want; first | (go_big_quiet_op; first | go_big_quiet_on | go_big_quiet_call ((fail)))))
                              refine wpQuiet_nil ?_
                              rintro w1 ⟨s1, e1⟩
                              have hb1 := wOf_below s1
                              rw [← e1] at hb1
                              clear e1 s1
                              replace r2 := r2.later hb1
                              replace r3 := r3.later hb1
                              replace hpl := hpl.later hb1
                              replace hB := bgo hB hb1
                              clear hb1
                              clear h1b h2b
                              clear p1 p2
                              go_wp2
                              go_roundw
                              case rel => exact ⟨u + 1, by go_num, by omega, hpl, r2, r3, hB⟩
                              case measure => simp [intOf]; omega
                            · have h2b : (en t.vot u != 0) = true := by simpa using h2v
                              have h3b : (en r.vot u != en t.vot u) = false := by simpa using hvv h1v h2v
                              clear hvv h1v h2v
                              go_upto_region 24 with fail
                              refine wp_region_cls (by kernel_rfl) (by kernel_rfl) ?_
                              repeat (first | go_big_quiet_skip | (go_big_quiet_want; first | (go_big_quiet_op; first | go_big_quiet_on | go_big_quiet_call ((fail)))))
                              refine wpQuiet_nil ?_
                              rintro w1 ⟨s1, e1⟩
                              have hb1 := wOf_below s1
                              rw [← e1] at hb1
                              clear e1 s1
                              replace r2 := r2.later hb1
                              replace r3 := r3.later hb1
                              replace hpl := hpl.later hb1
                              replace hB := bgo hB hb1
                              clear hb1
                              clear h1b h2b h3b
                              clear p1 p2
                              go_wp2
                              go_roundw
                              case rel => exact ⟨u + 1, by go_num, by omega, hpl, r2, r3, hB⟩
                              case measure => simp [intOf]; omega
                        · have hui : ¬ (u : Int) < 8 := by omega
                          go_wp2
                          go_roundw
                          case rel => exact ⟨k + 1, by go_num, by omega, hpl, r2, hB⟩
                          case measure => simp [intOf]; omega
                · have hnb : (r.num != t.num) = true := by simpa using hnum
                  clear hnum
                  go_wp2
                  go_roundw
                  case rel => exact ⟨k + 1, by go_num, by omega, hpl, r2, hB⟩
                  case measure => simp [intOf]; omega
              · have hki : ¬ (k : Int) < (a : Int) := by omega
                go_wp2
                go_roundw
                case rel => first | exact ⟨c + 1, by go_num, by omega, hpl, hB⟩ | ((repeat apply Exists.intro); exact ⟨⟨c + 1, by go_num, by omega, hpl, hB⟩, rfl⟩)
                case measure => simp [intOf]; omega
          · have hd' : (r.dec == 1) = false := by simpa using hd
            clear hd hver
            refine wp_region_cls0 ?_
            repeat (first | go_big_quiet_skip | (go_big_quiet_want; first | (refine qRnd hro _ rfl rfl r2.in.cls ?_; simp only [Act.put, List.setIfInBounds_toArray, List.set_cons_succ, List.set_cons_zero]; go_big_quiet_on) | (go_big_quiet_op; first | go_big_quiet_on | go_big_quiet_call ((fail)))))
            refine wpQuiet_nil ?_
            rintro w1 ⟨s1, e1⟩
            have hb1 := wOf_below s1
            rw [← e1] at hb1
            clear e1 s1
            replace r2 := r2.later hb1
            replace hpl := hpl.later hb1
            replace hB := bgo hB hb1
            clear hb1
            clear d17 hd'
            go_upto_region 15 with fail
            go_loopw [10] (fun i wr => ∃ k : Nat, i = .int .i64 (k : Int) ∧ k ≤ a ∧ PlAt w.heap.size P N ds vd vh (.slice (some ⟨gs, 0, none⟩) Ms sc) Ls hs Ss wr ∧ RowAt xb (cv (rc r)) 44 wr ∧ Below w.heap.size w wr) (fun i _ => a - (intOf i).toNat)
            case atStart => exact ⟨0, rfl, by omega, hpl, r2, hB⟩
            case round =>
              rename World => wk
              clear hpl r2 hB
              obtain ⟨k, rfl, hk, hpl, r2, hB⟩ := hrel
              by_cases hlk : k < a
              · have hki : (k : Int) < (a : Int) := by omega
                have hkM : (k : Int) < (Ms : Int) := by omega
                obtain ⟨p, hpk⟩ : ∃ l, Ss[k]? = some l := ⟨_, List.getElem?_eq_getElem (by rw [HR.out.2.2]; omega)⟩
                have op := HR.out.2.1 p (List.mem_of_getElem? hpk)
                obtain ⟨t, htc, hto⟩ := op.at (i := c) (by omega)
                have c2 := hpl.c2
                have hin := (hpl.sin hpk).rnd op htc
                have HA := hid_of' (And.intro hpl (And.intro hB r2))
                clear hpl hB r2
                go_upto_region 18 with (first | (refine ldRnd hto rfl _ rfl rfl hin ?_) | (refine wpL_alloc rfl _ rfl zRnd ?_) | (refine wpL_stRow rfl _ _ _ rfl rfl rfl (RowAt.news wk _ _) (rnd_size hto) (two_sz (by rw [rc_len hto, rc_len rnd0_ok])) (cv_one _) ?_; go_simp))
                clear c2 hin
                have hB2 := below_row (below_one wk (.cells (cv (rc rnd0)) 44)) (Nat.le_refl wk.heap.size) (cv (rc t))
                have r3 := (RowAt.news wk (cv (rc rnd0)) 44).rowI (cv (rc t))
                generalize (wk.alloc (.cells (cv (rc rnd0)) 44)).setRow wk.heap.size (cv (rc t)) = W5 at hB2 r3 ⊢
                obtain ⟨yb, hyb⟩ : ∃ b, wk.heap.size = b := ⟨_, rfl⟩
                rw [hyb] at r3 ⊢
                have hpl := HA.out.1.later hB2
                have hB := bgo HA.out.2.1 hB2
                have r2 := HA.out.2.2.later hB2
                clear hyb HA hB2
                have n1 := r2.int (k := 0) (by rw [rc_len hro]; decide)
                have n2 := r3.int (k := 0) (by rw [rc_len hto]; decide)
                rw [rc_num] at n1 n2
                by_cases hnum : r.num = t.num
                · have hnb : (r.num != t.num) = false := by simpa using hnum
                  have HAg := hid_of' (HR.out.1.2 m (List.mem_of_getElem? hma) p (List.mem_of_getElem? hpk) c r t hrc htc hnum)
                  clear hnum
                  go_upto_region 19 with fail
                  clear n1 n2 hnb
                  have d1 := r2.cls 17 _ (rcv_dec hro)
                  have d2 := r3.cls 17 _ (rcv_dec hto)
                  have i1 := rnd_cutIn hro r2
                  have i2 := rnd_cutIn hto r3
                  have hq := eqIn_ck r.cut t.cut hro.1 hto.1
                  have hcs : (r.cut == t.cut) = true := by simpa using HAg.out.1
                  have hg := ck_guard
                  have hdd := HAg.out.2.1
                  by_cases h1d : r.dec = 0
                  · have h1b : (r.dec != 0) = false := by simpa using h1d
                    clear hdd h1d
                    refine wp_region_cls0 ?_
                    repeat (first | go_big_quiet_skip | (go_big_quiet_want; first | (refine qCk hro.1 _ rfl rfl i1.cls ?_; simp only [Act.put, List.setIfInBounds_toArray, List.set_cons_succ, List.set_cons_zero]; go_big_quiet_on) | (refine qCk hto.1 _ rfl rfl i2.cls ?_; simp only [Act.put, List.setIfInBounds_toArray, List.set_cons_succ, List.set_cons_zero]; go_big_quiet_on) | (go_big_quiet_op; first | go_big_quiet_on | go_big_quiet_call ((fail)))))
                    refine wpQuiet_nil ?_
                    rintro w1 ⟨s1, e1⟩
                    have hb1 := wOf_below s1
                    rw [← e1] at hb1
                    clear e1 s1
                    replace r2 := r2.later hb1
                    replace r3 := r3.later hb1
                    replace hpl := hpl.later hb1
                    replace hB := bgo hB hb1
                    clear hb1
                    clear d1 d2 i1 i2 h1b hq hcs
                    go_upto_region 22 with fail
                    go_loopw [12] (fun i wr => ∃ u : Nat, i = .int .i64 (u : Int) ∧ u ≤ 8 ∧ PlAt w.heap.size P N ds vd vh (.slice (some ⟨gs, 0, none⟩) Ms sc) Ls hs Ss wr ∧ RowAt xb (cv (rc r)) 44 wr ∧ RowAt yb (cv (rc t)) 44 wr ∧ Below w.heap.size w wr) (fun i _ => 8 - (intOf i).toNat)
                    case atStart => exact ⟨0, rfl, by omega, hpl, r2, r3, hB⟩
                    case round =>
                      rename World => wu
                      clear hpl r2 r3 hB
                      obtain ⟨u, rfl, hu, hpl, r2, r3, hB⟩ := hrel
                      by_cases hlu : u < 8
                      · have hui : (u : Int) < 8 := by omega
                        have p1 := r2.cls (9 + u) _ (rcv_vot hro hlu)
                        have p2 := r3.cls (9 + u) _ (rcv_vot hto hlu)
                        have hvv := HAg.out.2.2 u hlu
                        by_cases h1v : en r.vot u = 0
                        · have h1b : (en r.vot u != 0) = false := by simpa using h1v
                          clear hvv h1v
                          go_upto_region 24 with fail
                          refine wp_region_cls (by kernel_rfl) (by kernel_rfl) ?_
                          repeat (first | go_big_quiet_skip | (go_big_quiet_want; first | (go_big_quiet_op; first | go_big_quiet_on | go_big_quiet_call ((fail)))))
                          refine wpQuiet_nil ?_
                          rintro w1 ⟨s1, e1⟩
                          have hb1 := wOf_below s1
                          rw [← e1] at hb1
                          clear e1 s1
                          replace r2 := r2.later hb1
                          replace r3 := r3.later hb1
                          replace hpl := hpl.later hb1
                          replace hB := bgo hB hb1
                          clear hb1
                          clear h1b
                          clear p1 p2
                          go_wp2
                          go_roundw
                          case rel => exact ⟨u + 1, by go_num, by omega, hpl, r2, r3, hB⟩
                          case measure => simp [intOf]; omega
                        · have h1b : (en r.vot u != 0) = true := by simpa using h1v
                          by_cases h2v : en t.vot u = 0
                          · have h2b : (en t.vot u != 0) = false := by simpa using h2v
                            clear hvv h1v h2v
                            go_upto_region 24 with fail
                            refine wp_region_cls (by kernel_rfl) (by kernel_rfl) ?_
                            repeat (first | go_big_quiet_skip | (go_big_quiet_want; first | (go_big_quiet_op; first | go_big_quiet_on | go_big_quiet_call ((fail)))))
                            refine wpQuiet_nil ?_
                            rintro w1 ⟨s1, e1⟩
                            have hb1 := wOf_below s1
                            rw [← e1] at hb1
                            clear e1 s1
                            replace r2 := r2.later hb1
                            replace r3 := r3.later hb1
                            replace hpl := hpl.later hb1
                            replace hB := bgo hB hb1
                            clear hb1
                            clear h1b h2b
                            clear p1 p2
                            go_wp2
                            go_roundw
                            case rel => exact ⟨u + 1, by go_num, by omega, hpl, r2, r3, hB⟩
                            case measure => simp [intOf]; omega
                          · have h2b : (en t.vot u != 0) = true := by simpa using h2v
                            have h3b : (en r.vot u != en t.vot u) = false := by simpa using hvv h1v h2v
                            clear hvv h1v h2v
                            go_upto_region 24 with fail
                            refine wp_region_cls (by kernel_rfl) (by kernel_rfl) ?_
                            repeat (first | go_big_quiet_skip | (go_big_quiet_want; first | (go_big_quiet_op; first | go_big_quiet_on | go_big_quiet_call ((fail)))))
                            refine wpQuiet_nil ?_
                            rintro w1 ⟨s1, e1⟩
                            have hb1 := wOf_below s1
                            rw [← e1] at hb1
                            clear e1 s1
                            replace r2 := r2.later hb1
                            replace r3 := r3.later hb1
                            replace hpl := hpl.later hb1
                            replace hB := bgo hB hb1
                            clear hb1
                            clear h1b h2b h3b
                            clear p1 p2
                            go_wp2
                            go_roundw
                            case rel => exact ⟨u + 1, by go_num, by omega, hpl, r2, r3, hB⟩
                            case measure => simp [intOf]; omega
                      · have hui : ¬ (u : Int) < 8 := by omega
                        go_wp2
                        go_roundw
                        case rel => exact ⟨k + 1, by go_num, by omega, hpl, r2, hB⟩
                        case measure => simp [intOf]; omega
                  · have h1b : (r.dec != 0) = true := by simpa using h1d
                    by_cases h2d : t.dec = 0
                    · have h2b : (t.dec != 0) = false := by simpa using h2d
                      clear hdd h1d h2d
                      refine wp_region_cls0 ?_
                      repeat (first | go_big_quiet_skip | (go_big_quiet_want; first | (refine qCk hro.1 _ rfl rfl i1.cls ?_; simp only [Act.put, List.setIfInBounds_toArray, List.set_cons_succ, List.set_cons_zero]; go_big_quiet_on) | (refine qCk hto.1 _ rfl rfl i2.cls ?_; simp only [Act.put, List.setIfInBounds_toArray, List.set_cons_succ, List.set_cons_zero]; go_big_quiet_on) | (go_big_quiet_op; first | go_big_quiet_on | go_big_quiet_call ((fail)))))
                      refine wpQuiet_nil ?_
                      rintro w1 ⟨s1, e1⟩
                      have hb1 := wOf_below s1
                      rw [← e1] at hb1
                      clear e1 s1
                      replace r2 := r2.later hb1
                      replace r3 := r3.later hb1
                      replace hpl := hpl.later hb1
                      replace hB := bgo hB hb1
                      clear hb1
                      clear d1 d2 i1 i2 h1b h2b hq hcs
                      go_upto_region 22 with fail
                      go_loopw [12] (fun i wr => ∃ u : Nat, i = .int .i64 (u : Int) ∧ u ≤ 8 ∧ PlAt w.heap.size P N ds vd vh (.slice (some ⟨gs, 0, none⟩) Ms sc) Ls hs Ss wr ∧ RowAt xb (cv (rc r)) 44 wr ∧ RowAt yb (cv (rc t)) 44 wr ∧ Below w.heap.size w wr) (fun i _ => 8 - (intOf i).toNat)
                      case atStart => exact ⟨0, rfl, by omega, hpl, r2, r3, hB⟩
                      case round =>
                        rename World => wu
                        clear hpl r2 r3 hB
                        obtain ⟨u, rfl, hu, hpl, r2, r3, hB⟩ := hrel
                        by_cases hlu : u < 8
                        · have hui : (u : Int) < 8 := by omega
                          have p1 := r2.cls (9 + u) _ (rcv_vot hro hlu)
                          have p2 := r3.cls (9 + u) _ (rcv_vot hto hlu)
                          have hvv := HAg.out.2.2 u hlu
                          by_cases h1v : en r.vot u = 0
                          · have h1b : (en r.vot u != 0) = false := by simpa using h1v
                            clear hvv h1v
                            go_upto_region 24 with fail
                            refine wp_region_cls (by kernel_rfl) (by kernel_rfl) ?_
                            repeat (first | go_big_quiet_skip | (go_big_quiet_want; first | (go_big_quiet_op; first | go_big_quiet_on | go_big_quiet_call ((fail)))))
                            refine wpQuiet_nil ?_
                            rintro w1 ⟨s1, e1⟩
                            have hb1 := wOf_below s1
                            rw [← e1] at hb1
                            clear e1 s1
                            replace r2 := r2.later hb1
                            replace r3 := r3.later hb1
                            replace hpl := hpl.later hb1
                            replace hB := bgo hB hb1
                            clear hb1
                            clear h1b
                            clear p1 p2
                            go_wp2
                            go_roundw
                            case rel => exact ⟨u + 1, by go_num, by omega, hpl, r2, r3, hB⟩
                            case measure => simp [intOf]; omega
                          · have h1b : (en r.vot u != 0) = true := by simpa using h1v
                            by_cases h2v : en t.vot u = 0
                            · have h2b : (en t.vot u != 0) = false := by simpa using h2v
                              clear hvv h1v h2v
                              go_upto_region 24 with fail
                              refine wp_region_cls (by kernel_rfl) (by kernel_rfl) ?_
                              repeat (first | go_big_quiet_skip | (go_big_quiet_want; first | (go_big_quiet_op; first | go_big_quiet_on | go_big_quiet_call ((fail)))))
                              refine wpQuiet_nil ?_
                              rintro w1 ⟨s1, e1⟩
                              have hb1 := wOf_below s1
                              rw [← e1] at hb1
                              clear e1 s1
                              replace r2 := r2.later hb1
                              replace r3 := r3.later hb1
                              replace hpl := hpl.later hb1
                              replace hB := bgo hB hb1
                              clear hb1
                              clear h1b h2b
                              clear p1 p2
                              go_wp2
                              go_roundw
                              case rel => exact ⟨u + 1, by go_num, by omega, hpl, r2, r3, hB⟩
                              case measure => simp [intOf]; omega
                            · have h2b : (en t.vot u != 0) = true := by simpa using h2v
                              have h3b : (en r.vot u != en t.vot u) = false := by simpa using hvv h1v h2v
                              clear hvv h1v h2v
                              go_upto_region 24 with fail
                              refine wp_region_cls (by kernel_rfl) (by kernel_rfl) ?_
                              repeat (first | go_big_quiet_skip | (go_big_quiet_want; first | (go_big_quiet_op; first | go_big_quiet_on | go_big_quiet_call ((fail)))))
                              refine wpQuiet_nil ?_
                              rintro w1 ⟨s1, e1⟩
                              have hb1 := wOf_below s1
                              rw [← e1] at hb1
                              clear e1 s1
                              replace r2 := r2.later hb1
                              replace r3 := r3.later hb1
                              replace hpl := hpl.later hb1
                              replace hB := bgo hB hb1
                              clear hb1
                              clear h1b h2b h3b
                              clear p1 p2
                              go_wp2
                              go_roundw
                              case rel => exact ⟨u + 1, by go_num, by omega, hpl, r2, r3, hB⟩
                              case measure => simp [intOf]; omega
                        · have hui : ¬ (u : Int) < 8 := by omega
                          go_wp2
                          go_roundw
                          case rel => exact ⟨k + 1, by go_num, by omega, hpl, r2, hB⟩
                          case measure => simp [intOf]; omega
                    · have h2b : (t.dec != 0) = true := by simpa using h2d
                      have h3b : (r.dec != t.dec) = false := by simpa using hdd h1d h2d
                      clear hdd h1d h2d
                      refine wp_region_cls0 ?_
                      repeat (first | go_big_quiet_skip | (go_big_quiet_want; first | (refine qCk hro.1 _ rfl rfl i1.cls ?_; simp only [Act.put, List.setIfInBounds_toArray, List.set_cons_succ, List.set_cons_zero]; go_big_quiet_on) | (refine qCk hto.1 _ rfl rfl i2.cls ?_; simp only [Act.put, List.setIfInBounds_toArray, List.set_cons_succ, List.set_cons_zero]; go_big_quiet_on) | (go_big_quiet_op; first | go_big_quiet_on | go_big_quiet_call ((fail)))))
                      refine wpQuiet_nil ?_
                      rintro w1 ⟨s1, e1⟩
                      have hb1 := wOf_below s1
                      rw [← e1] at hb1
                      clear e1 s1
                      replace r2 := r2.later hb1
                      replace r3 := r3.later hb1
                      replace hpl := hpl.later hb1
                      replace hB := bgo hB hb1
                      clear hb1
                      clear d1 d2 i1 i2 h1b h2b h3b hq hcs
                      go_upto_region 22 with fail
                      go_loopw [12] (fun i wr => ∃ u : Nat, i = .int .i64 (u : Int) ∧ u ≤ 8 ∧ PlAt w.heap.size P N ds vd vh (.slice (some ⟨gs, 0, none⟩) Ms sc) Ls hs Ss wr ∧ RowAt xb (cv (rc r)) 44 wr ∧ RowAt yb (cv (rc t)) 44 wr ∧ Below w.heap.size w wr) (fun i _ => 8 - (intOf i).toNat)
                      case atStart => exact ⟨0, rfl, by omega, hpl, r2, r3, hB⟩
                      case round =>
                        rename World => wu
                        clear hpl r2 r3 hB
                        obtain ⟨u, rfl, hu, hpl, r2, r3, hB⟩ := hrel
                        by_cases hlu : u < 8
                        · have hui : (u : Int) < 8 := by omega
                          have p1 := r2.cls (9 + u) _ (rcv_vot hro hlu)
                          have p2 := r3.cls (9 + u) _ (rcv_vot hto hlu)
                          have hvv := HAg.out.2.2 u hlu
                          by_cases h1v : en r.vot u = 0
                          · have h1b : (en r.vot u != 0) = false := by simpa using h1v
                            clear hvv h1v
                            go_upto_region 24 with fail
                            refine wp_region_cls (by kernel_rfl) (by kernel_rfl) ?_
                            repeat (first | go_big_quiet_skip | (go_big_quiet_want; first | (go_big_quiet_op; first | go_big_quiet_on | go_big_quiet_call ((fail)))))
                            refine wpQuiet_nil ?_
                            rintro w1 ⟨s1, e1⟩
                            have hb1 := wOf_below s1
                            rw [← e1] at hb1
                            clear e1 s1
                            replace r2 := r2.later hb1
                            replace r3 := r3.later hb1
                            replace hpl := hpl.later hb1
                            replace hB := bgo hB hb1
                            clear hb1
                            clear h1b
                            clear p1 p2
                            go_wp2
                            go_roundw
                            case rel => exact ⟨u + 1, by go_num, by omega, hpl, r2, r3, hB⟩
                            case measure => simp [intOf]; omega
                          · have h1b : (en r.vot u != 0) = true := by simpa using h1v
                            by_cases h2v : en t.vot u = 0
                            · have h2b : (en t.vot u != 0) = false := by simpa using h2v
                              clear hvv h1v h2v
                              go_upto_region 24 with fail
                              refine wp_region_cls (by kernel_rfl) (by kernel_rfl) ?_
                              repeat (first | go_big_quiet_skip | (go_big_quiet_want; first | (go_big_quiet_op; first | go_big_quiet_on | go_big_quiet_call ((fail)))))
                              refine wpQuiet_nil ?_
                              rintro w1 ⟨s1, e1⟩
                              have hb1 := wOf_below s1
                              rw [← e1] at hb1
                              clear e1 s1
                              replace r2 := r2.later hb1
                              replace r3 := r3.later hb1
                              replace hpl := hpl.later hb1
                              replace hB := bgo hB hb1
                              clear hb1
                              clear h1b h2b
                              clear p1 p2
                              go_wp2
                              go_roundw
                              case rel => exact ⟨u + 1, by go_num, by omega, hpl, r2, r3, hB⟩
                              case measure => simp [intOf]; omega
                            · have h2b : (en t.vot u != 0) = true := by simpa using h2v
                              have h3b : (en r.vot u != en t.vot u) = false := by simpa using hvv h1v h2v
                              clear hvv h1v h2v
                              go_upto_region 24 with fail
                              refine wp_region_cls (by kernel_rfl) (by kernel_rfl) ?_
                              repeat (first | go_big_quiet_skip | (go_big_quiet_want; first | (go_big_quiet_op; first | go_big_quiet_on | go_big_quiet_call ((fail)))))
                              refine wpQuiet_nil ?_
                              rintro w1 ⟨s1, e1⟩
                              have hb1 := wOf_below s1
                              rw [← e1] at hb1
                              clear e1 s1
                              replace r2 := r2.later hb1
                              replace r3 := r3.later hb1
                              replace hpl := hpl.later hb1
                              replace hB := bgo hB hb1
                              clear hb1
                              clear h1b h2b h3b
                              clear p1 p2
                              go_wp2
                              go_roundw
                              case rel => exact ⟨u + 1, by go_num, by omega, hpl, r2, r3, hB⟩
                              case measure => simp [intOf]; omega
                        · have hui : ¬ (u : Int) < 8 := by omega
                          go_wp2
                          go_roundw
                          case rel => exact ⟨k + 1, by go_num, by omega, hpl, r2, hB⟩
                          case measure => simp [intOf]; omega
                · have hnb : (r.num != t.num) = true := by simpa using hnum
                  clear hnum
                  go_wp2
                  go_roundw
                  case rel => exact ⟨k + 1, by go_num, by omega, hpl, r2, hB⟩
                  case measure => simp [intOf]; omega
              · have hki : ¬ (k : Int) < (a : Int) := by omega
                go_wp2
                go_roundw
                case rel => first | exact ⟨c + 1, by go_num, by omega, hpl, hB⟩ | ((repeat apply Exists.intro); exact ⟨⟨c + 1, by go_num, by omega, hpl, hB⟩, rfl⟩)
                case measure => simp [intOf]; omega
        · have hci : ¬ (c : Int) < (N : Int) := by omega
          go_wp2
          go_roundw
          case rel => exact ⟨a + 1, by go_num, by omega, hpl, hB⟩
          case measure => simp [intOf]; omega
    · have hai : ¬ (a : Int) < (Ms : Int) := by omega
      have c2 := hpl.c2
      go_wp2_with (go_at_call 12; refine (wakes12 wa).mono ?_; rintro e w4 ⟨rfl, hb4⟩)
      go_ret
      exact ⟨rfl, bgo hB hb4⟩
end Go.Proofs.YtfgcljpiidhfpaaDoor
