
/-
  barrowlaw11.CausalLacks answers true.
-/
import Derived.Test.YtlkcjbmdeimocaaDoorCp2
namespace Go.Proofs.YtlkcjbmdeimocaaDoor
open Go.RowKit Go.Maps
set_option maxRecDepth 100000

theorem ordL_fit {l : List Ac} {h : List Int} (hf : AFit l) : AFit (ordL l h) := fun x hx => hf x ((ordS_ok _ _).2 x hx)
theorem ordL_len {l : List Ac} {h : List Int} : (ordL l h).length ≤ l.length := by
  unfold ordL
  have : ∀ (n : Nat) (h : List Int), (ordS l n h).length ≤ n := by
    intro n
    induction n with
    | zero => intro h; simp [ordS]
    | succ n ih =>
      intro h
      cases hf : l.find? (fun x => rdyC h x) with
      | none => rw [ordS_none hf]; simp
      | some x =>
        simp only [ordS, hf, List.length_cons]
        have := ih (adv h x)
        omega
  exact this _ _
set_option maxHeartbeats 8000000 in
theorem causalLacks_all {w : World} {v : Value} {l : List Ac} (hl : SlC w v l) (hf : AFit l) (hcap : ∀ a n c, v = .slice a n c → n ≤ c) {h : List Int} (ha : Ck h) (most : Int) :
    Calls Tryd.prog 7 #[v, .agg (cv h), .int .i64 most] w fun e w' => e = .returned (.bool true) ∧ Below w.heap.size w w' := by
  obtain ⟨a9, c9, rfl⟩ := hl.form
  have hlc := hcap _ _ _ rfl
  have hB0 := below_one w (.cells (cv h) 44)
  obtain ⟨L, hL⟩ : ∃ L, l.take 40 = L := ⟨_, rfl⟩
  have hfL : AFit L := hL ▸ hf.take 40
  have H := hid_of' (And.intro (CkAt.new w ha.1) (And.intro (hl.later hB0) (And.intro hfL hB0)))
  have hl4 : L.length ≤ 1000 := by rw [← hL, List.length_take]; omega
  clear hl hf hB0 hcap
  go_enter Tryd.func7, Tryd.ntmps7
  go_upto_region 1 with fail
  have hwW : w.heap.size < (w.alloc (.cells (cv h) 44)).heap.size := by simp
  generalize w.alloc (.cells (cv h) 44) = W at H hwW ⊢
  have hC := cut_ok H.out.2.1 hlc
  rw [hL] at hC
  have HC := hid_of' hC
  clear hC hL hfL hlc
  go_upto_region 2 with (first | (go_at_call 15; refine HC.out.mono ?_; rintro e w1 ⟨u, rfl, hu, h0⟩; obtain rfl := h0.symm; clear HC h0; have HO := hid_of' (refOrder_any hu H.out.2.2.1 ck0_ck hl4)) | (go_at_call 23; refine HO.out.mono ?_; rintro e w2 ⟨r1, r2, rfl, ho1, _, hn1, _, hb2⟩; clear HO))
  obtain ⟨row, hrow⟩ : ∃ row, ordL L ck0 = row := ⟨_, rfl⟩
  have hok : okD ck0 row := hrow ▸ (ordS_ok _ _).1
  have hrf : AFit row := hrow ▸ ordL_fit H.out.2.2.1
  have hrl : row.length ≤ 1000 := by rw [← hrow]; exact Nat.le_trans ordL_len hl4
  rw [hrow] at ho1
  obtain ⟨ra, rc, hr1, _, _⟩ := ho1.form
  subst hr1
  have hck2 := H.out.1.later hb2
  have hB2 := bgo H.out.2.2.2 hb2
  have hbb := below_one w2 (.cells (cv ck0) 44)
  have H2 := hid_of' (And.intro (ho1.later hbb) (And.intro (hck2.later hbb) (And.intro (bgo hB2 hbb) (And.intro (CkAt.new w2 (x := ck0) rfl) (And.intro hok hrf)))))
  have hww2 : w.heap.size < w2.heap.size := hck2.lt
  clear ho1 hck2 hB2 hbb hb2 hok hrf hrow hn1 H hu
  go_upto_region 3 with fail
  rw [← ck0_cv]
  have hsz : (w2.alloc (.cells (cv ck0) 44)).heap.size = w2.heap.size + 1 := World.size_alloc _ _
  generalize w2.alloc (.cells (cv ck0) 44) = W2 at H2 hsz ⊢
  go_wp2
  go_loopw [10, 11] (fun i _ wr => ∃ (k : Nat) (c : List Int), i = .int .i64 (k : Int) ∧ k ≤ row.length ∧ Ck c ∧ (∀ j, 0 ≤ en c j) ∧ CkAt w2.heap.size c wr ∧ Ch (fun k => k = w2.heap.size) W2 wr) (fun i _ _ => row.length - (intOf i).toNat)
  case atStart => exact ⟨0, ck0, rfl, by omega, ck0_ck, fun j => by rw [en_ck0]; decide, H2.out.2.2.2.1, Ch.refl _ _⟩
  case round =>
    rename World => wr
    obtain ⟨k, c, rfl, hk, hc, hc0, hcc, hCh⟩ := hrel
    have hne : ∀ k, Value.ownBlock (.slice ra row.length rc) = some k → ¬ k = w2.heap.size := fun k hk e => by
      rcases H2.out.1.1.2 with ⟨hv, _⟩ | ⟨g, cap, cur, hv, hg, _⟩
      · rw [hv] at hk; cases hk
      · rw [hv] at hk
        have hgk : g = k := by simpa [Value.ownBlock] using hk
        rw [hgk, e, H2.out.2.2.2.1.1] at hg
        simp at hg
    have hrow1 := H2.out.1.ch hCh hne
    have hckw : CkAt w.heap.size h wr := ⟨hCh.heap H2.out.2.1.1 (by omega), H2.out.2.1.2⟩
    by_cases hlt : k < row.length
    · have hki : (k : Int) < (row.length : Int) := by omega
      obtain ⟨x, hx⟩ : ∃ x, row[k]? = some x := ⟨_, List.getElem?_eq_getElem hlt⟩
      have hxf := H2.out.2.2.2.2.2.at hx
      obtain ⟨g, o, c2, hv, hg9⟩ := hrow1.sl.pos (by omega)
      simp only [Value.slice.injEq, true_and] at hv
      obtain ⟨rfl, rfl⟩ := hv
      have hin := hrow1.sl.in H2.out.2.2.2.2.2 hx
      obtain ⟨r, hr1, hr8⟩ := okD_rep H2.out.2.2.2.2.1 (List.mem_of_getElem? hx)
      have xr : (acv x)[3]? = some (.int .i64 (r : Int)) := by rw [acv_rep, hr1]
      have hr8i : (r : Int) < 8 := by omega
      have x3 := hin.2 3 _ xr
      have HX := hid_of' (And.intro hCh (And.intro hr1 hc0))
      clear hCh hr1 hrow1 hx hc0
      go_upto_region 7 with fail
      clear x3
      have k1 := hckw.cls hr8
      have k4 : ∀ s : Wld wr, (wOf s).cell? ⟨g, o + k * 13 + 4, none⟩ = some (.int .i64 x.num) := fun s => (hin.later (wOf_below s)).2 4 _ (acv_num x)
      have hB := Below.refl wr.heap.size wr
      by_cases hle : x.num ≤ en h r
      · have hled : decide (x.num ≤ en h r) = true := decide_eq_true hle
        cases hrd : rdyC c x
        · have hB1 := hB
          refine wp_region_cls (by kernel_rfl) (by kernel_rfl) ?_
          repeat (first | go_big_quiet_skip | (go_big_quiet_want; first | (refine quiet_load_ck _ rfl rfl (cls_ck hcc) ?_; simp only [Act.put, List.setIfInBounds_toArray, List.set_cons_succ, List.set_cons_zero]; go_big_quiet_on) | (refine quiet_act _ rfl rfl hxf hin.cls ?_; simp only [Act.put, List.setIfInBounds_toArray, List.set_cons_succ, List.set_cons_zero]; go_big_quiet_on) | (go_big_quiet_op; first | go_big_quiet_on | go_big_quiet_call ((go_at_call 24; exact cls_of (refReady_is hrd _ hc hxf))))))
          refine wpQuiet_nil ?_
          rintro w1 ⟨s1, e1⟩
          have hb1 := wOf_below s1
          rw [← e1] at hb1
          clear e1 s1
          replace hcc := hcc.later hb1
          replace hin := hin.later hb1
          replace hB := bgo hB hb1
          clear hb1
          go_wp2
          go_roundw
          case rel => exact ⟨k + 1, c, by go_num, by omega, hc, HX.out.2.2, hcc, HX.out.1.later hB⟩
          case measure => simp [intOf]; omega
        · have hB1 := hB
          refine wp_region_cls (by kernel_rfl) (by kernel_rfl) ?_
          repeat (first | go_big_quiet_skip | (go_big_quiet_want; first | (refine quiet_load_ck _ rfl rfl (cls_ck hcc) ?_; simp only [Act.put, List.setIfInBounds_toArray, List.set_cons_succ, List.set_cons_zero]; go_big_quiet_on) | (refine quiet_act _ rfl rfl hxf hin.cls ?_; simp only [Act.put, List.setIfInBounds_toArray, List.set_cons_succ, List.set_cons_zero]; go_big_quiet_on) | (go_big_quiet_op; first | go_big_quiet_on | go_big_quiet_call ((go_at_call 24; exact cls_of (refReady_is hrd _ hc hxf))))))
          refine wpQuiet_nil ?_
          rintro w1 ⟨s1, e1⟩
          have hb1 := wOf_below s1
          rw [← e1] at hb1
          clear e1 s1
          replace hcc := hcc.later hb1
          replace hin := hin.later hb1
          replace hB := bgo hB hb1
          clear hb1
          obtain ⟨r', h1', h2', _, h3', h4', _⟩ := rdy_at hrd
          have er : r' = r := by have := HX.out.2.1; omega
          subst er
          have hxn := hxf.2
          unfold fitsI at hxn
          have hlo : -9223372036854775808 ≤ en c r' + 1 := by omega
          have hhi : en c r' + 1 ≤ 9223372036854775807 := by omega
          have q1 := hcc.cell hr8
          have q2 := hcc.frozen r'
          have hset : Ck (c.set r' (en c r' + 1)) := hc.set r' (by unfold fitsI; exact ⟨hlo, hhi⟩)
          have hset0 : ∀ j, 0 ≤ en (c.set r' (en c r' + 1)) j := fun j => by
            rw [getD_set _ _ _ _ (by have := hc.1; omega)]
            have := HX.out.2.2
            split
            · have := this r'; omega
            · exact this j
          have HZ := hid_of' (And.intro hset (And.intro hset0 (And.intro (hcc.set r' (en c r' + 1)) ((HX.out.1.later hB).set (p := ⟨w2.heap.size, r', none⟩) (.inl rfl) (.int .i64 (en c r' + 1))))))
          clear hset hset0 h1' h2' h3' h4' hxn hcc
          go_wp2
          go_roundw
          case rel => exact ⟨k + 1, _, by go_num, by omega, HZ.out.1, HZ.out.2.1, HZ.out.2.2.1, HZ.out.2.2.2⟩
          case measure => simp [intOf]; omega
      · have hled : decide (x.num ≤ en h r) = false := decide_eq_false hle
        refine wp_region_cls (by kernel_rfl) (by kernel_rfl) ?_
        repeat (first | go_big_quiet_skip | (go_big_quiet_want; first | (refine quiet_load_ck _ rfl rfl (cls_ck hcc) ?_; simp only [Act.put, List.setIfInBounds_toArray, List.set_cons_succ, List.set_cons_zero]; go_big_quiet_on) | (refine quiet_act _ rfl rfl hxf hin.cls ?_; simp only [Act.put, List.setIfInBounds_toArray, List.set_cons_succ, List.set_cons_zero]; go_big_quiet_on) | (go_big_quiet_op; first | go_big_quiet_on | go_big_quiet_call ((fail)))))
        refine wpQuiet_nil ?_
        rintro w1 ⟨s1, e1⟩
        have hb1 := wOf_below s1
        rw [← e1] at hb1
        clear e1 s1
        replace hcc := hcc.later hb1
        replace hin := hin.later hb1
        replace hB := bgo hB hb1
        clear hb1
        go_wp2
        go_roundw
        case rel => exact ⟨k + 1, c, by go_num, by omega, hc, HX.out.2.2, hcc, HX.out.1.later hB⟩
        case measure => simp [intOf]; omega
    · have hki : ¬ (k : Int) < (row.length : Int) := by omega
      have hmk := mis_ok hc.1 hc0 H2.out.2.2.2.2.1 most
      have hml := misC_len (h := c) (most := most) row []
      have HM := hid_of' (missing_any hrow1.sl H2.out.2.2.2.2.2 hc most hrl)
      have HX := hid_of' (And.intro hmk (And.intro hml (And.intro hCh hckw)))
      clear hmk hml hCh hrow1 hckw hc0
      go_upto_region 10 with (first | (refine wpL_load rfl _ rfl rfl hcc ?_) | (go_at_call 17; refine HM.out.mono ?_; rintro e w4 ⟨rg, rfl, hog, hng, hb4⟩; clear HM))
      have hgf : AFit (misC c most [] row) := AFit.misC AFit.nil H2.out.2.2.2.2.2
      obtain ⟨got, hgot⟩ : ∃ got, misC c most [] row = got := ⟨_, rfl⟩
      rw [hgot] at hog hgf
      have hmk := HX.out.1
      have hml := HX.out.2.1
      rw [hgot] at hmk hml
      simp only [List.length_nil, Nat.zero_add] at hml
      obtain ⟨ga, gc, hrg, _, _⟩ := hog.form
      subst hrg
      have hsr := HX.out.2.2.1.size
      have HG := hid_of' (And.intro hmk (And.intro hgf (And.intro hog (And.intro hng (And.intro (hcc.later hb4) (HX.out.2.2.1.later hb4))))))
      clear hgot hmk hgf hog hng hcc hb4 HX
      go_wp2
      go_loopw [13] (fun i wq => ∃ j : Nat, i = .int .i64 (j : Int) ∧ j ≤ got.length ∧ CkAt w2.heap.size (dlv c (got.take j)) wq ∧ Ch (fun k => k = w2.heap.size) w4 wq) (fun i _ => got.length - (intOf i).toNat)
      case atStart => exact ⟨0, rfl, by omega, HG.out.2.2.2.2.1, Ch.refl _ _⟩
      case round =>
        rename World => wq
        obtain ⟨j, rfl, hj, hcq, hCq⟩ := hrel
        by_cases hlj : j < got.length
        · have hji : (j : Int) < (got.length : Int) := by omega
          obtain ⟨x, hx⟩ : ∃ x, got[j]? = some x := ⟨_, List.getElem?_eq_getElem hlj⟩
          have hxf := HG.out.2.1.at hx
          have hgn := HG.out.2.2.2.1
          have hrow2 := HG.out.2.2.1.ch hCq (fun k hk e => by have := hgn k hk; omega)
          obtain ⟨g, o, c2, hv, hg9⟩ := hrow2.sl.pos (by omega)
          simp only [Value.slice.injEq, true_and] at hv
          obtain ⟨rfl, rfl⟩ := hv
          have hin := hrow2.sl.in HG.out.2.1 hx
          obtain ⟨hrd, hnx⟩ := okD_at HG.out.1 hx
          have hdc : Ck (dlv c (got.take j)) := dlv_ck hc (okD_take _ _ HG.out.1) (HG.out.2.1.take j)
          obtain ⟨D, hD⟩ : ∃ D, dlv c (got.take j) = D := ⟨_, rfl⟩
          rw [hD] at hrd hnx hdc hcq
          obtain ⟨r, hr1, hr2, hr8, hr3, hr4, _⟩ := rdy_at hrd
          have xr : (acv x)[3]? = some (.int .i64 (r : Int)) := by rw [acv_rep, hr1]
          have hr8i : (r : Int) < 8 := by omega
          have hxn := hxf.2
          unfold fitsI at hxn
          have hlo : -9223372036854775808 ≤ en D r + 1 := by omega
          have hhi : en D r + 1 ≤ 9223372036854775807 := by omega
          have HN : Hid (dlv c (got.take (j + 1)) = D.set r (en D r + 1)) := by unfold Hid; rw [hnx]; unfold adv; rw [hr2]
          have HQ := hid_of' hCq
          clear hnx hr1 hr2 hr3 hr4 hxn hD hCq hrow2 hx
          have hB := Below.refl wq.heap.size wq
          go_upto_region 13 with fail
          refine wp_region_cls (by kernel_rfl) (by kernel_rfl) ?_
          repeat (first | go_big_quiet_skip | (go_big_quiet_want; first | (refine quiet_load_ck _ rfl rfl (cls_ck hcq) ?_; simp only [Act.put, List.setIfInBounds_toArray, List.set_cons_succ, List.set_cons_zero]; go_big_quiet_on) | (refine quiet_act _ rfl rfl hxf hin.cls ?_; simp only [Act.put, List.setIfInBounds_toArray, List.set_cons_succ, List.set_cons_zero]; go_big_quiet_on) | (go_big_quiet_op; first | go_big_quiet_on | go_big_quiet_call ((go_at_call 24; exact cls_of (refReady_is hrd _ hdc hxf))))))
          refine wpQuiet_nil ?_
          rintro w1 ⟨s1, e1⟩
          have hb1 := wOf_below s1
          rw [← e1] at hb1
          clear e1 s1
          replace hcq := hcq.later hb1
          replace hin := hin.later hb1
          replace hB := bgo hB hb1
          clear hb1
          have x3 := hin.2 3 _ xr
          have q1 := hcq.cell hr8
          have q2 := hcq.frozen r
          have HZ := hid_of' (And.intro (hcq.set r (en D r + 1)) ((HQ.out.later hB).set (p := ⟨w2.heap.size, r, none⟩) (.inl rfl) (.int .i64 (en D r + 1))))
          clear hcq
          go_wp2
          go_roundw
          case rel => exact ⟨j + 1, by go_num, by omega, by rw [HN.out]; exact HZ.out.1, HZ.out.2⟩
          case measure => simp [intOf]; omega
        · have hji : ¬ (j : Int) < (got.length : Int) := by omega
          have HW := hid_of' (wakes11 wq)
          go_wp2_with (go_at_call 12; refine HW.out.mono ?_; rintro e w9 ⟨rfl, hb9⟩; clear HW)
          go_ret
          exact ⟨rfl, bgo (Ch.none (((Ch.of (S := fun k => w.heap.size ≤ k) H2.out.2.2.1).go HG.out.2.2.2.2.2 (fun s q => .inl (by omega))).go hCq (fun s q => .inl (by omega))) (fun s hs q => by omega)) hb9⟩
end Go.Proofs.YtlkcjbmdeimocaaDoor
