
/-
  barrowlaw11.CausalOrder answers true.
-/
import Derived.Test.YtlkcjbmdeimocaaDoorCq7
import Derived.Test.YtlkcjbmdeimocaaDoorCa15
namespace Go.Proofs.YtlkcjbmdeimocaaDoor
open Go.RowKit Go.Maps Go.MapKept
set_option maxRecDepth 100000

set_option maxHeartbeats 8000000 in
theorem causalOrder_all {w : World} {v : Value} {l : List Ac} (hl : SlC w v l) (hf : AFit l) (hcap : ∀ a n c, v = .slice a n c → n ≤ c) {h : List Int} (ha : Ck h) :
    Calls Tryd.prog 5 #[v, .agg (cv h)] w fun e w' => e = .returned (.bool true) ∧ Below w.heap.size w w' := by
  obtain ⟨a9, c9, rfl⟩ := hl.form
  have hlc := hcap _ _ _ rfl
  have hB0 := below_one w (.cells (cv h) 44)
  obtain ⟨L, hL⟩ : ∃ L, l.take 40 = L := ⟨_, rfl⟩
  have hfL : AFit L := hL ▸ hf.take 40
  have H := hid_of' (And.intro (CkAt.new w ha.1) (And.intro (hl.later hB0) (And.intro hfL hB0)))
  have hl4 : L.length ≤ 400 := by rw [← hL, List.length_take]; omega
  clear hl hf hB0 hcap
  go_enter Tryd.func5, Tryd.ntmps5
  go_upto_region 1 with fail
  have hwW : w.heap.size < (w.alloc (.cells (cv h) 44)).heap.size := by simp
  generalize w.alloc (.cells (cv h) 44) = W at H hwW ⊢
  have hC := cut_ok H.out.2.1 hlc
  rw [hL] at hC
  have HC := hid_of' hC
  clear hC hL hfL hlc
  have HL4 := hid_of' hl4
  clear hl4
  go_upto_region 2 with (go_at_call 15; refine HC.out.mono ?_; rintro e w1 ⟨u, rfl, hu, h0⟩; obtain rfl := h0.symm; clear HC h0)
  have hf4 := H.out.2.2.1
  have HL := hid_of' (lendA_ok hu hf4 (by have := HL4.out; omega))
  go_upto_region 3 with (go_at_call 16; refine HL.out.mono ?_; rintro e w2 ⟨g, c, rfl, hown, hg0, hb2⟩; clear HL)
  have hlent : SlC w2 (.slice (some ⟨g, 0, none⟩) L.length c) L := by
    rcases hown.sl with ⟨h0, _⟩ | ⟨g2, o2, c2, h1, h2, h3⟩
    · simp [marksA] at h0
    · simp only [Value.slice.injEq, Option.some.injEq, Addr.mk.injEq, and_true] at h1
      obtain ⟨⟨rfl, rfl⟩, _, rfl⟩ := h1
      refine .inr ⟨g, 0, c, rfl, h2, fun j v hj => h3 j v ?_⟩
      rw [acells_app, List.getElem?_append_left (List.getElem?_eq_some_iff.1 hj).1]
      exact hj
  have HO := hid_of' (order_ok hlent hf4 HL4.out ha)
  have hck2 := H.out.1.later hb2
  go_upto_region 4 with (first | (refine wpL_load rfl _ rfl rfl hck2 ?_) | (go_at_call 22; refine HO.out.mono ?_; rintro e w3 ⟨r1, r2, rfl, ho1, ho2, hn1, hn2, h12, hb3⟩; clear HO))
  obtain ⟨ua, uc, hu1⟩ := hu.form
  subst hu1
  have hu3 := (hu.later hb2).later hb3
  have hck3 := hck2.later hb3
  have HP := hid_of' (refOrder_any hu3 hf4 ha (by have := HL4.out; omega))
  go_upto_region 5 with (first | (refine wpL_load rfl _ rfl rfl hck3 ?_) | (go_at_call 23; refine HP.out.mono ?_; rintro e w4 ⟨x1, x2, rfl, hx1, hx2, hm1, hm2, hb4⟩; clear HP))
  have hub : ∀ a n k, Value.slice ua L.length uc = .slice (some a) n k → 0 < L.length → a.block < W.heap.size := fun a n k e h0 => by
    obtain ⟨g2, o2, c2, h1, h2⟩ := hu.pos h0
    rw [h1] at e
    cases e
    exact h2
  have hg2 : g < w2.heap.size := hown.lt g rfl
  have hs2 := hb2.size
  have hs3 := hb3.size
  have hs4 := hb4.size
  obtain ⟨row, hrow⟩ : ∃ row, ordL L h = row := ⟨_, rfl⟩
  obtain ⟨res, hres⟩ : ∃ res, (L.filter fun x => !hasA (dlv h (ordL L h)) x) = res := ⟨_, rfl⟩
  have hrl : row.length ≤ 1000 := by rw [← hrow]; exact Nat.le_trans ordL_len (by have := HL4.out; omega)
  have hel : res.length ≤ 1000 := by rw [← hres]; exact Nat.le_trans (List.length_filter_le _ _) (by have := HL4.out; omega)
  have hok : okD h row := hrow ▸ (ordS_ok _ _).1
  have hrf : AFit row := hrow ▸ ordL_fit hf4
  rw [hres] at ho2 hx2
  rw [hrow] at ho1 hx1
  obtain ⟨ra, rc, hr1, _, _⟩ := ho1.form
  subst hr1
  obtain ⟨sa, sc, hr2, _, _⟩ := ho2.form
  subst hr2
  obtain ⟨xa, xc, hr3, _, _⟩ := hx1.form
  subst hr3
  obtain ⟨ya, yc, hr4, _, _⟩ := hx2.form
  subst hr4
  have HI := hid_of' (intactA_ok (hu3.later hb4) ((hown.later hb3).later hb4) (by have := HL4.out; omega))
  have HA : Hid (∀ w5, Ch (fun k => k = g) w4 w5 → CkAt w.heap.size h w5 ∧ OwnA (.slice ra row.length rc) row w5 ∧ OwnA (.slice sa res.length sc) res w5 ∧ OwnA (.slice xa row.length xc) row w5 ∧ OwnA (.slice ya res.length yc) res w5) := fun w5 hc =>
    ⟨⟨hc.heap (hck3.later hb4).1 (by omega), (hck3.later hb4).2⟩, (ho1.later hb4).ch hc (fun k hk => by have := hn1 k hk; omega), (ho2.later hb4).ch hc (fun k hk => by have := hn2 k hk; omega), hx1.ch hc (fun k hk => by have := hm1 k hk; omega), hx2.ch hc (fun k hk => by have := hm2 k hk; omega)⟩
  have HB := hid_of' (And.intro hb2 (And.intro hb3 (And.intro hb4 (And.intro hn1 (And.intro hn2 (And.intro h12 (And.intro hok hrf)))))))
  clear hu hu3 hck2 hck3 ho1 ho2 hx1 hx2 hm1 hm2 hn1 hn2 h12 hb2 hb3 hb4 hown hlent hub hok hrf hrow hres
  go_upto_region 7 with (first | (go_at_call 18; refine HI.out.mono ?_; rintro e w5 ⟨rfl, hc5⟩; clear HI; obtain ⟨hck5, h1, h2, h3, h4⟩ := HA.out w5 hc5; have HQ := hid_of' (acts_same h1.sl h3.sl h1.2 (by omega))) | (go_at_call 19; refine HQ.out.mono ?_; rintro e w6 ⟨rfl, hb6⟩; clear HQ; have HQ2 := hid_of' (acts_same (h2.later hb6).sl (h4.later hb6).sl h2.2 (by omega))) | (go_at_call 19; refine HQ2.out.mono ?_; rintro e w7 ⟨rfl, hb7⟩; clear HQ2))
  have hb57 := bgo hb6 hb7
  have hck7 := hck5.later hb57
  have hcW : Ch (fun k => w.heap.size ≤ k) w w7 := ((Ch.of (S := fun k => w.heap.size ≤ k) (bgo (bgo (bgo H.out.2.2.2 HB.out.1) HB.out.2.1) HB.out.2.2.1)).go hc5 (fun s q => .inl (by omega))).later hb57
  have hs7 : w4.heap.size ≤ w7.heap.size := Nat.le_trans hc5.size hb57.size
  have nb0 := CkAt.new w7 (x := ck0) rfl
  go_upto_region 8 with (first | (refine wpL_load rfl _ rfl rfl hck7 ?_) | (rw [← ck0_cv]; refine wpL_store (v := h) (u := ck0) rfl _ _ rfl rfl rfl nb0 ha.1 ?_))
  have hN : CkAt w7.heap.size h ((w7.alloc (.cells (cv ck0) 44)).setRow w7.heap.size (cv h)) := ⟨setRow_heap _ _ _ _ _ _ nb0.1, ha.1⟩
  have hb8 : Below w7.heap.size w7 ((w7.alloc (.cells (cv ck0) 44)).setRow w7.heap.size (cv h)) := below_row (below_one w7 _) (Nat.le_refl _) _
  generalize (w7.alloc (.cells (cv ck0) 44)).setRow w7.heap.size (cv h) = w8 at hN hb8 ⊢
  have hr8 := ((h1.later hb57).later hb8)
  have he8 := ((h2.later hb57).later hb8)
  have HG := hid_of' (And.intro hr8 (And.intro he8 (And.intro (hcW.later hb8) hN)))
  have hsz8 := hb8.size
  have hn8 : w7.heap.size < w8.heap.size := hN.lt
  obtain ⟨nb, hnb⟩ : ∃ nb, w7.heap.size = nb := ⟨_, rfl⟩
  have hne : ∀ k, (Value.slice ra row.length rc).ownBlock = some k → ¬ k = nb := fun k hk => by have := (h1.later hb57).lt k hk; omega
  have hne2 : ∀ k, (Value.slice sa res.length sc).ownBlock = some k → ¬ k = nb := fun k hk => by have := (h2.later hb57).lt k hk; omega
  have HNE := hid_of' (And.intro hne hne2)
  have hnw : w.heap.size ≤ nb := by have := hcW.size; omega
  rw [hnb] at HG ⊢
  clear hck5 h1 h2 h3 h4 hc5 hb6 hb7 hb57 hck7 hcW nb0 hN hb8 hr8 he8 hne hne2
  go_wp2
  go_loopw [11] (fun i wq => ∃ j : Nat, i = .int .i64 (j : Int) ∧ j ≤ row.length ∧ CkAt nb (dlv h (row.take j)) wq ∧ Ch (fun k => k = nb) w8 wq) (fun i _ => row.length - (intOf i).toNat)
  case atStart => exact ⟨0, rfl, by omega, HG.out.2.2.2, Ch.refl _ _⟩
  case round =>
    rename World => wq
    obtain ⟨j, rfl, hj, hcq, hCq⟩ := hrel
    have hrow2 := HG.out.1.ch hCq HNE.out.1
    have hrf := HB.out.2.2.2.2.2.2.2
    by_cases hlj : j < row.length
    · have hji : (j : Int) < (row.length : Int) := by omega
      obtain ⟨x, hx⟩ : ∃ x, row[j]? = some x := ⟨_, List.getElem?_eq_getElem hlj⟩
      have hxf := hrf.at hx
      obtain ⟨gr, o, c2, hv, hg9⟩ := hrow2.sl.pos (by omega)
      simp only [Value.slice.injEq, true_and] at hv
      obtain ⟨rfl, rfl⟩ := hv
      have hin := hrow2.sl.in hrf hx
      obtain ⟨hrd, hnx⟩ := okD_at HB.out.2.2.2.2.2.2.1 hx
      have hdc : Ck (dlv h (row.take j)) := dlv_ck ha (okD_take _ _ HB.out.2.2.2.2.2.2.1) (hrf.take j)
      obtain ⟨D, hD⟩ : ∃ D, dlv h (row.take j) = D := ⟨_, rfl⟩
      rw [hD] at hrd hnx hdc hcq
      obtain ⟨r, hr1, hr2, hr8, hr3, hr4, _⟩ := rdy_at hrd
      have xr : (acv x)[3]? = some (.int .i64 (r : Int)) := by rw [acv_rep, hr1]
      have hr8i : (r : Int) < 8 := by omega
      have hxn := hxf.2
      unfold fitsI at hxn
      have hlo : -9223372036854775808 ≤ en D r + 1 := by omega
      have hhi : en D r + 1 ≤ 9223372036854775807 := by omega
      have HN : Hid (dlv h (row.take (j + 1)) = D.set r (en D r + 1)) := by unfold Hid; rw [hnx]; unfold adv; rw [hr2]
      have HQ := hid_of' hCq
      clear hnx hr1 hr2 hr3 hr4 hxn hD hCq hrow2 hx
      have hB := Below.refl wq.heap.size wq
      go_upto_region 11 with fail
      refine wp_region_cls (by kernel_rfl) (by kernel_rfl) ?_
      repeat (first | go_big_quiet_skip | (go_big_quiet_want; first | (refine quiet_load_ck _ rfl rfl (cls_ck hcq) ?_; simp only [Act.put, List.setIfInBounds_toArray, List.set_cons_succ, List.set_cons_zero]; go_big_quiet_on) | (refine quiet_act _ rfl rfl hxf hin.cls ?_; simp only [Act.put, List.setIfInBounds_toArray, List.set_cons_succ, List.set_cons_zero]; go_big_quiet_on) | (go_big_quiet_op; first | go_big_quiet_on | go_big_quiet_call ((go_at_call 24; exact cls_of (refReady_is hrd _ hdc hxf))))))
      refine wpQuiet_nil ?_
      rintro w1 ⟨s1, e1⟩
      have hb1 := wOf_below s1
      rw [← e1] at hb1
      clear e1 s1
      replace hcq := hcq.later hb1
      replace hin := hin.later hb1
      replace hB := bgo hB hb1
      clear hb1
      have x3 := hin.2 3 _ xr
      have q1 := hcq.cell hr8
      have q2 := hcq.frozen r
      have HZ := hid_of' (And.intro (hcq.set r (en D r + 1)) ((HQ.out.later hB).set (p := ⟨nb, r, none⟩) (.inl rfl) (.int .i64 (en D r + 1))))
      clear hcq
      go_wp2
      go_roundw
      case rel => exact ⟨j + 1, by go_num, by omega, by rw [HN.out]; exact HZ.out.1, HZ.out.2⟩
      case measure => simp [intOf]; omega
    · have hji : ¬ (j : Int) < (row.length : Int) := by omega
      have hres2 := HG.out.2.1.ch hCq HNE.out.2
      have HS := hid_of' (spoilA_is hrow2.any hrl)
      have HR2 := hid_of' (And.intro hres2 hCq)
      clear hrow2 hres2 hcq hCq hrf
      go_upto_region 15 with (go_at_call 21; refine HS.out.mono ?_; rintro e wa ⟨⟨z, rfl⟩, hca⟩; clear HS)
      have hra := HR2.out.1.ch hca (fun k hk e => HB.out.2.2.2.2.2.1 k e hk)
      have HS2 := hid_of' (spoilA_is hra.any hel)
      go_upto_region 16 with (go_at_call 21; refine HS2.out.mono ?_; rintro e wb ⟨⟨z2, rfl⟩, hcb⟩; clear HS2)
      have hfin : Below w.heap.size w wb := Ch.none ((((HG.out.2.2.1.go HR2.out.2 (fun s q => .inl (by omega))).go hca (fun s q => .inl (by have := HB.out.2.2.2.1 s q; omega))).go hcb (fun s q => .inl (by have := HB.out.2.2.2.2.1 s q; omega)))) (fun s hs q => by omega)
      have HW := hid_of' (wakes11 wb)
      have HF := hid_of' hfin
      clear hfin hca hcb hra
      go_wp2_with (go_at_call 12; refine HW.out.mono ?_; rintro e w9 ⟨rfl, hb9⟩; clear HW)
      go_ret
      exact ⟨rfl, bgo HF.out hb9⟩
end Go.Proofs.YtlkcjbmdeimocaaDoor
