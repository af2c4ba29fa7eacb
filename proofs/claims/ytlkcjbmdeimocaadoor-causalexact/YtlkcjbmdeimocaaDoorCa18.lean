
/-
  barrowlaw11.CausalDelivers answers true.
-/
import Derived.Test.YtlkcjbmdeimocaaDoorCa17
namespace Go.Proofs.YtlkcjbmdeimocaaDoor
open Go.RowKit Go.Maps
set_option maxRecDepth 100000

theorem first_ready {row : List Ac} {c : List Int} (h : ∃ (j : Nat) (y : Ac), row[j]? = some y ∧ rdyC c y = true) : ∃ (j : Nat) (y : Ac), row[j]? = some y ∧ rdyC c y = true ∧ ∀ (j' : Nat) (z : Ac), j' < j → row[j']? = some z → rdyC c z = false := by
  obtain ⟨j, hj⟩ := h
  induction j using Nat.strongRecOn with
  | _ j ih =>
    obtain ⟨y, hy, hr⟩ := hj
    by_cases hm : ∃ j', j' < j ∧ ∃ z, row[j']? = some z ∧ rdyC c z = true
    · obtain ⟨j', hlt, hz⟩ := hm
      exact ih j' hlt hz
    · refine ⟨j, y, hy, hr, fun j' z hlt hz => ?_⟩
      cases hh : rdyC c z with
      | false => rfl
      | true => exact absurd ⟨j', hlt, z, hz, hh⟩ hm
theorem DvW.box {w Wb : World} {B kb Nb : Nat} {L : List Ac} {rl : Value} {h c : List Int} {v : Value} {nn : Nat} {m : Int} {row : List Ac} {wr : World} (D : DvW w Wb B kb Nb L rl h c v nn m row wr) {xb : Nat} {cs : Array Value} (hx : RowAt xb cs 48 wr) (hv : ¬ v.ownBlock = some xb) (hrl : ∀ k, rl.ownBlock = some k → k < xb) (hw : w.heap.size < xb) (ds : Array Value) : DvW w Wb B kb Nb L rl h c v nn m row (wr.setRow xb ds) := by
  have hc : Ch (fun k => k = xb) wr (wr.setRow xb ds) := Ch.row (S := fun k => k = xb) (Ch.refl _ wr) (.inl rfl) ds
  have hx' : wr.heap[xb]? = some (.cells cs 48 (0, 0)) := hx
  refine ⟨D.ib.ch hc ?_ (D.ib.map.ne hx') (fun k hk e => hv (e ▸ hk)), ⟨hc.heap D.now.1 (fun e => ?_), D.now.2⟩, ⟨hc.heap D.have'.1 (by omega), D.have'.2⟩, D.lrow.ch hc (fun k hk e => by have := hrl k hk; omega), D.vnew, below_row D.below (Nat.le_of_lt hw) _, Nat.le_trans D.size hc.size⟩
  · intro e
    have := D.ib.lies
    unfold RowAt at this
    rw [e, hx'] at this
    simp at this
  · have := D.now.1
    rw [e, hx'] at this
    simp at this
theorem offR_rng (c : List Int) (m : Int) (row : List Ac) (x : Ac) : 1 ≤ (offR c m row x).1 ∧ (offR c m row x).1 ≤ 5 := by
  unfold offR
  repeat' split
  all_goals simp
set_option maxHeartbeats 16000000 in
theorem causalDelivers_all {w : World} {most : Int} (hmost : fitsI most) {v : Value} {l : List Ac} (hl : SlC w v l) (hfull : ∀ x ∈ l, x.Full) (hcap : ∀ a n c, v = .slice a n c → n ≤ c) {h : List Int} (ha : Ck h) :
    Calls Tryd.prog 6 #[.int .i64 most, v, .agg (cv h)] w fun e w' => e = .returned (.bool true) ∧ Below w.heap.size w w' := by
  obtain ⟨a9, c9, rfl⟩ := hl.form
  have hlc := hcap _ _ _ rfl
  have hB0 := below_one w (.cells (cv h) 44)
  obtain ⟨L0, hL0⟩ : ∃ L0, l.take 40 = L0 := ⟨_, rfl⟩
  have hfL0 : ∀ x ∈ L0, x.Full := hL0 ▸ fun x hx => hfull x (List.mem_of_mem_take hx)
  have H := hid_of' (And.intro (CkAt.new w ha.1) (And.intro (hl.later hB0) (And.intro hfL0 hB0)))
  have hl4 : L0.length ≤ 40 := by rw [← hL0, List.length_take]; omega
  clear hl hfull hB0 hcap
  go_enter Tryd.func6, Tryd.ntmps6
  go_upto_region 1 with fail
  have hwW : w.heap.size < (w.alloc (.cells (cv h) 44)).heap.size := by simp
  generalize w.alloc (.cells (cv h) 44) = W at H hwW ⊢
  have hC := cut_ok H.out.2.1 hlc
  rw [hL0] at hC
  have HC := hid_of' hC
  clear hC hL0 hfL0 hlc
  go_upto_region 2 with (first | (go_at_call 15; refine HC.out.mono ?_; rintro e w1 ⟨u, rfl, hu, h0⟩; obtain rfl := h0.symm; clear HC h0; have HO := hid_of' (alike_any hu (fun x hx => (H.out.2.2.1 x hx).1) (by omega))) | (go_at_call 25; refine HO.out.mono ?_; rintro e w2 ⟨rl, rfl, ho2, hn2, hb2⟩; clear HO))
  obtain ⟨L, hL⟩ : ∃ L, alikeL L0 = L := ⟨_, rfl⟩
  have hLf : AFit L := hL ▸ fun x hx => (H.out.2.2.1 x (alike_mem hx)).1
  have hLr : ∀ x ∈ L, fitsI x.rep := hL ▸ fun x hx => (H.out.2.2.1 x (alike_mem hx)).2
  have hLo : ∀ x y, x ∈ L → y ∈ L → x.one y → x = y := hL ▸ fun x y hx hy ho => alike_one hx hy ho
  have hLl : L.length ≤ 40 := by rw [← hL]; unfold alikeL; rw [List.length_map]; exact hl4
  rw [hL] at ho2
  have hck2 := H.out.1.later hb2
  have hB2 := bgo H.out.2.2.2 hb2
  have H2 := hid_of' (And.intro ho2 (And.intro hck2 hB2))
  have HLF := hid_of' (And.intro hLf (And.intro hLr hLo))
  have hww2 : w.heap.size < w2.heap.size := hck2.lt
  have hrl2 := ho2.lt
  obtain ⟨ra, rc, hrl, _, _⟩ := ho2.form
  subst hrl
  clear hL hLf hLr hLo ho2 hck2 hB2 hb2 hn2 hu H
  have HW := hid_of' (within_is most 41 w2 (by decide) (by decide) hmost)
  obtain ⟨m, hm⟩ : ∃ m : Nat, wiN most 41 = m := ⟨_, rfl⟩
  have hm41 : m < 41 := by rw [← hm]; exact wiN_lt (by decide)
  rw [hm] at HW
  have HNW := hid_of' (newI_ok (m : Int) (by omega) (by omega) w2)
  clear hm
  go_upto_region 5 with (first | (go_at_call 26; refine HW.out.mono ?_; rintro e w3 ⟨rfl, h0⟩; obtain rfl := h0.symm; clear HW h0) | (go_at_call 9; refine HNW.out.mono ?_; rintro e Wb ⟨B, kb, rfl, hI, hB0, hk0, hb4⟩; clear HNW))
  have hck4 := H2.out.2.1.later hb4
  go_upto_region 6 with (first | (refine wpL_load rfl _ rfl rfl hck4 ?_) | (refine wpL_store rfl _ _ rfl rfl rfl (CkAt.new Wb (x := ck0) rfl) ha.1 ?_))
  have hnow := (CkAt.new Wb (x := ck0) rfl).row ha.1
  have hbb := below_row (below_one Wb (.cells (cv ck0) 44)) (g := Wb.heap.size) (Nat.le_refl _) (cv h)
  have hsb := hb4.size
  have hmi : (m : Int) = (m : Int) := rfl
  have D0 : DvW w Wb B kb Wb.heap.size L (.slice ra L.length rc) h h (.slice none 0 0) 0 (m : Int) [] ((Wb.alloc (.cells (cv ck0) 44)).setRow Wb.heap.size (cv h)) :=
    ⟨hI.later hbb, hnow, hck4.later hbb, (H2.out.1.later hb4).later hbb, newB_nil _, bgo (bgo H2.out.2.2 hb4) hbb, hbb.size⟩
  have HD0 := hid_of' D0
  have hBs := hI.lies.lt
  have HL : Hid (AFit L ∧ (∀ x ∈ L, fitsI x.rep) ∧ (∀ k, Value.ownBlock (.slice ra L.length rc) = some k → k < Wb.heap.size) ∧ w.heap.size < Wb.heap.size ∧ w.heap.size ≤ B ∧ w.heap.size ≤ kb ∧ w.heap.size ≤ Wb.heap.size) := ⟨HLF.out.1, HLF.out.2.1, fun k hk => by have := hrl2 k hk; omega, by omega, by omega, by omega, by omega⟩
  have HONE := hid_of' HLF.out.2.2
  rw [← ck0_cv]
  clear hnow hbb D0 hck4 hI hrl2 HLF H2 hb4
  generalize (Wb.alloc (.cells (cv ck0) 44)).setRow Wb.heap.size (cv h) = W0 at HD0 ⊢
  obtain ⟨Nb, hNb⟩ : ∃ Nb, Wb.heap.size = Nb := ⟨_, rfl⟩
  rw [hNb] at HD0 ⊢
  have hNbw : w.heap.size < Nb := by omega
  obtain ⟨rl, hrl⟩ : ∃ rl, Value.slice ra L.length rc = rl := ⟨_, rfl⟩
  have HRL := hid_of' hrl
  rw [hrl] at HD0 HL
  have HLN := hid_of' hNb
  have hsNb : Wb.heap.size ≤ Nb := by omega
  clear hrl hNb
  go_wp2
  go_loopw [10, 11, 12, 13, 14, 15] (fun lo nv iv _ _ _ wr => ∃ (i : Nat) (s : List Ac) (c : List Int) (lost : Bool) (row : List Ac) (v : Value) (nn : Nat), lo = .bool lost ∧ nv = .int .i64 (s.length : Int) ∧ iv = .int .i64 (i : Int) ∧ i ≤ L.length ∧ DvI h L i s c lost row ∧ DvW w Wb B kb Nb L rl h c v nn (m : Int) row wr ∧ nn ≤ i) (fun _ _ iv _ _ _ _ => L.length - (intOf iv).toNat)
  case atStart => exact ⟨0, [], h, false, [], .slice none 0 0, 0, rfl, rfl, rfl, by omega, DvI.start h L, HD0.out, by omega⟩
  case round =>
    rename World => wr
    obtain ⟨i, s, c, lost, row, v, nn, rfl, rfl, rfl, hi, I, D, hnn⟩ := hrel
    by_cases hlt : i < L.length
    · have hki : (i : Int) < (L.length : Int) := by omega
      obtain ⟨x, hx⟩ : ∃ x, L[i]? = some x := ⟨_, List.getElem?_eq_getElem hlt⟩
      have hxf := HL.out.1.at hx
      have hxF : x.Full := ⟨hxf, HL.out.2.1 x (List.mem_of_getElem? hx)⟩
      have hc : Ck c := by rw [I.at']; exact dlv_ck ha I.ok (fun y hy => HL.out.1 y (I.sub y hy))
      have hlr := D.lrow
      rw [← HRL.out] at hlr
      obtain ⟨g, o, c2, hv, hg9⟩ := hlr.sl.pos (by omega)
      simp only [Value.slice.injEq, true_and] at hv
      obtain ⟨rfl, rfl⟩ := hv
      have hin := hlr.sl.in HL.out.1 hx
      have HD1 := hid_of' (And.intro D (And.intro I (And.intro hx hnn)))
      clear D I hx hlr hnn
      go_upto_region 12 with (first | (refine wpL_loadA rfl _ rfl rfl hxf hin ?_) | (refine wpL_storeAr (p := x) (q := ac0) rfl _ _ rfl rfl rfl hxf ac0_fit (row_new wr (acv ac0) _) ?_))
      obtain ⟨hb1, hb2⟩ := boxed_act wr (x := x)
      rw [show (Obj.cells #[Value.int .i64 0, .int .i64 0, .int .i32 0, .int .i64 0, .int .i64 0, .int .i64 0, .int .i64 0, .int .i64 0, .int .i64 0, .int .i64 0, .int .i64 0, .int .i64 0, .int .i64 0] 48) = Obj.cells (acv ac0) 48 from rfl]
      generalize (wr.alloc (.cells (acv ac0) 48)).setRow wr.heap.size (acv x) = w2 at hb1 hb2 ⊢
      have D2 := HD1.out.1.later hb2
      have hvlt := HD1.out.1.ib.row.lt
      have hnw := HD1.out.1.now.lt
      have hbsz := HD1.out.1.below.size
      obtain ⟨xb, hxb⟩ : ∃ xb, wr.heap.size = xb := ⟨_, rfl⟩
      have HXB : Hid ((∀ k, rl.ownBlock = some k → k < xb) ∧ w.heap.size < xb ∧ ∀ k, v.ownBlock = some k → k < xb) := ⟨fun k hk => by have := HL.out.2.2.1 k hk; have := HD1.out.1.size; omega, by have := HD1.out.1.size; omega, fun k hk => by have := hvlt k hk; omega⟩
      have hsx := hb1.lt
      rw [hxb] at hb1 hsx ⊢
      have HOF := hid_of' (offer_any D2.ib hc hxF (by have := HD1.out.2.2.2; omega))
      obtain ⟨hq1, hq5⟩ := offR_rng c (m : Int) row x
      have HCASE : Hid (((offR c (m : Int) row x).1 = 1 ∧ (offR c (m : Int) row x).2 = row ∧ DvA h L (i + 1) s c lost row x) ∨ ((offR c (m : Int) row x).1 ≠ 1 ∧ DvI h L (i + 1) s c (lost || decide ((offR c (m : Int) row x).1 = 5)) (offR c (m : Int) row x).2)) := by
        by_cases h1 : (offR c (m : Int) row x).1 = 1
        · exact .inl ⟨h1, HD1.out.2.1.ready HD1.out.2.2.1 h1⟩
        · exact .inr ⟨h1, HD1.out.2.1.offer HONE.out HD1.out.2.2.1 h1⟩
      have hnow2 := D2.now
      have HD2 := hid_of' (And.intro D2 hb1)
      obtain ⟨q, hq⟩ : ∃ q, (offR c (m : Int) row x).1 = q := ⟨_, rfl⟩
      obtain ⟨row2, hrow2⟩ : ∃ row2, (offR c (m : Int) row x).2 = row2 := ⟨_, rfl⟩
      unfold OffQ at HOF
      rw [hq, hrow2] at HOF HCASE
      rw [hq] at hq1 hq5
      have hnn2 := HD1.out.2.2.2
      clear D2 hvlt hb2 hq hrow2 hxb hin
      go_upto_region 13 with (first | (refine wpL_load rfl _ rfl rfl hnow2 ?_) | (refine wpL_loadA rfl _ rfl rfl hxf HD2.out.2.in ?_) | (go_at_call 27; refine HOF.out.mono ?_; rintro e w3 ⟨v2, rfl, hi3, ha3, hc3⟩; clear HOF))
      have D3 := HD2.out.1.go HL.out.2.2.1 HL.out.2.2.2.2.1 HL.out.2.2.2.2.2.1 HL.out.2.2.2.2.2.2 hi3 ha3 hc3
      have hbx3 := HD2.out.2.ch hc3 (ibS_not HD2.out.1.ib HD2.out.2 (by decide) (.inr (fun e => by have := HXB.out.2.2 _ e; omega)))
      have hvx3 : ¬ v2.ownBlock = some xb := fun e => (ha3 xb e).elim (fun q => by have := HXB.out.2.2 _ q; omega) (fun q => by omega)
      obtain ⟨nn2, hnn2e⟩ : ∃ nn2, nn + 1 = nn2 := ⟨_, rfl⟩
      rw [hnn2e] at D3
      have hnn2' : nn2 ≤ i + 1 := by omega
      clear hi3 ha3 hc3 HD2 hnow2 hb1 hnn2e hnn2
      have hl1 : ¬ q < 1 := by omega
      have hl5 : ¬ 5 < q := by omega
      rcases HCASE.out with ⟨hq, hr2, A⟩ | ⟨hq, I2⟩
      · subst hq
        subst hr2
        have HD := hid_of' (And.intro D3 (And.intro hvx3 (And.intro hbx3 (And.intro hnn2' A))))
        clear D3 hbx3 hvx3 A HCASE HD1 hq1 hq5 hl1 hl5 hnn2'
        cases lost
        · go_wp2
          go_loopg [11, 15] (row2.length + 1) (fun n nv okv wq => ∃ (s : List Ac) (c : List Int) (row : List Ac) (v : Value) (nn : Nat), nv = .int .i64 (s.length : Int) ∧ nn ≤ i + 1 ∧ DvW w Wb B kb Nb L rl h c v nn m row wq ∧ ¬ v.ownBlock = some xb ∧ ((okv = .bool true ∧ n = row.length + 1 ∧ ∃ a, DvA h L (i + 1) s c false row a ∧ RowAt xb (acv a) 48 wq ∧ a.Fit) ∨ (okv = .bool false ∧ n = 0 ∧ DvI h L (i + 1) s c false row)))
          case atStart => exact ⟨s, c, row2, v2, nn2, rfl, HD.out.2.2.2.1, HD.out.1, HD.out.2.1, .inl ⟨rfl, rfl, x, HD.out.2.2.2.2, HD.out.2.2.1, hxf⟩⟩
          case round =>
            rename World => wq
            obtain ⟨s3, c3, row3, v3, nn3, rfl, hnn3, D3, hvx3, hcase⟩ := hrel
            rcases hcase with ⟨rfl, hgk, a, I3, hbx, haf⟩ | ⟨rfl, hgk, I3⟩
            · have hc3 : Ck c3 := by rw [I3.at']; exact dlv_ck ha I3.ok (fun y hy => HL.out.1 y (I3.sub y hy))
              have hrd := I3.rdy
              obtain ⟨r, hr1, hr2, hr8, hr3, hr4, _⟩ := rdy_at hrd
              have xr : (acv a)[3]? = some (.int .i64 (r : Int)) := by rw [acv_rep, hr1]
              have hr8i : (r : Int) < 8 := by omega
              have hxn := haf.2
              unfold fitsI at hxn
              have hlo : -9223372036854775808 ≤ en c3 r + 1 := by omega
              have hhi : en c3 r + 1 ≤ 9223372036854775807 := by omega
              have hsl : s3.length + 1 ≤ L.length := by have := I3.len; omega
              have hsi : (s3.length : Int) + 1 ≤ (L.length : Int) := by omega
              have hsi2 : ¬ (L.length : Int) < (s3.length : Int) + 1 := by omega
              have hsi3 : ¬ L.length < s3.length + 1 := by omega
              have HRD := hid_of' (refReady_is hrd wq hc3 haf)
              have HA : Hid (adv c3 a = c3.set r (en c3 r + 1)) := by unfold Hid adv; rw [hr2]
              have hadv : Ck (adv c3 a) := adv_ck hc3 hrd haf
              have hnow := D3.now
              have H3 := hid_of' (And.intro I3 (And.intro D3 (And.intro hbx (And.intro hgk (And.intro hvx3 hnn3)))))
              clear I3 D3 hgk hvx3 hr1 hr2 hr3 hr4 hxn hnn3
              go_upto_region 20 with (first | (refine wpL_load rfl _ rfl rfl hnow ?_) | (refine wpL_loadA rfl _ rfl rfl haf hbx.in ?_) | (go_at_call 24; refine HRD.out.mono ?_; rintro e w4 ⟨rfl, hb4⟩; clear HRD))
              have D4 := H3.out.2.1.later hb4
              have hbx4 := hbx.later hb4
              have k1 := D4.now.cell hr8
              have k2 := D4.now.frozen r
              have x3 := hbx4.in.2 3 _ xr
              rw [Nat.zero_add] at x3
              have D5 := D4.tick hNbw r (en c3 r + 1)
              rw [← HA.out] at D5
              have hbx5 := hbx4.ch (ch_cell (w := w4) (b := Nb) (k := r) (.int .i64 (en c3 r + 1))) (fun e => by
                have := D4.now.1
                rw [← e, hbx4] at this
                simp at this)
              have H5 := hid_of' (And.intro D5 hbx5)
              clear D4 D5 hbx4 hbx5 hbx hnow hb4
              go_upto_region 21 with fail
              clear k1 k2 x3
              generalize w4.setCell ⟨Nb, r, none⟩ (.int .i64 (en c3 r + 1)) = w5 at H5 ⊢
              have hnow := H5.out.1.now
              by_cases hany : ∃ (j : Nat) (y : Ac), row3[j]? = some y ∧ rdyC (adv c3 a) y = true
              · obtain ⟨j, y, hy, hyr, hyn⟩ : ∃ (j : Nat) (y : Ac), row3[j]? = some y ∧ rdyC (adv c3 a) y = true ∧ ∀ (j' : Nat) (z : Ac), j' < j → row3[j']? = some z → rdyC (adv c3 a) z = false := first_ready hany
                have hyf : y.Fit := H5.out.1.ib.row.2.at hy
                have HN := hid_of' (next_some H5.out.1.ib hadv hy hyr hyn)
                have HY := hid_of' (And.intro hy hyr)
                have hjl : j < row3.length := (List.getElem?_eq_some_iff.1 hy).1
                clear hy hyr hyn hany
                go_upto_region 10 with (first | (refine wpL_load rfl _ rfl rfl hnow ?_) | (go_at_call 28; refine HN.out.mono ?_; rintro e w6 ⟨v6, rfl, hi6, ha6, hc6⟩; clear HN; have D6 := H5.out.1.go HL.out.2.2.1 HL.out.2.2.2.2.1 HL.out.2.2.2.2.2.1 HL.out.2.2.2.2.2.2 hi6 ha6 hc6; have hbx6 := H5.out.2.ch hc6 (ibS_not H5.out.1.ib H5.out.2 (by decide) (.inr H3.out.2.2.2.2.1)); have hvx6 : ¬ v6.ownBlock = some xb := fun e => (ha6 xb e).elim H3.out.2.2.2.2.1 (fun q => by have := H5.out.2.lt; omega)) | (refine wpL_storeAr (p := y) (q := a) rfl _ _ rfl rfl rfl hyf haf hbx6 ?_))
                have D7 := D6.box hbx6 hvx6 HXB.out.1 HXB.out.2.1 (acv y)
                have HZ := hid_of' (And.intro (H3.out.1.more ha.1 HY.out.1 HY.out.2) (And.intro D7 (And.intro (hbx6.put (acv y)) hvx6)))
                clear D6 D7 hbx6 hi6 ha6 hc6 hvx6 hnow
                generalize w6.setRow xb (acv y) = w7 at HZ ⊢
                go_wp2
                go_roundg row3.length
                case measure => have := H3.out.2.2.2.1; omega
                case rel => exact ⟨s3 ++ [a], adv c3 a, _, v6, nn3, by simp, H3.out.2.2.2.2.2, HZ.out.2.1, HZ.out.2.2.2, .inl ⟨rfl, by simp only [List.length_append, List.length_take, List.length_drop]; omega, y, HZ.out.1, HZ.out.2.2.1, hyf⟩⟩
              · have hno : ∀ y ∈ row3, rdyC (adv c3 a) y = false := fun y hy => by
                  cases hr : rdyC (adv c3 a) y with
                  | false => rfl
                  | true =>
                    obtain ⟨j, hj⟩ := List.getElem?_of_mem hy
                    exact absurd ⟨j, y, hj, hr⟩ hany
                have HN := hid_of' (next_none H5.out.1.ib hadv hno)
                have HNO := hid_of' hno
                clear hany hno
                go_upto_region 10 with (first | (refine wpL_load rfl _ rfl rfl hnow ?_) | (go_at_call 28; refine HN.out.mono ?_; rintro e w6 ⟨rfl, hb6⟩; clear HN; have hbx6 := H5.out.2.later hb6) | (refine wpL_storeAr (p := ac0) (q := a) rfl _ _ rfl rfl rfl ac0_fit haf hbx6 ?_))
                have D7 := (H5.out.1.later hb6).box hbx6 H3.out.2.2.2.2.1 HXB.out.1 HXB.out.2.1 (acv ac0)
                have HZ := hid_of' (And.intro (H3.out.1.done ha.1 HNO.out) D7)
                clear D7 hbx6 hnow hb6
                generalize w6.setRow xb (acv ac0) = w7 at HZ ⊢
                go_wp2
                go_roundg 0
                case measure => have := H3.out.2.2.2.1; omega
                case rel => exact ⟨s3 ++ [a], adv c3 a, row3, v3, nn3, by simp, H3.out.2.2.2.2.2, HZ.out.2, H3.out.2.2.2.2.1, .inr ⟨rfl, rfl, HZ.out.1⟩⟩
            · have HZ := hid_of' (And.intro I3 (And.intro D3 hnn3))
              clear I3 D3 hgk hvx3 hnn3
              go_wp2
              go_roundw
              case rel => exact ⟨i + 1, s3, c3, false, row3, v3, nn3, rfl, rfl, by go_num, by omega, HZ.out.1, HZ.out.2.1, HZ.out.2.2⟩
              case measure => simp [intOf]; omega
        · go_wp2
          go_loopg [11, 15] (row2.length + 1) (fun n nv okv wq => ∃ (s : List Ac) (c : List Int) (row : List Ac) (v : Value) (nn : Nat), nv = .int .i64 (s.length : Int) ∧ nn ≤ i + 1 ∧ DvW w Wb B kb Nb L rl h c v nn m row wq ∧ ¬ v.ownBlock = some xb ∧ ((okv = .bool true ∧ n = row.length + 1 ∧ ∃ a, DvA h L (i + 1) s c true row a ∧ RowAt xb (acv a) 48 wq ∧ a.Fit) ∨ (okv = .bool false ∧ n = 0 ∧ DvI h L (i + 1) s c true row)))
          case atStart => exact ⟨s, c, row2, v2, nn2, rfl, HD.out.2.2.2.1, HD.out.1, HD.out.2.1, .inl ⟨rfl, rfl, x, HD.out.2.2.2.2, HD.out.2.2.1, hxf⟩⟩
          case round =>
            rename World => wq
            obtain ⟨s3, c3, row3, v3, nn3, rfl, hnn3, D3, hvx3, hcase⟩ := hrel
            rcases hcase with ⟨rfl, hgk, a, I3, hbx, haf⟩ | ⟨rfl, hgk, I3⟩
            · have hc3 : Ck c3 := by rw [I3.at']; exact dlv_ck ha I3.ok (fun y hy => HL.out.1 y (I3.sub y hy))
              have hrd := I3.rdy
              obtain ⟨r, hr1, hr2, hr8, hr3, hr4, _⟩ := rdy_at hrd
              have xr : (acv a)[3]? = some (.int .i64 (r : Int)) := by rw [acv_rep, hr1]
              have hr8i : (r : Int) < 8 := by omega
              have hxn := haf.2
              unfold fitsI at hxn
              have hlo : -9223372036854775808 ≤ en c3 r + 1 := by omega
              have hhi : en c3 r + 1 ≤ 9223372036854775807 := by omega
              have hsl : s3.length + 1 ≤ L.length := by have := I3.len; omega
              have hsi : (s3.length : Int) + 1 ≤ (L.length : Int) := by omega
              have hsi2 : ¬ (L.length : Int) < (s3.length : Int) + 1 := by omega
              have hsi3 : ¬ L.length < s3.length + 1 := by omega
              have HRD := hid_of' (refReady_is hrd wq hc3 haf)
              have HA : Hid (adv c3 a = c3.set r (en c3 r + 1)) := by unfold Hid adv; rw [hr2]
              have hadv : Ck (adv c3 a) := adv_ck hc3 hrd haf
              have hnow := D3.now
              have H3 := hid_of' (And.intro I3 (And.intro D3 (And.intro hbx (And.intro hgk (And.intro hvx3 hnn3)))))
              clear I3 D3 hgk hvx3 hr1 hr2 hr3 hr4 hxn hnn3
              go_upto_region 20 with (first | (refine wpL_load rfl _ rfl rfl hnow ?_) | (refine wpL_loadA rfl _ rfl rfl haf hbx.in ?_) | (go_at_call 24; refine HRD.out.mono ?_; rintro e w4 ⟨rfl, hb4⟩; clear HRD))
              have D4 := H3.out.2.1.later hb4
              have hbx4 := hbx.later hb4
              have k1 := D4.now.cell hr8
              have k2 := D4.now.frozen r
              have x3 := hbx4.in.2 3 _ xr
              rw [Nat.zero_add] at x3
              have D5 := D4.tick hNbw r (en c3 r + 1)
              rw [← HA.out] at D5
              have hbx5 := hbx4.ch (ch_cell (w := w4) (b := Nb) (k := r) (.int .i64 (en c3 r + 1))) (fun e => by
                have := D4.now.1
                rw [← e, hbx4] at this
                simp at this)
              have H5 := hid_of' (And.intro D5 hbx5)
              clear D4 D5 hbx4 hbx5 hbx hnow hb4
              go_upto_region 21 with fail
              clear k1 k2 x3
              generalize w4.setCell ⟨Nb, r, none⟩ (.int .i64 (en c3 r + 1)) = w5 at H5 ⊢
              have hnow := H5.out.1.now
              by_cases hany : ∃ (j : Nat) (y : Ac), row3[j]? = some y ∧ rdyC (adv c3 a) y = true
              · obtain ⟨j, y, hy, hyr, hyn⟩ : ∃ (j : Nat) (y : Ac), row3[j]? = some y ∧ rdyC (adv c3 a) y = true ∧ ∀ (j' : Nat) (z : Ac), j' < j → row3[j']? = some z → rdyC (adv c3 a) z = false := first_ready hany
                have hyf : y.Fit := H5.out.1.ib.row.2.at hy
                have HN := hid_of' (next_some H5.out.1.ib hadv hy hyr hyn)
                have HY := hid_of' (And.intro hy hyr)
                have hjl : j < row3.length := (List.getElem?_eq_some_iff.1 hy).1
                clear hy hyr hyn hany
                go_upto_region 10 with (first | (refine wpL_load rfl _ rfl rfl hnow ?_) | (go_at_call 28; refine HN.out.mono ?_; rintro e w6 ⟨v6, rfl, hi6, ha6, hc6⟩; clear HN; have D6 := H5.out.1.go HL.out.2.2.1 HL.out.2.2.2.2.1 HL.out.2.2.2.2.2.1 HL.out.2.2.2.2.2.2 hi6 ha6 hc6; have hbx6 := H5.out.2.ch hc6 (ibS_not H5.out.1.ib H5.out.2 (by decide) (.inr H3.out.2.2.2.2.1)); have hvx6 : ¬ v6.ownBlock = some xb := fun e => (ha6 xb e).elim H3.out.2.2.2.2.1 (fun q => by have := H5.out.2.lt; omega)) | (refine wpL_storeAr (p := y) (q := a) rfl _ _ rfl rfl rfl hyf haf hbx6 ?_))
                have D7 := D6.box hbx6 hvx6 HXB.out.1 HXB.out.2.1 (acv y)
                have HZ := hid_of' (And.intro (H3.out.1.more ha.1 HY.out.1 HY.out.2) (And.intro D7 (And.intro (hbx6.put (acv y)) hvx6)))
                clear D6 D7 hbx6 hi6 ha6 hc6 hvx6 hnow
                generalize w6.setRow xb (acv y) = w7 at HZ ⊢
                go_wp2
                go_roundg row3.length
                case measure => have := H3.out.2.2.2.1; omega
                case rel => exact ⟨s3 ++ [a], adv c3 a, _, v6, nn3, by simp, H3.out.2.2.2.2.2, HZ.out.2.1, HZ.out.2.2.2, .inl ⟨rfl, by simp only [List.length_append, List.length_take, List.length_drop]; omega, y, HZ.out.1, HZ.out.2.2.1, hyf⟩⟩
              · have hno : ∀ y ∈ row3, rdyC (adv c3 a) y = false := fun y hy => by
                  cases hr : rdyC (adv c3 a) y with
                  | false => rfl
                  | true =>
                    obtain ⟨j, hj⟩ := List.getElem?_of_mem hy
                    exact absurd ⟨j, y, hj, hr⟩ hany
                have HN := hid_of' (next_none H5.out.1.ib hadv hno)
                have HNO := hid_of' hno
                clear hany hno
                go_upto_region 10 with (first | (refine wpL_load rfl _ rfl rfl hnow ?_) | (go_at_call 28; refine HN.out.mono ?_; rintro e w6 ⟨rfl, hb6⟩; clear HN; have hbx6 := H5.out.2.later hb6) | (refine wpL_storeAr (p := ac0) (q := a) rfl _ _ rfl rfl rfl ac0_fit haf hbx6 ?_))
                have D7 := (H5.out.1.later hb6).box hbx6 H3.out.2.2.2.2.1 HXB.out.1 HXB.out.2.1 (acv ac0)
                have HZ := hid_of' (And.intro (H3.out.1.done ha.1 HNO.out) D7)
                clear D7 hbx6 hnow hb6
                generalize w6.setRow xb (acv ac0) = w7 at HZ ⊢
                go_wp2
                go_roundg 0
                case measure => have := H3.out.2.2.2.1; omega
                case rel => exact ⟨s3 ++ [a], adv c3 a, row3, v3, nn3, by simp, H3.out.2.2.2.2.2, HZ.out.2, H3.out.2.2.2.2.1, .inr ⟨rfl, rfl, HZ.out.1⟩⟩
            · have HZ := hid_of' (And.intro I3 (And.intro D3 hnn3))
              clear I3 D3 hgk hvx3 hnn3
              go_wp2
              go_roundw
              case rel => exact ⟨i + 1, s3, c3, true, row3, v3, nn3, rfl, rfl, by go_num, by omega, HZ.out.1, HZ.out.2.1, HZ.out.2.2⟩
              case measure => simp [intOf]; omega
      · have HZ := hid_of' (And.intro I2 (And.intro D3 hnn2'))
        clear D3 hbx3 hvx3 I2 HCASE HD1
        have e1 : (q == 1) = false := by rw [beq_eq_false_iff_ne]; exact hq
        by_cases h5 : q = 5
        · have e5 : (q == 5) = true := by rw [beq_iff_eq]; exact h5
          have HQ : Hid (∀ b : Bool, (b || decide (q = 5)) = true) := fun b => by rw [decide_eq_true h5]; simp
          clear h5 hq
          cases lost
          · go_wp2
            go_loopg [11, 15] 0 (fun _ nv okv wq => nv = .int .i64 (s.length : Int) ∧ okv = .bool false ∧ DvW w Wb B kb Nb L rl h c v2 nn2 (m : Int) row2 wq)
            case atStart => exact ⟨rfl, rfl, HZ.out.2.1⟩
            case round =>
              obtain ⟨rfl, rfl, D⟩ := hrel
              have HDD := hid_of' D
              clear D
              go_wp2
              go_roundw
              case rel => exact ⟨i + 1, s, c, true, row2, v2, nn2, rfl, rfl, by go_num, by omega, by have := HZ.out.1; rw [HQ.out] at this; exact this, HDD.out, HZ.out.2.2⟩
              case measure => simp [intOf]; omega
          · go_wp2
            go_loopg [11, 15] 0 (fun _ nv okv wq => nv = .int .i64 (s.length : Int) ∧ okv = .bool false ∧ DvW w Wb B kb Nb L rl h c v2 nn2 (m : Int) row2 wq)
            case atStart => exact ⟨rfl, rfl, HZ.out.2.1⟩
            case round =>
              obtain ⟨rfl, rfl, D⟩ := hrel
              have HDD := hid_of' D
              clear D
              go_wp2
              go_roundw
              case rel => exact ⟨i + 1, s, c, true, row2, v2, nn2, rfl, rfl, by go_num, by omega, by have := HZ.out.1; rw [HQ.out] at this; exact this, HDD.out, HZ.out.2.2⟩
              case measure => simp [intOf]; omega
        · have e5 : (q == 5) = false := by rw [beq_eq_false_iff_ne]; exact h5
          have HQ : Hid (∀ b : Bool, (b || decide (q = 5)) = b) := fun b => by rw [decide_eq_false h5]; simp
          clear h5 hq
          cases lost
          · go_wp2
            go_loopg [11, 15] 0 (fun _ nv okv wq => nv = .int .i64 (s.length : Int) ∧ okv = .bool false ∧ DvW w Wb B kb Nb L rl h c v2 nn2 (m : Int) row2 wq)
            case atStart => exact ⟨rfl, rfl, HZ.out.2.1⟩
            case round =>
              obtain ⟨rfl, rfl, D⟩ := hrel
              have HDD := hid_of' D
              clear D
              go_wp2
              go_roundw
              case rel => exact ⟨i + 1, s, c, false, row2, v2, nn2, rfl, rfl, by go_num, by omega, by have := HZ.out.1; rw [HQ.out] at this; exact this, HDD.out, HZ.out.2.2⟩
              case measure => simp [intOf]; omega
          · go_wp2
            go_loopg [11, 15] 0 (fun _ nv okv wq => nv = .int .i64 (s.length : Int) ∧ okv = .bool false ∧ DvW w Wb B kb Nb L rl h c v2 nn2 (m : Int) row2 wq)
            case atStart => exact ⟨rfl, rfl, HZ.out.2.1⟩
            case round =>
              obtain ⟨rfl, rfl, D⟩ := hrel
              have HDD := hid_of' D
              clear D
              go_wp2
              go_roundw
              case rel => exact ⟨i + 1, s, c, true, row2, v2, nn2, rfl, rfl, by go_num, by omega, by have := HZ.out.1; rw [HQ.out] at this; exact this, HDD.out, HZ.out.2.2⟩
              case measure => simp [intOf]; omega
    · have hki : ¬ (i : Int) < (L.length : Int) := by omega
      have hiL : i = L.length := by omega
      subst hiL
      have hlr := D.lrow
      have HO := hid_of' (refOrder_any hlr.sl HL.out.1 ha (by omega))
      rw [← HRL.out] at HO
      have hhv := D.have'
      have HZ := hid_of' (And.intro I D)
      clear I D hlr hnn
      go_upto_region 26 with (first | (refine wpL_load rfl _ rfl rfl hhv ?_) | (go_at_call 23; refine HO.out.mono ?_; rintro e w5 ⟨r1, r2, rfl, ho1, _, _, _, hb5⟩; clear HO))
      obtain ⟨qa, qc, hr1, _, _⟩ := ho1.form
      subst hr1
      have HWK := hid_of' (wakes11 w5)
      have hBf := bgo HZ.out.2.below hb5
      cases lost
      · have hlen : ((s.length : Int) == ((ordL L h).length : Int)) = true := by
          have := HZ.out.1.all ha.1
          rw [this]; simp
        have hlen2 : (s.length == (ordL L h).length) = true := by
          have := HZ.out.1.all ha.1
          rw [this]; simp
        go_wp2_with (go_at_call 12; refine HWK.out.mono ?_; rintro e w9 ⟨rfl, hb9⟩; clear HWK)
        go_ret
        exact ⟨rfl, bgo hBf hb9⟩
      · go_wp2_with (go_at_call 12; refine HWK.out.mono ?_; rintro e w9 ⟨rfl, hb9⟩; clear HWK)
        go_ret
        exact ⟨rfl, bgo hBf hb9⟩
end Go.Proofs.YtlkcjbmdeimocaaDoor
