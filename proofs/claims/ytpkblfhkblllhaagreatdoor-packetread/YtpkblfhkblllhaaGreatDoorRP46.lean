
/-
  barrowref09.Reader: Rounds.
-/
import Derived.Test.YtpkblfhkblllhaaGreatDoorRP45
namespace Go.Proofs.YtpkblfhkblllhaaGreatDoor
open Go.RowKit
set_option maxRecDepth 100000

set_option maxHeartbeats 8000000 in
theorem rounds_px {pb xb : Nat} {rv : Value} {bs : List UInt8} {s : PS} {w : World} (h : PxAt pb xb rv bs s w) :
    Calls Tryz.prog 21 #[.pointer (some ⟨pb, 0, none⟩)] w fun e w' => e = .returned (.agg (rsv (s.rounds bs).1)) ∧ PxAt pb xb rv bs (s.rounds bs).2 w' ∧ Kept [pb, xb] w w' ∧ shRs (s.rounds bs).1 := by
  have hpx : pb < w.heap.size ∧ xb < w.heap.size := by
    obtain ⟨_, _, _, hx⟩ := h.xs
    exact ⟨h.row.lt, hx.at_.row.lt⟩
  have hvw : ∀ g o n c, rv = .slice (some ⟨g, o, none⟩) n c → 0 < n → g < w.heap.size := fun g o n c e h0 => by
    obtain ⟨_, _, _, hx⟩ := h.xs
    rcases hx.at_.raw with ⟨rfl, a, c', e'⟩ | ⟨g', o', c', e', hg', _⟩
    · rw [e'] at e; cases e; simp at h0
    · rw [e'] at e; cases e; exact hg'
  have hfit := number_fit bs s 8 (by decide)
  obtain ⟨T, ST, hT⟩ : ∃ T ST, s.rounds bs = (T, ST) := ⟨_, _, rfl⟩
  rw [hT]
  replace hT : PS.row (PS.rnd bs) (s.number bs 8).1.toNat (s.number bs 8).1.toNat 0 zeroRs (s.number bs 8).2 = (T, ST) := hT
  have b1 := bgo (below_one w (.cells (rsv zeroRs) 31)) (below_one _ (.cells (rsv zeroRs) 31))
  have hr : RowAt w.heap.size (rsv zeroRs) 31 ((w.alloc (.cells (rsv zeroRs) 31)).alloc (.cells (rsv zeroRs) 31)) := (RowAt.new w _ _).later (below_one _ _)
  have hc : RowAt (w.heap.size + 1) (rsv zeroRs) 31 ((w.alloc (.cells (rsv zeroRs) 31)).alloc (.cells (rsv zeroRs) 31)) := by
    have := RowAt.new (w.alloc (.cells (rsv zeroRs) 31)) (rsv zeroRs) 31
    simpa using this
  have HN := hid_of' (number_px (h.later b1) 8)
  obtain ⟨N, hN⟩ : ∃ N : Nat, (s.number bs 8).1 = (N : Int) := ⟨(s.number bs 8).1.toNat, by omega⟩
  rw [hN, Int.toNat_natCast] at hT
  rw [hN] at HN hfit
  have hN8 : N ≤ 8 := by omega
  generalize (s.number bs 8).2 = s0 at HN hT
  have HT := hid_of' hT
  have HR := hid_of' (And.intro hr (And.intro hc (And.intro b1 (And.intro hpx hvw))))
  clear hfit hN hT hpx hvw h hr hc b1
  go_enter Tryz.func21, Tryz.ntmps21
  go_upto_region 2 with (refine wpL_allocQ rfl _ rfl zero_rs ?_; go_simp)
  go_upto_region 3 with (go_at_call 16; refine HN.out.mono ?_; rintro e w1 ⟨rfl, hp, hk⟩)
  have B0 : RnB w pb xb (w.heap.size + 1) w.heap.size rv bs zeroRs s0 w1 :=
    ⟨hp, HR.out.2.1.kept hk (by have := HR.out.2.2.2.1; simp; omega), HR.out.1.kept hk (by have := HR.out.2.2.2.1; simp; omega), shRs_zero, (Kept.of HR.out.2.2.1).trans hk, Nat.lt_succ_self _, Nat.le_refl _, HR.out.2.2.2.1, HR.out.2.2.2.2⟩
  clear HN hp hk HR
  go_upto_region 4 with fail
  generalize w.heap.size + 1 = xa at B0 ⊢
  generalize w.heap.size = ra at B0 ⊢
  go_loopw [5] (fun iv wr => ∃ (ii : Nat) (pre : List Prn) (s' : PS), iv = .int .i64 (ii : Int) ∧ ii ≤ N ∧ pre.length = ii ∧ RnB w pb xb xa ra rv bs (pre ++ List.replicate (8 - ii) zeroR) s' wr ∧ Hid (PS.row (PS.rnd bs) N (N - ii) ii (pre ++ List.replicate (8 - ii) zeroR) s' = (T, ST))) (fun iv _ => N - (intOf iv).toNat)
  case atStart => exact ⟨0, [], s0, rfl, Nat.zero_le _, rfl, B0, HT⟩
  case round =>
    clear B0 HT
    obtain ⟨ii, pre, s', rfl, hi, hpl, B, he⟩ := hrel
    by_cases hlt : ii < N
    · have hi1 : (ii : Int) < (N : Int) := by omega
      have hi8 : (ii : Int) < 8 := by omega
      obtain ⟨c, hc⟩ : ∃ c, c = pre ++ List.replicate (8 - ii) zeroR := ⟨_, rfl⟩
      have hci : c[ii]? = some zeroR := by rw [hc, List.getElem?_append_right (by omega), hpl, Nat.sub_self, List.getElem?_replicate, if_pos (by omega)]
      have hcs : ∀ a, c.set ii a = (pre ++ [a]) ++ List.replicate (8 - (ii + 1)) zeroR := fun a => by rw [hc]; exact set_pre _ _ _ _ hpl (by omega)
      rw [← hc] at B he
      have hst : PS.row (PS.rnd bs) N (N - (ii + 1)) (ii + 1) (c.set ii (PS.rnd bs (decide (ii + 1 = N)) s').1) (PS.rnd bs (decide (ii + 1 = N)) s').2 = (T, ST) := by
        have e := he.out
        rw [show N - ii = (N - (ii + 1)) + 1 by omega] at e
        exact e
      have HS := hid_of' (And.intro hst (And.intro hcs hpl))
      clear he hc hst hcs hpl
      have p0 := B.pl.1
      have x1 := B.pl.2
      go_upto_region 7 with fail
      clear p0 x1
      obtain ⟨z, s1, e0⟩ : ∃ z s, s'.number bs 9223372036854775807 = (z, s) := ⟨_, _, rfl⟩
      have H0 := number_px B.px 9223372036854775807
      rw [e0] at H0
      dsimp only at H0
      have HC0 := hid_of' (And.intro H0 B)
      have E0 := hid_of' e0
      have HI := hid_of' hci
      clear H0 B e0 hci
      go_upto_region 8 with (go_at_call 16; refine HC0.out.1.mono ?_; rintro e w2 ⟨rfl, hp2, hk2⟩; have B2 := HC0.out.2.call hp2 hk2; have d2 : w2.cell? ⟨xa, ii * 18, none⟩ = some (.int .i64 0) := (B2.at HI.out (rnv_num zeroR)).1; have f2 : w2.frozen? ⟨xa, ii * 18, none⟩ = false := (B2.at HI.out (rnv_num zeroR)).2)
      have B3 : RnB w pb xb xa ra rv bs (c.set ii (z, zero8, zero8, 0)) s1 (w2.setCell ⟨xa, ii * 18, none⟩ (.int .i64 z)) := B2.set1 (r' := (z, zero8, zero8, 0)) HI.out 0 _ (by decide) (rnl_num _ _) ⟨rfl, rfl⟩
      have hcc : ∀ r, (c.set ii r)[ii]? = some r := fun r => by rw [List.getElem?_set_self (List.getElem?_eq_some_iff.1 HI.out).1]
      have hss : ∀ r r', (c.set ii r).set ii r' = c.set ii r' := fun r r' => List.set_set ..
      have HCC := hid_of' (And.intro hcc hss)
      generalize w2.setCell ⟨xa, ii * 18, none⟩ (.int .i64 z) = w3 at B3 ⊢
      have d3 : w3.cell? ⟨xa, ii * 18, none⟩ = some (.int .i64 z) := (B3.at (HCC.out.1 _) (rnv_num (z, zero8, zero8, 0))).1
      have HF := hid_of' (And.intro (fun no => form_px B3.px s'.pl no) B3)
      clear B2 hp2 hk2 d2 f2 B3 hcc hss
      by_cases hz0 : z = 0
      · have hzz : (z == 0) = true := by rw [beq_iff_eq]; exact hz0
        by_cases hlast : ii + 1 = N
        · have hq : ((ii : Int) == (N : Int) - 1) = true := by rw [beq_iff_eq]; omega
          have HG := hid_of' (HF.out.1 true)
          go_upto_region 9 with (go_at_call 36; refine HG.out.mono ?_; rintro e w4 ⟨rfl, hp4, hk4⟩)
          have B4 : RnB w pb xb xa ra rv bs (c.set ii (z, zero8, zero8, 0)) (s1.form s'.pl true) w4 := HF.out.2.call hp4 (hk4.mono (by simp))
          have d4 : w4.cell? ⟨xa, ii * 18, none⟩ = some (.int .i64 z) := (B4.at (HCC.out.1 _) (rnv_num (z, zero8, zero8, 0))).1
          clear HG hp4 hk4 d3
          have HB4 := hid_of' B4
          clear B4
          go_wp2
          go_roundw
          case rel =>
            have hrnd : PS.rnd bs (decide (ii + 1 = N)) s' = (zeroR, s1.form s'.pl true) := by
              have e : PS.entry bs mx63 (decide (ii + 1 = N)) s' = (z, s1.form s'.pl true) := by
                unfold PS.entry
                rw [show PS.number bs s' mx63 = (z, s1) from E0.out]
                simp [hz0, hlast]
              unfold PS.rnd
              rw [e]
              simp [hz0]
            have e := HS.out.1
            rw [hrnd, HS.out.2.1] at e
            refine ⟨ii + 1, pre ++ [zeroR], s1.form s'.pl true, by go_num, by omega, by rw [List.length_append, HS.out.2.2]; rfl, ?_, e⟩
            have b := HB4.out
            rw [hz0] at b
            rw [← HS.out.2.1]
            exact b
          case measure => simp [intOf]; omega
        · have hq : ((ii : Int) == (N : Int) - 1) = false := by rw [beq_eq_false_iff_ne]; omega
          have HG := hid_of' (HF.out.1 false)
          go_upto_region 9 with (go_at_call 36; refine HG.out.mono ?_; rintro e w4 ⟨rfl, hp4, hk4⟩)
          have B4 : RnB w pb xb xa ra rv bs (c.set ii (z, zero8, zero8, 0)) (s1.form s'.pl false) w4 := HF.out.2.call hp4 (hk4.mono (by simp))
          have d4 : w4.cell? ⟨xa, ii * 18, none⟩ = some (.int .i64 z) := (B4.at (HCC.out.1 _) (rnv_num (z, zero8, zero8, 0))).1
          clear HG hp4 hk4 d3
          have HB4 := hid_of' B4
          clear B4
          go_wp2
          go_roundw
          case rel =>
            have hrnd : PS.rnd bs (decide (ii + 1 = N)) s' = (zeroR, s1.form s'.pl false) := by
              have e : PS.entry bs mx63 (decide (ii + 1 = N)) s' = (z, s1.form s'.pl false) := by
                unfold PS.entry
                rw [show PS.number bs s' mx63 = (z, s1) from E0.out]
                simp [hz0, hlast]
              unfold PS.rnd
              rw [e]
              simp [hz0]
            have e := HS.out.1
            rw [hrnd, HS.out.2.1] at e
            refine ⟨ii + 1, pre ++ [zeroR], s1.form s'.pl false, by go_num, by omega, by rw [List.length_append, HS.out.2.2]; rfl, ?_, e⟩
            have b := HB4.out
            rw [hz0] at b
            rw [← HS.out.2.1]
            exact b
          case measure => simp [intOf]; omega
      · have hzz : (z == 0) = false := by rw [beq_eq_false_iff_ne]; exact hz0
        by_cases hlast : ii + 1 = N
        · have hq : ((ii : Int) == (N : Int) - 1) = true := by rw [beq_iff_eq]; omega
          have HG := hid_of' (HF.out.1 false)
          go_upto_region 9 with (go_at_call 36; refine HG.out.mono ?_; rintro e w4 ⟨rfl, hp4, hk4⟩)
          have B4 : RnB w pb xb xa ra rv bs (c.set ii (z, zero8, zero8, 0)) (s1.form s'.pl false) w4 := HF.out.2.call hp4 (hk4.mono (by simp))
          have d4 : w4.cell? ⟨xa, ii * 18, none⟩ = some (.int .i64 z) := (B4.at (HCC.out.1 _) (rnv_num (z, zero8, zero8, 0))).1
          clear HG hp4 hk4 d3
          go_upto_region 10 with fail
          clear d4
          obtain ⟨ck, s5, e5⟩ : ∃ z s, (s1.form s'.pl false).clock bs = (z, s) := ⟨_, _, rfl⟩
          have H5 := clock_px B4.px
          rw [e5] at H5
          dsimp only at H5
          have HC5 := hid_of' (And.intro H5 B4)
          have E5 := hid_of' e5
          clear H5 B4 e5
          go_upto_region 11 with (first
            | (go_at_call 19; refine HC5.out.1.mono ?_; rintro e w5 ⟨rfl, hp5, hk5, hl5⟩; have B5 := HC5.out.2.call hp5 hk5; have ht5 := act_there (o := ii * 18 + 1) (n := 8) B5.x (by rw [rsv_sz B5.sh]; omega))
            | (refine wpList_store_mid rfl 26 _ _ rfl xa (ii * 18 + 1) (cv ck) rfl rfl (by rw [cv_size, hl5]; exact ht5) (ck_size hl5) (cv_one _) ?_))
          have B6 : RnB w pb xb xa ra rv bs (c.set ii (z, ck, zero8, 0)) s5 (w5.setCells xa (ii * 18 + 1) (cv ck).toList) := by
            have q := B5.put (r' := (z, ck, zero8, 0)) (HCC.out.1 _) [.int .i64 z] (zero8.map (Value.int .i64)) (zero8.map (Value.int .i64) ++ [.int .i64 0]) (cv ck).toList (rnl_cut z zero8 zero8 0) (by rw [rnl_cut]; simp [cv]) (by simp [cv, hl5]; rfl) ⟨hl5, rfl⟩
            rw [HCC.out.2] at q
            exact q
          generalize w5.setCells xa (ii * 18 + 1) (cv ck).toList = w6 at B6 ⊢
          have HL := hid_of' hl5
          clear hl5 B5 hp5 hk5 ht5
          obtain ⟨kz, S6, e6⟩ : ∃ z s, s5.number bs 8 = (z, s) := ⟨_, _, rfl⟩
          have hf6 := number_fit bs s5 8 (by decide)
          have H6 := number_px B6.px 8
          rw [e6] at H6 hf6
          dsimp only at H6 hf6
          obtain ⟨K, rfl⟩ : ∃ K : Nat, kz = (K : Int) := ⟨kz.toNat, by omega⟩
          have HK8 : Hid (K ≤ 8) := hid_of' (by omega)
          have HC6 := hid_of' (And.intro H6 B6)
          have E6 := hid_of' e6
          clear H6 B6 e6 hf6
          go_upto_region 12 with (go_at_call 16; refine HC6.out.1.mono ?_; rintro e w7 ⟨rfl, hp7, hk7⟩)
          have HB7 := hid_of' (HC6.out.2.call hp7 hk7)
          clear hp7 hk7
          have hcb : (∀ r, (c.set ii r)[ii]? = some r) ∧ (∀ r r', (c.set ii r).set ii r' = c.set ii r') ∧ ck.length = 8 := ⟨HCC.out.1, HCC.out.2, HL.out⟩
          have HB := hid_of' hcb
          clear hcb
          go_upto_region 13 with fail
          have hvt : ∃ VT VS, PS.row (PS.entry bs 2) K K 0 zero8 S6 = (VT, VS) := ⟨_, _, rfl⟩
          obtain ⟨VT, VS, hVT⟩ := hvt
          have HV := hid_of' hVT
          clear hVT
          go_loopw [6, 8] (fun av jv wq => ∃ (pa jj : Nat) (vp : List Int) (S7 : PS), av = .int .i64 (pa : Int) ∧ jv = .int .i64 (jj : Int) ∧ jj ≤ K ∧ vp.length = jj ∧ RnB w pb xb xa ra rv bs (c.set ii (z, ck, vp ++ List.replicate (8 - jj) 0, 0)) S7 wq ∧ Hid (PS.row (PS.entry bs 2) K (K - jj) jj (vp ++ List.replicate (8 - jj) 0) S7 = (VT, VS))) (fun _ jv _ => K - (intOf jv).toNat)
          case atStart => exact ⟨s'.pl, 0, [], S6, rfl, rfl, Nat.zero_le _, rfl, HB7.out, HV⟩
          case round =>
            obtain ⟨pa, jj, vp, S7, rfl, rfl, hj, hvl, B, hv⟩ := hrel
            by_cases hlj : jj < K
            · have hj1 : (jj : Int) < (K : Int) := by omega
              have hj8 : (jj : Int) < 8 := by have := HK8.out; omega
              obtain ⟨vc, hvc⟩ : ∃ vc, vc = vp ++ List.replicate (8 - jj) 0 := ⟨_, rfl⟩
              have hvl8 : vc.length = 8 := by rw [hvc, List.length_append, List.length_replicate, hvl]; omega
              have hvs : ∀ a, vc.set jj a = (vp ++ [a]) ++ List.replicate (8 - (jj + 1)) 0 := fun a => by rw [hvc]; exact set_pre _ _ _ _ hvl (by omega)
              rw [← hvc] at B hv
              have hvst : PS.row (PS.entry bs 2) K (K - (jj + 1)) (jj + 1) (vc.set jj (PS.entry bs 2 (decide (jj + 1 = K)) S7).1) (PS.entry bs 2 (decide (jj + 1 = K)) S7).2 = (VT, VS) := by
                have e := hv.out
                rw [show K - jj = (K - (jj + 1)) + 1 by omega] at e
                exact e
              have HVS := hid_of' (And.intro hvst (And.intro hvs (And.intro hvl hvl8)))
              clear hv hvc hvst hvs hvl
              have p0 := B.pl.1
              have x1 := B.pl.2
              go_upto_region 16 with fail
              clear p0 x1
              obtain ⟨y, S8, e9⟩ : ∃ z s, S7.number bs 2 = (z, s) := ⟨_, _, rfl⟩
              have HN9 : Hid (∀ x, Below wr.heap.size wr x → Calls Tryz.prog 16 #[.pointer (some ⟨pb, 0, none⟩), .int .i64 2] x (fun e w' => e = .returned (.int .i64 y) ∧ PxAt pb xb rv bs S8 w' ∧ Kept [pb, xb] x w')) := fun x hb => by
                have := number_px (B.px.later hb) 2
                rw [e9] at this
                exact this
              have z8 : (0 : Int) ≤ 8 := by decide
              have E9 := hid_of' e9
              clear e9
              refine wp_region_once 7 (by kernel_rfl) (fun _ => none) (by kernel_rfl) (by kernel_rfl) (by decide) (fun i v x => match i with
                | 0 => v = .int .i64 (ii : Int)
                | 1 => v = .int .i64 (jj : Int)
                | 2 => v = .pointer (some ⟨pb, 0, none⟩)
                | 3 => v = .int .i64 y ∧ PxAt pb xb rv bs S8 x
                | 4 => v = .pointer (some ⟨xa, ii * 18, none⟩)
                | 5 => v = .pointer (some ⟨xa, ii * 18 + 9, none⟩)
                | 6 => v = .pointer (some ⟨xa, ii * 18 + 9 + jj, none⟩)
                | _ => True) (fun _ => false) (fun _ _ _ _ h => by cases h) 3 (by decide) (fun a b => Kept [pb, xb] a b) (fun a b => Kept [pb, xb] a b) (fun _ _ g h => g.trans (.of h)) (fun _ h => .of h) (fun _ _ h g => (Kept.of h).trans g) (fun _ _ g => g.size) ?_ ?_ ?_ ?_
              · intro i v x x' hR hb
                match i, hR with
                | 0, h => exact h
                | 1, h => exact h
                | 2, h => exact h
                | 3, h => exact ⟨h.1, h.2.later hb⟩
                | 4, h => exact h
                | 5, h => exact h
                | 6, h => exact h
                | m + 7, h => exact h
              · intro i v x x' hne hR hb
                match i, hne, hR with
                | 0, hne, h => exact h
                | 1, hne, h => exact h
                | 2, hne, h => exact h
                | 3, hne, h => exact absurd rfl hne
                | 4, hne, h => exact h
                | 5, hne, h => exact h
                | 6, hne, h => exact h
                | m + 7, _, h => exact h
              · intro i o hi ho q x vals hX hC hdep hoth
                have t5 : q.tmps[5]? = some (.int .i64 (ii : Int)) := by rw [hoth 5 (by kernel_rfl)]; rfl
                have t8 : q.tmps[8]? = some (.int .i64 (jj : Int)) := by rw [hoth 8 (by kernel_rfl)]; rfl
                have t0 : q.tmps[0]? = some (.pointer (some ⟨pb, 0, none⟩)) := by rw [hoth 0 (by kernel_rfl)]; rfl
                have t3 : q.tmps[3]? = some (.pointer (some ⟨xa, 0, none⟩)) := by rw [hoth 3 (by kernel_rfl)]; rfl
                match i, hi, ho, hC with
                | 0, _, ho, hC =>
                  simp only [List.getElem?_cons_zero, Option.some.injEq] at ho
                  subst ho
                  unfold Oper.wp
                  simp [execOp, go_sem, t5]
                  exact cameB _ rfl (by decide) (Below.refl _ _) rfl (fun h => absurd h (by decide))
                | 1, _, ho, hC =>
                  simp only [List.getElem?_cons_succ, List.getElem?_cons_zero, Option.some.injEq] at ho
                  subst ho
                  unfold Oper.wp
                  simp [execOp, go_sem, t8]
                  exact cameB _ rfl (by decide) (Below.refl _ _) rfl (fun h => absurd h (by decide))
                | 2, _, ho, hC =>
                  simp only [List.getElem?_cons_succ, List.getElem?_cons_zero, Option.some.injEq] at ho
                  subst ho
                  unfold Oper.wp
                  simp [execOp, go_sem, t0]
                  exact cameB _ rfl (by decide) (Below.refl _ _) rfl (fun h => absurd h (by decide))
                | 3, _, ho, hC =>
                  simp only [List.getElem?_cons_succ, List.getElem?_cons_zero, Option.some.injEq] at ho
                  subst ho
                  obtain ⟨u2, e2⟩ := hdep ⟨2, .data⟩ (by simp) rfl _ 68 rfl rfl
                  rw [show vals 2 = .pointer (some ⟨pb, 0, none⟩) from e2] at u2
                  unfold Oper.wp
                  simp [go_sem, u2]
                  refine (HN9.out _ (hC (.inl rfl))).mono ?_
                  rintro r x1 ⟨rfl, hp1, hb1⟩
                  exact cameX _ rfl hb1 ⟨rfl, hp1⟩ rfl
                | 4, _, ho, hC =>
                  simp only [List.getElem?_cons_succ, List.getElem?_cons_zero, Option.some.injEq] at ho
                  subst ho
                  obtain ⟨u0, e0⟩ := hdep ⟨0, .data⟩ (by simp) rfl _ 66 rfl rfl
                  rw [show vals 0 = .int .i64 (ii : Int) from e0] at u0
                  unfold Oper.wp
                  simp [execOp, go_sem, u0, t3, hi8]
                  exact cameB _ rfl (by decide) (Below.refl _ _) rfl (fun h => absurd h (by decide))
                | 5, _, ho, hC =>
                  simp only [List.getElem?_cons_succ, List.getElem?_cons_zero, Option.some.injEq] at ho
                  subst ho
                  obtain ⟨u4, e4⟩ := hdep ⟨4, .data⟩ (by simp) rfl _ 70 rfl rfl
                  rw [show vals 4 = .pointer (some ⟨xa, ii * 18, none⟩) from e4] at u4
                  unfold Oper.wp
                  simp [execOp, go_sem, u4]
                  exact cameB _ rfl (by decide) (Below.refl _ _) rfl (fun h => absurd h (by decide))
                | 6, _, ho, hC =>
                  simp only [List.getElem?_cons_succ, List.getElem?_cons_zero, Option.some.injEq] at ho
                  subst ho
                  obtain ⟨u5, e5⟩ := hdep ⟨5, .data⟩ (by simp) rfl _ 71 rfl rfl
                  rw [show vals 5 = .pointer (some ⟨xa, ii * 18 + 9, none⟩) from e5] at u5
                  obtain ⟨u1, e1⟩ := hdep ⟨1, .data⟩ (by simp) rfl _ 67 rfl rfl
                  rw [show vals 1 = .int .i64 (jj : Int) from e1] at u1
                  unfold Oper.wp
                  simp [execOp, go_sem, u5, u1, hj8]
                  exact cameB _ rfl (by decide) (Below.refl _ _) rfl (fun h => absurd h (by decide))
                | m + 7, hi, _, _ => exact absurd hi (by omega)
              · intro vals w8 hk8 hR _
                have h3 : vals 3 = .int .i64 y ∧ PxAt pb xb rv bs S8 w8 := hR 3 (by decide)
                have h6 : vals 6 = .pointer (some ⟨xa, ii * 18 + 9 + jj, none⟩) := hR 6 (by decide)
                have hr : shR (z, ck, vc, 0) := ⟨HB.out.2.2, hvl8⟩
                have B8 := B.call h3.2 hk8
                have q8 := B8.at (HB.out.1 _) (rnv_vote hr jj (by omega))
                have B9 := B8.set1 (r' := (z, ck, vc.set jj y, 0)) (HB.out.1 _) (9 + jj) (.int .i64 y) (by omega) (rnl_vote hr jj (by omega) y) ⟨HB.out.2.2, by simpa using hvl8⟩
                rw [HB.out.2.1, ← Nat.add_assoc] at B9
                rw [← Nat.add_assoc] at q8
                have d8 := q8.1
                have f8 := q8.2
                have h31 := h3.1
                simp only [List.take, List.drop, putAll, h31, h6]
                clear h3 h31 h6 hR B8 q8 B hk8 HN9
                simp only [List.setIfInBounds_toArray, List.set_cons_succ, List.set_cons_zero]
                go_upto_region 17 with fail
                have d9 := (B9.at (HB.out.1 _) (rnv_vote (r := (z, ck, vc.set jj y, 0)) ⟨HB.out.2.2, by simpa using hvl8⟩ jj (by omega))).1
                rw [← Nat.add_assoc] at d9
                have hen : en (vc.set jj y) jj = y := by simp only [en, List.getD_eq_getElem?_getD]; rw [List.getElem?_set_self (by omega)]; rfl
                rw [show en (z, ck, vc.set jj y, (0 : Int)).2.2.1 jj = y from hen] at d9
                generalize w8.setCell ⟨xa, ii * 18 + 9 + jj, none⟩ (.int .i64 y) = w9 at B9 d9 ⊢
                have HF9 := hid_of' (And.intro (fun no => form_px B9.px S7.pl no) B9)
                clear B9 d8 f8 hen
                by_cases hlast9 : jj + 1 = K
                · by_cases hy0 : y = 0
                  · have hq9 : ((jj : Int) == (K : Int) - 1) = true := by rw [beq_iff_eq]; omega
                    have hyy : (y == 0) = true := by rw [beq_iff_eq]; exact hy0
                    have HG9 := hid_of' (HF9.out.1 true)
                    go_wp2_with (go_at_call 36; refine HG9.out.mono ?_; rintro e w10 ⟨rfl, hp10, hk10⟩)
                    have HB10 := hid_of' (HF9.out.2.call hp10 (hk10.mono (by simp)))
                    clear hp10 hk10 HG9
                    go_roundw
                    case rel =>
                      have hent : PS.entry bs 2 (decide (jj + 1 = K)) S7 = (y, S8.form S7.pl true) := by
                        unfold PS.entry
                        rw [show PS.number bs S7 2 = (y, S8) from E9.out]
                        simp [hlast9, hy0]
                      have e := HVS.out.1
                      rw [hent, HVS.out.2.1] at e
                      refine ⟨S7.pl, jj + 1, vp ++ [y], S8.form S7.pl true, by go_num, by go_num, by omega, by rw [List.length_append, HVS.out.2.2.1]; rfl, ?_, e⟩
                      rw [← HVS.out.2.1]
                      exact HB10.out
                    case measure => simp [intOf]; omega
                  · have hq9 : ((jj : Int) == (K : Int) - 1) = true := by rw [beq_iff_eq]; omega
                    have hyy : (y == 0) = false := by rw [beq_eq_false_iff_ne]; exact hy0
                    have HG9 := hid_of' (HF9.out.1 false)
                    go_wp2_with (go_at_call 36; refine HG9.out.mono ?_; rintro e w10 ⟨rfl, hp10, hk10⟩)
                    have HB10 := hid_of' (HF9.out.2.call hp10 (hk10.mono (by simp)))
                    clear hp10 hk10 HG9
                    go_roundw
                    case rel =>
                      have hent : PS.entry bs 2 (decide (jj + 1 = K)) S7 = (y, S8.form S7.pl false) := by
                        unfold PS.entry
                        rw [show PS.number bs S7 2 = (y, S8) from E9.out]
                        simp [hlast9, hy0]
                      have e := HVS.out.1
                      rw [hent, HVS.out.2.1] at e
                      refine ⟨S7.pl, jj + 1, vp ++ [y], S8.form S7.pl false, by go_num, by go_num, by omega, by rw [List.length_append, HVS.out.2.2.1]; rfl, ?_, e⟩
                      rw [← HVS.out.2.1]
                      exact HB10.out
                    case measure => simp [intOf]; omega
                · have hK8 : K ≤ 8 := HK8.out
                  have hq9 : ((jj : Int) == (K : Int) - 1) = false := by rw [beq_eq_false_iff_ne]; omega
                  have HG9 := hid_of' (HF9.out.1 false)
                  go_wp2_with (go_at_call 36; refine HG9.out.mono ?_; rintro e w10 ⟨rfl, hp10, hk10⟩)
                  have HB10 := hid_of' (HF9.out.2.call hp10 (hk10.mono (by simp)))
                  clear hp10 hk10 HG9
                  go_roundw
                  case rel =>
                    have hent : PS.entry bs 2 (decide (jj + 1 = K)) S7 = (y, S8.form S7.pl false) := by
                      unfold PS.entry
                      rw [show PS.number bs S7 2 = (y, S8) from E9.out]
                      simp [hlast9]
                    have e := HVS.out.1
                    rw [hent, HVS.out.2.1] at e
                    refine ⟨S7.pl, jj + 1, vp ++ [y], S8.form S7.pl false, by go_num, by go_num, by omega, by rw [List.length_append, HVS.out.2.2.1]; rfl, ?_, e⟩
                    rw [← HVS.out.2.1]
                    exact HB10.out
                  case measure => simp [intOf]; omega
            · have hj1 : ¬ (jj : Int) < (K : Int) := by omega
              obtain rfl : jj = K := by omega
              have hvv : vp ++ List.replicate (8 - jj) 0 = VT ∧ S7 = VS := by
                have e := hv.out
                rw [Nat.sub_self] at e
                exact Prod.mk.inj e
              have hl8 : VT.length = 8 := by rw [← hvv.1, List.length_append, List.length_replicate, hvl]; have := HK8.out; omega
              rw [hvv.1, hvv.2] at B
              clear hvv hv
              have HL8 := hid_of' hl8
              clear hl8
              obtain ⟨dd, S11, e11⟩ : ∃ z s, VS.number bs 2 = (z, s) := ⟨_, _, rfl⟩
              have H11 := number_px B.px 2
              rw [e11] at H11
              dsimp only at H11
              have HC11 := hid_of' (And.intro H11 B)
              have E11 := hid_of' e11
              clear H11 B e11
              have hr17 : shR (z, ck, VT, 0) := ⟨HB.out.2.2, HL8.out⟩
              have hv17 : (rnv (z, ck, VT, 0))[17]? = some (.int .i64 0) := rnv_dec hr17
              have HV17 := hid_of' hv17
              clear hv17
              go_wp2_with (go_at_call 16; refine HC11.out.1.mono ?_; rintro e w12 ⟨rfl, hp12, hk12⟩; have B12 := HC11.out.2.call hp12 hk12; have d12 := (B12.at (HB.out.1 _) HV17.out).1; have f12 := (B12.at (HB.out.1 _) HV17.out).2)
              have B13 := B12.set1 (r' := (z, ck, VT, dd)) (HB.out.1 _) 17 (.int .i64 dd) (by decide) (rnl_dec hr17 dd) ⟨HB.out.2.2, HL8.out⟩
              rw [HB.out.2.1] at B13
              have HB13 := hid_of' B13
              clear B13 B12 d12 f12 hp12 hk12
              go_roundw
              case rel =>
                have hrnd : PS.rnd bs (decide (ii + 1 = N)) s' = ((z, ck, VT, dd), S11) := by
                  have e : PS.entry bs mx63 (decide (ii + 1 = N)) s' = (z, s1.form s'.pl false) := by
                    unfold PS.entry
                    rw [show PS.number bs s' mx63 = (z, s1) from E0.out]
                    simp [hz0]
                  have ev : PS.votes bs s5 = (VT, VS) := by
                    unfold PS.votes PS.rowG
                    rw [E6.out]
                    exact HV.out
                  unfold PS.rnd
                  rw [e]
                  simp only [if_neg hz0]
                  unfold PS.rest
                  rw [E5.out]
                  simp only [ev]
                  rw [E11.out]
                have e := HS.out.1
                rw [hrnd, HS.out.2.1] at e
                refine ⟨ii + 1, pre ++ [(z, ck, VT, dd)], S11, by go_num, by omega, by rw [List.length_append, HS.out.2.2]; rfl, ?_, e⟩
                rw [← HS.out.2.1]
                exact HB13.out
              case measure => simp [intOf]; omega
        · have hq : ((ii : Int) == (N : Int) - 1) = false := by rw [beq_eq_false_iff_ne]; omega
          have HG := hid_of' (HF.out.1 false)
          go_upto_region 9 with (go_at_call 36; refine HG.out.mono ?_; rintro e w4 ⟨rfl, hp4, hk4⟩)
          have B4 : RnB w pb xb xa ra rv bs (c.set ii (z, zero8, zero8, 0)) (s1.form s'.pl false) w4 := HF.out.2.call hp4 (hk4.mono (by simp))
          have d4 : w4.cell? ⟨xa, ii * 18, none⟩ = some (.int .i64 z) := (B4.at (HCC.out.1 _) (rnv_num (z, zero8, zero8, 0))).1
          clear HG hp4 hk4 d3
          go_upto_region 10 with fail
          clear d4
          obtain ⟨ck, s5, e5⟩ : ∃ z s, (s1.form s'.pl false).clock bs = (z, s) := ⟨_, _, rfl⟩
          have H5 := clock_px B4.px
          rw [e5] at H5
          dsimp only at H5
          have HC5 := hid_of' (And.intro H5 B4)
          have E5 := hid_of' e5
          clear H5 B4 e5
          go_upto_region 11 with (first
            | (go_at_call 19; refine HC5.out.1.mono ?_; rintro e w5 ⟨rfl, hp5, hk5, hl5⟩; have B5 := HC5.out.2.call hp5 hk5; have ht5 := act_there (o := ii * 18 + 1) (n := 8) B5.x (by rw [rsv_sz B5.sh]; omega))
            | (refine wpList_store_mid rfl 26 _ _ rfl xa (ii * 18 + 1) (cv ck) rfl rfl (by rw [cv_size, hl5]; exact ht5) (ck_size hl5) (cv_one _) ?_))
          have B6 : RnB w pb xb xa ra rv bs (c.set ii (z, ck, zero8, 0)) s5 (w5.setCells xa (ii * 18 + 1) (cv ck).toList) := by
            have q := B5.put (r' := (z, ck, zero8, 0)) (HCC.out.1 _) [.int .i64 z] (zero8.map (Value.int .i64)) (zero8.map (Value.int .i64) ++ [.int .i64 0]) (cv ck).toList (rnl_cut z zero8 zero8 0) (by rw [rnl_cut]; simp [cv]) (by simp [cv, hl5]; rfl) ⟨hl5, rfl⟩
            rw [HCC.out.2] at q
            exact q
          generalize w5.setCells xa (ii * 18 + 1) (cv ck).toList = w6 at B6 ⊢
          have HL := hid_of' hl5
          clear hl5 B5 hp5 hk5 ht5
          obtain ⟨kz, S6, e6⟩ : ∃ z s, s5.number bs 8 = (z, s) := ⟨_, _, rfl⟩
          have hf6 := number_fit bs s5 8 (by decide)
          have H6 := number_px B6.px 8
          rw [e6] at H6 hf6
          dsimp only at H6 hf6
          obtain ⟨K, rfl⟩ : ∃ K : Nat, kz = (K : Int) := ⟨kz.toNat, by omega⟩
          have HK8 : Hid (K ≤ 8) := hid_of' (by omega)
          have HC6 := hid_of' (And.intro H6 B6)
          have E6 := hid_of' e6
          clear H6 B6 e6 hf6
          go_upto_region 12 with (go_at_call 16; refine HC6.out.1.mono ?_; rintro e w7 ⟨rfl, hp7, hk7⟩)
          have HB7 := hid_of' (HC6.out.2.call hp7 hk7)
          clear hp7 hk7
          have hcb : (∀ r, (c.set ii r)[ii]? = some r) ∧ (∀ r r', (c.set ii r).set ii r' = c.set ii r') ∧ ck.length = 8 := ⟨HCC.out.1, HCC.out.2, HL.out⟩
          have HB := hid_of' hcb
          clear hcb
          go_upto_region 13 with fail
          have hvt : ∃ VT VS, PS.row (PS.entry bs 2) K K 0 zero8 S6 = (VT, VS) := ⟨_, _, rfl⟩
          obtain ⟨VT, VS, hVT⟩ := hvt
          have HV := hid_of' hVT
          clear hVT
          go_loopw [6, 8] (fun av jv wq => ∃ (pa jj : Nat) (vp : List Int) (S7 : PS), av = .int .i64 (pa : Int) ∧ jv = .int .i64 (jj : Int) ∧ jj ≤ K ∧ vp.length = jj ∧ RnB w pb xb xa ra rv bs (c.set ii (z, ck, vp ++ List.replicate (8 - jj) 0, 0)) S7 wq ∧ Hid (PS.row (PS.entry bs 2) K (K - jj) jj (vp ++ List.replicate (8 - jj) 0) S7 = (VT, VS))) (fun _ jv _ => K - (intOf jv).toNat)
          case atStart => exact ⟨s'.pl, 0, [], S6, rfl, rfl, Nat.zero_le _, rfl, HB7.out, HV⟩
          case round =>
            obtain ⟨pa, jj, vp, S7, rfl, rfl, hj, hvl, B, hv⟩ := hrel
            by_cases hlj : jj < K
            · have hj1 : (jj : Int) < (K : Int) := by omega
              have hj8 : (jj : Int) < 8 := by have := HK8.out; omega
              obtain ⟨vc, hvc⟩ : ∃ vc, vc = vp ++ List.replicate (8 - jj) 0 := ⟨_, rfl⟩
              have hvl8 : vc.length = 8 := by rw [hvc, List.length_append, List.length_replicate, hvl]; omega
              have hvs : ∀ a, vc.set jj a = (vp ++ [a]) ++ List.replicate (8 - (jj + 1)) 0 := fun a => by rw [hvc]; exact set_pre _ _ _ _ hvl (by omega)
              rw [← hvc] at B hv
              have hvst : PS.row (PS.entry bs 2) K (K - (jj + 1)) (jj + 1) (vc.set jj (PS.entry bs 2 (decide (jj + 1 = K)) S7).1) (PS.entry bs 2 (decide (jj + 1 = K)) S7).2 = (VT, VS) := by
                have e := hv.out
                rw [show K - jj = (K - (jj + 1)) + 1 by omega] at e
                exact e
              have HVS := hid_of' (And.intro hvst (And.intro hvs (And.intro hvl hvl8)))
              clear hv hvc hvst hvs hvl
              have p0 := B.pl.1
              have x1 := B.pl.2
              go_upto_region 16 with fail
              clear p0 x1
              obtain ⟨y, S8, e9⟩ : ∃ z s, S7.number bs 2 = (z, s) := ⟨_, _, rfl⟩
              have HN9 : Hid (∀ x, Below wr.heap.size wr x → Calls Tryz.prog 16 #[.pointer (some ⟨pb, 0, none⟩), .int .i64 2] x (fun e w' => e = .returned (.int .i64 y) ∧ PxAt pb xb rv bs S8 w' ∧ Kept [pb, xb] x w')) := fun x hb => by
                have := number_px (B.px.later hb) 2
                rw [e9] at this
                exact this
              have z8 : (0 : Int) ≤ 8 := by decide
              have E9 := hid_of' e9
              clear e9
              refine wp_region_once 7 (by kernel_rfl) (fun _ => none) (by kernel_rfl) (by kernel_rfl) (by decide) (fun i v x => match i with
                | 0 => v = .int .i64 (ii : Int)
                | 1 => v = .int .i64 (jj : Int)
                | 2 => v = .pointer (some ⟨pb, 0, none⟩)
                | 3 => v = .int .i64 y ∧ PxAt pb xb rv bs S8 x
                | 4 => v = .pointer (some ⟨xa, ii * 18, none⟩)
                | 5 => v = .pointer (some ⟨xa, ii * 18 + 9, none⟩)
                | 6 => v = .pointer (some ⟨xa, ii * 18 + 9 + jj, none⟩)
                | _ => True) (fun _ => false) (fun _ _ _ _ h => by cases h) 3 (by decide) (fun a b => Kept [pb, xb] a b) (fun a b => Kept [pb, xb] a b) (fun _ _ g h => g.trans (.of h)) (fun _ h => .of h) (fun _ _ h g => (Kept.of h).trans g) (fun _ _ g => g.size) ?_ ?_ ?_ ?_
              · intro i v x x' hR hb
                match i, hR with
                | 0, h => exact h
                | 1, h => exact h
                | 2, h => exact h
                | 3, h => exact ⟨h.1, h.2.later hb⟩
                | 4, h => exact h
                | 5, h => exact h
                | 6, h => exact h
                | m + 7, h => exact h
              · intro i v x x' hne hR hb
                match i, hne, hR with
                | 0, hne, h => exact h
                | 1, hne, h => exact h
                | 2, hne, h => exact h
                | 3, hne, h => exact absurd rfl hne
                | 4, hne, h => exact h
                | 5, hne, h => exact h
                | 6, hne, h => exact h
                | m + 7, _, h => exact h
              · intro i o hi ho q x vals hX hC hdep hoth
                have t5 : q.tmps[5]? = some (.int .i64 (ii : Int)) := by rw [hoth 5 (by kernel_rfl)]; rfl
                have t8 : q.tmps[8]? = some (.int .i64 (jj : Int)) := by rw [hoth 8 (by kernel_rfl)]; rfl
                have t0 : q.tmps[0]? = some (.pointer (some ⟨pb, 0, none⟩)) := by rw [hoth 0 (by kernel_rfl)]; rfl
                have t3 : q.tmps[3]? = some (.pointer (some ⟨xa, 0, none⟩)) := by rw [hoth 3 (by kernel_rfl)]; rfl
                match i, hi, ho, hC with
                | 0, _, ho, hC =>
                  simp only [List.getElem?_cons_zero, Option.some.injEq] at ho
                  subst ho
                  unfold Oper.wp
                  simp [execOp, go_sem, t5]
                  exact cameB _ rfl (by decide) (Below.refl _ _) rfl (fun h => absurd h (by decide))
                | 1, _, ho, hC =>
                  simp only [List.getElem?_cons_succ, List.getElem?_cons_zero, Option.some.injEq] at ho
                  subst ho
                  unfold Oper.wp
                  simp [execOp, go_sem, t8]
                  exact cameB _ rfl (by decide) (Below.refl _ _) rfl (fun h => absurd h (by decide))
                | 2, _, ho, hC =>
                  simp only [List.getElem?_cons_succ, List.getElem?_cons_zero, Option.some.injEq] at ho
                  subst ho
                  unfold Oper.wp
                  simp [execOp, go_sem, t0]
                  exact cameB _ rfl (by decide) (Below.refl _ _) rfl (fun h => absurd h (by decide))
                | 3, _, ho, hC =>
                  simp only [List.getElem?_cons_succ, List.getElem?_cons_zero, Option.some.injEq] at ho
                  subst ho
                  obtain ⟨u2, e2⟩ := hdep ⟨2, .data⟩ (by simp) rfl _ 68 rfl rfl
                  rw [show vals 2 = .pointer (some ⟨pb, 0, none⟩) from e2] at u2
                  unfold Oper.wp
                  simp [go_sem, u2]
                  refine (HN9.out _ (hC (.inl rfl))).mono ?_
                  rintro r x1 ⟨rfl, hp1, hb1⟩
                  exact cameX _ rfl hb1 ⟨rfl, hp1⟩ rfl
                | 4, _, ho, hC =>
                  simp only [List.getElem?_cons_succ, List.getElem?_cons_zero, Option.some.injEq] at ho
                  subst ho
                  obtain ⟨u0, e0⟩ := hdep ⟨0, .data⟩ (by simp) rfl _ 66 rfl rfl
                  rw [show vals 0 = .int .i64 (ii : Int) from e0] at u0
                  unfold Oper.wp
                  simp [execOp, go_sem, u0, t3, hi8]
                  exact cameB _ rfl (by decide) (Below.refl _ _) rfl (fun h => absurd h (by decide))
                | 5, _, ho, hC =>
                  simp only [List.getElem?_cons_succ, List.getElem?_cons_zero, Option.some.injEq] at ho
                  subst ho
                  obtain ⟨u4, e4⟩ := hdep ⟨4, .data⟩ (by simp) rfl _ 70 rfl rfl
                  rw [show vals 4 = .pointer (some ⟨xa, ii * 18, none⟩) from e4] at u4
                  unfold Oper.wp
                  simp [execOp, go_sem, u4]
                  exact cameB _ rfl (by decide) (Below.refl _ _) rfl (fun h => absurd h (by decide))
                | 6, _, ho, hC =>
                  simp only [List.getElem?_cons_succ, List.getElem?_cons_zero, Option.some.injEq] at ho
                  subst ho
                  obtain ⟨u5, e5⟩ := hdep ⟨5, .data⟩ (by simp) rfl _ 71 rfl rfl
                  rw [show vals 5 = .pointer (some ⟨xa, ii * 18 + 9, none⟩) from e5] at u5
                  obtain ⟨u1, e1⟩ := hdep ⟨1, .data⟩ (by simp) rfl _ 67 rfl rfl
                  rw [show vals 1 = .int .i64 (jj : Int) from e1] at u1
                  unfold Oper.wp
                  simp [execOp, go_sem, u5, u1, hj8]
                  exact cameB _ rfl (by decide) (Below.refl _ _) rfl (fun h => absurd h (by decide))
                | m + 7, hi, _, _ => exact absurd hi (by omega)
              · intro vals w8 hk8 hR _
                have h3 : vals 3 = .int .i64 y ∧ PxAt pb xb rv bs S8 w8 := hR 3 (by decide)
                have h6 : vals 6 = .pointer (some ⟨xa, ii * 18 + 9 + jj, none⟩) := hR 6 (by decide)
                have hr : shR (z, ck, vc, 0) := ⟨HB.out.2.2, hvl8⟩
                have B8 := B.call h3.2 hk8
                have q8 := B8.at (HB.out.1 _) (rnv_vote hr jj (by omega))
                have B9 := B8.set1 (r' := (z, ck, vc.set jj y, 0)) (HB.out.1 _) (9 + jj) (.int .i64 y) (by omega) (rnl_vote hr jj (by omega) y) ⟨HB.out.2.2, by simpa using hvl8⟩
                rw [HB.out.2.1, ← Nat.add_assoc] at B9
                rw [← Nat.add_assoc] at q8
                have d8 := q8.1
                have f8 := q8.2
                have h31 := h3.1
                simp only [List.take, List.drop, putAll, h31, h6]
                clear h3 h31 h6 hR B8 q8 B hk8 HN9
                simp only [List.setIfInBounds_toArray, List.set_cons_succ, List.set_cons_zero]
                go_upto_region 17 with fail
                have d9 := (B9.at (HB.out.1 _) (rnv_vote (r := (z, ck, vc.set jj y, 0)) ⟨HB.out.2.2, by simpa using hvl8⟩ jj (by omega))).1
                rw [← Nat.add_assoc] at d9
                have hen : en (vc.set jj y) jj = y := by simp only [en, List.getD_eq_getElem?_getD]; rw [List.getElem?_set_self (by omega)]; rfl
                rw [show en (z, ck, vc.set jj y, (0 : Int)).2.2.1 jj = y from hen] at d9
                generalize w8.setCell ⟨xa, ii * 18 + 9 + jj, none⟩ (.int .i64 y) = w9 at B9 d9 ⊢
                have HF9 := hid_of' (And.intro (fun no => form_px B9.px S7.pl no) B9)
                clear B9 d8 f8 hen
                by_cases hlast9 : jj + 1 = K
                · by_cases hy0 : y = 0
                  · have hq9 : ((jj : Int) == (K : Int) - 1) = true := by rw [beq_iff_eq]; omega
                    have hyy : (y == 0) = true := by rw [beq_iff_eq]; exact hy0
                    have HG9 := hid_of' (HF9.out.1 true)
                    go_wp2_with (go_at_call 36; refine HG9.out.mono ?_; rintro e w10 ⟨rfl, hp10, hk10⟩)
                    have HB10 := hid_of' (HF9.out.2.call hp10 (hk10.mono (by simp)))
                    clear hp10 hk10 HG9
                    go_roundw
                    case rel =>
                      have hent : PS.entry bs 2 (decide (jj + 1 = K)) S7 = (y, S8.form S7.pl true) := by
                        unfold PS.entry
                        rw [show PS.number bs S7 2 = (y, S8) from E9.out]
                        simp [hlast9, hy0]
                      have e := HVS.out.1
                      rw [hent, HVS.out.2.1] at e
                      refine ⟨S7.pl, jj + 1, vp ++ [y], S8.form S7.pl true, by go_num, by go_num, by omega, by rw [List.length_append, HVS.out.2.2.1]; rfl, ?_, e⟩
                      rw [← HVS.out.2.1]
                      exact HB10.out
                    case measure => simp [intOf]; omega
                  · have hq9 : ((jj : Int) == (K : Int) - 1) = true := by rw [beq_iff_eq]; omega
                    have hyy : (y == 0) = false := by rw [beq_eq_false_iff_ne]; exact hy0
                    have HG9 := hid_of' (HF9.out.1 false)
                    go_wp2_with (go_at_call 36; refine HG9.out.mono ?_; rintro e w10 ⟨rfl, hp10, hk10⟩)
                    have HB10 := hid_of' (HF9.out.2.call hp10 (hk10.mono (by simp)))
                    clear hp10 hk10 HG9
                    go_roundw
                    case rel =>
                      have hent : PS.entry bs 2 (decide (jj + 1 = K)) S7 = (y, S8.form S7.pl false) := by
                        unfold PS.entry
                        rw [show PS.number bs S7 2 = (y, S8) from E9.out]
                        simp [hlast9, hy0]
                      have e := HVS.out.1
                      rw [hent, HVS.out.2.1] at e
                      refine ⟨S7.pl, jj + 1, vp ++ [y], S8.form S7.pl false, by go_num, by go_num, by omega, by rw [List.length_append, HVS.out.2.2.1]; rfl, ?_, e⟩
                      rw [← HVS.out.2.1]
                      exact HB10.out
                    case measure => simp [intOf]; omega
                · have hK8 : K ≤ 8 := HK8.out
                  have hq9 : ((jj : Int) == (K : Int) - 1) = false := by rw [beq_eq_false_iff_ne]; omega
                  have HG9 := hid_of' (HF9.out.1 false)
                  go_wp2_with (go_at_call 36; refine HG9.out.mono ?_; rintro e w10 ⟨rfl, hp10, hk10⟩)
                  have HB10 := hid_of' (HF9.out.2.call hp10 (hk10.mono (by simp)))
                  clear hp10 hk10 HG9
                  go_roundw
                  case rel =>
                    have hent : PS.entry bs 2 (decide (jj + 1 = K)) S7 = (y, S8.form S7.pl false) := by
                      unfold PS.entry
                      rw [show PS.number bs S7 2 = (y, S8) from E9.out]
                      simp [hlast9]
                    have e := HVS.out.1
                    rw [hent, HVS.out.2.1] at e
                    refine ⟨S7.pl, jj + 1, vp ++ [y], S8.form S7.pl false, by go_num, by go_num, by omega, by rw [List.length_append, HVS.out.2.2.1]; rfl, ?_, e⟩
                    rw [← HVS.out.2.1]
                    exact HB10.out
                  case measure => simp [intOf]; omega
            · have hj1 : ¬ (jj : Int) < (K : Int) := by omega
              obtain rfl : jj = K := by omega
              have hvv : vp ++ List.replicate (8 - jj) 0 = VT ∧ S7 = VS := by
                have e := hv.out
                rw [Nat.sub_self] at e
                exact Prod.mk.inj e
              have hl8 : VT.length = 8 := by rw [← hvv.1, List.length_append, List.length_replicate, hvl]; have := HK8.out; omega
              rw [hvv.1, hvv.2] at B
              clear hvv hv
              have HL8 := hid_of' hl8
              clear hl8
              obtain ⟨dd, S11, e11⟩ : ∃ z s, VS.number bs 2 = (z, s) := ⟨_, _, rfl⟩
              have H11 := number_px B.px 2
              rw [e11] at H11
              dsimp only at H11
              have HC11 := hid_of' (And.intro H11 B)
              have E11 := hid_of' e11
              clear H11 B e11
              have hr17 : shR (z, ck, VT, 0) := ⟨HB.out.2.2, HL8.out⟩
              have hv17 : (rnv (z, ck, VT, 0))[17]? = some (.int .i64 0) := rnv_dec hr17
              have HV17 := hid_of' hv17
              clear hv17
              go_wp2_with (go_at_call 16; refine HC11.out.1.mono ?_; rintro e w12 ⟨rfl, hp12, hk12⟩; have B12 := HC11.out.2.call hp12 hk12; have d12 := (B12.at (HB.out.1 _) HV17.out).1; have f12 := (B12.at (HB.out.1 _) HV17.out).2)
              have B13 := B12.set1 (r' := (z, ck, VT, dd)) (HB.out.1 _) 17 (.int .i64 dd) (by decide) (rnl_dec hr17 dd) ⟨HB.out.2.2, HL8.out⟩
              rw [HB.out.2.1] at B13
              have HB13 := hid_of' B13
              clear B13 B12 d12 f12 hp12 hk12
              go_roundw
              case rel =>
                have hrnd : PS.rnd bs (decide (ii + 1 = N)) s' = ((z, ck, VT, dd), S11) := by
                  have e : PS.entry bs mx63 (decide (ii + 1 = N)) s' = (z, s1.form s'.pl false) := by
                    unfold PS.entry
                    rw [show PS.number bs s' mx63 = (z, s1) from E0.out]
                    simp [hz0]
                  have ev : PS.votes bs s5 = (VT, VS) := by
                    unfold PS.votes PS.rowG
                    rw [E6.out]
                    exact HV.out
                  unfold PS.rnd
                  rw [e]
                  simp only [if_neg hz0]
                  unfold PS.rest
                  rw [E5.out]
                  simp only [ev]
                  rw [E11.out]
                have e := HS.out.1
                rw [hrnd, HS.out.2.1] at e
                refine ⟨ii + 1, pre ++ [(z, ck, VT, dd)], S11, by go_num, by omega, by rw [List.length_append, HS.out.2.2]; rfl, ?_, e⟩
                rw [← HS.out.2.1]
                exact HB13.out
              case measure => simp [intOf]; omega
    · have hi1 : ¬ (ii : Int) < (N : Int) := by omega
      obtain rfl : ii = N := by omega
      have hvv : pre ++ List.replicate (8 - ii) zeroR = T ∧ s' = ST := by
        have e := he.out
        rw [Nat.sub_self] at e
        exact Prod.mk.inj e
      rw [hvv.1, hvv.2] at B
      clear hvv he
      have hrow : RowAt ra (rsv T) 31 (wr.setRow ra (rsv T)) := setRow_heap wr _ _ _ _ _ B.r
      have kR : Kept [ra] wr (wr.setRow ra (rsv T)) := ⟨rfl, rfl, rfl, by simp, fun k _ hn => setRow_other wr _ k _ (by simpa using hn)⟩
      have hpR := B.px.keptR B.r (fun g o n c e h0 => by have := B.hv g o n c e h0; have := B.ow; omega) kR
      have hkR : Kept [pb, xb] w (wr.setRow ra (rsv T)) := B.k.go kR (fun s hs => .inr (by have := B.ow; simp at hs; omega))
      have HE := hid_of' (And.intro hpR (And.intro hkR B.sh))
      have h144 := rsv_sz B.sh
      clear hpR hkR kR
      go_wp2_with (first | (refine wpL_ld rfl 31 _ rfl rfl B.x.in Tryz.underlying31 rfl (rsv_size HE.out.2.2) ?_) | (refine wpList_store_row rfl 31 _ _ rfl ra (rsv T) rfl rfl _ _ B.r (rsv_size HE.out.2.2) (by rw [h144, rsv_sz shRs_zero]) (rsv_one T) ?_))
      refine bodyPost_ret (v := .agg (rsv T)) (results_cell_row rfl _ _ ra _ _ _ _ rfl hrow Tryz.underlying31 rfl (rsv_size HE.out.2.2)) rfl ?_
      exact ⟨rfl, HE.out.1, HE.out.2.1, HE.out.2.2⟩
end Go.Proofs.YtpkblfhkblllhaaGreatDoor
