
/-
  The document's bytes of rounds.
-/
import Derived.Test.YteffpnjgchihpaaGreatDoorPB21
namespace Go.Proofs.YteffpnjgchihpaaGreatDoor
open Go.RowKit
set_option maxRecDepth 100000

theorem okRnd_shF {r : Prn} (h : okRnd r) : shR r := by
  have h2 := h.2
  by_cases h0 : r.1 = 0
  · rw [if_pos h0] at h2
    unfold shR
    rw [h2]
    exact ⟨rfl, rfl⟩
  · rw [if_neg h0] at h2
    exact ⟨h2.1.1, h2.2.1.1⟩
theorem fRnd_le {r : Prn} (h : okRnd r) : (fRnd r).length ≤ 180 := by
  have e1 := fN_le h.1.2
  unfold fRnd
  by_cases h0 : r.1 = 0
  · rw [if_pos h0]
    simp only [List.length_append, List.length_nil]
    omega
  · have h2 := h.2
    rw [if_neg h0] at h2
    have e2 := fRow_le h2.1
    have e3 := fRow_le (okRow_up (by unfold mx63; omega) h2.2.1)
    have e4 := fN_le (show r.2.2.2 ≤ mx63 by have := h2.2.2.2; unfold mx63; omega)
    rw [if_neg h0]
    simp only [List.length_append]
    omega
theorem fRnds_le {l : List Prn} (h : ∀ a ∈ l, okRnd a) : ((l.map fRnd).flatten).length ≤ 180 * l.length := by
  induction l with
  | nil => simp
  | cons a l ih =>
    have h1 := fRnd_le (h a (by simp))
    have h2 := ih (fun x hx => h x (by simp [hx]))
    simp only [List.map_cons, List.flatten_cons, List.length_append, List.length_cons]
    omega
theorem fRnds_step {l : List Prn} {k : Nat} {a : Prn} (h : l[k]? = some a) : ((l.take (k + 1)).map fRnd).flatten = ((l.take k).map fRnd).flatten ++ fRnd a := by
  rw [take_succ_of h]; simp
theorem fN_small {z : Int} (h0 : 0 ≤ z) (h1 : z ≤ 127) : fN z = [UInt8.ofNat z.toNat] := by
  unfold fN
  rw [form_small (by omega)]
theorem flat_stepI {l : List Int} {k : Nat} {x : Int} (h : l[k]? = some x) : ((l.take (k + 1)).map fN).flatten = ((l.take k).map fN).flatten ++ fN x := flat_stepF h
set_option maxHeartbeats 16000000 in
theorem refRounds_bytes (l : List Prn) (w : World) (hok : okRnds l) :
    Calls Tryz.prog 20 #[.agg (rsv l)] w fun e w' => ∃ v, e = .returned v ∧ OwnB w.heap.size v (fRnds l) w' ∧ Below w.heap.size w w' := by
  have hs : shRs l := ⟨hok.1, fun r hr => okRnd_shF (hok.2 r hr)⟩
  have hl := hok.1
  have HC := hid_of' hok
  have h0 := RowAt.new w (rsv l) 29
  have hB0 := below_one w (.cells (rsv l) 29)
  obtain ⟨bR, hbR⟩ : ∃ bR, bR = w.heap.size := ⟨_, rfl⟩
  rw [← hbR] at h0
  have HbR := hid_of' hbR
  clear hok
  go_enter Tryz.func20, Tryz.ntmps20
  go_wp2
  rw [← hbR]
  clear hbR
  go_loopw [3, 4] (fun nv iv wr => ∃ k N : Nat, iv = .int .i64 (k : Int) ∧ nv = .int .i64 (N : Int) ∧ Hid (lenG nzR (l.take k) = N) ∧ k ≤ 8 ∧ N ≤ 8 ∧ RowAt bR (rsv l) 29 wr ∧ Below w.heap.size w wr) (fun _ iv _ => 8 - (intOf iv).toNat)
  case atStart => exact ⟨0, 0, rfl, rfl, rfl, by decide, by decide, h0, hB0⟩
  case round =>
    clear h0 hB0
    obtain ⟨k, N, rfl, rfl, hN, hk, hN8, h1, hB⟩ := hrel
    by_cases hk8 : k < 8
    · have hki : (k : Int) < 8 := by omega
      obtain ⟨r, hr⟩ : ∃ r, l[k]? = some r := ⟨_, List.getElem?_eq_getElem (by rw [hl]; exact hk8)⟩
      have c1 : wr.cell? ⟨bR, k * 18, none⟩ = some (.int .i64 r.1) := (h1.cell (k * 18)).trans (rsv_at hs hr 0 _ (rnv_n r))
      have HZ := hid_of' hr
      obtain ⟨z, hz⟩ : ∃ z, r.1 = z := ⟨_, rfl⟩
      rw [hz] at c1
      have HZ2 := hid_of' hz
      clear hr hz
      cases hzz : (z != 0)
      · go_wp2
        go_roundw
        case rel => exact ⟨k + 1, N, by go_num, rfl, by rw [Hid, take_succ_of HZ.out, lenG_snocF, if_neg (by simpa [nzR, HZ2.out] using hzz)]; exact hN.out, by omega, hN8, h1, hB⟩
        case measure => simp [intOf]; omega
      · go_wp2
        go_roundw
        case rel => exact ⟨k + 1, k + 1, by go_num, by go_num, by rw [Hid, take_succ_of HZ.out, lenG_snocF, if_pos (by simpa [nzR, HZ2.out] using hzz)]; simp; omega, by omega, by omega, h1, hB⟩
        case measure => simp [intOf]; omega
    · have hki : ¬ (k : Int) < 8 := by omega
      have hNN : lenG nzR l = N := by have := hN.out; rwa [List.take_of_length_le (by rw [hl]; omega)] at this
      have HN := hid_of' hNN
      clear hNN hN
      go_upto_region 8 with (go_at_call 15; have hh := fun w => refForm_any N (by omega) w; (with_reducible refine (hh _).mono ?_); clear hh; rintro e w2 ⟨v2, rfl, o2, hb2⟩; obtain ⟨xa, xn, xc, rfl⟩ := ownB_form o2)
      have A0 : WrQ w (formN N) (.slice xa xn xc) w2 := ⟨ownB_mono o2 hB.size, hB.trans (hb2.mono hB.size)⟩
      have R0 := h1.later hb2
      clear o2 hb2 h1 hB
      go_upto_region 9 with fail
      go_loopw [5, 6] (fun ov jv wr => ∃ (k : Nat) (va0 : Option Addr) (vn0 vc0 : Nat), jv = .int .i64 (k : Int) ∧ ov = .slice va0 vn0 vc0 ∧ k ≤ N ∧ WrQ w (formN N ++ ((l.take k).map fRnd).flatten) (.slice va0 vn0 vc0) wr ∧ RowAt bR (rsv l) 29 wr) (fun _ jv _ => N - (intOf jv).toNat)
      case atStart => exact ⟨0, _, _, _, rfl, rfl, by omega, by simpa using A0, R0⟩
      case round =>
        clear A0 R0
        obtain ⟨k, va0, vn0, vc0, rfl, rfl, hk, A, R⟩ := hrel
        by_cases hkn : k < N
        · have hki : (k : Int) < (N : Int) := by omega
          have hk8 : (k : Int) < 8 := by omega
          obtain ⟨r, hx⟩ : ∃ r, l[k]? = some r := ⟨_, List.getElem?_eq_getElem (by rw [hl]; omega)⟩
          have hor := HC.out.2 r (List.mem_of_getElem? hx)
          have hsr := okRnd_shF hor
          obtain ⟨nm, ct, vt, dc⟩ := r
          obtain ⟨hnm, hrest⟩ := hor
          dsimp only at hnm hrest
          obtain ⟨pre, hpre⟩ : ∃ pre, pre = formN N ++ ((l.take k).map fRnd).flatten := ⟨_, rfl⟩
          have hplen : pre.length ≤ 9 + 180 * 8 := by
            have e1 := form_len9 N (by omega)
            have e2 := fRnds_le (l := l.take k) (fun a ha => HC.out.2 a (List.mem_of_mem_take ha))
            have e3 : (l.take k).length ≤ k := by rw [List.length_take]; omega
            rw [hpre, List.length_append]
            omega
          rw [← hpre] at A
          have hc0 := R.in.sub (ds := rnv (nm, ct, vt, dc)) (k * 18) (rsv_at hs hx)
          rw [Nat.zero_add] at hc0
          have HX := hid_of' (And.intro hx hpre)
          have HA0 := hid_of' (And.intro A R)
          clear hx hpre A R
          go_upto_region 12 with (first | (refine wpL_ld rfl 27 _ rfl rfl hc0 Tryz.underlying27 rfl (rnv_size hsr) ?_) | (refine wpL_stNew rfl 27 _ _ rfl rfl rfl (cs := rnv (nm, ct, vt, dc)) rfl (rnv_size hsr) (by rw [show (rnv (nm, ct, vt, dc)).size = 18 by simp [rnv, rnl_len hsr]]; rfl) (rnv_one _ ) ?_; go_simp))
          have hln : pre.length ≤ 9 + 180 * 8 ∧ (fN nm).length ≤ 9 := ⟨hplen, fN_le hnm.2⟩
          have HLN := hid_of' hln
          have hb := below_one wr (.cells (rnv (nm, ct, vt, dc)) 27)
          have R1 := And.intro (RowAt.new wr (rnv (nm, ct, vt, dc)) 27) (HA0.out.2.later hb)
          have A1 := HA0.out.1.later hb
          clear hln hb hc0 HA0 hplen
          generalize wr.alloc (.cells (rnv (nm, ct, vt, dc)) 27) = w1 at R1 A1 ⊢
          generalize wr.heap.size = b at R1 ⊢
          have cn1 : w1.cell? ⟨b, 0, none⟩ = some (.int .i64 nm) := R1.1.cell 0
          have HF1 := hid_of' (And.intro (fun w => refFormI nm hnm.1 hnm.2 w) (And.intro A1 R1))
          have hp1 : 0 < (fN nm).length := List.length_pos_iff.2 (form_ne _)
          have hl1 : ((pre) ++ fN nm).length ≤ 1000000 := by simp only [List.length_append]; have := HLN.out; omega
          have HL1 := hid_of' (And.intro hp1 hl1)
          have hs1 := A1.k.size
          clear A1 R1 hp1 hl1
          go_upto_region 13 with (first
            | (go_at_call 15; refine (HF1.out.1 _).mono ?_; rintro e u1 ⟨fv, rfl, of1, hb1⟩; obtain ⟨fa, fn, fc, rfl⟩ := ownB_form of1; have O1 := ownB_later HF1.out.2.1.own hb1; have hz1 := hb1.size)
            | (at_builtin; refine wpL_appO rfl _ _ rfl rfl rfl O1 of1 HL1.out.1 HL1.out.2 (by omega) ?_; intro v2 w2 q1 q2; obtain ⟨va2, vn2, vc2, rfl⟩ := ownB_form q1))
          have A2 := HF1.out.2.1.next hb1 q1 q2
          have R2 := And.intro (HF1.out.2.1.row hb1 q2 HF1.out.2.2.1 (by decide)) (HF1.out.2.1.row hb1 q2 HF1.out.2.2.2 (by decide))
          have cn2 : w2.cell? ⟨b, 0, none⟩ = some (.int .i64 nm) := R2.1.cell 0
          clear O1 of1 hb1 q1 q2 hz1 hs1
          by_cases hz0 : nm = 0
          · have hzz : (nm == 0) = true := by rw [beq_iff_eq]; exact hz0
            have HB := hid_of' (And.intro A2 R2.2)
            clear A2 R2
            go_wp2
            go_roundw
            case rel =>
              refine ⟨k + 1, _, _, _, by go_num, rfl, by omega, ?_, HB.out.2⟩
              rw [fRnds_step HX.out.1, ← List.append_assoc, ← HX.out.2]
              have e : fRnd (nm, ct, vt, dc) = fN nm := by
                unfold fRnd
                rw [if_pos hz0, List.append_nil]
              rw [e]
              exact HB.out.1
            case measure => simp [intOf]; omega
          · have hzz : (nm == 0) = false := by rw [beq_eq_false_iff_ne]; exact hz0
            rw [if_neg hz0] at hrest
            obtain ⟨hct, hvt, hdc⟩ := hrest
            have hc8 := hct.1
            have hv8 := hvt.1
            go_upto_region 14 with fail
            clear cn2
            have hln : pre.length ≤ 9 + 180 * 8 ∧ (fN nm).length ≤ 9 ∧ (fRow ct).length ≤ 81 := ⟨HLN.out.1, HLN.out.2, fRow_le hct⟩
            clear HLN
            have HLN := hid_of' hln
            clear hln
            have cl2 := R2.1.in.sub (ds := cv ct) 1 (rnv_cut (nm, ct, vt, dc))
            rw [Nat.zero_add] at cl2
            have HF2 := hid_of' (And.intro (fun w => refClock_any ct hct w) (And.intro A2 R2))
            have hp2 : 0 < (fRow ct).length := (by unfold fRow fRowG; rw [List.length_append]; have := List.length_pos_iff.2 (form_ne (lenG nzI ct)); omega)
            have hl2 : ((pre ++ fN nm) ++ fRow ct).length ≤ 1000000 := by simp only [List.length_append]; have := HLN.out; omega
            have HL2 := hid_of' (And.intro hp2 hl2)
            have hs2 := A2.k.size
            clear A2 R2 hp2 hl2
            go_upto_region 15 with (first
              | (go_at_call 18; refine (HF2.out.1 _).mono ?_; rintro e u2 ⟨fv, rfl, of2, hb2⟩; obtain ⟨fa, fn, fc, rfl⟩ := ownB_form of2; have O2 := ownB_later HF2.out.2.1.own hb2; have hz2 := hb2.size)
              | (refine ld_ck hc8 rfl _ rfl rfl cl2 ?_)
              | (at_builtin; refine wpL_appO rfl _ _ rfl rfl rfl O2 of2 HL2.out.1 HL2.out.2 (by omega) ?_; intro v3 w3 q1 q2; obtain ⟨va3, vn3, vc3, rfl⟩ := ownB_form q1))
            have A3 := HF2.out.2.1.next hb2 q1 q2
            have R3 := And.intro (HF2.out.2.1.row hb2 q2 HF2.out.2.2.1 (by decide)) (HF2.out.2.1.row hb2 q2 HF2.out.2.2.2 (by decide))
            clear O2 of2 hb2 q1 q2 hz2 hs2
            clear cl2
            go_upto_region 17 with fail
            go_loopw [8, 9] (fun kv jv wq => ∃ j K : Nat, jv = .int .i64 (j : Int) ∧ kv = .int .i64 (K : Int) ∧ Hid (lenG nzI (vt.take j) = K) ∧ j ≤ 8 ∧ K ≤ 8 ∧ WrQ w (pre ++ fN nm ++ fRow ct) (.slice va3 vn3 vc3) wq ∧ (RowAt b (rnv (nm, ct, vt, dc)) 27 wq ∧ RowAt bR (rsv l) 29 wq)) (fun _ jv _ => 8 - (intOf jv).toNat)
            case atStart => exact ⟨0, 0, rfl, rfl, rfl, by decide, by decide, A3, R3⟩
            case round =>
              clear A3 R3
              obtain ⟨j, K, rfl, rfl, hK, hj, hK8, A3, R3⟩ := hrel
              by_cases hj8 : j < 8
              · have hji : (j : Int) < 8 := by omega
                obtain ⟨z, hz⟩ : ∃ z, vt[j]? = some z := ⟨_, List.getElem?_eq_getElem (by rw [hv8]; exact hj8)⟩
                have c1 : wr.cell? ⟨b, 9 + j, none⟩ = some (.int .i64 z) := (R3.1.cell (9 + j)).trans (rnv_votes hsr j _ (by rw [cv_get (by show j < vt.length; omega)]; unfold en; rw [List.getD_eq_getElem?_getD, hz]; rfl))
                have HZ := hid_of' hz
                have HAR := hid_of' (And.intro A3 R3)
                clear hz A3 R3
                cases hzz : (z != 0)
                · go_wp2
                  go_roundw
                  case rel => exact ⟨j + 1, K, by go_num, rfl, by rw [Hid, take_succ_of HZ.out, lenG_snocF, if_neg (by simpa [nzI] using hzz)]; exact hK.out, by omega, hK8, HAR.out.1, HAR.out.2⟩
                  case measure => simp [intOf]; omega
                · go_wp2
                  go_roundw
                  case rel => exact ⟨j + 1, j + 1, by go_num, by go_num, by rw [Hid, take_succ_of HZ.out, lenG_snocF, if_pos (by simpa [nzI] using hzz)]; simp; omega, by omega, by omega, HAR.out.1, HAR.out.2⟩
                  case measure => simp [intOf]; omega
              · have hji : ¬ (j : Int) < 8 := by omega
                have hKK : lenG nzI vt = K := by have := hK.out; rwa [List.take_of_length_le (by rw [hv8]; omega)] at this
                have HK := hid_of' hKK
                clear hKK hK
                have hln : pre.length ≤ 9 + 180 * 8 ∧ (fN nm).length ≤ 9 ∧ (fRow ct).length ≤ 81 ∧ (fN (K : Int)).length ≤ 9 := ⟨HLN.out.1, HLN.out.2.1, HLN.out.2.2, fN_le (show (K : Int) ≤ mx63 by unfold mx63; omega)⟩
                clear HLN
                have HLN := hid_of' hln
                clear hln
                have HF3 := hid_of' (And.intro (fun w => refFormI (K : Int) (by omega) (by unfold mx63; omega) w) (And.intro A3 R3))
                have hp3 : 0 < (fN (K : Int)).length := List.length_pos_iff.2 (form_ne _)
                have hl3 : ((pre ++ fN nm ++ fRow ct) ++ fN (K : Int)).length ≤ 1000000 := by simp only [List.length_append]; have := HLN.out; omega
                have HL3 := hid_of' (And.intro hp3 hl3)
                have hs3 := A3.k.size
                clear A3 R3 hp3 hl3
                go_upto_region 22 with (first
                  | (go_at_call 15; refine (HF3.out.1 _).mono ?_; rintro e u3 ⟨fv, rfl, of3, hb3⟩; obtain ⟨fa, fn, fc, rfl⟩ := ownB_form of3; have O3 := ownB_later HF3.out.2.1.own hb3; have hz3 := hb3.size)
                  | (at_builtin; refine wpL_appO rfl _ _ rfl rfl rfl O3 of3 HL3.out.1 HL3.out.2 (by omega) ?_; intro v4 w4 q1 q2; obtain ⟨va4, vn4, vc4, rfl⟩ := ownB_form q1))
                have A4 := HF3.out.2.1.next hb3 q1 q2
                have R4 := And.intro (HF3.out.2.1.row hb3 q2 HF3.out.2.2.1 (by decide)) (HF3.out.2.1.row hb3 q2 HF3.out.2.2.2 (by decide))
                clear O3 of3 hb3 q1 q2 hz3 hs3
                go_upto_region 23 with fail
                go_loopw [5, 10] (fun ov jv wq => ∃ (j : Nat) (va : Option Addr) (vn vc : Nat), jv = .int .i64 (j : Int) ∧ ov = .slice va vn vc ∧ j ≤ K ∧ WrQ w (pre ++ fN nm ++ fRow ct ++ fN (K : Int) ++ ((vt.take j).map fN).flatten) (.slice va vn vc) wq ∧ (RowAt b (rnv (nm, ct, vt, dc)) 27 wq ∧ RowAt bR (rsv l) 29 wq)) (fun _ jv _ => K - (intOf jv).toNat)
                case atStart => exact ⟨0, _, _, _, rfl, rfl, by omega, by simpa using A4, R4⟩
                case round =>
                  clear A4 R4
                  obtain ⟨j, va4, vn4, vc4, rfl, rfl, hj, A4, R4⟩ := hrel
                  have hvl : ((vt.take j).map fN).flatten.length ≤ 72 := by
                    have e1 := flat9 (vt.take j) (fun x hx => by have := (hvt.2 x (List.mem_of_mem_take hx)).2; omega)
                    have e2 : (vt.take j).length ≤ 8 := by rw [List.length_take]; omega
                    omega
                  obtain ⟨vb, hvb⟩ : ∃ vb, vb = ((vt.take j).map fN).flatten := ⟨_, rfl⟩
                  rw [← hvb] at hvl A4
                  have hln : pre.length ≤ 9 + 180 * 8 ∧ (fN nm).length ≤ 9 ∧ (fRow ct).length ≤ 81 ∧ (fN (K : Int)).length ≤ 9 ∧ vb.length ≤ 72 := ⟨HLN.out.1, HLN.out.2.1, HLN.out.2.2.1, HLN.out.2.2.2, hvl⟩
                  clear HLN
                  have HLN := hid_of' hln
                  have HVB := hid_of' hvb
                  clear hln hvl hvb
                  by_cases hjK : j < K
                  · have hji : (j : Int) < (K : Int) := by omega
                    have hj8 : (j : Int) < 8 := by omega
                    obtain ⟨z, hz⟩ : ∃ z, vt[j]? = some z := ⟨_, List.getElem?_eq_getElem (by rw [hv8]; omega)⟩
                    have hz2 := hvt.2 z (List.mem_of_getElem? hz)
                    have c1 : wr.cell? ⟨b, 9 + j, none⟩ = some (.int .i64 z) := (R4.1.cell (9 + j)).trans (rnv_votes hsr j _ (by rw [cv_get (by show j < vt.length; omega)]; unfold en; rw [List.getD_eq_getElem?_getD, hz]; rfl))
                    have hw8 : IntKind.u8.wrap z = z := u8_kind (by omega) (by omega)
                    have HZ := hid_of' hz
                    clear hz
                    have N4 := one_newI wr (UInt8.ofNat z.toNat) z (u8_of (by omega) (by omega))
                    have O4 := A4.own.alloc (.cells #[.int .u8 z] 5)
                    have HO4 := hid_of' (And.intro A4 R4)
                    have hs4 := A4.k.size
                    clear A4 R4
                    go_wp2_with (at_builtin; refine wpL_appB (xs := (pre ++ fN nm ++ fRow ct ++ fN (K : Int) ++ vb)) (l := [UInt8.ofNat z.toNat]) (zs := (pre ++ fN nm ++ fRow ct ++ fN (K : Int) ++ vb) ++ [UInt8.ofNat z.toNat]) (m := 1) (c := 1) rfl _ _ rfl rfl rfl rfl rfl O4 N4 (by simp only [List.length_append, List.length_cons, List.length_nil]; have := HLN.out; omega) (by simp; omega) ?_; intro v5 w5 q1 q2; obtain ⟨va5, vn5, vc5, rfl⟩ := ownB_form q1)
                    have b4 := below_one wr (.cells #[.int .u8 z] 5)
                    have A5 := HO4.out.1.next b4 q1 q2
                    have R5 := And.intro (HO4.out.1.row b4 q2 HO4.out.2.1 (by decide)) (HO4.out.1.row b4 q2 HO4.out.2.2 (by decide))
                    clear N4 O4 q1 q2 b4 hs4
                    have HAR := hid_of' (And.intro A5 R5)
                    clear A5 R5
                    go_roundw
                    case rel =>
                      refine ⟨j + 1, _, _, _, by go_num, rfl, by omega, ?_, HAR.out.2⟩
                      rw [flat_stepI HZ.out, fN_small hz2.1 (by omega), ← HVB.out, ← List.append_assoc]
                      exact HAR.out.1
                    case measure => simp [intOf]; omega
                  · have hji : ¬ (j : Int) < (K : Int) := by omega
                    have hjj : j = K := by omega
                    have HJ := hid_of' hjj
                    clear hjj
                    have cd4 : wr.cell? ⟨b, 17, none⟩ = some (.int .i64 dc) := (R4.1.cell 17).trans (rnv_dec hsr)
                    have hw8 : IntKind.u8.wrap dc = dc := u8_kind hdc.1 (by omega)
                    have N4 := one_newI wr (UInt8.ofNat dc.toNat) dc (u8_of (by omega) (by omega))
                    have O4 := A4.own.alloc (.cells #[.int .u8 dc] 5)
                    have HO4 := hid_of' (And.intro A4 R4)
                    have hs4 := A4.k.size
                    clear A4 R4
                    go_wp2_with (at_builtin; refine wpL_appB (xs := (pre ++ fN nm ++ fRow ct ++ fN (K : Int) ++ vb)) (l := [UInt8.ofNat dc.toNat]) (zs := (pre ++ fN nm ++ fRow ct ++ fN (K : Int) ++ vb) ++ [UInt8.ofNat dc.toNat]) (m := 1) (c := 1) rfl _ _ rfl rfl rfl rfl rfl O4 N4 (by simp only [List.length_append, List.length_cons, List.length_nil]; have := HLN.out; omega) (by simp; omega) ?_; intro v5 w5 q1 q2; obtain ⟨va5, vn5, vc5, rfl⟩ := ownB_form q1)
                    have b4 := below_one wr (.cells #[.int .u8 dc] 5)
                    have A5 := HO4.out.1.next b4 q1 q2
                    have R5 := And.intro (HO4.out.1.row b4 q2 HO4.out.2.1 (by decide)) (HO4.out.1.row b4 q2 HO4.out.2.2 (by decide))
                    clear N4 O4 q1 q2 b4 hs4
                    have HAR := hid_of' (And.intro A5 R5.2)
                    clear A5 R5
                    go_roundw
                    case rel =>
                      refine ⟨k + 1, _, _, _, by go_num, rfl, by omega, ?_, HAR.out.2⟩
                      rw [fRnds_step HX.out.1, ← List.append_assoc, ← HX.out.2]
                      have e : pre ++ fRnd (nm, ct, vt, dc) = pre ++ fN nm ++ fRow ct ++ fN (K : Int) ++ vb ++ [UInt8.ofNat dc.toNat] := by
                        unfold fRnd
                        rw [if_neg hz0, HVB.out, HJ.out, ← HK.out, ← fN_small hdc.1 (by omega)]
                        show _ = pre ++ fN nm ++ fRow ct ++ formN (lenG nzI vt) ++ _ ++ _
                        rw [show fRow vt = formN (lenG nzI vt) ++ ((vt.take (lenG nzI vt)).map fN).flatten from rfl]
                        simp only [List.append_assoc]
                      rw [e]
                      exact HAR.out.1
                    case measure => simp [intOf]; omega
        · have hki : ¬ (k : Int) < (N : Int) := by omega
          have hkk : k = N := by omega
          have HB := hid_of' (And.intro A hkk)
          clear A R hkk
          go_wp2
          go_ret
          refine ⟨_, rfl, ?_, HB.out.1.k⟩
          have e : fRnds l = formN N ++ ((l.take k).map fRnd).flatten := by
            rw [HB.out.2, ← HN.out]
            rfl
          rw [e]
          exact HB.out.1.own
end Go.Proofs.YteffpnjgchihpaaGreatDoor
