
/-
  barrowref15.walk: its edits and its common characters are those of the places that are kept.
-/
import Derived.Test.YtckbihcijpploaaDoorDr4a
import Derived.Deep.LoopGhost
namespace Go.Proofs.YtckbihcijpploaaDoor
open Go.RowKit Go.Extern.Stop Go.Stop Go.Extern
set_option maxRecDepth 100000

set_option maxHeartbeats 16000000 in
theorem walk_ok {w : World} {va vb : Value} {xs ys : List Int} (hx : RwR va xs w) (hy : RwR vb ys w) (hr : ∀ r ∈ ys, Ru r) (hl : xs.length + ys.length ≤ 1000000) :
    Calls Tryd.prog 37 #[va, vb] w fun r w' => ∃ v1 v2, r = .returned (.tuple #[v1, v2]) ∧ RwE v1 (eds xs ys) w' ∧ (∀ k, v1.ownBlock = some k → w.heap.size ≤ k) ∧ RwR v2 (cm xs ys) w' ∧ Below w.heap.size w w' := by
  have HD := hid_of' (table_ok hx hy (by omega))
  obtain ⟨oa, ca0, hva, _, _⟩ := hx.form
  obtain ⟨ob, cb0, hvb, _, _⟩ := hy.form
  have HA := hid_of' (And.intro hx (And.intro hy hr))
  obtain ⟨n, hn⟩ : ∃ n, n = xs.length := ⟨_, rfl⟩
  obtain ⟨m, hm⟩ : ∃ m, m = ys.length := ⟨_, rfl⟩
  rw [← hn] at hl hva HD
  rw [← hm] at hl hvb
  subst hva hvb
  obtain ⟨N, hN⟩ : ∃ N : Nat, N = n + 1 := ⟨_, rfl⟩
  obtain ⟨M, hM⟩ : ∃ M : Nat, M = m + 1 := ⟨_, rfl⟩
  rw [← hN] at HD
  have HN := hid_of' (And.intro hn (And.intro hm (And.intro hN hM)))
  have HLn := hid_of' hl
  clear hx hy hr hn hm hN hM
  go_enter Tryd.func37, Tryd.ntmps37
  go_upto_region 2 with (go_at_call 30; (with_reducible refine HD.out.mono ?_); rintro e W1 ⟨T, rfl, hTb, hb1⟩)
  have HT := hid_of' (And.intro hTb hb1)
  clear hTb hb1 HD
  go_wp2
  go_loopg [7, 8, 9, 10, 11, 12, 13] (2 * (n + m) + 1) (fun gk v7 v8 v9 erv atv iv jv wr => ∃ (i j i0 j0 pd : Nat) (es : List Edt) (cs : List Int), gk = 2 * ((n - i) + (m - j)) + pd + 1 ∧ ((i = i0 ∧ j = j0 ∧ pd = 0) ∨ (¬ (i = i0 ∧ j = j0) ∧ pd = 1)) ∧ erv = .int .i64 ((i : Int) - (i0 : Int)) ∧ atv = .int .i64 (j0 : Int) ∧ iv = .int .i64 (i : Int) ∧ jv = .int .i64 (j : Int) ∧ WkP xs ys n m i j i0 j0 es cs ∧ Tri W1.heap.size v7 v8 v9 es cs ((ys.take j).drop j0) wr ∧ Ch (fun _ => False) W1 wr)
  case atStart =>
    refine ⟨0, 0, 0, 0, 0, [], [], by omega, .inl ⟨rfl, rfl, rfl⟩, rfl, rfl, rfl, rfl, WkP.start HN.out.1 HN.out.2.1, ⟨RwE.nil _, RwR.nil _, RwR.nil _, (fun k hk => by cases hk), (fun k hk => by cases hk), (fun k hk => by cases hk), (fun k hk => by cases hk), (fun k hk => by cases hk), (fun k hk => by cases hk), Nat.le_refl _⟩, Ch.refl _ _⟩
  case round =>
    obtain ⟨ix, jx, i0, j0, pd, es, cs, hgk, hpd, rfl, rfl, rfl, rfl, hK, hTR, hC⟩ := hrel
    have HK := hid_of' hK
    have HTR := hid_of' (And.intro hTR hC)
    have HG := hid_of' (And.intro hgk hpd)
    obtain ⟨z7, c7, e7, _⟩ := Rw.form hTR.ra
    obtain ⟨z8, c8, e8, _⟩ := hTR.rb.form
    obtain ⟨z9, c9, e9, _⟩ := hTR.rc.form
    rw [mid_len (by rw [← HN.out.2.1]; exact hK.hj)] at e9
    obtain ⟨n7, hn7⟩ : ∃ k, k = es.length := ⟨_, rfl⟩
    obtain ⟨n8, hn8⟩ : ∃ k, k = cs.length := ⟨_, rfl⟩
    obtain ⟨n9, hn9⟩ : ∃ k, k = jx - j0 := ⟨_, rfl⟩
    rw [← hn7] at e7
    rw [← hn8] at e8
    rw [← hn9] at e9
    subst e7 e8 e9
    have hixn := hK.hi
    have hjxm := hK.hj
    have hi0x := hK.hi0
    have hj0x := hK.hj0
    have HN9 := hid_of' hn9
    clear hK hTR hC hgk hpd hn7 hn8 hn9
    have HQ9 : Hid ((ix = i0 ∧ jx = j0 ∧ pd = 0) ∨ (¬ (ix = i0 ∧ jx = j0) ∧ pd = 1)) := HG.out.2
    by_cases hE : ix = n ∧ jx = m
    · have HE9 := hid_of' hE
      have g1 : ¬ (ix : Int) < (n : Int) := by omega
      have g2 : ¬ (jx : Int) < (m : Int) := by omega
      have g3 : ((ix : Int) == (n : Int)) = true := by simp [hE.1]
      have g4 : ((jx : Int) == (m : Int)) = true := by simp [hE.2]
      clear hE
      by_cases hp : ix = i0 ∧ jx = j0
      · have HQ := hid_of' hp
        clear hp
        have h10 : ¬ (0 : Int) < (ix : Int) - (i0 : Int) := by have := HQ.out; omega
        have h09 : ¬ (0 : Int) < (n9 : Int) := by have := HQ.out; have := HN9.out; omega
        go_wp2
        go_ret2
        obtain ⟨rfl, rfl⟩ := HE9.out
        have h1 := HK.out.he
        have h2 := HK.out.hc
        rw [kp_end (.inl HN.out.1)] at h1 h2
        rw [← HQ.out.1, ← HQ.out.2, List.nil_append, bt, bt, if_pos ⟨rfl, rfl⟩, List.nil_append, List.append_nil] at h1
        rw [List.map_nil, List.append_nil] at h2
        exact ⟨_, _, rfl, by rw [← h1]; exact HTR.out.1.ra, (fun k hk => by have h5 := HTR.out.1.oa k hk; have h6 := HT.out.2.size; omega), by rw [← h2]; exact HTR.out.1.rb, bgo HT.out.2 (HTR.out.2.none (fun _ _ q => q))⟩
      by_cases hp1 : i0 < ix
      · have HQ := hid_of' hp1
        clear hp hp1
        have h10 : (0 : Int) < (ix : Int) - (i0 : Int) := by have := HQ.out; omega
        go_upto_region 8 with fail
        go_region
        have hd : Below wr.heap.size wr wr.drew := below_drewN (Below.refl _ _) 1
        replace HTR := hid_of' (And.intro (HTR.out.1.later hd) (HTR.out.2.later hd))
        clear hd
        generalize wr.drew = W3 at HTR ⊢
        have hru9 : ∀ r ∈ (ys.take jx).drop j0, Ru r := fun r hr' => HA.out.2.2 r (List.mem_of_mem_take (List.mem_of_mem_drop hr'))
        have HU := hid_of' (utf8_is HTR.out.1.rc hru9 (by rw [mid_len (by rw [← HN.out.2.1]; exact hjxm)]; have := HLn.out; omega))
        obtain ⟨tt, htt⟩ : ∃ tt, tt = tx ((ys.take jx).drop j0) := ⟨_, rfl⟩
        rw [← htt] at HU
        have HTT := hid_of' htt
        clear htt hru9
        go_upto_region 12 with (first
          | (go_at_call 38; (with_reducible refine HU.out.mono ?_); rintro e x1 ⟨rfl, p1⟩; have HT1 := hid_of' (And.intro ((HTR.out.1.later p1).later (below_one x1 (.cells #[.int .i64 (j0 : Int), .int .i64 ((ix : Int) - (i0 : Int)), .string tt] 56))) (And.intro ((HTR.out.2.later p1).later (below_one x1 (.cells #[.int .i64 (j0 : Int), .int .i64 ((ix : Int) - (i0 : Int)), .string tt] 56))) (so_new x1 56 3 #[.int .i64 (j0 : Int), .int .i64 ((ix : Int) - (i0 : Int)), .string tt] rfl (fc edc [⟨(j0 : Int), (ix : Int) - (i0 : Int), tt⟩]) rfl))); clear p1)
          | (at_builtin; refine wpL_appE (m := [⟨(j0 : Int), (ix : Int) - (i0 : Int), tt⟩]) rfl _ _ rfl rfl rfl HT1.out.1.ra HT1.out.2.2 (by have := HK.out.le; have := HLn.out; show _ + 1 ≤ _; omega) ?_; intro u7 w7 q1 q2 q3))
        have HT2 := hid_of' (And.intro (show Tri W1.heap.size u7 _ _ (es ++ pnd ys ix jx i0 j0) cs ((ys.take jx).drop j0) w7 by rw [pnd, if_neg (by have := HQ.out; omega), ← HTT.out]; exact HT1.out.1.appA q1 q2 q3) (HT1.out.2.1.own q2 HT1.out.1.oa))
        clear q1 q2 q3 HT1 HU
        go_upto_region 18 with fail
        have HT3 := hid_of' (And.intro HT2.out.1.noC HT2.out.2)
        go_wp2
        go_roundg 1
        case rel =>
          have hpn := HQ.out
          have hin9 := HE9.out
          obtain ⟨rfl, rfl⟩ := hin9
          refine ⟨ix, jx, ix, jx, 0, es ++ pnd ys ix jx i0 j0, cs, by omega, .inl ⟨rfl, rfl, rfl⟩, ?_, by go_num, by go_num, by go_num, HK.out.fin HN.out.1 HN.out.2.1, ?_, HT3.out.2⟩
          · rw [Int.sub_self]
          · rw [show (ys.take jx).drop jx = [] by rw [List.drop_eq_nil_iff, List.length_take]; omega]
            exact HT3.out.1
        case measure => have := HG.out; have := HQ.out; omega
      · have HQ := hid_of' (show ix = i0 ∧ j0 < jx by omega)
        clear hp hp1
        have h10 : ¬ (0 : Int) < (ix : Int) - (i0 : Int) := by have := HQ.out; omega
        have h09 : (0 : Int) < (n9 : Int) := by have := HQ.out; have := HN9.out; omega
        go_upto_region 8 with fail
        go_region
        have hd : Below wr.heap.size wr wr.drew := below_drewN (Below.refl _ _) 1
        replace HTR := hid_of' (And.intro (HTR.out.1.later hd) (HTR.out.2.later hd))
        clear hd
        generalize wr.drew = W3 at HTR ⊢
        have hru9 : ∀ r ∈ (ys.take jx).drop j0, Ru r := fun r hr' => HA.out.2.2 r (List.mem_of_mem_take (List.mem_of_mem_drop hr'))
        have HU := hid_of' (utf8_is HTR.out.1.rc hru9 (by rw [mid_len (by rw [← HN.out.2.1]; exact hjxm)]; have := HLn.out; omega))
        obtain ⟨tt, htt⟩ : ∃ tt, tt = tx ((ys.take jx).drop j0) := ⟨_, rfl⟩
        rw [← htt] at HU
        have HTT := hid_of' htt
        clear htt hru9
        go_upto_region 12 with (first
          | (go_at_call 38; (with_reducible refine HU.out.mono ?_); rintro e x1 ⟨rfl, p1⟩; have HT1 := hid_of' (And.intro ((HTR.out.1.later p1).later (below_one x1 (.cells #[.int .i64 (j0 : Int), .int .i64 ((ix : Int) - (i0 : Int)), .string tt] 56))) (And.intro ((HTR.out.2.later p1).later (below_one x1 (.cells #[.int .i64 (j0 : Int), .int .i64 ((ix : Int) - (i0 : Int)), .string tt] 56))) (so_new x1 56 3 #[.int .i64 (j0 : Int), .int .i64 ((ix : Int) - (i0 : Int)), .string tt] rfl (fc edc [⟨(j0 : Int), (ix : Int) - (i0 : Int), tt⟩]) rfl))); clear p1)
          | (at_builtin; refine wpL_appE (m := [⟨(j0 : Int), (ix : Int) - (i0 : Int), tt⟩]) rfl _ _ rfl rfl rfl HT1.out.1.ra HT1.out.2.2 (by have := HK.out.le; have := HLn.out; show _ + 1 ≤ _; omega) ?_; intro u7 w7 q1 q2 q3))
        have HT2 := hid_of' (And.intro (show Tri W1.heap.size u7 _ _ (es ++ pnd ys ix jx i0 j0) cs ((ys.take jx).drop j0) w7 by rw [pnd, if_neg (by have := HQ.out; omega), ← HTT.out]; exact HT1.out.1.appA q1 q2 q3) (HT1.out.2.1.own q2 HT1.out.1.oa))
        clear q1 q2 q3 HT1 HU
        go_upto_region 18 with fail
        have HT3 := hid_of' (And.intro HT2.out.1.noC HT2.out.2)
        go_wp2
        go_roundg 1
        case rel =>
          have hpn := HQ.out
          have hin9 := HE9.out
          obtain ⟨rfl, rfl⟩ := hin9
          refine ⟨ix, jx, ix, jx, 0, es ++ pnd ys ix jx i0 j0, cs, by omega, .inl ⟨rfl, rfl, rfl⟩, ?_, by go_num, by go_num, by go_num, HK.out.fin HN.out.1 HN.out.2.1, ?_, HT3.out.2⟩
          · rw [Int.sub_self]
          · rw [show (ys.take jx).drop jx = [] by rw [List.drop_eq_nil_iff, List.length_take]; omega]
            exact HT3.out.1
        case measure => have := HG.out; have := HQ.out; omega
    by_cases hI : ix = n
    · have hjm : jx < m := by omega
      have g1 : ¬ (ix : Int) < (n : Int) := by omega
      have hjm2 : (jx : Int) < (m : Int) := by omega
      have g3 : ((ix : Int) == (n : Int)) = true := by simp [hI]
      have g4 : ((jx : Int) == (m : Int)) = false := by simp; omega
      obtain ⟨bb, hbb⟩ : ∃ bb, ys[jx]? = some bb := ⟨_, List.getElem?_eq_getElem (by have := HN.out.2.1; omega)⟩
      obtain ⟨gb, cb9, hvb, _, hhl, hcx⟩ := HA.out.2.1.at (by rintro rfl; simp at hbb)
      rw [← HN.out.2.1] at hvb
      cases hvb
      have HCB := hid_of' (hcx jx bb hbb)
      have HBB := hid_of' hbb
      have HKP := hid_of' (show kp ix jx (xs.drop ix) (ys.drop jx) = kp ix (jx + 1) (xs.drop ix) (ys.drop (jx + 1)) by rw [kp_end (.inl (hI.trans HN.out.1)), kp_end (.inl (hI.trans HN.out.1))])
      clear hI hE hcx hbb
      go_upto_region 8 with fail
      go_region
      have hd : Below wr.heap.size wr wr.drew := below_drewN (Below.refl _ _) 1
      replace HTR := hid_of' (And.intro (HTR.out.1.later hd) (HTR.out.2.later hd))
      clear hd
      generalize wr.drew = W3 at HTR ⊢
      go_upto_region 19 with fail
      go_region
      have hd : Below W3.heap.size W3 W3.drew := below_drewN (Below.refl _ _) 1
      replace HTR := hid_of' (And.intro (HTR.out.1.later hd) (HTR.out.2.later hd))
      clear hd
      generalize W3.drew = W4 at HTR ⊢
      go_upto_region 22 with fail
      have cb2 : W4.cell? ⟨gb, jx, none⟩ = some (.int .i32 bb) := by rw [(bgo HT.out.2 (HTR.out.2.none (fun _ _ q => q))).cell hhl]; exact HCB.out
      have HS := hid_of' (And.intro (HTR.out.1.later (below_one W4 (.cells #[.int .i32 bb] 21))) (And.intro (HTR.out.2.later (below_one W4 (.cells #[.int .i32 bb] 21))) (so_new W4 21 1 #[.int .i32 bb] rfl ([bb].map (Value.int .i32)) rfl)))
      go_upto_region 23 with (at_builtin; refine wpL_appR (m := [bb]) rfl _ _ rfl rfl rfl HS.out.1.rc HS.out.2.2 (by rw [mid_len (by rw [← HN.out.2.1]; exact hjxm)]; have := HLn.out; show _ + 1 ≤ _; omega) ?_; intro u9 w9 q1 q2 q3)
      rw [← take_more HBB.out hj0x] at q1
      have HT3 := hid_of' (And.intro (HS.out.1.appC q1 q2 q3) (HS.out.2.1.own q2 HS.out.1.oc))
      clear q1 q2 q3 HS cb2
      go_wp2
      go_roundg (2 * ((n - ix) + (m - (jx + 1))) + 1 + 1)
      case rel => exact ⟨ix, jx + 1, i0, j0, 1, es, cs, rfl, .inr ⟨by omega, rfl⟩, rfl, rfl, rfl, by go_num, HK.out.ins (by omega) HKP.out, HT3.out.1, HT3.out.2⟩
      case measure => have := HG.out; omega
    by_cases hJ : jx = m
    · have hin : ix < n := by omega
      have hin2 : (ix : Int) < (n : Int) := by omega
      have g2 : ¬ (jx : Int) < (m : Int) := by omega
      have g3 : ((ix : Int) == (n : Int)) = false := by simp; omega
      have g4 : ((jx : Int) == (m : Int)) = true := by simp [hJ]
      have HKP := hid_of' (show kp ix jx (xs.drop ix) (ys.drop jx) = kp (ix + 1) jx (xs.drop (ix + 1)) (ys.drop jx) by rw [kp_end (.inr (hJ.trans HN.out.2.1)), kp_end (.inr (hJ.trans HN.out.2.1))])
      clear hJ hE hI
      go_upto_region 8 with fail
      go_region
      have hd : Below wr.heap.size wr wr.drew := below_drewN (Below.refl _ _) 1
      replace HTR := hid_of' (And.intro (HTR.out.1.later hd) (HTR.out.2.later hd))
      clear hd
      generalize wr.drew = W3 at HTR ⊢
      go_upto_region 19 with fail
      go_region
      have hd : Below W3.heap.size W3 W3.drew := below_drewN (Below.refl _ _) 1
      replace HTR := hid_of' (And.intro (HTR.out.1.later hd) (HTR.out.2.later hd))
      clear hd
      generalize W3.drew = W4 at HTR ⊢
      go_wp2
      go_roundg (2 * ((n - (ix + 1)) + (m - jx)) + 1 + 1)
      case rel => exact ⟨ix + 1, jx, i0, j0, 1, es, cs, rfl, .inr ⟨by omega, rfl⟩, by first | go_num | (congr 1; omega), rfl, by go_num, rfl, HK.out.del (by omega) HKP.out, HTR.out.1, HTR.out.2⟩
      case measure => have := HG.out; omega
    · have hin : ix < n := by omega
      have hjm : jx < m := by omega
      have hin2 : (ix : Int) < (n : Int) := by omega
      have hjm2 : (jx : Int) < (m : Int) := by omega
      have g3 : ((ix : Int) == (n : Int)) = false := by simp; omega
      have hjne : ((jx : Int) == (m : Int)) = false := by simp; omega
      obtain ⟨a, ha⟩ : ∃ a, xs[ix]? = some a := ⟨_, List.getElem?_eq_getElem (by have := HN.out.1; omega)⟩
      obtain ⟨ga, ca9, hva, _, hgl, hcz⟩ := HA.out.1.at (by rintro rfl; simp at ha)
      rw [← HN.out.1] at hva
      cases hva
      have HCA := hid_of' (hcz ix a ha)
      obtain ⟨bb, hbb⟩ : ∃ bb, ys[jx]? = some bb := ⟨_, List.getElem?_eq_getElem (by have := HN.out.2.1; omega)⟩
      obtain ⟨gb, cb9, hvb, _, hhl, hcx⟩ := HA.out.2.1.at (by rintro rfl; simp at hbb)
      rw [← HN.out.2.1] at hvb
      cases hvb
      have HCB := hid_of' (hcx jx bb hbb)
      have HBB := hid_of' hbb
      have hbw : Below w.heap.size w wr := bgo HT.out.2 (HTR.out.2.none (fun _ _ q => q))
      have hgq : ga < wr.heap.size := Nat.lt_of_lt_of_le hgl hbw.size
      have hhq : gb < wr.heap.size := Nat.lt_of_lt_of_le hhl hbw.size
      have ca : wr.cell? ⟨ga, ix, none⟩ = some (.int .i32 a) := by rw [hbw.cell hgl]; exact HCA.out
      have cb : wr.cell? ⟨gb, jx, none⟩ = some (.int .i32 bb) := by rw [hbw.cell hhl]; exact HCB.out
      have HAA := hid_of' ha
      clear hI hJ hE hcx hcz hbb ha hbw
      go_upto_region 8 with fail
      refine wp_region_tail 21 (by kernel_rfl) (fun j => match j with | 4 => some true | 10 => some true | _ => none) (by kernel_rfl) (by kernel_rfl) (by decide) (fun i v x => match i with
        | 0 => v = .int .i64 (ix : Int)
        | 1 => v = .slice (some ⟨ga, 0, none⟩) n ca0
        | 2 => v = .int .i64 (n : Int)
        | 3 => v = .bool true
        | 4 => v = .bool true
        | 5 => v = .int .i64 (jx : Int)
        | 6 => v = .slice (some ⟨gb, 0, none⟩) m cb0
        | 7 => v = .int .i64 (m : Int)
        | 8 => v = .bool true
        | 9 => v = .bool true
        | 10 => v = .bool true
        | 11 => v = .slice (some ⟨ga, 0, none⟩) n ca0
        | 12 => v = .int .i64 (ix : Int)
        | 13 => v = .pointer (some ⟨ga, ix, none⟩)
        | 14 => v = .int .i32 a
        | 15 => v = .slice (some ⟨gb, 0, none⟩) m cb0
        | 16 => v = .int .i64 (jx : Int)
        | 17 => v = .pointer (some ⟨gb, jx, none⟩)
        | 18 => v = .int .i32 bb
        | 19 => v = .bool (a == bb)
        | 20 => v = .bool (a == bb)
        | _ => True) (fun _ => false) (fun j v x b h hR => by
          match j, h, hR with
          | 4, h, hR => cases h; exact hR
          | 10, h, hR => cases h; exact hR
          | 0, h, _ | 1, h, _ | 2, h, _ | 3, h, _ | 5, h, _ | 6, h, _ | 7, h, _ | 8, h, _ | 9, h, _ | 11, h, _ | 12, h, _ | 13, h, _ | 14, h, _ | 15, h, _ | 16, h, _ | 17, h, _ | 18, h, _ | 19, h, _ | 20, h, _ => cases h
          | m + 21, h, _ => cases h) ?_ ?_ ?_
      · intro i v x x' hR hb
        match i, hR with
        | 0, h => exact h
        | 1, h => exact h
        | 2, h => exact h
        | 3, h => exact h
        | 4, h => exact h
        | 5, h => exact h
        | 6, h => exact h
        | 7, h => exact h
        | 8, h => exact h
        | 9, h => exact h
        | 10, h => exact h
        | 11, h => exact h
        | 12, h => exact h
        | 13, h => exact h
        | 14, h => exact h
        | 15, h => exact h
        | 16, h => exact h
        | 17, h => exact h
        | 18, h => exact h
        | 19, h => exact h
        | 20, h => exact h
        | m + 21, h => exact h
      · intro i o hi ho q x vals hX hdep hoth
        have t12 : q.tmps[12]? = some (.int .i64 (ix : Int)) := by rw [hoth 12 (by kernel_rfl)]; rfl
        have t0 : q.tmps[0]? = some (.slice (some ⟨ga, 0, none⟩) n ca0) := by rw [hoth 0 (by kernel_rfl)]; rfl
        have t13 : q.tmps[13]? = some (.int .i64 (jx : Int)) := by rw [hoth 13 (by kernel_rfl)]; rfl
        have t1 : q.tmps[1]? = some (.slice (some ⟨gb, 0, none⟩) m cb0) := by rw [hoth 1 (by kernel_rfl)]; rfl
        match i, hi, ho with
        | 0, _, ho =>
          simp only [List.getElem?_cons_zero, Option.some.injEq] at ho
          subst ho
          unfold Oper.wp
          simp [execOp, go_sem, t12]
          exact came _ rfl (Below.refl _ _) rfl (fun h => absurd h (by decide))
        | 1, _, ho =>
          simp only [List.getElem?_cons_succ, List.getElem?_cons_zero, Option.some.injEq] at ho
          subst ho
          unfold Oper.wp
          simp [execOp, go_sem, t0]
          exact came _ rfl (Below.refl _ _) rfl (fun h => absurd h (by decide))
        | 2, _, ho =>
          simp only [List.getElem?_cons_succ, List.getElem?_cons_zero, Option.some.injEq] at ho
          subst ho
          obtain ⟨u1, e1⟩ := hdep ⟨1, .data⟩ (by simp) rfl _ 38 rfl rfl
          rw [show vals 1 = .slice (some ⟨ga, 0, none⟩) n ca0 from e1] at u1
          unfold Oper.wp
          simp [go_sem, u1]
          exact came _ rfl (Below.refl _ _) rfl (fun h => absurd h (by decide))
        | 3, _, ho =>
          simp only [List.getElem?_cons_succ, List.getElem?_cons_zero, Option.some.injEq] at ho
          subst ho
          obtain ⟨u0, e0⟩ := hdep ⟨0, .data⟩ (by simp) rfl _ 37 rfl rfl
          rw [show vals 0 = .int .i64 (ix : Int) from e0] at u0
          obtain ⟨u2, e2⟩ := hdep ⟨2, .data⟩ (by simp) rfl _ 39 rfl rfl
          rw [show vals 2 = .int .i64 (n : Int) from e2] at u2
          unfold Oper.wp
          simp [execOp, go_sem, u0, u2, hin]
          exact came _ rfl (Below.refl _ _) rfl (fun h => absurd h (by decide))
        | 4, _, ho =>
          simp only [List.getElem?_cons_succ, List.getElem?_cons_zero, Option.some.injEq] at ho
          subst ho
          obtain ⟨u3, e3⟩ := hdep ⟨3, .data⟩ (by simp) rfl _ 40 rfl rfl
          rw [show vals 3 = .bool true from e3] at u3
          unfold Oper.wp
          simp [execOp, go_sem, u3]
          exact came _ rfl (Below.refl _ _) rfl (fun h => absurd h (by decide))
        | 5, _, ho =>
          simp only [List.getElem?_cons_succ, List.getElem?_cons_zero, Option.some.injEq] at ho
          subst ho
          unfold Oper.wp
          simp [execOp, go_sem, t13]
          exact came _ rfl (Below.refl _ _) rfl (fun h => absurd h (by decide))
        | 6, _, ho =>
          simp only [List.getElem?_cons_succ, List.getElem?_cons_zero, Option.some.injEq] at ho
          subst ho
          unfold Oper.wp
          simp [execOp, go_sem, t1]
          exact came _ rfl (Below.refl _ _) rfl (fun h => absurd h (by decide))
        | 7, _, ho =>
          simp only [List.getElem?_cons_succ, List.getElem?_cons_zero, Option.some.injEq] at ho
          subst ho
          obtain ⟨u6, e6⟩ := hdep ⟨6, .data⟩ (by simp) rfl _ 43 rfl rfl
          rw [show vals 6 = .slice (some ⟨gb, 0, none⟩) m cb0 from e6] at u6
          unfold Oper.wp
          simp [go_sem, u6]
          exact came _ rfl (Below.refl _ _) rfl (fun h => absurd h (by decide))
        | 8, _, ho =>
          simp only [List.getElem?_cons_succ, List.getElem?_cons_zero, Option.some.injEq] at ho
          subst ho
          obtain ⟨u5, e5⟩ := hdep ⟨5, .data⟩ (by simp) rfl _ 42 rfl rfl
          rw [show vals 5 = .int .i64 (jx : Int) from e5] at u5
          obtain ⟨u7, e7⟩ := hdep ⟨7, .data⟩ (by simp) rfl _ 44 rfl rfl
          rw [show vals 7 = .int .i64 (m : Int) from e7] at u7
          unfold Oper.wp
          simp [execOp, go_sem, u5, u7, hjm]
          exact came _ rfl (Below.refl _ _) rfl (fun h => absurd h (by decide))
        | 9, _, ho =>
          simp only [List.getElem?_cons_succ, List.getElem?_cons_zero, Option.some.injEq] at ho
          subst ho
          obtain ⟨u4, e4⟩ := hdep ⟨4, .data⟩ (by simp) rfl _ 41 rfl rfl
          rw [show vals 4 = .bool true from e4] at u4
          obtain ⟨u8, e8⟩ := hdep ⟨8, .data⟩ (by simp) rfl _ 45 rfl rfl
          rw [show vals 8 = .bool true from e8] at u8
          unfold Oper.wp
          simp [execOp, go_sem, u4, u8]
          exact came _ rfl (Below.refl _ _) rfl (fun h => absurd h (by decide))
        | 10, _, ho =>
          simp only [List.getElem?_cons_succ, List.getElem?_cons_zero, Option.some.injEq] at ho
          subst ho
          obtain ⟨u9, e9⟩ := hdep ⟨9, .data⟩ (by simp) rfl _ 46 rfl rfl
          rw [show vals 9 = .bool true from e9] at u9
          unfold Oper.wp
          simp [execOp, go_sem, u9]
          exact came _ rfl (Below.refl _ _) rfl (fun h => absurd h (by decide))
        | 11, _, ho =>
          simp only [List.getElem?_cons_succ, List.getElem?_cons_zero, Option.some.injEq] at ho
          subst ho
          unfold Oper.wp
          simp [execOp, go_sem, t0]
          exact came _ rfl (Below.refl _ _) rfl (fun h => absurd h (by decide))
        | 12, _, ho =>
          simp only [List.getElem?_cons_succ, List.getElem?_cons_zero, Option.some.injEq] at ho
          subst ho
          unfold Oper.wp
          simp [execOp, go_sem, t12]
          exact came _ rfl (Below.refl _ _) rfl (fun h => absurd h (by decide))
        | 13, _, ho =>
          simp only [List.getElem?_cons_succ, List.getElem?_cons_zero, Option.some.injEq] at ho
          subst ho
          obtain ⟨u11, e11⟩ := hdep ⟨11, .data⟩ (by simp) rfl _ 48 rfl rfl
          rw [show vals 11 = .slice (some ⟨ga, 0, none⟩) n ca0 from e11] at u11
          obtain ⟨u12, e12⟩ := hdep ⟨12, .data⟩ (by simp) rfl _ 49 rfl rfl
          rw [show vals 12 = .int .i64 (ix : Int) from e12] at u12
          unfold Oper.wp
          simp [execOp, go_sem, u11, u12, hin2]
          exact came _ rfl (Below.refl _ _) rfl (fun h => absurd h (by decide))
        | 14, _, ho =>
          simp only [List.getElem?_cons_succ, List.getElem?_cons_zero, Option.some.injEq] at ho
          subst ho
          obtain ⟨u13, e13⟩ := hdep ⟨13, .data⟩ (by simp) rfl _ 50 rfl rfl
          rw [show vals 13 = .pointer (some ⟨ga, ix, none⟩) from e13] at u13
          have cc : x.cell? ⟨ga, ix, none⟩ = some (.int .i32 a) := by rw [hX.cell hgq]; exact ca
          unfold Oper.wp
          simp [execOp, go_sem, u13, cc]
          exact came _ rfl (Below.refl _ _) rfl (fun h => absurd h (by decide))
        | 15, _, ho =>
          simp only [List.getElem?_cons_succ, List.getElem?_cons_zero, Option.some.injEq] at ho
          subst ho
          unfold Oper.wp
          simp [execOp, go_sem, t1]
          exact came _ rfl (Below.refl _ _) rfl (fun h => absurd h (by decide))
        | 16, _, ho =>
          simp only [List.getElem?_cons_succ, List.getElem?_cons_zero, Option.some.injEq] at ho
          subst ho
          unfold Oper.wp
          simp [execOp, go_sem, t13]
          exact came _ rfl (Below.refl _ _) rfl (fun h => absurd h (by decide))
        | 17, _, ho =>
          simp only [List.getElem?_cons_succ, List.getElem?_cons_zero, Option.some.injEq] at ho
          subst ho
          obtain ⟨u15, e15⟩ := hdep ⟨15, .data⟩ (by simp) rfl _ 52 rfl rfl
          rw [show vals 15 = .slice (some ⟨gb, 0, none⟩) m cb0 from e15] at u15
          obtain ⟨u16, e16⟩ := hdep ⟨16, .data⟩ (by simp) rfl _ 53 rfl rfl
          rw [show vals 16 = .int .i64 (jx : Int) from e16] at u16
          unfold Oper.wp
          simp [execOp, go_sem, u15, u16, hjm2]
          exact came _ rfl (Below.refl _ _) rfl (fun h => absurd h (by decide))
        | 18, _, ho =>
          simp only [List.getElem?_cons_succ, List.getElem?_cons_zero, Option.some.injEq] at ho
          subst ho
          obtain ⟨u17, e17⟩ := hdep ⟨17, .data⟩ (by simp) rfl _ 54 rfl rfl
          rw [show vals 17 = .pointer (some ⟨gb, jx, none⟩) from e17] at u17
          have cc : x.cell? ⟨gb, jx, none⟩ = some (.int .i32 bb) := by rw [hX.cell hhq]; exact cb
          unfold Oper.wp
          simp [execOp, go_sem, u17, cc]
          exact came _ rfl (Below.refl _ _) rfl (fun h => absurd h (by decide))
        | 19, _, ho =>
          simp only [List.getElem?_cons_succ, List.getElem?_cons_zero, Option.some.injEq] at ho
          subst ho
          obtain ⟨u14, e14⟩ := hdep ⟨14, .data⟩ (by simp) rfl _ 51 rfl rfl
          rw [show vals 14 = .int .i32 a from e14] at u14
          obtain ⟨u18, e18⟩ := hdep ⟨18, .data⟩ (by simp) rfl _ 55 rfl rfl
          rw [show vals 18 = .int .i32 bb from e18] at u18
          unfold Oper.wp
          simp [execOp, go_sem, u14, u18]
          exact came _ rfl (Below.refl _ _) rfl (fun h => absurd h (by decide))
        | 20, _, ho =>
          simp only [List.getElem?_cons_succ, List.getElem?_cons_zero, Option.some.injEq] at ho
          subst ho
          obtain ⟨u10, e10⟩ := hdep ⟨10, .data⟩ (by simp) rfl _ 47 rfl rfl
          rw [show vals 10 = .bool true from e10] at u10
          obtain ⟨u19, e19⟩ := hdep ⟨19, .data⟩ (by simp) rfl _ 56 rfl rfl
          rw [show vals 19 = .bool (a == bb) from e19] at u19
          unfold Oper.wp
          simp [execOp, go_sem, u10, u19]
          exact came _ rfl (Below.refl _ _) rfl (fun h => absurd h (by decide))
        | m + 21, hi, _ => exact absurd hi (by omega)
      · intro vals W3 hX hR _
        have f0 : vals 0 = .int .i64 (ix : Int) := hR 0 (by decide)
        have f1 : vals 1 = .slice (some ⟨ga, 0, none⟩) n ca0 := hR 1 (by decide)
        have f2 : vals 2 = .int .i64 (n : Int) := hR 2 (by decide)
        have f3 : vals 3 = .bool true := hR 3 (by decide)
        have f4 : vals 4 = .bool true := hR 4 (by decide)
        have f5 : vals 5 = .int .i64 (jx : Int) := hR 5 (by decide)
        have f6 : vals 6 = .slice (some ⟨gb, 0, none⟩) m cb0 := hR 6 (by decide)
        have f7 : vals 7 = .int .i64 (m : Int) := hR 7 (by decide)
        have f8 : vals 8 = .bool true := hR 8 (by decide)
        have f9 : vals 9 = .bool true := hR 9 (by decide)
        have f10 : vals 10 = .bool true := hR 10 (by decide)
        have f11 : vals 11 = .slice (some ⟨ga, 0, none⟩) n ca0 := hR 11 (by decide)
        have f12 : vals 12 = .int .i64 (ix : Int) := hR 12 (by decide)
        have f13 : vals 13 = .pointer (some ⟨ga, ix, none⟩) := hR 13 (by decide)
        have f14 : vals 14 = .int .i32 a := hR 14 (by decide)
        have f15 : vals 15 = .slice (some ⟨gb, 0, none⟩) m cb0 := hR 15 (by decide)
        have f16 : vals 16 = .int .i64 (jx : Int) := hR 16 (by decide)
        have f17 : vals 17 = .pointer (some ⟨gb, jx, none⟩) := hR 17 (by decide)
        have f18 : vals 18 = .int .i32 bb := hR 18 (by decide)
        have f19 : vals 19 = .bool (a == bb) := hR 19 (by decide)
        have f20 : vals 20 = .bool (a == bb) := hR 20 (by decide)
        simp only [List.drop, List.take, putAll, List.setIfInBounds_toArray, List.set_cons_succ, List.set_cons_zero, f0, f1, f2, f3, f4, f5, f6, f7, f8, f9, f10, f11, f12, f13, f14, f15, f16, f17, f18, f19, f20]
        clear f0 f1 f2 f3 f4 f5 f6 f7 f8 f9 f10 f11 f12 f13 f14 f15 f16 f17 f18 f19 f20 hR
        replace HTR := hid_of' (And.intro (HTR.out.1.later hX) (HTR.out.2.later hX))
        clear hX ca cb hgq hhq
        by_cases hab : a = bb
        · have habb : (a == bb) = true := by simp [hab]
          have HAB := hid_of' (show xs[ix]? = some a ∧ ys[jx]? = some a from ⟨HAA.out, by rw [hab]; exact HBB.out⟩)
          rw [habb]
          clear hab habb hjne g3
          by_cases hp : ix = i0 ∧ jx = j0
          · have HQ := hid_of' hp
            clear hp
            have h10 : ¬ (0 : Int) < (ix : Int) - (i0 : Int) := by have := HQ.out; omega
            have h09 : ¬ (0 : Int) < (n9 : Int) := by have := HQ.out; have := HN9.out; omega
            have HT2 := hid_of' (And.intro (show Tri W1.heap.size _ _ _ (es ++ pnd ys ix jx i0 j0) cs ((ys.take jx).drop j0) W3 by rw [pnd, if_pos (by have := HQ.out; omega), List.append_nil]; exact HTR.out.1) HTR.out.2)
            go_upto_region 15 with fail
            have hgw : ga < W3.heap.size := Nat.lt_of_lt_of_le hgl (Nat.le_trans HT.out.2.size HT2.out.2.size)
            have ca2 : W3.cell? ⟨ga, ix, none⟩ = some (.int .i32 a) := by rw [(bgo HT.out.2 (HT2.out.2.none (fun _ _ q => q))).cell hgl]; exact HCA.out
            have HS := hid_of' (And.intro (HT2.out.1.noC.later (below_one W3 (.cells #[.int .i32 a] 21))) (And.intro (HT2.out.2.later (below_one W3 (.cells #[.int .i32 a] 21))) (so_new W3 21 1 #[.int .i32 a] rfl ([a].map (Value.int .i32)) rfl)))
            go_upto_region 16 with (at_builtin; refine wpL_appR (m := [a]) rfl _ _ rfl rfl rfl HS.out.1.rb HS.out.2.2 (by have := HK.out.lc; have := HLn.out; show _ + 1 ≤ _; omega) ?_; intro u8 w8 q1 q2 q3)
            have HT3 := hid_of' (And.intro (HS.out.1.appB q1 q2 q3) (HS.out.2.1.own q2 HS.out.1.ob))
            clear q1 q2 q3 HS ca2 hgw
            go_wp2
            go_roundg (2 * ((n - (ix + 1)) + (m - (jx + 1))) + 0 + 1)
            case rel =>
              refine ⟨ix + 1, jx + 1, ix + 1, jx + 1, 0, es ++ pnd ys ix jx i0 j0, cs ++ [a], rfl, .inl ⟨rfl, rfl, rfl⟩, ?_, by go_num, by go_num, by go_num, HK.out.both HN.out.1 HN.out.2.1 HAB.out.1 HAB.out.2, ?_, HT3.out.2⟩
              · rw [Int.sub_self]
              · rw [show (ys.take (jx + 1)).drop (jx + 1) = [] by rw [List.drop_eq_nil_iff, List.length_take]; omega]
                exact HT3.out.1
            case measure => have := HG.out; omega
          by_cases hp1 : i0 < ix
          · have HQ := hid_of' hp1
            clear hp hp1
            have h10 : (0 : Int) < (ix : Int) - (i0 : Int) := by have := HQ.out; omega
            have hru9 : ∀ r ∈ (ys.take jx).drop j0, Ru r := fun r hr' => HA.out.2.2 r (List.mem_of_mem_take (List.mem_of_mem_drop hr'))
            have HU := hid_of' (utf8_is HTR.out.1.rc hru9 (by rw [mid_len (by rw [← HN.out.2.1]; exact hjxm)]; have := HLn.out; omega))
            obtain ⟨tt, htt⟩ : ∃ tt, tt = tx ((ys.take jx).drop j0) := ⟨_, rfl⟩
            rw [← htt] at HU
            have HTT := hid_of' htt
            clear htt hru9
            go_upto_region 12 with (first
              | (go_at_call 38; (with_reducible refine HU.out.mono ?_); rintro e x1 ⟨rfl, p1⟩; have HT1 := hid_of' (And.intro ((HTR.out.1.later p1).later (below_one x1 (.cells #[.int .i64 (j0 : Int), .int .i64 ((ix : Int) - (i0 : Int)), .string tt] 56))) (And.intro ((HTR.out.2.later p1).later (below_one x1 (.cells #[.int .i64 (j0 : Int), .int .i64 ((ix : Int) - (i0 : Int)), .string tt] 56))) (so_new x1 56 3 #[.int .i64 (j0 : Int), .int .i64 ((ix : Int) - (i0 : Int)), .string tt] rfl (fc edc [⟨(j0 : Int), (ix : Int) - (i0 : Int), tt⟩]) rfl))); clear p1)
              | (at_builtin; refine wpL_appE (m := [⟨(j0 : Int), (ix : Int) - (i0 : Int), tt⟩]) rfl _ _ rfl rfl rfl HT1.out.1.ra HT1.out.2.2 (by have := HK.out.le; have := HLn.out; show _ + 1 ≤ _; omega) ?_; intro u7 w7 q1 q2 q3))
            have HT2 := hid_of' (And.intro (show Tri W1.heap.size u7 _ _ (es ++ pnd ys ix jx i0 j0) cs ((ys.take jx).drop j0) w7 by rw [pnd, if_neg (by have := HQ.out; omega), ← HTT.out]; exact HT1.out.1.appA q1 q2 q3) (HT1.out.2.1.own q2 HT1.out.1.oa))
            clear q1 q2 q3 HT1 HU
            go_upto_region 15 with fail
            have hgw : ga < w7.heap.size := Nat.lt_of_lt_of_le hgl (Nat.le_trans HT.out.2.size HT2.out.2.size)
            have ca2 : w7.cell? ⟨ga, ix, none⟩ = some (.int .i32 a) := by rw [(bgo HT.out.2 (HT2.out.2.none (fun _ _ q => q))).cell hgl]; exact HCA.out
            have HS := hid_of' (And.intro (HT2.out.1.noC.later (below_one w7 (.cells #[.int .i32 a] 21))) (And.intro (HT2.out.2.later (below_one w7 (.cells #[.int .i32 a] 21))) (so_new w7 21 1 #[.int .i32 a] rfl ([a].map (Value.int .i32)) rfl)))
            go_upto_region 16 with (at_builtin; refine wpL_appR (m := [a]) rfl _ _ rfl rfl rfl HS.out.1.rb HS.out.2.2 (by have := HK.out.lc; have := HLn.out; show _ + 1 ≤ _; omega) ?_; intro u8 w8 q1 q2 q3)
            have HT3 := hid_of' (And.intro (HS.out.1.appB q1 q2 q3) (HS.out.2.1.own q2 HS.out.1.ob))
            clear q1 q2 q3 HS ca2 hgw
            go_wp2
            go_roundg (2 * ((n - (ix + 1)) + (m - (jx + 1))) + 0 + 1)
            case rel =>
              refine ⟨ix + 1, jx + 1, ix + 1, jx + 1, 0, es ++ pnd ys ix jx i0 j0, cs ++ [a], rfl, .inl ⟨rfl, rfl, rfl⟩, ?_, by go_num, by go_num, by go_num, HK.out.both HN.out.1 HN.out.2.1 HAB.out.1 HAB.out.2, ?_, HT3.out.2⟩
              · rw [Int.sub_self]
              · rw [show (ys.take (jx + 1)).drop (jx + 1) = [] by rw [List.drop_eq_nil_iff, List.length_take]; omega]
                exact HT3.out.1
            case measure => have := HG.out; omega
          · have HQ := hid_of' (show ix = i0 ∧ j0 < jx by omega)
            clear hp hp1
            have h10 : ¬ (0 : Int) < (ix : Int) - (i0 : Int) := by have := HQ.out; omega
            have h09 : (0 : Int) < (n9 : Int) := by have := HQ.out; have := HN9.out; omega
            have hru9 : ∀ r ∈ (ys.take jx).drop j0, Ru r := fun r hr' => HA.out.2.2 r (List.mem_of_mem_take (List.mem_of_mem_drop hr'))
            have HU := hid_of' (utf8_is HTR.out.1.rc hru9 (by rw [mid_len (by rw [← HN.out.2.1]; exact hjxm)]; have := HLn.out; omega))
            obtain ⟨tt, htt⟩ : ∃ tt, tt = tx ((ys.take jx).drop j0) := ⟨_, rfl⟩
            rw [← htt] at HU
            have HTT := hid_of' htt
            clear htt hru9
            go_upto_region 12 with (first
              | (go_at_call 38; (with_reducible refine HU.out.mono ?_); rintro e x1 ⟨rfl, p1⟩; have HT1 := hid_of' (And.intro ((HTR.out.1.later p1).later (below_one x1 (.cells #[.int .i64 (j0 : Int), .int .i64 ((ix : Int) - (i0 : Int)), .string tt] 56))) (And.intro ((HTR.out.2.later p1).later (below_one x1 (.cells #[.int .i64 (j0 : Int), .int .i64 ((ix : Int) - (i0 : Int)), .string tt] 56))) (so_new x1 56 3 #[.int .i64 (j0 : Int), .int .i64 ((ix : Int) - (i0 : Int)), .string tt] rfl (fc edc [⟨(j0 : Int), (ix : Int) - (i0 : Int), tt⟩]) rfl))); clear p1)
              | (at_builtin; refine wpL_appE (m := [⟨(j0 : Int), (ix : Int) - (i0 : Int), tt⟩]) rfl _ _ rfl rfl rfl HT1.out.1.ra HT1.out.2.2 (by have := HK.out.le; have := HLn.out; show _ + 1 ≤ _; omega) ?_; intro u7 w7 q1 q2 q3))
            have HT2 := hid_of' (And.intro (show Tri W1.heap.size u7 _ _ (es ++ pnd ys ix jx i0 j0) cs ((ys.take jx).drop j0) w7 by rw [pnd, if_neg (by have := HQ.out; omega), ← HTT.out]; exact HT1.out.1.appA q1 q2 q3) (HT1.out.2.1.own q2 HT1.out.1.oa))
            clear q1 q2 q3 HT1 HU
            go_upto_region 15 with fail
            have hgw : ga < w7.heap.size := Nat.lt_of_lt_of_le hgl (Nat.le_trans HT.out.2.size HT2.out.2.size)
            have ca2 : w7.cell? ⟨ga, ix, none⟩ = some (.int .i32 a) := by rw [(bgo HT.out.2 (HT2.out.2.none (fun _ _ q => q))).cell hgl]; exact HCA.out
            have HS := hid_of' (And.intro (HT2.out.1.noC.later (below_one w7 (.cells #[.int .i32 a] 21))) (And.intro (HT2.out.2.later (below_one w7 (.cells #[.int .i32 a] 21))) (so_new w7 21 1 #[.int .i32 a] rfl ([a].map (Value.int .i32)) rfl)))
            go_upto_region 16 with (at_builtin; refine wpL_appR (m := [a]) rfl _ _ rfl rfl rfl HS.out.1.rb HS.out.2.2 (by have := HK.out.lc; have := HLn.out; show _ + 1 ≤ _; omega) ?_; intro u8 w8 q1 q2 q3)
            have HT3 := hid_of' (And.intro (HS.out.1.appB q1 q2 q3) (HS.out.2.1.own q2 HS.out.1.ob))
            clear q1 q2 q3 HS ca2 hgw
            go_wp2
            go_roundg (2 * ((n - (ix + 1)) + (m - (jx + 1))) + 0 + 1)
            case rel =>
              refine ⟨ix + 1, jx + 1, ix + 1, jx + 1, 0, es ++ pnd ys ix jx i0 j0, cs ++ [a], rfl, .inl ⟨rfl, rfl, rfl⟩, ?_, by go_num, by go_num, by go_num, HK.out.both HN.out.1 HN.out.2.1 HAB.out.1 HAB.out.2, ?_, HT3.out.2⟩
              · rw [Int.sub_self]
              · rw [show (ys.take (jx + 1)).drop (jx + 1) = [] by rw [List.drop_eq_nil_iff, List.length_take]; omega]
                exact HT3.out.1
            case measure => have := HG.out; omega
        · have habb : (a == bb) = false := by simp [hab]
          have HNB := hid_of' hab
          rw [habb]
          clear hab habb
          obtain ⟨i2, hi2e⟩ : ∃ i2, i2 = ix + 1 := ⟨_, rfl⟩
          obtain ⟨j2, hj2e⟩ : ∃ j2, j2 = jx + 1 := ⟨_, rfl⟩
          go_upto_region 19 with fail
          have hTb := HT.out.1.later (HTR.out.2.none (fun _ _ q => q))
          obtain ⟨b2, ctb2, hc2⟩ := hTb.row (k := ix + 1) (by have := HN.out; omega)
          obtain ⟨b1, ctb1, hc1⟩ := hTb.row (k := ix) (by have := HN.out; omega)
          rw [← HN.out.2.1, ← HN.out.2.2.2] at ctb1 ctb2
          obtain ⟨d10, hd10⟩ : ∃ d : Nat, d = ds (xs.drop (ix + 1)) (ys.drop jx) := ⟨_, rfl⟩
          obtain ⟨d01, hd01⟩ : ∃ d : Nat, d = ds (xs.drop ix) (ys.drop (jx + 1)) := ⟨_, rfl⟩
          have c10 : W3.cell? ⟨b2, jx, none⟩ = some (.int .i64 (d10 : Int)) := by rw [hd10]; exact hc2 jx (by have := HN.out; omega)
          have c01 : W3.cell? ⟨b1, j2, none⟩ = some (.int .i64 (d01 : Int)) := by rw [hd01, hj2e]; exact hc1 (jx + 1) (by have := HN.out; omega)
          have hb2l : b2 < W3.heap.size := World.block_lt_of_cell? _ _ c10
          have hb1l : b1 < W3.heap.size := World.block_lt_of_cell? _ _ c01
          have hTl : T < W3.heap.size := World.block_lt_of_cell? _ _ ctb1
          rw [← hi2e] at ctb2
          have hi2 : (i2 : Int) < (N : Int) := by have := HN.out; omega
          have hj2 : (j2 : Int) < (M : Int) := by have := HN.out; omega
          have hiN : (ix : Int) < (N : Int) := by have := HN.out; omega
          have hjM : (jx : Int) < (M : Int) := by have := HN.out; omega
          have hbi : ix ≤ 8388609 := by have := HLn.out; omega
          have hbj : jx ≤ 8388609 := by have := HLn.out; omega
          have ew1 : IntKind.i64.wrap ((ix : Int) + 1) = (i2 : Int) := wrapK hi2e hbi
          have ew2 : IntKind.i64.wrap ((jx : Int) + 1) = (j2 : Int) := wrapK hj2e hbj
          have HDD := hid_of' (And.intro hd10 hd01)
          clear hc1 hc2 hTb hd10 hd01 hi2e hj2e
          refine wp_region_tail 28 (by kernel_rfl) (fun j => match j with | 4 => some true | 9 => some false | _ => none) (by kernel_rfl) (by kernel_rfl) (by decide) (fun i v x => match i with
            | 0 => v = .int .i64 (ix : Int)
            | 1 => v = .slice (some ⟨ga, 0, none⟩) n ca0
            | 2 => v = .int .i64 (n : Int)
            | 3 => v = .bool true
            | 4 => v = .bool true
            | 5 => v = .int .i64 (jx : Int)
            | 6 => v = .slice (some ⟨gb, 0, none⟩) m cb0
            | 7 => v = .int .i64 (m : Int)
            | 8 => v = .bool false
            | 9 => v = .bool false
            | 10 => v = .slice (some ⟨T, 0, none⟩) N N
            | 11 => v = .int .i64 (ix : Int)
            | 12 => v = .int .i64 (i2 : Int)
            | 13 => v = .pointer (some ⟨T, i2, none⟩)
            | 14 => v = .slice (some ⟨b2, 0, none⟩) M M
            | 15 => v = .int .i64 (jx : Int)
            | 16 => v = .pointer (some ⟨b2, jx, none⟩)
            | 17 => v = .int .i64 (d10 : Int)
            | 18 => v = .slice (some ⟨T, 0, none⟩) N N
            | 19 => v = .int .i64 (ix : Int)
            | 20 => v = .pointer (some ⟨T, ix, none⟩)
            | 21 => v = .slice (some ⟨b1, 0, none⟩) M M
            | 22 => v = .int .i64 (jx : Int)
            | 23 => v = .int .i64 (j2 : Int)
            | 24 => v = .pointer (some ⟨b1, j2, none⟩)
            | 25 => v = .int .i64 (d01 : Int)
            | 26 => v = .bool (decide (d10 ≤ d01))
            | 27 => v = .bool (decide (d10 ≤ d01))
            | _ => True) (fun _ => false) (fun j v x b h hR => by
              match j, h, hR with
              | 4, h, hR => cases h; exact hR
              | 9, h, hR => cases h; exact hR
              | 0, h, _ | 1, h, _ | 2, h, _ | 3, h, _ | 5, h, _ | 6, h, _ | 7, h, _ | 8, h, _ | 10, h, _ | 11, h, _ | 12, h, _ | 13, h, _ | 14, h, _ | 15, h, _ | 16, h, _ | 17, h, _ | 18, h, _ | 19, h, _ | 20, h, _ | 21, h, _ | 22, h, _ | 23, h, _ | 24, h, _ | 25, h, _ | 26, h, _ | 27, h, _ => cases h
              | m + 28, h, _ => cases h) ?_ ?_ ?_
          · intro i v x x' hR hb
            match i, hR with
            | 0, h => exact h
            | 1, h => exact h
            | 2, h => exact h
            | 3, h => exact h
            | 4, h => exact h
            | 5, h => exact h
            | 6, h => exact h
            | 7, h => exact h
            | 8, h => exact h
            | 9, h => exact h
            | 10, h => exact h
            | 11, h => exact h
            | 12, h => exact h
            | 13, h => exact h
            | 14, h => exact h
            | 15, h => exact h
            | 16, h => exact h
            | 17, h => exact h
            | 18, h => exact h
            | 19, h => exact h
            | 20, h => exact h
            | 21, h => exact h
            | 22, h => exact h
            | 23, h => exact h
            | 24, h => exact h
            | 25, h => exact h
            | 26, h => exact h
            | 27, h => exact h
            | m + 28, h => exact h
          · intro i o hi ho q x vals hX hdep hoth
            have t12 : q.tmps[12]? = some (.int .i64 (ix : Int)) := by rw [hoth 12 (by kernel_rfl)]; rfl
            have t0 : q.tmps[0]? = some (.slice (some ⟨ga, 0, none⟩) n ca0) := by rw [hoth 0 (by kernel_rfl)]; rfl
            have t13 : q.tmps[13]? = some (.int .i64 (jx : Int)) := by rw [hoth 13 (by kernel_rfl)]; rfl
            have t1 : q.tmps[1]? = some (.slice (some ⟨gb, 0, none⟩) m cb0) := by rw [hoth 1 (by kernel_rfl)]; rfl
            have t6 : q.tmps[6]? = some (.slice (some ⟨T, 0, none⟩) N N) := by rw [hoth 6 (by kernel_rfl)]; rfl
            match i, hi, ho with
            | 0, _, ho =>
              simp only [List.getElem?_cons_zero, Option.some.injEq] at ho
              subst ho
              unfold Oper.wp
              simp [execOp, go_sem, t12]
              exact came _ rfl (Below.refl _ _) rfl (fun h => absurd h (by decide))
            | 1, _, ho =>
              simp only [List.getElem?_cons_succ, List.getElem?_cons_zero, Option.some.injEq] at ho
              subst ho
              unfold Oper.wp
              simp [execOp, go_sem, t0]
              exact came _ rfl (Below.refl _ _) rfl (fun h => absurd h (by decide))
            | 2, _, ho =>
              simp only [List.getElem?_cons_succ, List.getElem?_cons_zero, Option.some.injEq] at ho
              subst ho
              obtain ⟨u1, e1⟩ := hdep ⟨1, .data⟩ (by simp) rfl _ 100 rfl rfl
              rw [show vals 1 = .slice (some ⟨ga, 0, none⟩) n ca0 from e1] at u1
              unfold Oper.wp
              simp [go_sem, u1]
              exact came _ rfl (Below.refl _ _) rfl (fun h => absurd h (by decide))
            | 3, _, ho =>
              simp only [List.getElem?_cons_succ, List.getElem?_cons_zero, Option.some.injEq] at ho
              subst ho
              obtain ⟨u0, e0⟩ := hdep ⟨0, .data⟩ (by simp) rfl _ 99 rfl rfl
              rw [show vals 0 = .int .i64 (ix : Int) from e0] at u0
              obtain ⟨u2, e2⟩ := hdep ⟨2, .data⟩ (by simp) rfl _ 101 rfl rfl
              rw [show vals 2 = .int .i64 (n : Int) from e2] at u2
              unfold Oper.wp
              simp [execOp, go_sem, u0, u2, hin]
              exact came _ rfl (Below.refl _ _) rfl (fun h => absurd h (by decide))
            | 4, _, ho =>
              simp only [List.getElem?_cons_succ, List.getElem?_cons_zero, Option.some.injEq] at ho
              subst ho
              obtain ⟨u3, e3⟩ := hdep ⟨3, .data⟩ (by simp) rfl _ 102 rfl rfl
              rw [show vals 3 = .bool true from e3] at u3
              unfold Oper.wp
              simp [execOp, go_sem, u3]
              exact came _ rfl (Below.refl _ _) rfl (fun h => absurd h (by decide))
            | 5, _, ho =>
              simp only [List.getElem?_cons_succ, List.getElem?_cons_zero, Option.some.injEq] at ho
              subst ho
              unfold Oper.wp
              simp [execOp, go_sem, t13]
              exact came _ rfl (Below.refl _ _) rfl (fun h => absurd h (by decide))
            | 6, _, ho =>
              simp only [List.getElem?_cons_succ, List.getElem?_cons_zero, Option.some.injEq] at ho
              subst ho
              unfold Oper.wp
              simp [execOp, go_sem, t1]
              exact came _ rfl (Below.refl _ _) rfl (fun h => absurd h (by decide))
            | 7, _, ho =>
              simp only [List.getElem?_cons_succ, List.getElem?_cons_zero, Option.some.injEq] at ho
              subst ho
              obtain ⟨u6, e6⟩ := hdep ⟨6, .data⟩ (by simp) rfl _ 105 rfl rfl
              rw [show vals 6 = .slice (some ⟨gb, 0, none⟩) m cb0 from e6] at u6
              unfold Oper.wp
              simp [go_sem, u6]
              exact came _ rfl (Below.refl _ _) rfl (fun h => absurd h (by decide))
            | 8, _, ho =>
              simp only [List.getElem?_cons_succ, List.getElem?_cons_zero, Option.some.injEq] at ho
              subst ho
              obtain ⟨u5, e5⟩ := hdep ⟨5, .data⟩ (by simp) rfl _ 104 rfl rfl
              rw [show vals 5 = .int .i64 (jx : Int) from e5] at u5
              obtain ⟨u7, e7⟩ := hdep ⟨7, .data⟩ (by simp) rfl _ 106 rfl rfl
              rw [show vals 7 = .int .i64 (m : Int) from e7] at u7
              unfold Oper.wp
              simp [execOp, go_sem, u5, u7, hjne]
              exact came _ rfl (Below.refl _ _) rfl (fun h => absurd h (by decide))
            | 9, _, ho =>
              simp only [List.getElem?_cons_succ, List.getElem?_cons_zero, Option.some.injEq] at ho
              subst ho
              obtain ⟨u8, e8⟩ := hdep ⟨8, .data⟩ (by simp) rfl _ 107 rfl rfl
              rw [show vals 8 = .bool false from e8] at u8
              unfold Oper.wp
              simp [execOp, go_sem, u8]
              exact came _ rfl (Below.refl _ _) rfl (fun h => absurd h (by decide))
            | 10, _, ho =>
              simp only [List.getElem?_cons_succ, List.getElem?_cons_zero, Option.some.injEq] at ho
              subst ho
              unfold Oper.wp
              simp [execOp, go_sem, t6]
              exact came _ rfl (Below.refl _ _) rfl (fun h => absurd h (by decide))
            | 11, _, ho =>
              simp only [List.getElem?_cons_succ, List.getElem?_cons_zero, Option.some.injEq] at ho
              subst ho
              unfold Oper.wp
              simp [execOp, go_sem, t12]
              exact came _ rfl (Below.refl _ _) rfl (fun h => absurd h (by decide))
            | 12, _, ho =>
              simp only [List.getElem?_cons_succ, List.getElem?_cons_zero, Option.some.injEq] at ho
              subst ho
              obtain ⟨u11, e11⟩ := hdep ⟨11, .data⟩ (by simp) rfl _ 110 rfl rfl
              rw [show vals 11 = .int .i64 (ix : Int) from e11] at u11
              unfold Oper.wp
              simp [execOp, go_sem, u11, ew1]
              exact came _ rfl (Below.refl _ _) rfl (fun h => absurd h (by decide))
            | 13, _, ho =>
              simp only [List.getElem?_cons_succ, List.getElem?_cons_zero, Option.some.injEq] at ho
              subst ho
              obtain ⟨u10, e10⟩ := hdep ⟨10, .data⟩ (by simp) rfl _ 109 rfl rfl
              rw [show vals 10 = .slice (some ⟨T, 0, none⟩) N N from e10] at u10
              obtain ⟨u12, e12⟩ := hdep ⟨12, .data⟩ (by simp) rfl _ 111 rfl rfl
              rw [show vals 12 = .int .i64 (i2 : Int) from e12] at u12
              unfold Oper.wp
              simp [execOp, go_sem, u10, u12, hi2]
              exact came _ rfl (Below.refl _ _) rfl (fun h => absurd h (by decide))
            | 14, _, ho =>
              simp only [List.getElem?_cons_succ, List.getElem?_cons_zero, Option.some.injEq] at ho
              subst ho
              obtain ⟨u13, e13⟩ := hdep ⟨13, .data⟩ (by simp) rfl _ 112 rfl rfl
              rw [show vals 13 = .pointer (some ⟨T, i2, none⟩) from e13] at u13
              have cc : x.cell? ⟨T, i2, none⟩ = some (.slice (some ⟨b2, 0, none⟩) M M) := by rw [hX.cell hTl]; exact ctb2
              unfold Oper.wp
              simp [execOp, go_sem, u13, cc]
              exact came _ rfl (Below.refl _ _) rfl (fun h => absurd h (by decide))
            | 15, _, ho =>
              simp only [List.getElem?_cons_succ, List.getElem?_cons_zero, Option.some.injEq] at ho
              subst ho
              unfold Oper.wp
              simp [execOp, go_sem, t13]
              exact came _ rfl (Below.refl _ _) rfl (fun h => absurd h (by decide))
            | 16, _, ho =>
              simp only [List.getElem?_cons_succ, List.getElem?_cons_zero, Option.some.injEq] at ho
              subst ho
              obtain ⟨u14, e14⟩ := hdep ⟨14, .data⟩ (by simp) rfl _ 113 rfl rfl
              rw [show vals 14 = .slice (some ⟨b2, 0, none⟩) M M from e14] at u14
              obtain ⟨u15, e15⟩ := hdep ⟨15, .data⟩ (by simp) rfl _ 114 rfl rfl
              rw [show vals 15 = .int .i64 (jx : Int) from e15] at u15
              unfold Oper.wp
              simp [execOp, go_sem, u14, u15, hjM]
              exact came _ rfl (Below.refl _ _) rfl (fun h => absurd h (by decide))
            | 17, _, ho =>
              simp only [List.getElem?_cons_succ, List.getElem?_cons_zero, Option.some.injEq] at ho
              subst ho
              obtain ⟨u16, e16⟩ := hdep ⟨16, .data⟩ (by simp) rfl _ 115 rfl rfl
              rw [show vals 16 = .pointer (some ⟨b2, jx, none⟩) from e16] at u16
              have cc : x.cell? ⟨b2, jx, none⟩ = some (.int .i64 (d10 : Int)) := by rw [hX.cell hb2l]; exact c10
              unfold Oper.wp
              simp [execOp, go_sem, u16, cc]
              exact came _ rfl (Below.refl _ _) rfl (fun h => absurd h (by decide))
            | 18, _, ho =>
              simp only [List.getElem?_cons_succ, List.getElem?_cons_zero, Option.some.injEq] at ho
              subst ho
              unfold Oper.wp
              simp [execOp, go_sem, t6]
              exact came _ rfl (Below.refl _ _) rfl (fun h => absurd h (by decide))
            | 19, _, ho =>
              simp only [List.getElem?_cons_succ, List.getElem?_cons_zero, Option.some.injEq] at ho
              subst ho
              unfold Oper.wp
              simp [execOp, go_sem, t12]
              exact came _ rfl (Below.refl _ _) rfl (fun h => absurd h (by decide))
            | 20, _, ho =>
              simp only [List.getElem?_cons_succ, List.getElem?_cons_zero, Option.some.injEq] at ho
              subst ho
              obtain ⟨u18, e18⟩ := hdep ⟨18, .data⟩ (by simp) rfl _ 117 rfl rfl
              rw [show vals 18 = .slice (some ⟨T, 0, none⟩) N N from e18] at u18
              obtain ⟨u19, e19⟩ := hdep ⟨19, .data⟩ (by simp) rfl _ 118 rfl rfl
              rw [show vals 19 = .int .i64 (ix : Int) from e19] at u19
              unfold Oper.wp
              simp [execOp, go_sem, u18, u19, hiN]
              exact came _ rfl (Below.refl _ _) rfl (fun h => absurd h (by decide))
            | 21, _, ho =>
              simp only [List.getElem?_cons_succ, List.getElem?_cons_zero, Option.some.injEq] at ho
              subst ho
              obtain ⟨u20, e20⟩ := hdep ⟨20, .data⟩ (by simp) rfl _ 119 rfl rfl
              rw [show vals 20 = .pointer (some ⟨T, ix, none⟩) from e20] at u20
              have cc : x.cell? ⟨T, ix, none⟩ = some (.slice (some ⟨b1, 0, none⟩) M M) := by rw [hX.cell hTl]; exact ctb1
              unfold Oper.wp
              simp [execOp, go_sem, u20, cc]
              exact came _ rfl (Below.refl _ _) rfl (fun h => absurd h (by decide))
            | 22, _, ho =>
              simp only [List.getElem?_cons_succ, List.getElem?_cons_zero, Option.some.injEq] at ho
              subst ho
              unfold Oper.wp
              simp [execOp, go_sem, t13]
              exact came _ rfl (Below.refl _ _) rfl (fun h => absurd h (by decide))
            | 23, _, ho =>
              simp only [List.getElem?_cons_succ, List.getElem?_cons_zero, Option.some.injEq] at ho
              subst ho
              obtain ⟨u22, e22⟩ := hdep ⟨22, .data⟩ (by simp) rfl _ 121 rfl rfl
              rw [show vals 22 = .int .i64 (jx : Int) from e22] at u22
              unfold Oper.wp
              simp [execOp, go_sem, u22, ew2]
              exact came _ rfl (Below.refl _ _) rfl (fun h => absurd h (by decide))
            | 24, _, ho =>
              simp only [List.getElem?_cons_succ, List.getElem?_cons_zero, Option.some.injEq] at ho
              subst ho
              obtain ⟨u21, e21⟩ := hdep ⟨21, .data⟩ (by simp) rfl _ 120 rfl rfl
              rw [show vals 21 = .slice (some ⟨b1, 0, none⟩) M M from e21] at u21
              obtain ⟨u23, e23⟩ := hdep ⟨23, .data⟩ (by simp) rfl _ 122 rfl rfl
              rw [show vals 23 = .int .i64 (j2 : Int) from e23] at u23
              unfold Oper.wp
              simp [execOp, go_sem, u21, u23, hj2]
              exact came _ rfl (Below.refl _ _) rfl (fun h => absurd h (by decide))
            | 25, _, ho =>
              simp only [List.getElem?_cons_succ, List.getElem?_cons_zero, Option.some.injEq] at ho
              subst ho
              obtain ⟨u24, e24⟩ := hdep ⟨24, .data⟩ (by simp) rfl _ 123 rfl rfl
              rw [show vals 24 = .pointer (some ⟨b1, j2, none⟩) from e24] at u24
              have cc : x.cell? ⟨b1, j2, none⟩ = some (.int .i64 (d01 : Int)) := by rw [hX.cell hb1l]; exact c01
              unfold Oper.wp
              simp [execOp, go_sem, u24, cc]
              exact came _ rfl (Below.refl _ _) rfl (fun h => absurd h (by decide))
            | 26, _, ho =>
              simp only [List.getElem?_cons_succ, List.getElem?_cons_zero, Option.some.injEq] at ho
              subst ho
              obtain ⟨u17, e17⟩ := hdep ⟨17, .data⟩ (by simp) rfl _ 116 rfl rfl
              rw [show vals 17 = .int .i64 (d10 : Int) from e17] at u17
              obtain ⟨u25, e25⟩ := hdep ⟨25, .data⟩ (by simp) rfl _ 124 rfl rfl
              rw [show vals 25 = .int .i64 (d01 : Int) from e25] at u25
              unfold Oper.wp
              simp [execOp, go_sem, u17, u25]
              exact came _ rfl (Below.refl _ _) rfl (fun h => absurd h (by decide))
            | 27, _, ho =>
              simp only [List.getElem?_cons_succ, List.getElem?_cons_zero, Option.some.injEq] at ho
              subst ho
              obtain ⟨u9, e9⟩ := hdep ⟨9, .data⟩ (by simp) rfl _ 108 rfl rfl
              rw [show vals 9 = .bool false from e9] at u9
              obtain ⟨u26, e26⟩ := hdep ⟨26, .data⟩ (by simp) rfl _ 125 rfl rfl
              rw [show vals 26 = .bool (decide (d10 ≤ d01)) from e26] at u26
              unfold Oper.wp
              simp [execOp, go_sem, u9, u26]
              exact came _ rfl (Below.refl _ _) rfl (fun h => absurd h (by decide))
            | m + 28, hi, _ => exact absurd hi (by omega)
          · intro vals W4 hX hR _
            have f0 : vals 0 = .int .i64 (ix : Int) := hR 0 (by decide)
            have f1 : vals 1 = .slice (some ⟨ga, 0, none⟩) n ca0 := hR 1 (by decide)
            have f2 : vals 2 = .int .i64 (n : Int) := hR 2 (by decide)
            have f3 : vals 3 = .bool true := hR 3 (by decide)
            have f4 : vals 4 = .bool true := hR 4 (by decide)
            have f5 : vals 5 = .int .i64 (jx : Int) := hR 5 (by decide)
            have f6 : vals 6 = .slice (some ⟨gb, 0, none⟩) m cb0 := hR 6 (by decide)
            have f7 : vals 7 = .int .i64 (m : Int) := hR 7 (by decide)
            have f8 : vals 8 = .bool false := hR 8 (by decide)
            have f9 : vals 9 = .bool false := hR 9 (by decide)
            have f10 : vals 10 = .slice (some ⟨T, 0, none⟩) N N := hR 10 (by decide)
            have f11 : vals 11 = .int .i64 (ix : Int) := hR 11 (by decide)
            have f12 : vals 12 = .int .i64 (i2 : Int) := hR 12 (by decide)
            have f13 : vals 13 = .pointer (some ⟨T, i2, none⟩) := hR 13 (by decide)
            have f14 : vals 14 = .slice (some ⟨b2, 0, none⟩) M M := hR 14 (by decide)
            have f15 : vals 15 = .int .i64 (jx : Int) := hR 15 (by decide)
            have f16 : vals 16 = .pointer (some ⟨b2, jx, none⟩) := hR 16 (by decide)
            have f17 : vals 17 = .int .i64 (d10 : Int) := hR 17 (by decide)
            have f18 : vals 18 = .slice (some ⟨T, 0, none⟩) N N := hR 18 (by decide)
            have f19 : vals 19 = .int .i64 (ix : Int) := hR 19 (by decide)
            have f20 : vals 20 = .pointer (some ⟨T, ix, none⟩) := hR 20 (by decide)
            have f21 : vals 21 = .slice (some ⟨b1, 0, none⟩) M M := hR 21 (by decide)
            have f22 : vals 22 = .int .i64 (jx : Int) := hR 22 (by decide)
            have f23 : vals 23 = .int .i64 (j2 : Int) := hR 23 (by decide)
            have f24 : vals 24 = .pointer (some ⟨b1, j2, none⟩) := hR 24 (by decide)
            have f25 : vals 25 = .int .i64 (d01 : Int) := hR 25 (by decide)
            have f26 : vals 26 = .bool (decide (d10 ≤ d01)) := hR 26 (by decide)
            have f27 : vals 27 = .bool (decide (d10 ≤ d01)) := hR 27 (by decide)
            simp only [List.drop, List.take, putAll, List.setIfInBounds_toArray, List.set_cons_succ, List.set_cons_zero, f0, f1, f2, f3, f4, f5, f6, f7, f8, f9, f10, f11, f12, f13, f14, f15, f16, f17, f18, f19, f20, f21, f22, f23, f24, f25, f26, f27]
            clear f0 f1 f2 f3 f4 f5 f6 f7 f8 f9 f10 f11 f12 f13 f14 f15 f16 f17 f18 f19 f20 f21 f22 f23 f24 f25 f26 f27 hR
            replace HTR := hid_of' (And.intro (HTR.out.1.later hX) (HTR.out.2.later hX))
            clear ew1 ew2 c10 c01 ctb1 ctb2 hb2l hb1l hTl hX hjne hbi hbj hi2 hj2 hiN hjM g3
            by_cases hd : d10 ≤ d01
            · rw [decide_eq_true hd]
              have HKP := hid_of' (kp_d HAA.out HBB.out HNB.out (by rw [← HDD.out.1, ← HDD.out.2]; exact hd))
              clear hd
              go_wp2
              go_roundg (2 * ((n - (ix + 1)) + (m - jx)) + 1 + 1)
              case rel => exact ⟨ix + 1, jx, i0, j0, 1, es, cs, rfl, .inr ⟨by omega, rfl⟩, by first | go_num | (congr 1; omega), rfl, by go_num, rfl, HK.out.del (by omega) HKP.out, HTR.out.1, HTR.out.2⟩
              case measure => have := HG.out; omega
            · rw [decide_eq_false hd]
              have HKP := hid_of' (kp_i HAA.out HBB.out HNB.out (by rw [← HDD.out.1, ← HDD.out.2]; exact hd))
              clear hd
              go_upto_region 22 with fail
              have cb2 : W4.cell? ⟨gb, jx, none⟩ = some (.int .i32 bb) := by rw [(bgo HT.out.2 (HTR.out.2.none (fun _ _ q => q))).cell hhl]; exact HCB.out
              have HS := hid_of' (And.intro (HTR.out.1.later (below_one W4 (.cells #[.int .i32 bb] 21))) (And.intro (HTR.out.2.later (below_one W4 (.cells #[.int .i32 bb] 21))) (so_new W4 21 1 #[.int .i32 bb] rfl ([bb].map (Value.int .i32)) rfl)))
              go_upto_region 23 with (at_builtin; refine wpL_appR (m := [bb]) rfl _ _ rfl rfl rfl HS.out.1.rc HS.out.2.2 (by rw [mid_len (by rw [← HN.out.2.1]; exact hjxm)]; have := HLn.out; show _ + 1 ≤ _; omega) ?_; intro u9 w9 q1 q2 q3)
              rw [← take_more HBB.out hj0x] at q1
              have HT3 := hid_of' (And.intro (HS.out.1.appC q1 q2 q3) (HS.out.2.1.own q2 HS.out.1.oc))
              clear q1 q2 q3 HS cb2
              go_wp2
              go_roundg (2 * ((n - ix) + (m - (jx + 1))) + 1 + 1)
              case rel => exact ⟨ix, jx + 1, i0, j0, 1, es, cs, rfl, .inr ⟨by omega, rfl⟩, rfl, rfl, rfl, by go_num, HK.out.ins (by omega) HKP.out, HT3.out.1, HT3.out.2⟩
              case measure => have := HG.out; omega
end Go.Proofs.YtckbihcijpploaaDoor
