
/-
  tree.weightBefore, (*tree.Tree).Before; (*tree.Tree).FindLine.
-/
import Derived.Test.YtjopeojnlibagaaGreatDoorTrPassN
import Derived.Test.YtjopeojnlibagaaGreatDoorTrIn2
namespace Go.Proofs.YtjopeojnlibagaaGreatDoor
open Go.RowKit
set_option maxRecDepth 100000

set_option maxHeartbeats 400000 in
theorem before_nil (i : Int) (w : World) : Calls Tryz.prog 98 #[.pointer none, .int .i64 i] w fun r w' => r = .returned (wv 0 0) ∧ Below w.heap.size w w' := by
  go_enter Tryz.func98, Tryz.ntmps98
  go_wp2_with (first | (refine wpL_loadW rfl _ rfl rfl (row_new2 w _ _ _).in ?_) | (refine wpL_storeW rfl _ _ rfl rfl rfl ((row_new w _ _).later (below_one _ _)) ?_))
  exact bodyPost_ret (v := wv 0 0) (results_w (fn := Tryz.f98) (p := 4) rfl rfl (((row_new w _ _).later (below_one _ _)).put _)) rfl ⟨rfl, below_row (below_two w _ _) (by omega) _⟩
set_option maxHeartbeats 8000000 in
theorem before_some {R : Rows} (t : Nd) (ip : Nat) (w : World) (ht : t.At R w) (hn : t.els.length ≤ 1073741824) (hip : ip ≤ t.els.length) :
    Calls Tryz.prog 98 #[pv t.blk, .int .i64 (ip : Int)] w fun r w' => r = .returned (wv (liveL (t.els.take ip)) (lineL (t.els.take ip))) ∧ Below w.heap.size w w' := by
  unfold pv
  obtain ⟨tb, htb⟩ : ∃ tb, t.blk = tb := ⟨_, rfl⟩
  rw [htb]
  go_enter Tryz.func98, Tryz.ntmps98
  go_wp2
  go_loopg [0, 1] t.ht (fun m v iv wr => ∃ (t' : Nd) (ik : Nat) (p0 q0 : Int), m = t'.ht ∧ v = .pointer (some ⟨t'.blk, 0, none⟩) ∧ iv = .int .i64 (ik : Int) ∧ t'.At R w ∧ Hid (t'.els.length ≤ 1073741824 ∧ ik ≤ t'.els.length ∧ 0 ≤ p0 ∧ 0 ≤ q0 ∧ p0 + liveL (t'.els.take ik) = liveL (t.els.take ip) ∧ q0 + lineL (t'.els.take ik) = lineL (t.els.take ip)) ∧ RowAt w.heap.size #[.int .i64 0, .int .i64 0] 60 wr ∧ RowAt (w.heap.size + 1) #[.int .i64 p0, .int .i64 q0] 60 wr ∧ Below w.heap.size w wr)
  case atStart => exact ⟨t, ip, 0, 0, rfl, by rw [htb], rfl, ht, ⟨hn, hip, by omega, by omega, by omega, by omega⟩, (row_new w _ _).later (below_one _ _), row_new2 w _ _ _, below_two w _ _⟩
  case round =>
    obtain ⟨t', ik, p0, q0, hgk, rfl, rfl, htw, HQ, h1, h2, hBw⟩ := hrel
    have htt := htw.later hBw
    have HI := hid_of' (isLeaf_any htt)
    unfold pv at HI
    have hbl := liveL_b (t.els.take ip)
    have hbn := lineL_b (t.els.take ip)
    rw [List.length_take] at hbl hbn
    cases t' with
    | inner b nx ny =>
      obtain ⟨q1, q2, q3, q4, q5, q6⟩ := HQ.out
      simp only [Nd.els, List.length_append] at q1 q2 q5 q6
      have d0 := nd_l htt
      have d1 := nd_r htt
      have d4 := nd_sz htt.2.1
      have HK := hid_of' hgk
      have hxi : (nx.els.length : Int) ≤ 1073741824 := by omega
      unfold Nd.blk at HI ⊢
      unfold Nd.isL at HI
      by_cases hlt : ik < nx.els.length
      · have hli : (ik : Int) < (nx.els.length : Int) := by omega
        rw [List.take_append_of_le_length (by omega)] at q5 q6
        have HN := hid_of' (show nx.els.length ≤ 1073741824 ∧ ik ≤ nx.els.length ∧ 0 ≤ p0 ∧ 0 ≤ q0 ∧ p0 + liveL (nx.els.take ik) = liveL (t.els.take ip) ∧ q0 + lineL (nx.els.take ik) = lineL (t.els.take ip) from ⟨by omega, by omega, q3, q4, q5, q6⟩)
        clear HQ hgk q1 q2 q5 q6 hbl hbn
        go_wp2_with (go_at_call 106; refine HI.out.mono ?_; rintro r w1 ⟨rfl, hw⟩; obtain rfl := hw.symm)
        go_roundg nx.ht
        case measure => rw [HK.out]; simp only [Nd.ht]; omega
        case rel => exact ⟨nx, ik, p0, q0, rfl, rfl, rfl, htw.2.1, HN, h1, h2, hBw⟩
      · have hli : ¬ (ik : Int) < (nx.els.length : Int) := by omega
        rw [List.take_append, List.take_of_length_le (show nx.els.length ≤ ik by omega), liveL_app] at q5
        rw [List.take_append, List.take_of_length_le (show nx.els.length ≤ ik by omega), lineL_app] at q6
        have b1 := liveL_b nx.els
        have b2 := lineL_b nx.els
        have b3 := liveL_b (ny.els.take (ik - nx.els.length))
        have b4 := lineL_b (ny.els.take (ik - nx.els.length))
        have HN := hid_of' (show ny.els.length ≤ 1073741824 ∧ ik - nx.els.length ≤ ny.els.length ∧ 0 ≤ p0 + liveL nx.els ∧ 0 ≤ q0 + lineL nx.els ∧ p0 + liveL nx.els + liveL (ny.els.take (ik - nx.els.length)) = liveL (t.els.take ip) ∧ q0 + lineL nx.els + lineL (ny.els.take (ik - nx.els.length)) = lineL (t.els.take ip) from ⟨by omega, by omega, by omega, by omega, by omega, by omega⟩)
        have HB := hid_of' (show (0 ≤ p0 + liveL nx.els ∧ p0 + liveL nx.els ≤ 1099511627776 ∧ 0 ≤ q0 + lineL nx.els ∧ q0 + lineL nx.els ≤ 1099511627776) by omega)
        have hsub : (ik : Int) - (nx.els.length : Int) = ((ik - nx.els.length : Nat) : Int) := by omega
        have hik : ik ≤ 1073741824 := by omega
        clear HQ hgk q1 q2 q5 q6 hbl hbn b1 b2 b3 b4
        go_upto_region 7 with (go_at_call 106; refine HI.out.mono ?_; rintro r w1 ⟨rfl, hw⟩; obtain rfl := hw.symm)
        refine wp_region_tail 9 (by kernel_rfl) (fun _ => none) (by kernel_rfl) (by kernel_rfl) (by decide) (fun i v x => match i with
          | 0 => v = wv p0 q0
          | 1 => v = .pointer (some ⟨b, 0, none⟩)
          | 2 => v = .pointer (some ⟨b, 0, none⟩)
          | 3 => v = .pointer (some ⟨b, 0, none⟩)
          | 4 => v = .pointer (some ⟨nx.blk, 0, none⟩)
          | 5 => v = .pointer (some ⟨nx.blk, 0, none⟩)
          | 6 => v = .pointer (some ⟨nx.blk, 5, none⟩)
          | 7 => v = wv (liveL nx.els) (lineL nx.els)
          | 8 => v = wv (p0 + liveL nx.els) (q0 + lineL nx.els)
          | _ => True) (fun _ => false) (fun _ _ _ _ h => by cases h) ?_ ?_ ?_
        · intro i v x x' hR hb
          match i, hR with
          | 0, h => exact h
          | 1, h => exact h
          | 2, h => exact h
          | 3, h => exact h
          | 4, h => exact h
          | 5, h => exact h
          | 6, h => exact h
          | 7, h => exact h
          | 8, h => exact h
          | m + 9, h => exact h
        · intro i o hi ho q x vals hX hdep hoth
          have t0 : q.tmps[0]? = some (.pointer (some ⟨b, 0, none⟩)) := by rw [hoth 0 (by kernel_rfl)]; rfl
          have t5 : q.tmps[5]? = some (.pointer (some ⟨w.heap.size + 1, 0, none⟩)) := by rw [hoth 5 (by kernel_rfl)]; rfl
          match i, hi, ho with
          | 0, _, ho =>
            simp only [List.getElem?_cons_zero, Option.some.injEq] at ho
            subst ho
            exact opw_loadW _ rfl (by simp [Act.eval, t5]) ((h2.later hX).in) (came _ rfl (Below.refl _ _) rfl (fun h => absurd h (by decide)))
          | 1, _, ho =>
            simp only [List.getElem?_cons_succ, List.getElem?_cons_zero, Option.some.injEq] at ho
            subst ho
            unfold Oper.wp
            simp [execOp, go_sem, t0]
            exact came _ rfl (Below.refl _ _) rfl (fun h => absurd h (by decide))
          | 2, _, ho =>
            simp only [List.getElem?_cons_succ, List.getElem?_cons_zero, Option.some.injEq] at ho
            subst ho
            obtain ⟨u1, e1⟩ := hdep ⟨1, .data⟩ (by simp) rfl _ 26 rfl rfl
            rw [show vals 1 = .pointer (some ⟨b, 0, none⟩) from e1] at u1
            unfold Oper.wp
            simp [execOp, go_sem, u1]
            exact came _ rfl (Below.refl _ _) rfl (fun h => absurd h (by decide))
          | 3, _, ho =>
            simp only [List.getElem?_cons_succ, List.getElem?_cons_zero, Option.some.injEq] at ho
            subst ho
            obtain ⟨u2, e2⟩ := hdep ⟨2, .data⟩ (by simp) rfl _ 27 rfl rfl
            rw [show vals 2 = .pointer (some ⟨b, 0, none⟩) from e2] at u2
            unfold Oper.wp
            simp [execOp, go_sem, u2]
            exact came _ rfl (Below.refl _ _) rfl (fun h => absurd h (by decide))
          | 4, _, ho =>
            simp only [List.getElem?_cons_succ, List.getElem?_cons_zero, Option.some.injEq] at ho
            subst ho
            obtain ⟨u3, e3⟩ := hdep ⟨3, .data⟩ (by simp) rfl _ 28 rfl rfl
            rw [show vals 3 = .pointer (some ⟨b, 0, none⟩) from e3] at u3
            have cc := nd_l (htt.later hX)
            unfold Oper.wp
            simp [execOp, go_sem, u3, cc]
            exact came _ rfl (Below.refl _ _) rfl (fun h => absurd h (by decide))
          | 5, _, ho =>
            simp only [List.getElem?_cons_succ, List.getElem?_cons_zero, Option.some.injEq] at ho
            subst ho
            obtain ⟨u4, e4⟩ := hdep ⟨4, .data⟩ (by simp) rfl _ 29 rfl rfl
            rw [show vals 4 = .pointer (some ⟨nx.blk, 0, none⟩) from e4] at u4
            unfold Oper.wp
            simp [execOp, go_sem, u4]
            exact came _ rfl (Below.refl _ _) rfl (fun h => absurd h (by decide))
          | 6, _, ho =>
            simp only [List.getElem?_cons_succ, List.getElem?_cons_zero, Option.some.injEq] at ho
            subst ho
            obtain ⟨u5, e5⟩ := hdep ⟨5, .data⟩ (by simp) rfl _ 30 rfl rfl
            rw [show vals 5 = .pointer (some ⟨nx.blk, 0, none⟩) from e5] at u5
            unfold Oper.wp
            simp [execOp, go_sem, u5]
            exact came _ rfl (Below.refl _ _) rfl (fun h => absurd h (by decide))
          | 7, _, ho =>
            simp only [List.getElem?_cons_succ, List.getElem?_cons_zero, Option.some.injEq] at ho
            subst ho
            obtain ⟨u6, e6⟩ := hdep ⟨6, .data⟩ (by simp) rfl _ 31 rfl rfl
            rw [show vals 6 = .pointer (some ⟨nx.blk, 5, none⟩) from e6] at u6
            obtain ⟨z1, z2, z3, hrw⟩ := (htt.2.1.later hX).row
            have c5 := hrw.in.sub 5 (ds := #[.int .i64 (liveL nx.els), .int .i64 (lineL nx.els)]) (fun j v hv => by match j, hv with | 0, hv => exact hv | 1, hv => exact hv | j + 2, hv => simp at hv)
            rw [Nat.zero_add] at c5
            exact opw_loadW _ rfl (by simp [Act.eval, u6]) (c5) (came _ rfl (Below.refl _ _) rfl (fun h => absurd h (by decide)))
          | 8, _, ho =>
            simp only [List.getElem?_cons_succ, List.getElem?_cons_zero, Option.some.injEq] at ho
            subst ho
            obtain ⟨u0, e0⟩ := hdep ⟨0, .data⟩ (by simp) rfl _ 25 rfl rfl
            rw [show vals 0 = wv p0 q0 from e0] at u0
            obtain ⟨u7, e7⟩ := hdep ⟨7, .data⟩ (by simp) rfl _ 32 rfl rfl
            rw [show vals 7 = wv (liveL nx.els) (lineL nx.els) from e7] at u7
            unfold Oper.wp
            simp [go_sem, u0, u7]
            refine (plus_is rfl rfl ⟨HB.out.1, HB.out.2.1⟩ ⟨HB.out.2.2.1, HB.out.2.2.2⟩ _).mono ?_
            rintro r x1 ⟨rfl, hb1⟩
            exact came _ rfl hb1 rfl (fun h => absurd h (by decide))
          | m + 9, hi, _ => exact absurd hi (by omega)
        · intro vals x' hX hR _
          have r8 : vals 8 = wv (p0 + liveL nx.els) (q0 + lineL nx.els) := hR 8 (by decide)
          have h1' := h1.later hX
          have h2' := h2.later hX
          have hB' := bgo hBw hX
          have htp : (Nd.inner b nx ny).At R (x'.setRow (w.heap.size + 1) #[.int .i64 (p0 + liveL nx.els), .int .i64 (q0 + lineL nx.els)]) := htw.later (below_row hB' (by omega) _)
          have e0 := nd_l htp
          have e1 := nd_r htp
          have e4 := nd_sz htp.2.1
          clear d0 d1 d4
          simp only [List.take, List.drop, putAll, r8, List.setIfInBounds_toArray, List.set_cons_succ, List.set_cons_zero]
          refine wpL_storeW rfl _ _ rfl rfl rfl h2' ?_
          go_wp2
          go_roundg ny.ht
          case measure => rw [HK.out]; simp only [Nd.ht]; omega
          case rel => exact ⟨ny, ik - nx.els.length, p0 + liveL nx.els, q0 + lineL nx.els, rfl, rfl, by go_num, htw.2.2, HN, h1'.other _ _ (by omega), h2'.put _, below_row hB' (by omega) _⟩
    | leaf b g o_ c l =>
      obtain ⟨hE, hlc, hc9, _⟩ := htt.2
      obtain ⟨q1, q2, q3, q4, q5, q6⟩ := HQ.out
      simp only [Nd.els] at q1 q2 q5 q6
      have b3 := liveL_b (l.take ik)
      have b4 := lineL_b (l.take ik)
      unfold Nd.blk at HI ⊢
      unfold Nd.isL at HI
      have HB := hid_of' (show (0 ≤ p0 + liveL (l.take ik) ∧ p0 + liveL (l.take ik) ≤ 1099511627776 ∧ 0 ≤ q0 + lineL (l.take ik) ∧ q0 + lineL (l.take ik) ≤ 1099511627776) by omega)
      have HS : Hid (∀ x, Below _ _ x → _) := fun x (hx : Below wr.heap.size wr x) => (by
        have := sum_some (l.take ik) g o_ c x ((hE.later hx).take ik) (by rw [List.length_take]; omega)
        rwa [List.length_take, Nat.min_eq_left q2] at this : Calls Tryz.prog 123 #[.slice (some ⟨g, o_, none⟩) ik c] x fun r w' => r = .returned (wv (liveL (l.take ik)) (lineL (l.take ik))) ∧ Below x.heap.size x w')
      clear HQ hgk b3 b4 hbl hbn
      go_upto_region 10 with (go_at_call 106; refine HI.out.mono ?_; rintro r w1 ⟨rfl, hw⟩; obtain rfl := hw.symm)
      refine wp_region_tail 9 (by kernel_rfl) (fun _ => none) (by kernel_rfl) (by kernel_rfl) (by decide) (fun i v x => match i with
        | 0 => v = wv p0 q0
        | 1 => v = .pointer (some ⟨b, 0, none⟩)
        | 2 => v = .pointer (some ⟨b, 0, none⟩)
        | 3 => v = .pointer (some ⟨b, 2, none⟩)
        | 4 => v = .slice (some ⟨g, o_, none⟩) l.length c
        | 5 => v = .int .i64 (ik : Int)
        | 6 => v = .slice (some ⟨g, o_, none⟩) ik c
        | 7 => v = wv (liveL (l.take ik)) (lineL (l.take ik))
        | 8 => v = wv (p0 + liveL (l.take ik)) (q0 + lineL (l.take ik))
        | _ => True) (fun _ => false) (fun _ _ _ _ h => by cases h) ?_ ?_ ?_
      · intro i v x x' hR hb
        match i, hR with
        | 0, h => exact h
        | 1, h => exact h
        | 2, h => exact h
        | 3, h => exact h
        | 4, h => exact h
        | 5, h => exact h
        | 6, h => exact h
        | 7, h => exact h
        | 8, h => exact h
        | m + 9, h => exact h
      · intro i o hi ho q x vals hX hdep hoth
        have t0 : q.tmps[0]? = some (.pointer (some ⟨b, 0, none⟩)) := by rw [hoth 0 (by kernel_rfl)]; rfl
        have t1 : q.tmps[1]? = some (.int .i64 (ik : Int)) := by rw [hoth 1 (by kernel_rfl)]; rfl
        have t5 : q.tmps[5]? = some (.pointer (some ⟨w.heap.size + 1, 0, none⟩)) := by rw [hoth 5 (by kernel_rfl)]; rfl
        match i, hi, ho with
        | 0, _, ho =>
          simp only [List.getElem?_cons_zero, Option.some.injEq] at ho
          subst ho
          exact opw_loadW _ rfl (by simp [Act.eval, t5]) ((h2.later hX).in) (came _ rfl (Below.refl _ _) rfl (fun h => absurd h (by decide)))
        | 1, _, ho =>
          simp only [List.getElem?_cons_succ, List.getElem?_cons_zero, Option.some.injEq] at ho
          subst ho
          unfold Oper.wp
          simp [execOp, go_sem, t0]
          exact came _ rfl (Below.refl _ _) rfl (fun h => absurd h (by decide))
        | 2, _, ho =>
          simp only [List.getElem?_cons_succ, List.getElem?_cons_zero, Option.some.injEq] at ho
          subst ho
          obtain ⟨u1, e1⟩ := hdep ⟨1, .data⟩ (by simp) rfl _ 48 rfl rfl
          rw [show vals 1 = .pointer (some ⟨b, 0, none⟩) from e1] at u1
          unfold Oper.wp
          simp [execOp, go_sem, u1]
          exact came _ rfl (Below.refl _ _) rfl (fun h => absurd h (by decide))
        | 3, _, ho =>
          simp only [List.getElem?_cons_succ, List.getElem?_cons_zero, Option.some.injEq] at ho
          subst ho
          obtain ⟨u2, e2⟩ := hdep ⟨2, .data⟩ (by simp) rfl _ 49 rfl rfl
          rw [show vals 2 = .pointer (some ⟨b, 0, none⟩) from e2] at u2
          unfold Oper.wp
          simp [execOp, go_sem, u2]
          exact came _ rfl (Below.refl _ _) rfl (fun h => absurd h (by decide))
        | 4, _, ho =>
          simp only [List.getElem?_cons_succ, List.getElem?_cons_zero, Option.some.injEq] at ho
          subst ho
          obtain ⟨u3, e3⟩ := hdep ⟨3, .data⟩ (by simp) rfl _ 50 rfl rfl
          rw [show vals 3 = .pointer (some ⟨b, 2, none⟩) from e3] at u3
          have cc : x.cell? ⟨b, 2, none⟩ = some (.slice (some ⟨g, o_, none⟩) l.length c) := (htt.1.later hX).cell 2
          unfold Oper.wp
          simp [execOp, go_sem, u3, cc]
          exact came _ rfl (Below.refl _ _) rfl (fun h => absurd h (by decide))
        | 5, _, ho =>
          simp only [List.getElem?_cons_succ, List.getElem?_cons_zero, Option.some.injEq] at ho
          subst ho
          unfold Oper.wp
          simp [execOp, go_sem, t1]
          exact came _ rfl (Below.refl _ _) rfl (fun h => absurd h (by decide))
        | 6, _, ho =>
          simp only [List.getElem?_cons_succ, List.getElem?_cons_zero, Option.some.injEq] at ho
          subst ho
          obtain ⟨u4, e4⟩ := hdep ⟨4, .data⟩ (by simp) rfl _ 51 rfl rfl
          rw [show vals 4 = .slice (some ⟨g, o_, none⟩) l.length c from e4] at u4
          obtain ⟨u5, e5⟩ := hdep ⟨5, .data⟩ (by simp) rfl _ 52 rfl rfl
          rw [show vals 5 = .int .i64 (ik : Int) from e5] at u5
          have k1 : 0 ≤ (ik : Int) := by omega
          have k2 : (ik : Int) ≤ (c : Int) := by omega
          unfold Oper.wp
          simp [execOp, go_sem, u4, u5, k1, k2]
          exact came _ rfl (Below.refl _ _) rfl (fun h => absurd h (by decide))
        | 7, _, ho =>
          simp only [List.getElem?_cons_succ, List.getElem?_cons_zero, Option.some.injEq] at ho
          subst ho
          obtain ⟨u6, e6⟩ := hdep ⟨6, .data⟩ (by simp) rfl _ 53 rfl rfl
          rw [show vals 6 = .slice (some ⟨g, o_, none⟩) ik c from e6] at u6
          unfold Oper.wp
          simp [go_sem, u6]
          refine (HS.out _ hX).mono ?_
          rintro r x1 ⟨rfl, hb1⟩
          exact came _ rfl hb1 rfl (fun h => absurd h (by decide))
        | 8, _, ho =>
          simp only [List.getElem?_cons_succ, List.getElem?_cons_zero, Option.some.injEq] at ho
          subst ho
          obtain ⟨u0, e0⟩ := hdep ⟨0, .data⟩ (by simp) rfl _ 47 rfl rfl
          rw [show vals 0 = wv p0 q0 from e0] at u0
          obtain ⟨u7, e7⟩ := hdep ⟨7, .data⟩ (by simp) rfl _ 54 rfl rfl
          rw [show vals 7 = wv (liveL (l.take ik)) (lineL (l.take ik)) from e7] at u7
          unfold Oper.wp
          simp [go_sem, u0, u7]
          refine (plus_is rfl rfl ⟨HB.out.1, HB.out.2.1⟩ ⟨HB.out.2.2.1, HB.out.2.2.2⟩ _).mono ?_
          rintro r x1 ⟨rfl, hb1⟩
          exact came _ rfl hb1 rfl (fun h => absurd h (by decide))
        | m + 9, hi, _ => exact absurd hi (by omega)
      · intro vals x' hX hR _
        have r8 : vals 8 = wv (p0 + liveL (l.take ik)) (q0 + lineL (l.take ik)) := hR 8 (by decide)
        have h1' := h1.later hX
        have hB' := bgo hBw hX
        rw [q5, q6] at r8
        simp only [List.take, List.drop, putAll, r8, List.setIfInBounds_toArray, List.set_cons_succ, List.set_cons_zero]
        refine wpL_storeW rfl _ _ rfl rfl rfl h1' ?_
        go_wp2
        exact bodyPost_ret (v := wv (liveL (t.els.take ip)) (lineL (t.els.take ip))) (results_w (fn := Tryz.f98) (p := 4) rfl rfl (h1'.put _)) rfl ⟨rfl, below_row hB' (by omega) _⟩

theorem results_w2 {fn : Func} {p u : Tmp} {tmps : Array Value} {w : World} {g : Nat} {x y : Int} (h : fn.results = #[.cell p 60, .tmp u]) (hp : tmps.getD p undef = .pointer (some ⟨g, 0, none⟩)) (hg : RowAt g #[.int .i64 x, .int .i64 y] 60 w) :
    (results fn tmps).run Tryz.prog w = .ok (.tuple #[wv x y, tmps.getD u undef]) w := by
  have hp' : tmps[p]?.getD undef = .pointer (some ⟨g, 0, none⟩) := by simpa using hp
  simp [results, h, hp', asAddr, wv, run_loadVar_row w g _ _ _ _ _ hg Tryz.underlying60 rfl w_size]
set_option maxHeartbeats 2000000 in
/-- Before, of a place that there is. -/
theorem before_any {R : Rows} {b ch : Nat} {l : List El} {w : World} (h : TrL R b ch l w) (ip : Nat) (hn : l.length ≤ 1073741824) (hip : ip ≤ l.length) :
    Calls Tryz.prog 75 #[pv b, .int .i64 (ip : Int)] w fun r w' => r = .returned (.tuple #[wv (liveL (l.take ip)) (lineL (l.take ip)), .nilIface]) ∧ Below w.heap.size w w' := by
  have hB0 := below_one w (.cells #[.int .i64 0, .int .i64 0] 60)
  have HL := hid_of' (len_L (h.later hB0))
  have e1 : ¬ (ip : Int) < 0 := by omega
  have e2 : ¬ (l.length : Int) < (ip : Int) := by omega
  obtain ⟨v, hrow, HW⟩ : ∃ v, RowAt b #[.int .i64 (ch : Int), .pointer v] 151 w ∧ Hid (Calls Tryz.prog 98 #[.pointer v, .int .i64 (ip : Int)] (w.alloc (.cells #[.int .i64 0, .int .i64 0] 60)) fun r w' => r = .returned (wv (liveL (l.take ip)) (lineL (l.take ip))) ∧ Below (w.alloc (.cells #[.int .i64 0, .int .i64 0] 60)).heap.size (w.alloc (.cells #[.int .i64 0, .int .i64 0] 60)) w') := by
    rcases h.at with ⟨h1, h2⟩ | ⟨t, h1, h2, h3, h4, _⟩
    · subst h1
      exact ⟨none, h2, by rw [show ([] : List El).take ip = [] by simp]; exact before_nil (ip : Int) (w.alloc (.cells #[.int .i64 0, .int .i64 0] 60))⟩
    · refine ⟨some ⟨t.blk, 0, none⟩, h1, ?_⟩
      have := before_some t ip _ (h2.later hB0) (by rw [h4]; exact hn) (by rw [h4]; exact hip)
      rw [h4] at this
      exact this
  have c1 := (hrow.later hB0).cell 1
  unfold pv at HL ⊢
  clear h hrow
  go_enter Tryz.func75, Tryz.ntmps75
  go_wp2_with (first | (go_at_call 76; refine HL.out.mono ?_; rintro r w1 ⟨rfl, hw⟩; obtain rfl := hw.symm) | (go_at_call 98; (with_reducible refine HW.out.mono ?_); rintro r w2 ⟨rfl, hb2⟩; clear HW) | (refine wpL_storeW rfl _ _ rfl rfl rfl ((row_new w _ _).later hb2) ?_))
  exact bodyPost_ret (v := .tuple #[wv (liveL (l.take ip)) (lineL (l.take ip)), .nilIface]) (results_w2 (fn := Tryz.f75) (p := 4) (u := 5) rfl rfl (((row_new w _ _).later hb2).put _)) rfl ⟨rfl, below_row (bgo hB0 hb2) (by omega) _⟩
theorem field_line (x y : Int) (w : World) : (Instr.field 60 (.agg #[.int .i64 x, .int .i64 y]) 1).run Tryz.prog w = .ok (.int .i64 y) w := by kernel_rfl
end Go.Proofs.YtjopeojnlibagaaGreatDoor
