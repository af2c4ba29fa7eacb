
/-
  The document's Inbox: Next.
-/
import Derived.Test.YtlgdaaofpjpobaaDoorZca36
namespace Go.Proofs.YtlgdaaofpjpobaaDoor
open Go.RowKit Go.Maps
set_option maxRecDepth 100000

set_option maxHeartbeats 4000000 in
theorem refNext_none {R : Nat} {v : Value} {m : Int} {l : List Ac} {w : World} (hI : RbAt R v m l w) (hn : l.length ≤ 1000) {h : List Int} (ha : Ck h) (hno : ∀ x ∈ l, rdyC h x = false) :
    Calls Tryd.prog 22 #[.pointer (some ⟨R, 0, none⟩), .agg (cv h)] w fun e w' => e = .returned (.tuple #[.agg (acv ac0), .bool false]) ∧ Below w.heap.size w w' := by
  obtain ⟨h1, h2, hB⟩ := startN w (a := h) ha.1
  have hJ := hI.later hB
  obtain ⟨a9, c9, rfl, _⟩ := hI.row.form
  have H := hid_of' (And.intro h1 (And.intro h2 (And.intro hB hJ)))
  have HN := hid_of' hno
  clear hI hJ h1 h2 hB hno
  go_enter Tryd.func22, Tryd.ntmps22
  go_upto_region 1 with fail
  rw [show (Obj.cells #[Value.int .i64 0, .int .i64 0, .int .i32 0, .int .i64 0, .int .i64 0, .int .i64 0, .int .i64 0, .int .i64 0, .int .i64 0, .int .i64 0, .int .i64 0, .int .i64 0, .int .i64 0] 48) = Obj.cells (acv ac0) 48 from rfl]
  generalize (w.alloc (.cells (cv h) 44)).alloc (.cells (acv ac0) 48) = W at H ⊢
  go_wp2
  go_loopw [6, 7] (fun i _ wr => ∃ k : Nat, i = .int .i64 (k : Int) ∧ k ≤ l.length ∧ Below W.heap.size W wr) (fun i _ _ => l.length - (intOf i).toNat)
  case atStart => exact ⟨0, rfl, by omega, Below.refl _ _⟩
  case round =>
    rename World => wr
    obtain ⟨k, rfl, hk, hBr⟩ := hrel
    by_cases hlt : k < l.length
    · have hrd : rdyC h l[k] = false := HN.out _ (List.getElem_mem hlt)
      have hrd' : ∀ y, l[k]? = some y → rdyC h y = false := fun y hy => by rw [List.getElem?_eq_getElem hlt] at hy; cases hy; exact hrd
      clear hrd
      obtain ⟨x, hx⟩ : ∃ x, l[k]? = some x := ⟨_, List.getElem?_eq_getElem hlt⟩
      have hf := H.out.2.2.2.row.2.at hx
      have hRr := H.out.2.2.2.later hBr
      obtain ⟨g, o, c, hv, _⟩ := hRr.row.sl.pos (by omega)
      simp only [Value.slice.injEq, true_and] at hv
      obtain ⟨rfl, rfl⟩ := hv
      have hin := hRr.row.sl.in H.out.2.2.2.row.2 hx
      have hck := H.out.1.later hBr
      have hki : (k : Int) < (l.length : Int) := by omega
      have c0 := hRr.lies.cellIs 1 rfl
      have hB := Below.refl wr.heap.size wr
      go_upto_region 4 with fail
      clear c0
      have c1 := hRr.lies.cls 1 _ rfl
      refine wp_region_cls (by kernel_rfl) (by kernel_rfl) ?_
      repeat (first | go_big_quiet_skip | (go_big_quiet_want; first | (refine quiet_load_ck _ rfl rfl (cls_ck hck) ?_; simp only [Act.put, List.setIfInBounds_toArray, List.set_cons_succ, List.set_cons_zero]; go_big_quiet_on) | (refine quiet_act _ rfl rfl hf hin.cls ?_; simp only [Act.put, List.setIfInBounds_toArray, List.set_cons_succ, List.set_cons_zero]; go_big_quiet_on) | (go_big_quiet_op; first | go_big_quiet_on | go_big_quiet_call ((go_at_call 40; exact cls_of (refReady_is (hrd' x hx) _ ha hf))))))
      refine wpQuiet_nil ?_
      rintro w1 ⟨s1, e1⟩
      have hb1 := wOf_below s1
      rw [← e1] at hb1
      clear e1 s1
      replace hck := hck.later hb1
      replace hin := hin.later hb1
      replace hB := bgo hB hb1
      clear hb1
      clear c1
      go_wp2
      go_roundw
      case rel => exact ⟨k + 1, by go_num, by omega, bgo hBr hB⟩
      case measure => simp [intOf]; omega
    · have hki : ¬ (k : Int) < (l.length : Int) := by omega
      have hr := H.out.2.1.later hBr
      have c0 := (H.out.2.2.2.later hBr).lies.cellIs 1 rfl
      go_wp2_with (refine wpL_storeAr (p := ac0) rfl _ _ rfl rfl rfl ac0_fit ac0_fit hr ?_)
      exact bodyPost_ret (v := .tuple #[.agg (acv ac0), .bool false]) (results_actB (fn := Tryd.f22) (p := 4) (u := 5) rfl rfl ac0_fit (hr.put _)) rfl ⟨rfl, below_row (bgo H.out.2.2.1 hBr) (by omega) _⟩
set_option maxHeartbeats 8000000 in
theorem refNext_some {R : Nat} {v : Value} {m : Int} {l : List Ac} {w : World} (hI : RbAt R v m l w) (hn : l.length ≤ 1000) {h : List Int} (ha : Ck h) {i0 : Nat} {y : Ac} (hy : l[i0]? = some y) (hyr : rdyC h y = true) (hno : ∀ j z, j < i0 → l[j]? = some z → rdyC h z = false) :
    Calls Tryd.prog 22 #[.pointer (some ⟨R, 0, none⟩), .agg (cv h)] w fun e w' => ∃ v', e = .returned (.tuple #[.agg (acv y), .bool true]) ∧ RbAt R v' m (l.take i0 ++ l.drop (i0 + 1)) w' ∧ At' w v v' ∧ Ch (rbS R v) w w' := by
  obtain ⟨h1, h2, hB⟩ := startN w (a := h) ha.1
  have hJ := hI.later hB
  obtain ⟨a9, c9, rfl, _⟩ := hI.row.form
  have H := hid_of' (And.intro h1 (And.intro h2 (And.intro hB hJ)))
  have HN := hid_of' (And.intro hI (And.intro hy (And.intro hyr hno)))
  have hi0 : i0 < l.length := (List.getElem?_eq_some_iff.1 hy).1
  clear hI hJ h1 h2 hB hno hy hyr
  go_enter Tryd.func22, Tryd.ntmps22
  go_upto_region 1 with fail
  rw [show (Obj.cells #[Value.int .i64 0, .int .i64 0, .int .i32 0, .int .i64 0, .int .i64 0, .int .i64 0, .int .i64 0, .int .i64 0, .int .i64 0, .int .i64 0, .int .i64 0, .int .i64 0, .int .i64 0] 48) = Obj.cells (acv ac0) 48 from rfl]
  generalize (w.alloc (.cells (cv h) 44)).alloc (.cells (acv ac0) 48) = W at H ⊢
  go_wp2
  go_loopw [6, 7] (fun i _ wr => ∃ k : Nat, i = .int .i64 (k : Int) ∧ k ≤ i0 ∧ Below W.heap.size W wr) (fun i _ _ => l.length - (intOf i).toNat)
  case atStart => exact ⟨0, rfl, by omega, Below.refl _ _⟩
  case round =>
    rename World => wr
    obtain ⟨k, rfl, hk, hBr⟩ := hrel
    have hlt : k < l.length := by omega
    by_cases hki0 : k < i0
    · have hrd' : ∀ z, l[k]? = some z → rdyC h z = false := fun z hz => HN.out.2.2.2 k z hki0 hz
      obtain ⟨x, hx⟩ : ∃ x, l[k]? = some x := ⟨_, List.getElem?_eq_getElem hlt⟩
      have hf := H.out.2.2.2.row.2.at hx
      have hRr := H.out.2.2.2.later hBr
      obtain ⟨g, o, c, hv, _⟩ := hRr.row.sl.pos (by omega)
      simp only [Value.slice.injEq, true_and] at hv
      obtain ⟨rfl, rfl⟩ := hv
      have hin := hRr.row.sl.in H.out.2.2.2.row.2 hx
      have hck := H.out.1.later hBr
      have hki : (k : Int) < (l.length : Int) := by omega
      have c0 := hRr.lies.cellIs 1 rfl
      have hB := Below.refl wr.heap.size wr
      go_upto_region 4 with fail
      clear c0
      have c1 := hRr.lies.cls 1 _ rfl
      refine wp_region_cls (by kernel_rfl) (by kernel_rfl) ?_
      repeat (first | go_big_quiet_skip | (go_big_quiet_want; first | (refine quiet_load_ck _ rfl rfl (cls_ck hck) ?_; simp only [Act.put, List.setIfInBounds_toArray, List.set_cons_succ, List.set_cons_zero]; go_big_quiet_on) | (refine quiet_act _ rfl rfl hf hin.cls ?_; simp only [Act.put, List.setIfInBounds_toArray, List.set_cons_succ, List.set_cons_zero]; go_big_quiet_on) | (go_big_quiet_op; first | go_big_quiet_on | go_big_quiet_call ((go_at_call 40; exact cls_of (refReady_is (hrd' x hx) _ ha hf))))))
      refine wpQuiet_nil ?_
      rintro w1 ⟨s1, e1⟩
      have hb1 := wOf_below s1
      rw [← e1] at hb1
      clear e1 s1
      replace hck := hck.later hb1
      replace hin := hin.later hb1
      replace hB := bgo hB hb1
      clear hb1
      clear c1
      go_wp2
      go_roundw
      case rel => exact ⟨k + 1, by go_num, by omega, bgo hBr hB⟩
      case measure => simp [intOf]; omega
    · obtain rfl : k = i0 := by omega
      clear hki0
      have hrd' : ∀ z, l[k]? = some z → rdyC h z = true := fun z hz => by have := HN.out.2.1; rw [hz] at this; cases this; exact HN.out.2.2.1
      obtain ⟨x, hx⟩ : ∃ x, l[k]? = some x := ⟨_, List.getElem?_eq_getElem hlt⟩
      have hf := H.out.2.2.2.row.2.at hx
      have hRr := H.out.2.2.2.later hBr
      obtain ⟨g, o, c, hv, _⟩ := hRr.row.sl.pos (by omega)
      simp only [Value.slice.injEq, true_and] at hv
      obtain ⟨rfl, rfl⟩ := hv
      have hin := hRr.row.sl.in H.out.2.2.2.row.2 hx
      have hck := H.out.1.later hBr
      have hki : (k : Int) < (l.length : Int) := by omega
      have c0 := hRr.lies.cellIs 1 rfl
      have hB := Below.refl wr.heap.size wr
      go_upto_region 4 with fail
      clear c0
      have c1 := hRr.lies.cls 1 _ rfl
      refine wp_region_cls (by kernel_rfl) (by kernel_rfl) ?_
      repeat (first | go_big_quiet_skip | (go_big_quiet_want; first | (refine quiet_load_ck _ rfl rfl (cls_ck hck) ?_; simp only [Act.put, List.setIfInBounds_toArray, List.set_cons_succ, List.set_cons_zero]; go_big_quiet_on) | (refine quiet_act _ rfl rfl hf hin.cls ?_; simp only [Act.put, List.setIfInBounds_toArray, List.set_cons_succ, List.set_cons_zero]; go_big_quiet_on) | (go_big_quiet_op; first | go_big_quiet_on | go_big_quiet_call ((go_at_call 40; exact cls_of (refReady_is (hrd' x hx) _ ha hf))))))
      refine wpQuiet_nil ?_
      rintro w1 ⟨s1, e1⟩
      have hb1 := wOf_below s1
      rw [← e1] at hb1
      clear e1 s1
      replace hck := hck.later hb1
      replace hin := hin.later hb1
      replace hB := bgo hB hb1
      clear hb1
      clear c1
      obtain rfl : y = x := Option.some.inj (HN.out.2.1.symm.trans hx)
      clear hrd'
      have hRr1 := hRr.later hB
      have c0 := hRr1.lies.cellIs 1 rfl
      go_upto_region 6 with (first | (refine wpL_loadA rfl _ rfl rfl hf hin ?_) | (refine wpL_storeAr (p := y) (q := ac0) rfl _ _ rfl rfl rfl hf ac0_fit (row_new w1 (acv ac0) _) ?_))
      clear c0
      obtain ⟨hb1, hb2⟩ := boxed_act w1 (x := y)
      rw [show (Obj.cells #[Value.int .i64 0, .int .i64 0, .int .i32 0, .int .i64 0, .int .i64 0, .int .i64 0, .int .i64 0, .int .i64 0, .int .i64 0, .int .i64 0, .int .i64 0, .int .i64 0, .int .i64 0] 48) = Obj.cells (acv ac0) 48 from rfl]
      have hBW := bgo (bgo hBr hB) hb2
      generalize (w1.alloc (.cells (acv ac0) 48)).setRow w1.heap.size (acv y) = w2 at hb1 hb2 hBW ⊢
      obtain ⟨xb, hxb⟩ : ∃ xb, w1.heap.size = xb := ⟨_, rfl⟩
      rw [hxb] at hb1 ⊢
      have hR2 := H.out.2.2.2.later hBW
      have ha2 := H.out.2.1.later hBW
      have hBw := bgo H.out.2.2.1 hBW
      obtain ⟨g', c9', hv9, hcap⟩ : ∃ g' c9', Value.slice (some ⟨g, o, none⟩) l.length c9 = .slice (some ⟨g', 0, none⟩) l.length c9' ∧ l.length ≤ c9' := by
        rcases hR2.row.1.2 with ⟨hv, h0⟩ | ⟨g', cap, cur, hv, hg, hnc, _⟩
        · cases hv
        · exact ⟨g', cap, hv, hnc⟩
      simp only [Value.slice.injEq, Option.some.injEq, Addr.mk.injEq, and_true, true_and] at hv9
      obtain ⟨⟨rfl, rfl⟩, rfl⟩ := hv9
      obtain ⟨N, hN⟩ : ∃ N, l.length = N := ⟨_, rfl⟩
      obtain ⟨i, hik⟩ : ∃ i, k = i := ⟨_, rfl⟩
      subst hik
      obtain ⟨j, hj⟩ : ∃ j, j = k + 1 := ⟨_, rfl⟩
      have hji : IntKind.i64.wrap ((k : Int) + 1) = (j : Int) := by rw [IntKind.wrap_i64]; omega
      obtain ⟨AD, hAD, hsrc⟩ : ∃ AD : Addr, (if c9 = j then some (⟨g, 0, none⟩ : Addr) else some ⟨g, j * 13, none⟩) = some AD ∧ ∀ X, Below w2.heap.size w2 X → SlC X (.slice (some AD) (N - j) (c9 - j)) (l.drop j) := by
        have hdl : (l.drop j).length = N - j := by rw [List.length_drop, hN]
        by_cases hc : c9 = j
        · refine ⟨_, by rw [if_pos hc], fun X _ => .inl ⟨List.eq_nil_of_length_eq_zero (by omega), ?_⟩⟩
          rw [show N - j = 0 by omega]
          exact ⟨_, _, rfl⟩
        · refine ⟨_, by rw [if_neg hc], fun X hb => .inr ⟨g, j * 13, _, by rw [hdl], ?_, fun q u hq => ?_⟩⟩
          · exact Nat.lt_of_lt_of_le (hR2.row.lt g rfl) hb.size
          · rw [← acells_drop _ hR2.row.2, List.getElem?_drop] at hq
            have h1 := hR2.row.1.cells _ _ hq
            rw [Nat.zero_add] at h1
            rw [hb.cell (p := ⟨g, j * 13 + q, none⟩) (hR2.row.lt g rfl)]
            exact h1
      have hs7 : ∀ X, Below w2.heap.size w2 X → SlC X (.slice (some ⟨g, 0, none⟩) k c9) (l.take k) := fun X hb => by
        have htl : (l.take k).length = k := by rw [List.length_take]; omega
        refine .inr ⟨g, 0, c9, by rw [htl], Nat.lt_of_lt_of_le (hR2.row.lt g rfl) hb.size, fun q u hq => ?_⟩
        have hsp : acells l = acells (l.take k) ++ acells (l.drop k) := by rw [← acells_app, List.take_append_drop]
        have h1 := hR2.row.1.cells q u (by rw [hsp, List.getElem?_append_left (List.getElem?_eq_some_iff.1 hq).1]; exact hq)
        rw [hb.cell (p := ⟨g, 0 + q, none⟩) (hR2.row.lt g rfl)]
        exact h1
      have HS7 := hid_of' hs7
      have HS15 := hid_of' hsrc
      have HF := hid_of' H.out.2.2.2.row.2
      have H6 := hid_of' (And.intro hR2.lies (And.intro hb1 (And.intro ha2 hBw)))
      have hln : (l.take k).length + (l.drop j).length ≤ 1000000 := by rw [List.length_take, List.length_drop]; omega
      have k1 : 0 ≤ (k : Int) := by omega
      have k2 : (k : Int) ≤ (c9 : Int) := by omega
      have k3 : (j : Int) ≤ (N : Int) := by omega
      have k7 : 0 ≤ (j : Int) := by omega
      have n3 : j ≤ N := by omega
      have n7 : k ≤ c9 := by omega
      have HJ := hid_of' (And.intro hj hN)
      have hxbw : w.heap.size + 1 < xb := by have := H.out.2.1.lt; have := hBr.size; have := hB.size; omega
      have hRw := HN.out.1.lies.lt
      rw [hN]
      clear hs7 hsrc hR2 hb1 ha2 hBw hj hx hin hRr hRr1 hN hBW hb2 hck hB hBr
      go_upto_region 6 with fail
      refine wp_region_onceD 17 (by kernel_rfl) (fun _ => none) (by kernel_rfl) (by kernel_rfl) (by decide) (fun ii u X => match ii with
        | 0 => u = .pointer (some ⟨R, 0, none⟩)
        | 1 => ∃ g, u = .slice (some ⟨g, 0, none⟩) 0 0 ∧ w2.heap.size ≤ g ∧ X.heap[g]? = some (.cells #[] 48 (0, 0))
        | 2 => u = .pointer (some ⟨R, 0, none⟩)
        | 3 => u = .pointer (some ⟨R, 0, none⟩)
        | 4 => u = .pointer (some ⟨R, 1, none⟩)
        | 5 => u = .slice (some ⟨g, 0, none⟩) N c9
        | 6 => u = .int .i64 (k : Int)
        | 7 => u = .slice (some ⟨g, 0, none⟩) k c9
        | 8 => OwnA u (l.take k) X ∧ NewB w2 u
        | 9 => u = .pointer (some ⟨R, 0, none⟩)
        | 10 => u = .pointer (some ⟨R, 0, none⟩)
        | 11 => u = .pointer (some ⟨R, 1, none⟩)
        | 12 => u = .slice (some ⟨g, 0, none⟩) N c9
        | 13 => u = .int .i64 (k : Int)
        | 14 => u = .int .i64 (j : Int)
        | 15 => u = .slice (some AD) (N - j) (c9 - j)
        | 16 => OwnA u (l.take k ++ l.drop j) X ∧ NewB w2 u
        | _ => True) (fun _ => false) (fun k => k == 0 || k == 16) (fun _ h => absurd rfl h) (fun _ _ _ _ h => by cases h) 16 (by decide) (fun a b => Below a.heap.size a b) (fun a b => Below (w2.heap.size) a b) (fun _ _ g h => g.trans (h.mono g.size)) (fun _ h => h) (fun _ _ h g => ⟨g.os.trans h.os, g.tape.trans h.tape, g.output.trans h.output, Nat.le_trans h.size g.size, fun k hk => (g.block k hk).trans (h.block k hk)⟩) (fun _ _ g => g.size) ?_ ?_ ?_ ?_
      · intro ii u X X' hR hb
        match ii, hR with
        | 0, h => exact h
        | 1, h => exact (by obtain ⟨g, h1, h2, h3⟩ := h; exact ⟨g, h1, h2, (hb.block g (Array.getElem?_eq_some_iff.1 h3).1).trans h3⟩)
        | 2, h => exact h
        | 3, h => exact h
        | 4, h => exact h
        | 5, h => exact h
        | 6, h => exact h
        | 7, h => exact h
        | 8, h => exact ⟨h.1.later hb, h.2⟩
        | 9, h => exact h
        | 10, h => exact h
        | 11, h => exact h
        | 12, h => exact h
        | 13, h => exact h
        | 14, h => exact h
        | 15, h => exact h
        | 16, h => exact ⟨h.1.later hb, h.2⟩
        | m + 17, h => exact h
      · intro ii u X X' hne hD hR hb
        match ii, hne, hD, hR with
        | 0, hne, hD, h => exact h
        | 1, hne, hD, h => cases hD
        | 2, hne, hD, h => cases hD
        | 3, hne, hD, h => cases hD
        | 4, hne, hD, h => cases hD
        | 5, hne, hD, h => cases hD
        | 6, hne, hD, h => cases hD
        | 7, hne, hD, h => cases hD
        | 8, hne, hD, h => cases hD
        | 9, hne, hD, h => cases hD
        | 10, hne, hD, h => cases hD
        | 11, hne, hD, h => cases hD
        | 12, hne, hD, h => cases hD
        | 13, hne, hD, h => cases hD
        | 14, hne, hD, h => cases hD
        | 15, hne, hD, h => cases hD
        | 16, hne, hD, h => exact absurd rfl hne
        | m + 17, _, _, h => exact h
      · intro ii o hi ho q X vals hX hC hdep hoth
        have t0 : q.tmps[0]? = some (.pointer (some ⟨R, 0, none⟩)) := by rw [hoth 0 (by kernel_rfl)]; rfl
        have t6 : q.tmps[6]? = some (.int .i64 (k : Int)) := by rw [hoth 6 (by kernel_rfl)]; rfl
        match ii, hi, ho, hC with
        | 0, _, ho, hC =>
          simp only [List.getElem?_cons_zero, Option.some.injEq] at ho
          subst ho
          unfold Oper.wp
          simp [execOp, go_sem, t0]
          exact cameB _ rfl (by decide) (Below.refl _ _) rfl (fun h => absurd h (by decide))
        | 1, _, ho, hC =>
          simp only [List.getElem?_cons_succ, List.getElem?_cons_zero, Option.some.injEq] at ho
          subst ho
          refine opw_none0 rfl ?_
          exact cameB _ rfl (by decide) (below_one _ _) ⟨X.heap.size, rfl, hX.size, heap_alloc_last X _⟩ (fun h => absurd h (by decide))
        | 2, _, ho, hC =>
          simp only [List.getElem?_cons_succ, List.getElem?_cons_zero, Option.some.injEq] at ho
          subst ho
          unfold Oper.wp
          simp [execOp, go_sem, t0]
          exact cameB _ rfl (by decide) (Below.refl _ _) rfl (fun h => absurd h (by decide))
        | 3, _, ho, hC =>
          simp only [List.getElem?_cons_succ, List.getElem?_cons_zero, Option.some.injEq] at ho
          subst ho
          obtain ⟨u2, e2⟩ := hdep ⟨2, .data⟩ (by simp) rfl _ 35 rfl rfl
          replace e2 := e2 (.inr (.inr (by kernel_rfl)))
          rw [show vals 2 = .pointer (some ⟨R, 0, none⟩) from e2] at u2
          unfold Oper.wp
          simp [execOp, go_sem, u2]
          exact cameB _ rfl (by decide) (Below.refl _ _) rfl (fun h => absurd h (by decide))
        | 4, _, ho, hC =>
          simp only [List.getElem?_cons_succ, List.getElem?_cons_zero, Option.some.injEq] at ho
          subst ho
          obtain ⟨u3, e3⟩ := hdep ⟨3, .data⟩ (by simp) rfl _ 36 rfl rfl
          replace e3 := e3 (.inr (.inr (by kernel_rfl)))
          rw [show vals 3 = .pointer (some ⟨R, 0, none⟩) from e3] at u3
          unfold Oper.wp
          simp [execOp, go_sem, u3]
          exact cameB _ rfl (by decide) (Below.refl _ _) rfl (fun h => absurd h (by decide))
        | 5, _, ho, hC =>
          simp only [List.getElem?_cons_succ, List.getElem?_cons_zero, Option.some.injEq] at ho
          subst ho
          obtain ⟨u4, e4⟩ := hdep ⟨4, .data⟩ (by simp) rfl _ 37 rfl rfl
          replace e4 := e4 (.inr (.inr (by kernel_rfl)))
          rw [show vals 4 = .pointer (some ⟨R, 1, none⟩) from e4] at u4
          have cc : X.cell? ⟨R, 1, none⟩ = some (.slice (some ⟨g, 0, none⟩) N c9) := by rw [← HJ.out.2]; exact (H6.out.1.later hX).cellIs 1 rfl
          unfold Oper.wp
          simp [execOp, go_sem, u4, cc]
          exact cameB _ rfl (by decide) (Below.refl _ _) rfl (fun h => absurd h (by decide))
        | 6, _, ho, hC =>
          simp only [List.getElem?_cons_succ, List.getElem?_cons_zero, Option.some.injEq] at ho
          subst ho
          unfold Oper.wp
          simp [execOp, go_sem, t6]
          exact cameB _ rfl (by decide) (Below.refl _ _) rfl (fun h => absurd h (by decide))
        | 7, _, ho, hC =>
          simp only [List.getElem?_cons_succ, List.getElem?_cons_zero, Option.some.injEq] at ho
          subst ho
          obtain ⟨u5, e5⟩ := hdep ⟨5, .data⟩ (by simp) rfl _ 38 rfl rfl
          replace e5 := e5 (.inr (.inr (by kernel_rfl)))
          rw [show vals 5 = .slice (some ⟨g, 0, none⟩) N c9 from e5] at u5
          obtain ⟨u6, e6⟩ := hdep ⟨6, .data⟩ (by simp) rfl _ 39 rfl rfl
          replace e6 := e6 (.inr (.inr (by kernel_rfl)))
          rw [show vals 6 = .int .i64 (k : Int) from e6] at u6
          unfold Oper.wp
          simp [execOp, go_sem, u5, u6, k1, k2]
          exact cameB _ rfl (by decide) (Below.refl _ _) rfl (fun h => absurd h (by decide))
        | 8, _, ho, hC =>
          simp only [List.getElem?_cons_succ, List.getElem?_cons_zero, Option.some.injEq] at ho
          subst ho
          obtain ⟨u1, e1⟩ := hdep ⟨1, .data⟩ (by simp) rfl _ 34 rfl rfl
          replace e1 := e1 (.inr (.inr (by kernel_rfl)))
          obtain ⟨u7, e7⟩ := hdep ⟨7, .data⟩ (by simp) rfl _ 40 rfl rfl
          replace e7 := e7 (.inr (.inr (by kernel_rfl)))
          rw [show vals 7 = .slice (some ⟨g, 0, none⟩) k c9 from e7] at u7
          obtain ⟨g1, e1, hg1, hc1⟩ : ∃ g, vals 1 = .slice (some ⟨g, 0, none⟩) 0 0 ∧ w2.heap.size ≤ g ∧ X.heap[g]? = some (.cells #[] 48 (0, 0)) := e1
          rw [e1] at u1
          refine opw_app0 _ _ rfl (by simp [Act.eval, u1]) (by simp [Act.eval, u7]) hc1 (HS7.out X hX) (HF.out.take k) (by rw [List.length_take]; omega) ?_
          intro v' X' q1 q2 q3
          exact cameB _ rfl (by decide) q2 ⟨q1, fun k hk => (q3 k hk).elim (fun e => by omega) (fun q => Nat.le_trans hX.size q)⟩ (fun h => absurd h (by decide))
        | 9, _, ho, hC =>
          simp only [List.getElem?_cons_succ, List.getElem?_cons_zero, Option.some.injEq] at ho
          subst ho
          unfold Oper.wp
          simp [execOp, go_sem, t0]
          exact cameB _ rfl (by decide) (Below.refl _ _) rfl (fun h => absurd h (by decide))
        | 10, _, ho, hC =>
          simp only [List.getElem?_cons_succ, List.getElem?_cons_zero, Option.some.injEq] at ho
          subst ho
          obtain ⟨u9, e9⟩ := hdep ⟨9, .data⟩ (by simp) rfl _ 42 rfl rfl
          replace e9 := e9 (.inr (.inr (by kernel_rfl)))
          rw [show vals 9 = .pointer (some ⟨R, 0, none⟩) from e9] at u9
          unfold Oper.wp
          simp [execOp, go_sem, u9]
          exact cameB _ rfl (by decide) (Below.refl _ _) rfl (fun h => absurd h (by decide))
        | 11, _, ho, hC =>
          simp only [List.getElem?_cons_succ, List.getElem?_cons_zero, Option.some.injEq] at ho
          subst ho
          obtain ⟨u10, e10⟩ := hdep ⟨10, .data⟩ (by simp) rfl _ 43 rfl rfl
          replace e10 := e10 (.inr (.inr (by kernel_rfl)))
          rw [show vals 10 = .pointer (some ⟨R, 0, none⟩) from e10] at u10
          unfold Oper.wp
          simp [execOp, go_sem, u10]
          exact cameB _ rfl (by decide) (Below.refl _ _) rfl (fun h => absurd h (by decide))
        | 12, _, ho, hC =>
          simp only [List.getElem?_cons_succ, List.getElem?_cons_zero, Option.some.injEq] at ho
          subst ho
          obtain ⟨u11, e11⟩ := hdep ⟨11, .data⟩ (by simp) rfl _ 44 rfl rfl
          replace e11 := e11 (.inr (.inr (by kernel_rfl)))
          rw [show vals 11 = .pointer (some ⟨R, 1, none⟩) from e11] at u11
          have cc : X.cell? ⟨R, 1, none⟩ = some (.slice (some ⟨g, 0, none⟩) N c9) := by rw [← HJ.out.2]; exact (H6.out.1.later hX).cellIs 1 rfl
          unfold Oper.wp
          simp [execOp, go_sem, u11, cc]
          exact cameB _ rfl (by decide) (Below.refl _ _) rfl (fun h => absurd h (by decide))
        | 13, _, ho, hC =>
          simp only [List.getElem?_cons_succ, List.getElem?_cons_zero, Option.some.injEq] at ho
          subst ho
          unfold Oper.wp
          simp [execOp, go_sem, t6]
          exact cameB _ rfl (by decide) (Below.refl _ _) rfl (fun h => absurd h (by decide))
        | 14, _, ho, hC =>
          simp only [List.getElem?_cons_succ, List.getElem?_cons_zero, Option.some.injEq] at ho
          subst ho
          obtain ⟨u13, e13⟩ := hdep ⟨13, .data⟩ (by simp) rfl _ 46 rfl rfl
          replace e13 := e13 (.inr (.inr (by kernel_rfl)))
          rw [show vals 13 = .int .i64 (k : Int) from e13] at u13
          unfold Oper.wp
          simp [execOp, go_sem, u13, hji]
          exact cameB _ rfl (by decide) (Below.refl _ _) rfl (fun h => absurd h (by decide))
        | 15, _, ho, hC =>
          simp only [List.getElem?_cons_succ, List.getElem?_cons_zero, Option.some.injEq] at ho
          subst ho
          obtain ⟨u12, e12⟩ := hdep ⟨12, .data⟩ (by simp) rfl _ 45 rfl rfl
          replace e12 := e12 (.inr (.inr (by kernel_rfl)))
          rw [show vals 12 = .slice (some ⟨g, 0, none⟩) N c9 from e12] at u12
          obtain ⟨u14, e14⟩ := hdep ⟨14, .data⟩ (by simp) rfl _ 47 rfl rfl
          replace e14 := e14 (.inr (.inr (by kernel_rfl)))
          rw [show vals 14 = .int .i64 (j : Int) from e14] at u14
          unfold Oper.wp
          simp [execOp, go_sem, u12, u14, k3, k7, hAD]
          exact cameB _ rfl (by decide) (Below.refl _ _) rfl (fun h => absurd h (by decide))
        | 16, _, ho, hC =>
          simp only [List.getElem?_cons_succ, List.getElem?_cons_zero, Option.some.injEq] at ho
          subst ho
          obtain ⟨u8, e8⟩ := hdep ⟨8, .data⟩ (by simp) rfl _ 41 rfl rfl
          replace e8 := e8 (.inr (.inl rfl))
          obtain ⟨u15, e15⟩ := hdep ⟨15, .data⟩ (by simp) rfl _ 48 rfl rfl
          replace e15 := e15 (.inr (.inl rfl))
          rw [show vals 15 = .slice (some AD) (N - j) (c9 - j) from e15] at u15
          obtain ⟨q8, n8⟩ : OwnA (vals 8) (l.take k) X ∧ NewB w2 (vals 8) := e8
          have hb := hC (.inl rfl)
          refine opw_appA _ _ rfl (by simp [Act.eval, u8]) (by simp [Act.eval, u15]) q8 (HS15.out X hb) (HF.out.drop j) hln ?_
          intro v' X' p1 p2 p3
          exact cameX _ rfl (newB_grow n8 p2 hb.size) ⟨p1, newB_at n8 p3 hb.size⟩ rfl
        | m + 17, hi, _, _ => exact absurd hi (by omega)
      · intro vals X hX hR _
        have e0 : vals 0 = .pointer (some ⟨R, 0, none⟩) := hR 0 (by decide) rfl
        obtain ⟨p1, n9⟩ : OwnA (vals 16) (l.take k ++ l.drop j) X ∧ NewB w2 (vals 16) := hR 16 (by decide) rfl
        obtain ⟨xa, xc, e9, _, _⟩ := p1.form
        obtain ⟨M, hM⟩ : ∃ M, (l.take k ++ l.drop j).length = M := ⟨_, rfl⟩
        rw [hM] at e9
        rw [e9] at p1 n9
        have hR5 := H6.out.1.later hX
        have c5 := hR5.cellIs 1 rfl
        have f5 := hR5.froz 1
        have hx5 := H6.out.2.1.later hX
        have ha5 := H6.out.2.2.1.later hX
        have hb5 := bgo H6.out.2.2.2 hX
        have s5 := ch_cell (w := X) (b := R) (k := 1) (.slice xa M xc)
        have hs2 := H6.out.2.2.2.size
        have hxy : ¬ xb = R := by omega
        have HX := hid_of' (And.intro (p1.ch s5 (fun k hk e => by have := n9 k hk; omega)) (And.intro n9 (And.intro (hR5.setc 1 (.slice xa M xc)) (And.intro ((Ch.of (S := rbS R (.slice (some ⟨g, 0, none⟩) l.length c9)) hb5).set (p := ⟨R, 1, none⟩) (.inl (.inl rfl)) (.slice xa M xc)) (And.intro (hx5.ch s5 hxy) (ha5.ch s5 (by omega)))))))
        clear hR p1 n9 hX hR5 hb5 hx5 ha5 s5 hM
        simp only [List.drop, List.take, putAll, e0, e9]
        clear e0 e9
        go_upto_region 7 with fail
        clear c5 f5
        generalize X.setCell ⟨R, 1, none⟩ (.slice xa M xc) = X2 at HX ⊢
        have hx6 := HX.out.2.2.2.2.1
        have ha6 := HX.out.2.2.2.2.2
        go_wp2_with (first | (refine wpL_loadA rfl _ rfl rfl hf hx6.in ?_) | (refine wpL_storeAr (p := y) (q := ac0) rfl _ _ rfl rfl rfl hf ac0_fit ha6 ?_))
        have s7 : Ch (fun k => k = w.heap.size + 1) X2 (X2.setRow (w.heap.size + 1) (acv y)) := Ch.row (S := fun k => k = w.heap.size + 1) (Ch.refl _ X2) (.inl rfl) _
        refine bodyPost_ret (v := .tuple #[.agg (acv y), .bool true]) (results_actB (fn := Tryd.f22) (p := 4) (u := 5) rfl rfl hf (ha6.put _)) rfl ⟨.slice xa M xc, rfl, ⟨HX.out.2.2.1.ch s7 (by omega), ?_⟩, fun q hq => .inr (by have := HX.out.2.1 q hq; omega), HX.out.2.2.2.1.go s7 (fun q hq => .inr (by omega))⟩
        have := HX.out.1.ch s7 (fun q hq => by have := HX.out.2.1 q hq; show ¬ q = w.heap.size + 1; have := H6.out.2.1.lt; omega)
        rw [HJ.out.1] at this
        exact this
end Go.Proofs.YtlgdaaofpjpobaaDoor
