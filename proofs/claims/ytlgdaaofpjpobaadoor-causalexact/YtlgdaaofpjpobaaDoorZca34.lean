
/-
  Package causal: Sweep.
-/
import Derived.Test.YtlgdaaofpjpobaaDoorZca33
namespace Go.Proofs.YtlgdaaofpjpobaaDoor
open Go.RowKit Go.Maps
set_option maxRecDepth 100000

theorem swp_len (h : List Int) (l : List Ac) : (swp h l).length ≤ l.length := List.length_filter_le _ _
theorem swp_next {h : List Int} {l : List Ac} {k : Nat} {x : Ac} (hx : l[k]? = some x) : swp h (l.take (k + 1)) = if hasA h x = true then swp h (l.take k) else swp h (l.take k) ++ [x] := by
  unfold swp
  rw [take_next hx, List.filter_append]
  cases hh : hasA h x <;> simp [hh]
theorem names_swept {h : List Int} {l : List Ac} (hp : l.Pairwise fun x y => ¬ x.one y) {k : Nat} {x : Ac} (hx : l[k]? = some x) (a b : Int) : delS (namesOf (swp h (l.take k) ++ l.drop k)) x.rep x.num a b = namesOf (swp h (l.take k) ++ l.drop (k + 1)) a b := by
  have hd := drop_at hx
  have hsub : (swp h (l.take k) ++ l.drop k).Sublist l := by
    have : (swp h (l.take k) ++ l.drop k).Sublist (l.take k ++ l.drop k) := List.Sublist.append (List.filter_sublist (p := fun x => !hasA h x)) (List.Sublist.refl _)
    rwa [List.take_append_drop] at this
  have hi : (swp h (l.take k) ++ l.drop k)[(swp h (l.take k)).length]? = some x := by
    rw [List.getElem?_append_right (Nat.le_refl _), hd]; simp
  have := names_del (hp.sublist hsub) hi a b
  rw [this]
  congr 1
  rw [List.take_left]
  congr 1
  rw [List.drop_append, List.drop_of_length_le (by omega), List.nil_append, hd]
  simp
set_option maxHeartbeats 8000000 in
theorem sweep_ok {B : Nat} {v : Value} {kb n : Nat} {m : Int} {l : List Ac} {w : World} (hI : IbAt B v kb n m l w) {h : List Int} (ha : Ck h) :
    Calls Tryd.prog 23 #[.pointer (some ⟨B, 0, none⟩), .agg (cv h)] w fun e w' => ∃ v', e = .returned (.int .i64 ((l.length : Int) - ((swp h l).length : Int))) ∧ IbAt B v' kb n m (swp h l) w' ∧ At' w v v' ∧ Ch (ibS B v kb) w w' := by
  have hB0 := below_one w (.cells (cv h) 44)
  have hJ := hI.later hB0
  obtain ⟨a9, c9, rfl, _⟩ := hI.slice
  have hl : l.length ≤ 256 := by have := hI.room; have := hI.most; omega
  have c1 := hJ.lies.cellIs 1 rfl
  have H := hid_of' (And.intro (CkAt.new w ha.1) (And.intro hJ (And.intro hB0 hI)))
  clear hI hJ hB0
  go_enter Tryd.func23, Tryd.ntmps23
  go_upto_region 1 with fail
  generalize w.alloc (.cells (cv h) 44) = W at H c1 ⊢
  go_wp2
  clear c1
  go_loopw [5, 7, 14] (fun s _ i wr => ∃ k : Nat, i = .int .i64 (k : Int) ∧ k ≤ l.length ∧ OwnA s (swp h (l.take k)) wr ∧ NewB W s ∧ MpS kb n (namesOf (swp h (l.take k) ++ l.drop k)) wr ∧ Ch (fun b => b = kb) W wr) (fun _ _ i _ => l.length - (intOf i).toNat)
  case atStart => exact ⟨0, rfl, by omega, by simpa [swp] using OwnA.nil _, newB_nil _, by simpa [swp] using H.out.2.1.map, Ch.refl _ _⟩
  case round =>
    rename World => wr
    obtain ⟨k, rfl, hk, hown, hnew, hmap, hCh⟩ := hrel
    obtain ⟨ua, uc, hu5, _, _⟩ := hown.form
    subst hu5
    have hkv := H.out.2.1.neV
    have hkB := H.out.2.1.neB
    have hrowr := H.out.2.1.row.ch hCh (fun b hb e => (hkv b hb).1 e.symm)
    have hlies := H.out.2.1.lies.ch hCh (fun e => hkB e.symm)
    have hckr : CkAt w.heap.size h wr := ⟨hCh.heap H.out.1.1 (fun e => by have := H.out.2.2.2.map.lt; omega), H.out.1.2⟩
    by_cases hlt : k < l.length
    · have hki : (k : Int) < (l.length : Int) := by omega
      obtain ⟨x, hx⟩ : ∃ x, l[k]? = some x := ⟨_, List.getElem?_eq_getElem hlt⟩
      have hxf := H.out.2.1.row.2.at hx
      have hxr : fitsI x.rep := H.out.2.1.full x (List.mem_of_getElem? hx)
      obtain ⟨g, o, c2, hv, _⟩ := hrowr.sl.pos (by omega)
      simp only [Value.slice.injEq, true_and] at hv
      obtain ⟨rfl, rfl⟩ := hv
      have hin := hrowr.sl.in H.out.2.1.row.2 hx
      have hsl := swp_len h (l.take k)
      have hslk : (l.take k).length ≤ k := by rw [List.length_take]; omega
      have HX := hid_of' (And.intro hx (And.intro hown (And.intro hnew (And.intro hmap (And.intro hCh hlies)))))
      have hln : (swp h (l.take k)).length + [x].length ≤ 1000000 := by simp only [List.length_singleton]; omega
      have HN := hid_of' (swp_next (h := h) hx)
      generalize hskk : swp h (l.take k) = sk at HX HN hln ⊢
      have HSK := hid_of' hskk.symm
      clear hskk
      clear hx hown hnew hmap hCh hlies hrowr hsl hslk
      go_upto_region 5 with (first | (refine wpL_loadA rfl _ rfl rfl hxf hin ?_) | (refine wpL_storeAr (p := x) (q := ac0) rfl _ _ rfl rfl rfl hxf ac0_fit (row_new wr (acv ac0) _) ?_))
      obtain ⟨hb1, hb2⟩ := boxed_act wr (x := x)
      rw [show (Obj.cells #[Value.int .i64 0, .int .i64 0, .int .i32 0, .int .i64 0, .int .i64 0, .int .i64 0, .int .i64 0, .int .i64 0, .int .i64 0, .int .i64 0, .int .i64 0, .int .i64 0, .int .i64 0] 48) = Obj.cells (acv ac0) 48 from rfl]
      generalize (wr.alloc (.cells (acv ac0) 48)).setRow wr.heap.size (acv x) = w2 at hb1 hb2 ⊢
      have hck2 := hckr.later hb2
      have hkbw : kb < W.heap.size := H.out.2.1.map.lt
      have hsW := HX.out.2.2.2.2.1.size
      obtain ⟨xb, hxb⟩ : ∃ xb, wr.heap.size = xb := ⟨_, rfl⟩
      have hxbk : ¬ xb = kb := by omega
      cases hha : hasA h x
      · have HH := hid_of' (hasA_is hha w2 ha.1)
        rw [hxb] at hb1 ⊢
        go_upto_region 8 with (first | (refine wpL_load rfl _ rfl rfl hck2 ?_) | (go_at_call 34; refine HH.out.mono ?_; rintro e w3 ⟨rfl, hb3⟩; clear HH) | (refine wpL_loadA rfl _ rfl rfl hxf hb1.in ?_) | (refine wpL_loadA rfl _ rfl rfl hxf (hb1.later hb3).in ?_) | (refine wpList_plain rfl fun _ hK => opw_oneA (p := x) _ rfl rfl hxf ?_; refine hK _ _ ?_) | (at_builtin; refine wpL_appA rfl _ _ rfl rfl rfl (((HX.out.2.1.later hb2).later hb3).later (below_one w3 (.cells (acv x) 48))) (slC_new w3 x 1) (AFit.one hxf) hln ?_; intro v5 w5 q1 q2 q3))
        have hbb := bgo (bgo hb2 hb3) (below_one w3 (.cells (acv x) 48))
        have hs3 := hbb.size
        have hn5 : NewB W v5 := newB_at HX.out.2.2.1 q3 (by omega)
        have hm5 : MpS kb n (namesOf (sk ++ l.drop k)) w5 := (HX.out.2.2.2.1.later hbb).ch (grown_ch q2) (fun e => by have := HX.out.2.2.1 kb e; omega)
        have hc5 : Ch (fun b => b = kb) W w5 := (HX.out.2.2.2.2.1.later hbb).grown q2 (fun b hb => .inr (HX.out.2.2.1 b hb))
        have HZ := hid_of' (And.intro q1 (And.intro hn5 (And.intro hm5 hc5)))
        clear q1 q2 q3 hbb hn5 hm5 hc5
        go_wp2
        go_roundw
        case rel => exact ⟨k + 1, by go_num, by omega, by rw [HN.out, if_neg (by rw [hha]; decide)]; exact HZ.out.1, HZ.out.2.1, by
          rw [HN.out, if_neg (by rw [hha]; decide), List.append_assoc]
          have := HZ.out.2.2.1
          rw [drop_at HX.out.1] at this
          exact this, HZ.out.2.2.2⟩
        case measure => simp [intOf]; omega
      · have HH := hid_of' (hasA_is hha w2 ha.1)
        rw [hxb] at hb1 ⊢
        go_upto_region 6 with (first | (refine wpL_load rfl _ rfl rfl hck2 ?_) | (go_at_call 34; refine HH.out.mono ?_; rintro e w3 ⟨rfl, hb3⟩; clear HH) | (refine wpL_loadA rfl _ rfl rfl hxf hb1.in ?_))
        have hbb := bgo hb2 hb3
        have H5 := hid_of' (And.intro (HX.out.2.2.2.2.2.later hbb) (And.intro (hb1.later hb3) (HX.out.2.2.2.1.later hbb)))
        have HB3 := hid_of' hbb
        clear hbb hb1 hck2
        refine wp_region_tail 6 (by kernel_rfl) (fun _ => none) (by kernel_rfl) (by kernel_rfl) (by decide) (fun ii u X => match ii with
          | 0 => u = .pointer (some ⟨B, 0, none⟩)
          | 1 => u = .pointer (some ⟨B, 0, none⟩)
          | 2 => u = .pointer (some ⟨B, 2, none⟩)
          | 3 => u = .map (some kb)
          | 4 => u = .agg (acv x)
          | 5 => u = .agg (nmc x.rep x.num)
          | _ => True) (fun _ => false) (fun _ _ _ _ h => by cases h) ?_ ?_ ?_
        · intro ii u X X' hR hb
          match ii, hR with
          | 0, h => exact h
          | 1, h => exact h
          | 2, h => exact h
          | 3, h => exact h
          | 4, h => exact h
          | 5, h => exact h
          | m + 6, h => exact h
        · intro ii o hi ho q X vals hX hdep hoth
          have t0 : q.tmps[0]? = some (.pointer (some ⟨B, 0, none⟩)) := by rw [hoth 0 (by kernel_rfl)]; rfl
          have t7 : q.tmps[7]? = some (.pointer (some ⟨xb, 0, none⟩)) := by rw [hoth 7 (by kernel_rfl)]; rfl
          match ii, hi, ho with
          | 0, _, ho =>
            simp only [List.getElem?_cons_zero, Option.some.injEq] at ho
            subst ho
            unfold Oper.wp
            simp [execOp, go_sem, t0]
            exact came _ rfl (Below.refl _ _) rfl (fun h => absurd h (by decide))
          | 1, _, ho =>
            simp only [List.getElem?_cons_succ, List.getElem?_cons_zero, Option.some.injEq] at ho
            subst ho
            obtain ⟨u0, e0⟩ := hdep ⟨0, .data⟩ (by simp) rfl _ 21 rfl rfl
            rw [show vals 0 = .pointer (some ⟨B, 0, none⟩) from e0] at u0
            unfold Oper.wp
            simp [execOp, go_sem, u0]
            exact came _ rfl (Below.refl _ _) rfl (fun h => absurd h (by decide))
          | 2, _, ho =>
            simp only [List.getElem?_cons_succ, List.getElem?_cons_zero, Option.some.injEq] at ho
            subst ho
            obtain ⟨u1, e1⟩ := hdep ⟨1, .data⟩ (by simp) rfl _ 22 rfl rfl
            rw [show vals 1 = .pointer (some ⟨B, 0, none⟩) from e1] at u1
            unfold Oper.wp
            simp [execOp, go_sem, u1]
            exact came _ rfl (Below.refl _ _) rfl (fun h => absurd h (by decide))
          | 3, _, ho =>
            simp only [List.getElem?_cons_succ, List.getElem?_cons_zero, Option.some.injEq] at ho
            subst ho
            obtain ⟨u2, e2⟩ := hdep ⟨2, .data⟩ (by simp) rfl _ 23 rfl rfl
            rw [show vals 2 = .pointer (some ⟨B, 2, none⟩) from e2] at u2
            have cc : X.cell? ⟨B, 2, none⟩ = some (.map (some kb)) := (H5.out.1.later hX).cellIs 2 rfl
            unfold Oper.wp
            simp [execOp, go_sem, u2, cc]
            exact came _ rfl (Below.refl _ _) rfl (fun h => absurd h (by decide))
          | 4, _, ho =>
            simp only [List.getElem?_cons_succ, List.getElem?_cons_zero, Option.some.injEq] at ho
            subst ho
            exact opw_loadA _ rfl (by simp [Act.eval, t7]) hxf (H5.out.2.1.later hX).in (came _ rfl (Below.refl _ _) rfl (fun h => absurd h (by decide)))
          | 5, _, ho =>
            simp only [List.getElem?_cons_succ, List.getElem?_cons_zero, Option.some.injEq] at ho
            subst ho
            obtain ⟨u4, e4⟩ := hdep ⟨4, .data⟩ (by simp) rfl _ 25 rfl rfl
            rw [show vals 4 = .agg (acv x) from e4] at u4
            unfold Oper.wp
            simp [go_sem, u4]
            refine (nameOf_is x X).mono ?_
            rintro r X1 ⟨rfl, hb1⟩
            exact came _ rfl hb1 rfl (fun h => absurd h (by decide))
          | m + 6, hi, _ => exact absurd hi (by omega)
        · intro vals X hX hR _
          have e3 : vals 3 = .map (some kb) := hR 3 (by decide)
          have e5 : vals 5 = .agg (nmc x.rep x.num) := hR 5 (by decide)
          have HXX := hid_of' (And.intro hX (H5.out.2.2.later hX))
          clear hR hX
          simp only [List.drop, List.take, putAll, List.setIfInBounds_toArray, List.set_cons_succ, List.set_cons_zero, e3, e5]
          clear e3 e5
          go_upto_region 8 with (refine wpL_delS rfl (.tmp 24) (.tmp 26) rfl rfl rfl HXX.out.2 hxr hxf.2 ?_; intro w6 hm6 hg6)
          have hbX := bgo HB3.out HXX.out.1
          have ho6 := (HX.out.2.1.later hbX).ch (grown_ch hg6) (fun b hb e => by have := HX.out.2.2.1 b hb; have := Option.some.inj e; omega)
          have hc6 : Ch (fun b => b = kb) W w6 := (HX.out.2.2.2.2.1.later hbX).grown hg6 (fun b hb => .inl (Option.some.inj hb).symm)
          have HZ := hid_of' (And.intro ho6 (And.intro hm6 hc6))
          clear ho6 hm6 hc6 hbX hg6
          go_wp2
          go_roundw
          case rel => exact ⟨k + 1, by go_num, by omega, by rw [HN.out, if_pos hha]; exact HZ.out.1, HX.out.2.2.1, by
            rw [HN.out, if_pos hha]
            refine HZ.out.2.1.eq (fun a b _ _ => ?_)
            have hsk : sk = swp h (l.take k) := HSK.out
            rw [hsk]
            exact names_swept H.out.2.1.apart HX.out.1 a b, HZ.out.2.2⟩
          case measure => simp [intOf]; omega
    · have hki : ¬ (k : Int) < (l.length : Int) := by omega
      have htk : l.take k = l := List.take_of_length_le (by omega)
      have hdk : l.drop k = [] := List.drop_of_length_le (by omega)
      rw [htk] at hown hmap hnew
      rw [hdk, List.append_nil] at hmap
      rw [htk]
      have hsl := swp_len h l
      have hsf : ∀ x ∈ swp h l, fitsI x.rep := fun x hx => H.out.2.1.full x (List.mem_filter.1 hx).1
      have hsa : (swp h l).Pairwise fun x y => ¬ x.one y := H.out.2.1.apart.sublist (List.filter_sublist (p := fun x => !hasA h x))
      have c1 := hlies.cellIs 1 rfl
      have f1 := hlies.froz 1
      have hBW := H.out.2.2.2.lies.lt
      have hsW := H.out.2.2.1.size
      have HZ := hid_of' (And.intro hown (And.intro hnew (And.intro hmap (And.intro hCh (And.intro hlies (And.intro hsf hsa))))))
      generalize hsw : swp h l = sw at HZ hsl ⊢
      clear hown hnew hmap hCh hlies htk hdk hsf hsa hrowr
      go_wp2
      go_ret
      have s1 := ch_cell (w := wr) (b := B) (k := 1) (.slice ua sw.length uc)
      have hc9 : Ch (ibS B (.slice a9 l.length c9) kb) w wr := (Ch.of H.out.2.2.1).go HZ.out.2.2.2.1 (fun s q => .inl (.inr (.inl q)))
      refine ⟨rfl, .slice ua sw.length uc, ⟨HZ.out.2.2.2.2.1.setc 1 _, HZ.out.1.ch s1 (fun b hb e => by have := HZ.out.2.1 b hb; omega), HZ.out.2.2.1.ch s1 hkB, HZ.out.2.2.2.2.2.1, HZ.out.2.2.2.2.2.2, ?_, H.out.2.1.most⟩, fun b hb => .inr (Nat.le_trans hsW (HZ.out.2.1 b hb)), hc9.set (p := ⟨B, 1, none⟩) (.inl (.inl rfl)) _⟩
      have := H.out.2.1.room
      omega
end Go.Proofs.YtlgdaaofpjpobaaDoor
