
/-
  barrowref07.Cross: two rows of operations, each behind the other one, by the document.
-/
import Derived.Test.YtdafkakigigdeaaDoorXl3
namespace Go.Proofs.YtdafkakigigdeaaDoor
open Go.RowKit
set_option maxRecDepth 100000

theorem k2_rowL {g : Nat} (w : World) (c : Array Value) : K2 g g w (w.setRow g c) := ⟨rfl, rfl, rfl, by simp, fun k _ h _ => setRow_other w g k c h⟩
theorem OwnO.blk {base x : Nat} {v : Value} {l : List Xo} {w w' : World} (h : OwnO base v l w) (k : K2 x x w w') (hne : v.ownBlock ≠ some x) : OwnO base v l w' := by
  obtain ⟨h1, h2⟩ := h
  refine ⟨h1, ?_⟩
  rcases h2 with h | ⟨g, cap, cur, rfl, q2, q3, q4⟩
  · exact .inl h
  · have hgx : ¬ g = x := fun e => hne (by rw [e]; rfl)
    exact .inr ⟨g, cap, cur, rfl, q2, (k.block _ (Array.getElem?_eq_some_iff.1 q3).1 hgx hgx).trans q3, q4⟩
theorem InP.set {l : List Xo} (h : ∀ x ∈ l, x.In) (i : Nat) {x : Xo} (hx : x.In) : ∀ y ∈ l.set i x, y.In := fun y hy => by
  rcases List.mem_or_eq_of_mem_set hy with h1 | h1
  · exact h y h1
  · rw [h1]; exact hx

set_option maxHeartbeats 8000000 in
theorem refCross_ok {w : World} {va vb : Value} {xs bs : List Xo} (ha : SlO w va xs) (hb : SlO w vb bs) (hia : ∀ x ∈ xs, x.In) (hib : ∀ x ∈ bs, x.In) (hn : xs.length ≤ 1000000) (hm : bs.length ≤ 1000000) :
    Calls Tryd.prog 10 #[va, vb] w (CrO w (crossO xs bs).1 (crossO xs bs).2) := by
  obtain ⟨a0, c0, rfl⟩ := ha.form
  obtain ⟨b0, d0, rfl⟩ := hb.form
  have HA := hid_of' (ha.later (below_one w (.cells #[] 37)))
  go_enter Tryd.func10, Tryd.ntmps10
  go_upto_region 2 with (at_builtin; refine wpL_appO (xs := []) (l := xs) rfl _ _ rfl rfl rfl (own_emptyO w) HA.out (by simpa using (show xs.length ≤ 1099511627776 by omega)) (by simp) ?_; intro v1 w1 o1 hg1)
  have hb1 : Below w.heap.size w w1 := (below_one w (.cells #[] 37)).grown hg1 (by simp) (fun k hk => ((own_emptyO w).lt k hk).1)
  rw [List.nil_append] at o1
  obtain ⟨a1, c1, rfl⟩ := o1.form
  clear HA hg1 ha
  go_wp2
  go_loopw [6, 7] (fun u jv wr => ∃ (j : Nat) (ua : Option Addr) (uc : Nat), u = .slice ua j uc ∧ jv = .int .i64 (j : Int) ∧ j ≤ bs.length ∧ OwnO w.heap.size (.slice a1 xs.length c1) (cA xs bs j) wr ∧ OwnO w1.heap.size (.slice ua j uc) (cO xs bs j) wr ∧ (∀ x ∈ cA xs bs j, x.In) ∧ w1.heap.size ≤ wr.heap.size ∧ Below w.heap.size w wr) (fun _ jv _ => bs.length - (intOf jv).toNat)
  case atStart => exact ⟨0, none, 0, rfl, rfl, Nat.zero_le _, by rw [cA_zero]; exact o1, by rw [cO_zero]; exact ⟨rfl, .inl ⟨rfl, rfl⟩⟩, by rw [cA_zero]; exact hia, Nat.le_refl _, hb1⟩
  case round =>
    obtain ⟨j, ua, uc, rfl, rfl, hj, o2, o3, l1, hs, hBj⟩ := hrel
    clear hia
    have hap : ∀ g, (Value.slice a1 xs.length c1).ownBlock = some g → (Value.slice ua j uc).ownBlock ≠ some g := fun g e1 e2 => by
      have := (o1.lt g e1).2
      have := (o3.lt g e2).1
      omega
    by_cases hlt : j < bs.length
    · have hji : (j : Int) < (bs.length : Int) := by omega
      obtain ⟨b0, hb0⟩ : ∃ b, bs[j]? = some b := ⟨_, List.getElem?_eq_getElem hlt⟩
      rcases hb.later hBj with ⟨h0, _⟩ | ⟨g, o_, c, hvv, hc⟩
      · exfalso; subst h0; simp at hlt
      simp only [Value.slice.injEq] at hvv
      obtain ⟨rfl, _, rfl⟩ := hvv
      have hce := hc j b0 hb0
      have hib0 := hib b0 (List.mem_of_getElem? hb0)
      obtain ⟨wo, hwo⟩ : ∃ wo : World, wo = wr := ⟨_, rfl⟩
      rw [← hwo] at o2 o3 hBj hce hs hc ⊢
      clear hwo
      have hsb := hid_of' hc
      clear hc
      go_upto_region 7 with (first | (refine wpL_loadO rfl (.tmp 22) rfl rfl hce ?_) | (refine wpL_storeO (e := b0) rfl (.tmp 8) _ rfl rfl rfl (row_new wo _ _) ?_))
      have rb := (row_new wo #[.int .i64 0, .int .i64 0, .int .i32 0, .int .i64 0] 37).put (ov b0)
      have hbo : Below wo.heap.size wo ((wo.alloc (.cells #[.int .i64 0, .int .i64 0, .int .i32 0, .int .i64 0] 37)).setRow wo.heap.size (ov b0)) := below_row (below_one wo _) (Nat.le_refl _) _
      generalize (wo.alloc (.cells #[.int .i64 0, .int .i64 0, .int .i32 0, .int .i64 0] 37)).setRow wo.heap.size (ov b0) = w5 at rb hbo ⊢
      obtain ⟨gb, hgb⟩ : ∃ gb, wo.heap.size = gb := ⟨_, rfl⟩
      have hn1 : (Value.slice a1 xs.length c1).ownBlock ≠ some gb := fun e => by have := (o2.lt gb e).2; omega
      have hn3 : (Value.slice ua j uc).ownBlock ≠ some gb := fun e => by have := (o3.lt gb e).2; omega
      have hgw : w.heap.size ≤ gb := by have := hBj.size; omega
      replace o2 := o2.later hbo
      replace o3 := o3.later hbo
      replace hBj := bgo hBj hbo
      replace hs := Nat.le_trans hs hbo.size
      rw [hgb] at rb ⊢
      clear hbo hce hgb
      go_wp2
      go_loopw [9] (fun iv wq => ∃ p : Nat, iv = .int .i64 (p : Int) ∧ p ≤ xs.length ∧ OwnO w.heap.size (.slice a1 xs.length c1) (pA (cA xs bs j) b0 p) wq ∧ RowAt gb (ov (pB (cA xs bs j) b0 p)) 37 wq ∧ OwnO w1.heap.size (.slice ua j uc) (cO xs bs j) wq ∧ (∀ x ∈ pA (cA xs bs j) b0 p, x.In) ∧ (pB (cA xs bs j) b0 p).In ∧ w1.heap.size ≤ wq.heap.size ∧ Below w.heap.size w wq) (fun iv _ => xs.length - (intOf iv).toNat)
      case atStart => exact ⟨0, rfl, Nat.zero_le _, by rw [pA_zero]; exact o2, by rw [pB_zero]; exact rb, o3, by rw [pA_zero]; exact l1, by rw [pB_zero]; exact hib0, hs, hBj⟩
      case round =>
        obtain ⟨p, rfl, hp, o4, rb4, o5, l3, l4, hs4, hBi⟩ := hrel
        clear o2 o3 rb l1 hs hBj hib0
        by_cases hltp : p < xs.length
        · have hii : (p : Int) < (xs.length : Int) := by omega
          obtain ⟨a, ha0⟩ : ∃ a, (cA xs bs j)[p]? = some a := ⟨_, List.getElem?_eq_getElem (by rw [cA_len]; exact hltp)⟩
          obtain ⟨b, hbe⟩ : ∃ b, pB (cA xs bs j) b0 p = b := ⟨_, rfl⟩
          have haA := pA_at (b := b0) ha0
          have hnA := pA_next (b := b0) ha0
          have hnB := pB_next (b := b0) ha0
          have hLl : (pA (cA xs bs j) b0 p).length = xs.length := by rw [pA_len, cA_len]
          rw [hbe] at hnA hnB rb4 l4
          obtain ⟨LA, hLA⟩ : ∃ LA, pA (cA xs bs j) b0 p = LA := ⟨_, rfl⟩
          rw [hLA] at o4 l3 hnA haA hLl
          have HN := hid_of' (And.intro hnA (And.intro hnB hLl))
          have hil : p < LA.length := by omega
          obtain ⟨ga, ea, hga, hA, en1, hcl1, hcm1⟩ := o4.orb2 (by intro e; rw [e] at hil; simp at hil)
          subst ea
          have hia0 := l3 a (List.mem_of_getElem? haA)
          have l5 := hid_of' (And.intro (InP.set l3 p (tO_in (b := b) hia0)) (tO_in (b := a) l4))
          have hgab : ¬ ga = gb := fun e => hn1 (by rw [e]; rfl)
          have hua : (Value.slice ua j uc).ownBlock ≠ some ga := hap ga rfl
          have HT1 := hid_of' (fun x => refT_any a b x hia0.2.1.1 hia0.2.1.2)
          have HT2 := hid_of' (fun x => refT_any b a x l4.2.1.1 l4.2.1.2)
          clear en1 hnA hnB hLA hbe ha0 hLl hltp l3 l4 o4 hn1 hap
          have hca := hA.in haA
          go_upto_region 11 with (first | (refine wpL_loadO rfl (.tmp 32) rfl rfl hca ?_) | (refine wpL_storeO (e := a) rfl (.tmp 10) _ rfl rfl rfl (row_new wr _ _) ?_))
          have ra := (row_new wr #[.int .i64 0, .int .i64 0, .int .i32 0, .int .i64 0] 37).put (ov a)
          have hbo : Below wr.heap.size wr ((wr.alloc (.cells #[.int .i64 0, .int .i64 0, .int .i32 0, .int .i64 0] 37)).setRow wr.heap.size (ov a)) := below_row (below_one wr _) (Nat.le_refl _) _
          have hgn : ¬ wr.heap.size = ga := by have := hA.lt; omega
          have hgm : ¬ wr.heap.size = gb := by have := rb4.lt; omega
          generalize (wr.alloc (.cells #[.int .i64 0, .int .i64 0, .int .i32 0, .int .i64 0] 37)).setRow wr.heap.size (ov a) = w6 at ra hbo ⊢
          replace hA := hA.later hbo
          replace rb4 := rb4.later hbo
          replace o5 := o5.later hbo
          replace hBi := bgo hBi hbo
          replace hs4 := Nat.le_trans hs4 hbo.size
          generalize wr.heap.size = gv at ra hgn hgm ⊢
          clear hbo hca haA
          go_upto_region 12 with (first | (refine wpL_loadO (e := a) rfl (.tmp 10) rfl rfl ra.in ?_; go_simp) | (refine wpL_loadO (e := b) rfl (.tmp 8) rfl rfl rb4.in ?_; go_simp) | (go_at_call 30; refine (HT1.out _).mono ?_; clear HT1; rintro r w7 ⟨rfl, hb7⟩; have hA7 := hA.later hb7; have z1 := hA7.put hil (tO a b); have z2 := ((rb4.later hb7).k2 (k2_cells (g := ga) w7 (p * 4) (ov (tO a b)).toList) (fun e => hgab e.symm) (fun e => hgab e.symm)); have z3 := (ra.later hb7).k2 (k2_cells (g := ga) w7 (p * 4) (ov (tO a b)).toList) hgn hgn; have z4 := (o5.later hb7).blk (k2_cells (g := ga) w7 (p * 4) (ov (tO a b)).toList) hua; have z5 : Below w.heap.size w (w7.setCells ga (p * 4) (ov (tO a b)).toList) := K2.below (bgo hBi hb7) (k2_cells w7 (p * 4) (ov (tO a b)).toList) hga hga (bgo hBi hb7).size; have z6 := Nat.le_trans hs4 (Nat.le_trans hb7.size (k2_cells (g := ga) w7 (p * 4) (ov (tO a b)).toList).size)) | (refine wpL_storeQ (g := ga) (off := p * 4) (e := tO a b) rfl (.tmp 39) _ rfl rfl rfl (hA7.there hil) ?_; generalize w7.setCells ga (p * 4) (ov (tO a b)).toList = w8 at z1 z2 z3 z4 z5 z6 ⊢))
          clear hA7 hb7 hA rb4 ra o5 hBi hs4 w7
          go_wp2_with (first | (refine wpL_loadO (e := b) rfl (.tmp 8) rfl rfl z2.in ?_; go_simp) | (refine wpL_loadO (e := a) rfl (.tmp 10) rfl rfl z3.in ?_; go_simp) | (go_at_call 30; refine (HT2.out _).mono ?_; clear HT2; rintro r w9 ⟨rfl, hb9⟩; have y1 := (z1.later hb9).k2 (k2_rowL (g := gb) w9 (ov (tO b a))) (fun e => hgab e.symm); have y2 := (z2.later hb9).put (ov (tO b a)); have y4 := (z4.later hb9).blk (k2_rowL (g := gb) w9 (ov (tO b a))) hn3; have y5 : Below w.heap.size w (w9.setRow gb (ov (tO b a))) := below_row (bgo z5 hb9) hgw _; have y6 := Nat.le_trans z6 (Nat.le_trans hb9.size (k2_rowL (g := gb) w9 (ov (tO b a))).size); have hr9 := z2.later hb9) | (refine wpL_storeO (e := tO b a) rfl (.tmp 8) _ rfl rfl rfl hr9 ?_; generalize w9.setRow gb (ov (tO b a)) = wx at y1 y2 y4 y5 y6 ⊢))
          clear z1 z2 z3 z4 z5 z6 hr9 hb9
          go_roundw
          case rel =>
            refine ⟨p + 1, by go_num, by omega, ?_, ?_, y4, ?_, ?_, y6, y5⟩
            · rw [HN.out.1]
              have := y1.own hga (by rw [List.length_set]; exact hcl1) hcm1
              rw [List.length_set, HN.out.2.2] at this
              exact this
            · rw [HN.out.2.1]; exact y2
            · rw [HN.out.1]; exact l5.out.1
            · rw [HN.out.2.1]; exact l5.out.2
          case measure => simp [intOf]; omega
        · obtain rfl : p = xs.length := by omega
          have eO := hid_of' (cO_next (xs := xs) hb0)
          have eA : pB (cA xs bs j) b0 xs.length = (passO (cA xs bs j) b0).2 := by
            have e : xs.length = (cA xs bs j).length := cA_len.symm
            rw [e, pB_all]
          rw [pA_end hb0] at o4 l3
          rw [eA] at rb4
          obtain ⟨bb, hbb⟩ : ∃ bb, (passO (cA xs bs j) b0).2 = bb := ⟨_, rfl⟩
          rw [hbb] at rb4 eO
          have hcol := hid_of' (cO_len (xs := xs) hj)
          have L3 := hid_of' l3
          have E9 : Hid ((cO xs bs j ++ [bb]).length = j + 1) := by
            show _ = _
            rw [List.length_append, hcol.out]
            rfl
          clear l3 l4 hltp hp eA hbb hn1 hn3
          go_wp2_with (first | (refine wpL_loadO (e := bb) rfl (.tmp 8) rfl rfl rb4.in ?_; unfold ov) | (at_builtin; refine wpL_appO (l := [bb]) rfl _ _ rfl rfl rfl (o5.later (below_one _ (.cells (ov bb) 37))) (so_new wr [bb] 1 1 rfl) (by rw [hcol.out]; simp; omega) (by rw [World.size_alloc]; omega) ?_; intro v9 w9 o9 hg9; obtain ⟨a9, c9, rfl⟩ := o9.form; rw [E9.out] at o9 ⊢))
          have hb9 := below_one wr (.cells (ov bb) 37)
          have o4b : OwnO w.heap.size (.slice a1 xs.length c1) (cA xs bs (j + 1)) w9 := by
            refine World.ownsRow.kept (OwnO.later o4 hb9) hg9 ?_
            cases h : (Value.slice a1 xs.length c1).ownBlock with
            | none => exact .inl rfl
            | some g => exact .inr (fun e => hap g h e.symm)
          have hB9 : Below w.heap.size w w9 := (bgo hBi hb9).grown hg9 (bgo hBi hb9).size (fun k hk => Nat.le_trans hb1.size (o5.lt k hk).1)
          have hs9 : w1.heap.size ≤ w9.heap.size := Nat.le_trans hs4 (Nat.le_trans hb9.size hg9.size)
          clear hg9 hb9 o5 o4 rb4 hBi
          go_roundw
          case rel => exact ⟨j + 1, a9, c9, rfl, by go_num, by omega, o4b, by rw [eO.out]; exact o9, L3.out, hs9, hB9⟩
          case measure => simp [intOf]; omega
    · obtain rfl : j = bs.length := by omega
      rw [cA_all] at o2
      rw [cO_all] at o3
      clear hlt l1
      go_wp2
      go_ret2
      exact ⟨_, _, rfl, o2, o3.lower hb1.size, hap, hBj⟩
end Go.Proofs.YtdafkakigigdeaaDoor
