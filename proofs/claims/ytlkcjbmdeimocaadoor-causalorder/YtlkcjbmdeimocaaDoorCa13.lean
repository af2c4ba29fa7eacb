
/-
  barrowlaw11.CausalMissing answers true.
-/
import Derived.Test.YtlkcjbmdeimocaaDoorCa12
namespace Go.Proofs.YtlkcjbmdeimocaaDoor
open Go.RowKit Go.Maps
set_option maxRecDepth 100000

theorem misC_len {h : List Int} {most : Int} : ∀ (l acc : List Ac), (misC h most acc l).length ≤ acc.length + l.length
  | [], acc => by simp [misC]
  | x :: l, acc => by
    unfold misC
    split
    · simp
    · split
      · have := misC_len (h := h) (most := most) l acc
        simp only [List.length_cons]; omega
      · have := misC_len (h := h) (most := most) l (acc ++ [x])
        simp only [List.length_append, List.length_cons, List.length_nil] at this ⊢; omega
theorem SlC.ch0 {S : Nat → Prop} {w w' : World} {v : Value} {l : List Ac} (h : SlC w v l) (c : Ch S w w') (hn : ∀ a n k, v = .slice (some a) n k → 0 < l.length → ¬ S a.block) : SlC w' v l := by
  by_cases h0 : 0 < l.length
  · exact h.ch c (fun a n k e => hn a n k e h0)
  · obtain ⟨a, c, rfl⟩ := h.form
    have e : l = [] := List.eq_nil_of_length_eq_zero (by omega)
    subst e
    exact .inl ⟨rfl, _, _, rfl⟩
theorem opw_loadCk {K : Act → World → Prop} {o : Oper} {A : Act} {w : World} {Q : Exit → Act → World → Prop} (x : Operand) (ho : o.op = .load 44 x) {g : Nat} (hx : A.eval x = .pointer (some ⟨g, 0, none⟩)) {y : List Int} (h : CkAt g y w)
    (k : K (A.put o.dst (.agg (cv y))) w) : o.wp Tryd.prog A w K Q := by
  unfold Oper.wp execOp
  simp only [ho, hx, Instr.loadAt, Instr.sureAddr, Sem.run_bind, Sem.run_pure, Result.andThen_ok, run_loadVar_row w g _ _ _ _ _ h.1 Tryd.underlying44 rfl h.size]
  exact k
set_option maxHeartbeats 4000000 in
theorem causalMissing_all {w : World} {v : Value} {l : List Ac} (hl : SlC w v l) (hf : AFit l) (hcap : ∀ a n c, v = .slice a n c → n ≤ c) {h : List Int} (ha : Ck h) (most : Int) :
    Calls Tryd.prog 4 #[v, .agg (cv h), .int .i64 most] w fun e w' => e = .returned (.bool true) ∧ Below w.heap.size w w' := by
  obtain ⟨a9, c9, rfl⟩ := hl.form
  have hlc := hcap _ _ _ rfl
  have hB0 := below_one w (.cells (cv h) 44)
  obtain ⟨L, hL⟩ : ∃ L, l.take 40 = L := ⟨_, rfl⟩
  have hfL : AFit L := hL ▸ hf.take 40
  have H := hid_of' (And.intro (CkAt.new w ha.1) (And.intro (hl.later hB0) (And.intro hfL hB0)))
  have hl4 : L.length ≤ 1000 := by rw [← hL, List.length_take]; omega
  have misLen := misC_len (h := h) (most := most) L []
  simp only [List.length_nil, Nat.zero_add] at misLen
  clear hl hf hB0 hcap
  go_enter Tryd.func4, Tryd.ntmps4
  go_upto_region 1 with fail
  have hwW : w.heap.size < (w.alloc (.cells (cv h) 44)).heap.size := by simp
  generalize w.alloc (.cells (cv h) 44) = W at H hwW ⊢
  have hC := cut_ok H.out.2.1 hlc
  rw [hL] at hC
  have HC := hid_of' hC
  clear hC hL hfL
  have HL4 := hid_of' (And.intro hl4 misLen)
  clear hl4 misLen hlc
  go_upto_region 2 with (go_at_call 15; refine HC.out.mono ?_; rintro e w1 ⟨u, rfl, hu, h0⟩; obtain rfl := h0.symm; clear HC h0)
  have hf4 := H.out.2.2.1
  have HL := hid_of' (lendA_ok hu hf4 HL4.out.1)
  go_upto_region 3 with (go_at_call 16; refine HL.out.mono ?_; rintro e w2 ⟨g, c, rfl, hown, hg0, hb2⟩; clear HL)
  have hlent : SlC w2 (.slice (some ⟨g, 0, none⟩) L.length c) L := by
    rcases hown.sl with ⟨h0, _⟩ | ⟨g2, o2, c2, h1, h2, h3⟩
    · simp [marksA] at h0
    · simp only [Value.slice.injEq, Option.some.injEq, Addr.mk.injEq, and_true] at h1
      obtain ⟨⟨rfl, rfl⟩, _, rfl⟩ := h1
      refine .inr ⟨g, 0, c, rfl, h2, fun j v hj => h3 j v ?_⟩
      rw [acells_app, List.getElem?_append_left (List.getElem?_eq_some_iff.1 hj).1]
      exact hj
  have HM := hid_of' (missing_any hlent hf4 ha most HL4.out.1)
  have hck2 := H.out.1.later hb2
  go_upto_region 4 with (first | (refine wpL_load rfl _ rfl rfl hck2 ?_) | (go_at_call 17; refine HM.out.mono ?_; rintro e w3 ⟨r, rfl, hr, hrn, hb3⟩; clear HM))
  obtain ⟨ua, uc, hu1⟩ := hu.form
  subst hu1
  have hu3 := (hu.later hb2).later hb3
  have HI := hid_of' (intactA_ok hu3 (hown.later hb3) HL4.out.1)
  have hck3 := hck2.later hb3
  have hub : ∀ a n k, Value.slice ua L.length uc = .slice (some a) n k → 0 < L.length → a.block < W.heap.size := fun a n k e h0 => by
    obtain ⟨g2, o2, c2, h1, h2⟩ := hu.pos h0
    rw [h1] at e
    cases e
    exact h2
  have hg2 : g < w2.heap.size := hown.lt g rfl
  have HB := hid_of' (And.intro hb2 hb3)
  have HU := hid_of' (And.intro hu3 (And.intro hr (And.intro hrn hub)))
  clear hu hu3 hr hrn hub hown hlent hck2 hb2 hb3
  have hs2 := HB.out.1.size
  have hs3 := HB.out.2.size
  have HA : Hid (∀ w4, Ch (fun k => k = g) w3 w4 → CkAt w.heap.size h w4 ∧ SlC w4 (.slice ua L.length uc) L ∧ OwnA r (misC h most [] L) w4) := fun w4 hc => ⟨⟨hc.heap hck3.1 (by omega), hck3.2⟩, HU.out.1.ch0 hc (fun a n k e h0 => by have := HU.out.2.2.2 a n k e h0; omega), HU.out.2.1.ch hc (fun k hk => by have := HU.out.2.2.1 k hk; omega)⟩
  clear hck3
  go_upto_region 6 with (first | (go_at_call 18; refine HI.out.mono ?_; rintro e w4 ⟨rfl, hc4⟩; clear HI; obtain ⟨hck4, hu4, hr4⟩ := HA.out w4 hc4; have HM4 := hid_of' (refMissing_any hu4 hf4 ha most HL4.out.1)) | (refine opw_loadCk _ rfl rfl hck4 ?_) | (go_at_call 20; refine HM4.out.mono ?_; rintro e w5 ⟨r5, rfl, hr5, _, hb5⟩; clear HM4; have HQ := hid_of' (acts_same (hr4.later hb5).sl hr5.sl hr5.2 (by have := HL4.out.2; have := HL4.out.1; omega))) | (go_at_call 19; refine HQ.out.mono ?_; rintro e w6 ⟨rfl, hb6⟩; clear HQ))
  have hb46 := bgo hb5 hb6
  have hu6 := hu4.later hb46
  have hr6 := hr4.later hb46
  have hck6 := hck4.later hb46
  have HS := hid_of' (spoilA_is hr6.any (by have := HL4.out.2; have := HL4.out.1; omega))
  have hc6 := hc4.later hb46
  have HX6 := hid_of' (And.intro hu6 (And.intro hck6 hc6))
  clear hu4 hr4 hck4 hr5 hu6 hck6 hc6 hr6 hc4 hb5 hb6 hb46 HA
  go_upto_region 7 with (go_at_call 21; refine HS.out.mono ?_; rintro e w7 ⟨⟨z, rfl⟩, hc7⟩; clear HS)
  have hs6 := HX6.out.2.2.size
  have hu7 := HX6.out.1.ch0 hc7 (fun a n k e h0 q => by have := HU.out.2.2.2 a n k e h0; have := HU.out.2.2.1 _ q; omega)
  have hck7 : CkAt w.heap.size h w7 := ⟨hc7.heap HX6.out.2.1.1 (fun q => by have := HU.out.2.2.1 _ q; omega), HX6.out.2.1.2⟩
  have hB7 : Below w.heap.size w w7 := Ch.none (((Ch.of (S := fun k => w.heap.size ≤ k) (bgo (bgo H.out.2.2.2 HB.out.1) HB.out.2)).go HX6.out.2.2 (fun s q => .inl (by omega))).go hc7 (fun s q => .inl (by have := HU.out.2.2.1 s q; omega))) (fun s hs q => by omega)
  have H7 := hid_of' (And.intro hck7 (And.intro hu7 hf4))
  have HB7 := hid_of' hB7
  obtain ⟨hl4, misLen⟩ := HL4.out
  clear hu7 hck7 hc7 hB7 HX6 hs6 HU HB hs2 hs3 hg2 HL4
  obtain ⟨un, hun⟩ : ∃ un, L.length = un := ⟨_, rfl⟩
  rw [hun] at H7
  rw [hun]
  refine wp_region_tail 13 (by kernel_rfl) (fun j => match j with | 9 => some true | _ => none) (by kernel_rfl) (by kernel_rfl) (by decide) (fun ii v X => match ii with
    | 0 => v = .slice ua un uc
    | 1 => v = .agg (cv h)
    | 2 => v = .int .i64 most
    | 3 => OwnA v (misC h most [] L) X
    | 4 => v = .slice ua un uc
    | 5 => v = .agg (cv h)
    | 6 => v = .int .i64 most
    | 7 => OwnA v (misC h most [] L) X
    | 8 => v = .bool true
    | 9 => v = .bool true
    | 10 => v = .bool true
    | 11 => v = .bool true
    | 12 => v = .bool true
    | _ => True) (fun _ => false) (fun j v x b h hR => by
      match j, h, hR with
      | 9, h, hR => cases h; exact hR
      | 0, h, _ | 1, h, _ | 2, h, _ | 3, h, _ | 4, h, _ | 5, h, _ | 6, h, _ | 7, h, _ | 8, h, _ | 10, h, _ | 11, h, _ | 12, h, _ => cases h
      | m + 13, h, _ => cases h) ?_ ?_ ?_
  · intro ii v X X' hR hb
    match ii, hR with
    | 0, h => exact h
    | 1, h => exact h
    | 2, h => exact h
    | 3, h => exact h.later hb
    | 4, h => exact h
    | 5, h => exact h
    | 6, h => exact h
    | 7, h => exact h.later hb
    | 8, h => exact h
    | 9, h => exact h
    | 10, h => exact h
    | 11, h => exact h
    | 12, h => exact h
    | m + 13, h => exact h
  · intro ii o hi ho q X vals hX hdep hoth
    have t0 : q.tmps[0]? = some (.slice ua un uc) := by rw [hoth 0 (by kernel_rfl)]; rfl
    have t4 : q.tmps[4]? = some (.pointer (some ⟨w.heap.size, 0, none⟩)) := by rw [hoth 4 (by kernel_rfl)]; rfl
    have t2 : q.tmps[2]? = some (.int .i64 most) := by rw [hoth 2 (by kernel_rfl)]; rfl
    match ii, hi, ho with
    | 0, _, ho =>
      simp only [List.getElem?_cons_zero, Option.some.injEq] at ho
      subst ho
      unfold Oper.wp
      simp [execOp, go_sem, t0]
      exact came _ rfl (Below.refl _ _) rfl (fun h => absurd h (by decide))
    | 1, _, ho =>
      simp only [List.getElem?_cons_succ, List.getElem?_cons_zero, Option.some.injEq] at ho
      subst ho
      exact opw_loadCk _ rfl (by simp [Act.eval, t4]) (H7.out.1.later hX) (came _ rfl (Below.refl _ _) rfl (fun h => absurd h (by decide)))
    | 2, _, ho =>
      simp only [List.getElem?_cons_succ, List.getElem?_cons_zero, Option.some.injEq] at ho
      subst ho
      unfold Oper.wp
      simp [execOp, go_sem, t2]
      exact came _ rfl (Below.refl _ _) rfl (fun h => absurd h (by decide))
    | 3, _, ho =>
      simp only [List.getElem?_cons_succ, List.getElem?_cons_zero, Option.some.injEq] at ho
      subst ho
      obtain ⟨u0, e0⟩ := hdep ⟨0, .data⟩ (by simp) rfl _ 32 rfl rfl
      rw [show vals 0 = .slice ua un uc from e0] at u0
      obtain ⟨u1, e1⟩ := hdep ⟨1, .data⟩ (by simp) rfl _ 33 rfl rfl
      rw [show vals 1 = .agg (cv h) from e1] at u1
      obtain ⟨u2, e2⟩ := hdep ⟨2, .data⟩ (by simp) rfl _ 34 rfl rfl
      rw [show vals 2 = .int .i64 most from e2] at u2
      unfold Oper.wp
      simp [go_sem, u0, u1, u2]
      refine (missing_any (H7.out.2.1.later hX) H7.out.2.2 ha most hl4).mono ?_
      rintro r X1 ⟨v1, rfl, ho, _, hb1⟩
      exact came _ rfl hb1 ho (fun h => absurd h (by decide))
    | 4, _, ho =>
      simp only [List.getElem?_cons_succ, List.getElem?_cons_zero, Option.some.injEq] at ho
      subst ho
      unfold Oper.wp
      simp [execOp, go_sem, t0]
      exact came _ rfl (Below.refl _ _) rfl (fun h => absurd h (by decide))
    | 5, _, ho =>
      simp only [List.getElem?_cons_succ, List.getElem?_cons_zero, Option.some.injEq] at ho
      subst ho
      exact opw_loadCk _ rfl (by simp [Act.eval, t4]) (H7.out.1.later hX) (came _ rfl (Below.refl _ _) rfl (fun h => absurd h (by decide)))
    | 6, _, ho =>
      simp only [List.getElem?_cons_succ, List.getElem?_cons_zero, Option.some.injEq] at ho
      subst ho
      unfold Oper.wp
      simp [execOp, go_sem, t2]
      exact came _ rfl (Below.refl _ _) rfl (fun h => absurd h (by decide))
    | 7, _, ho =>
      simp only [List.getElem?_cons_succ, List.getElem?_cons_zero, Option.some.injEq] at ho
      subst ho
      obtain ⟨u4, e4⟩ := hdep ⟨4, .data⟩ (by simp) rfl _ 36 rfl rfl
      rw [show vals 4 = .slice ua un uc from e4] at u4
      obtain ⟨u5, e5⟩ := hdep ⟨5, .data⟩ (by simp) rfl _ 37 rfl rfl
      rw [show vals 5 = .agg (cv h) from e5] at u5
      obtain ⟨u6, e6⟩ := hdep ⟨6, .data⟩ (by simp) rfl _ 38 rfl rfl
      rw [show vals 6 = .int .i64 most from e6] at u6
      unfold Oper.wp
      simp [go_sem, u4, u5, u6]
      refine (refMissing_any (H7.out.2.1.later hX) H7.out.2.2 ha most hl4).mono ?_
      rintro r X1 ⟨v1, rfl, ho, _, hb1⟩
      exact came _ rfl hb1 ho (fun h => absurd h (by decide))
    | 8, _, ho =>
      simp only [List.getElem?_cons_succ, List.getElem?_cons_zero, Option.some.injEq] at ho
      subst ho
      obtain ⟨u3, e3⟩ := hdep ⟨3, .data⟩ (by simp) rfl _ 35 rfl rfl
      obtain ⟨u7, e7⟩ := hdep ⟨7, .data⟩ (by simp) rfl _ 39 rfl rfl
      unfold Oper.wp
      simp [go_sem, u3, u7]
      refine (acts_same (OwnA.sl (show OwnA (vals 3) (misC h most [] L) X from e3)) (OwnA.sl (show OwnA (vals 7) (misC h most [] L) X from e7)) (show OwnA (vals 3) (misC h most [] L) X from e3).2 (by have := misLen; omega)).mono ?_
      rintro r x1 ⟨rfl, hb1⟩
      exact came _ rfl hb1 rfl (fun h => absurd h (by decide))
    | 9, _, ho =>
      simp only [List.getElem?_cons_succ, List.getElem?_cons_zero, Option.some.injEq] at ho
      subst ho
      obtain ⟨u8, e8⟩ := hdep ⟨8, .data⟩ (by simp) rfl _ 40 rfl rfl
      rw [show vals 8 = .bool true from e8] at u8
      unfold Oper.wp
      simp [execOp, go_sem, u8]
      exact came _ rfl (Below.refl _ _) rfl (fun h => absurd h (by decide))
    | 10, _, ho =>
      simp only [List.getElem?_cons_succ, List.getElem?_cons_zero, Option.some.injEq] at ho
      subst ho
      unfold Oper.wp
      simp [go_sem, ]
      refine (wakes11 X).mono ?_
      rintro r x1 ⟨rfl, hb1⟩
      exact came _ rfl hb1 rfl (fun h => absurd h (by decide))
    | 11, _, ho =>
      simp only [List.getElem?_cons_succ, List.getElem?_cons_zero, Option.some.injEq] at ho
      subst ho
      obtain ⟨u9, e9⟩ := hdep ⟨9, .data⟩ (by simp) rfl _ 41 rfl rfl
      rw [show vals 9 = .bool true from e9] at u9
      obtain ⟨u10, e10⟩ := hdep ⟨10, .data⟩ (by simp) rfl _ 42 rfl rfl
      rw [show vals 10 = .bool true from e10] at u10
      unfold Oper.wp
      simp [execOp, go_sem, u9, u10]
      exact came _ rfl (Below.refl _ _) rfl (fun h => absurd h (by decide))
    | 12, _, ho =>
      simp only [List.getElem?_cons_succ, List.getElem?_cons_zero, Option.some.injEq] at ho
      subst ho
      obtain ⟨u11, e11⟩ := hdep ⟨11, .data⟩ (by simp) rfl _ 43 rfl rfl
      rw [show vals 11 = .bool true from e11] at u11
      unfold Oper.wp
      simp [execOp, go_sem, u11]
      exact came _ rfl (Below.refl _ _) rfl (fun h => absurd h (by decide))
    | m + 13, hi, _ => exact absurd hi (by omega)
  · intro vals X hX hR _
    have e12 : vals 12 = .bool true := hR 12 (by decide)
    have HBX := hid_of' (bgo HB7.out hX)
    clear hR hX
    simp only [List.drop, List.take, putAll, List.setIfInBounds_toArray, List.set_cons_succ, List.set_cons_zero, e12]
    clear e12
    go_wp2
    go_ret
    exact ⟨rfl, HBX.out⟩
end Go.Proofs.YtlkcjbmdeimocaaDoor
