
/-
  barrowlaw14.does: Done.
-/
import Derived.Test.YtgkbgojgpomcdaaDoorUn21
namespace Go.Proofs.YtgkbgojgpomcdaaDoor
open Go.RowKit Go.Extern.Stop Go.Stop Go.Extern
set_option maxRecDepth 100000

set_option maxHeartbeats 8000000 in
theorem does_done_some {N P Bs Br : Nat} {d u : List (List Xg)} {vd vu vd' vu' : Value} {F F' : Nat → Prop} {w : World} {vL : Value} {lL : List Xg} (h : PrAt N P Bs Br d u vd vu vd' vu' F F' w) (dd : Int) (hdd : -9223372036854775808 ≤ dd ∧ dd ≤ 9223372036854775807) (rd : Bool) {ad : Nat → Addr} (_hLa : ∀ x, Below N w x → Laid ad x) (hL : ∀ x, Below N w x → SlD x vL lL) (hcap : ∀ a n c, vL = .slice a n c → n ≤ c) (hem : lL.take 20 ≠ []) (hm : wiN dd 6 = 0) :
    Calls Tryd.prog 10 #[.pointer (some ⟨P, 0, none⟩), .agg #[.int .i64 dd, .bool rd, vL]] w fun e w' => DoQ N P Bs Br w e w' := by
  have HWi := hid_of' (fun x => within_is dd 6 x (by decide) (by decide) hdd)
  rw [hm, show ((6 : Nat) : Int) = 6 from rfl, show ((0 : Nat) : Int) = 0 from rfl] at HWi
  obtain ⟨aL, cL, hvL⟩ := (hL w (Below.refl _ _)).form
  have HL := hid_of' (And.intro hL hcap)
  generalize lL.length = nL at hvL
  subst hvL
  have r0 := row_new w (#[.int .i64 dd, .bool rd, .slice aL nL cL]) 35
  have b0 := below_one w (.cells (#[.int .i64 dd, .bool rd, .slice aL nL cL]) 35)
  have HK := hid_of' h
  clear h hL hcap hm hdd
  go_enter Tryd.func10, Tryd.ntmps10
  go_upto_region 1 with fail
  change Code.wp _ _ _ _ (w.alloc (.cells (#[.int .i64 dd, .bool rd, .slice aL nL cL]) 35))
  generalize w.alloc (.cells (#[.int .i64 dd, .bool rd, .slice aL nL cL]) 35) = X0 at r0 b0 ⊢
  generalize hob : w.heap.size = ob at r0 ⊢
  have c0 := r0.cellIs 0 rfl
  have c1 := r0.cellIs 1 rfl
  have c2 := r0.cellIs 2 rfl
  have H := hid_of' (HK.out.later b0)
  go_upto_region 3 with (go_at_call 31; (with_reducible refine (HWi.out _).mono ?_); rintro e w1 ⟨rfl, h0⟩; obtain rfl := h0.symm)
  clear c0 c1 c2
  have b1 := below_one X0 (.cells #[] 66)
  have c2 := (r0.later b1).cellIs 2 rfl
  have HC := hid_of' (cut14_is (HL.out.1 _ ((bgo b0 b1).mono HK.out.size)) HL.out.2)
  have hml : (lL.take 20).length ≤ 20 := by rw [List.length_take]; omega
  have HML := hid_of' hml
  have HB := hid_of' (And.intro b0 (And.intro b1 r0))
  clear hml b1
  go_upto_region 4 with (first | (go_at_call 17; (with_reducible refine HC.out.mono ?_); rintro e w1 ⟨u1, rfl, hu1, h0⟩; obtain rfl := h0.symm; clear HC; have HU1 := hid_of' hu1; obtain ⟨a1, c1, hv1⟩ := hu1.form; generalize List.length _ = n1 at hv1; subst hv1; clear hu1) | (at_builtin; refine wpL_appG (m := lL.take 20) rfl _ _ rfl rfl rfl (own_emptyX X0) HU1.out.so (by show 0 + _ ≤ _; have := HML.out; omega) ?_; intro v2 w2 q1 q2 q3; obtain ⟨a2, c2', hv2, _⟩ := Rw.form q1; generalize List.length _ = n2 at hv2; subst hv2))
  obtain ⟨_, b1, _⟩ := HB.out
  rw [List.nil_append] at q1
  have b2 : Below X0.heap.size X0 w2 := b1.grown q2 (by simp) (fun k hk => by cases hk; exact Nat.le_refl _)
  have o2 : ∀ k, Value.ownBlock (.slice a2 n2 c2') = some k → X0.heap.size ≤ k := fun k hk => by
    rcases q3 k hk with q | q
    · cases q; exact Nat.le_refl _
    · rw [World.size_alloc] at q; omega
  have h2 := H.out.later b2
  have p0 : w2.cell? ⟨P, 0, none⟩ = some (.pointer (some ⟨Bs, 0, none⟩)) := h2.lies.cellIs 0 rfl
  have hml2 : (lL.take 20).length ≤ 4398046510976 := by have := HML.out; omega
  have hobl : ob < X0.heap.size := r0.lt
  have H2 := hid_of' (And.intro q1 (And.intro o2 (And.intro b2 (And.intro h2 hobl))))
  have HD := hid_of' (done_ok h2.s q1.sl hem hml2)
  clear q1 q2 q3 b1 b2 o2 h2 c2 hobl
  go_upto_region 5 with (go_at_call 28; (with_reducible refine HD.out.mono ?_); rintro e w3 ⟨⟨z, rfl⟩, vd3, F3, hk3, hc3, hf3⟩; clear HD)
  obtain ⟨q1, o2, b2, h2, hobl⟩ := H2.out
  obtain ⟨g1, g2, g3, g4, g5⟩ := h2.goS hk3 hc3 hf3
  have hl2 : ∀ k, Value.ownBlock (.slice a2 n2 c2') = some k → k < w2.heap.size := Rw.lt q1
  have hbsz := b0.size
  have hFlt : ∀ k, F k → k < w.heap.size := HK.out.s.lt
  have hFlt' : ∀ k, F' k → k < w.heap.size := HK.out.r.lt
  have q1' : RwX (.slice a2 n2 c2') (lL.take 20) w3 := Rw.ch q1 hc3 (fun k hk q => by have := o2 k hk; have := hFlt k q; omega)
  have HS := hid_of' (spoil_is q1' hml2)
  have rob : RowAt ob (#[.int .i64 dd, .bool rd, .slice aL nL cL]) 35 w3 := (r0.later b2).ch hc3 (fun q => by have := hFlt ob q; omega)
  have hbN3 : Below N w w3 := ((bgo b0 b2).mono HK.out.size).trans (hc3.below (fun s hs q => by have := HK.out.nF s q; omega) (Nat.le_trans HK.out.size (bgo b0 b2).size))
  have H3 := hid_of' (And.intro hk3 (And.intro hf3 (And.intro g1 (And.intro g2 (And.intro g3 (And.intro g4 (And.intro g5 (And.intro rob (And.intro hbN3 (And.intro hl2 (And.intro hFlt (And.intro hFlt' hbsz))))))))))))
  clear p0 q1 o2 b2 h2 hk3 hc3 hf3 g1 g2 g3 g4 g5 hl2 hFlt hFlt' q1' rob hbN3 hbsz hobl
  go_upto_region 6 with (go_at_call 23; (with_reducible refine HS.out.mono ?_); rintro e w4 ⟨⟨z4, rfl⟩, hc4⟩; clear HS)
  obtain ⟨hk3, hf3, g1, g2, g3, g4, g5, rob, hbN3, hl2, hFlt, hFlt', hbsz⟩ := H3.out
  obtain ⟨q1, o2, b2, h2, hobl⟩ := H2.out
  have hin : ∀ k, Value.ownBlock (.slice a2 n2 c2') = some k → ¬ F3 k ∧ ¬ F' k ∧ ¬ k = P ∧ ¬ k = ob ∧ N ≤ k := fun k hk => by
    have h1 := o2 k hk
    have h3 := hl2 k hk
    have h4 := HK.out.lies.lt
    have h5 := HK.out.size
    refine ⟨fun q => ?_, fun q => ?_, by omega, by omega, by omega⟩
    · rcases hf3 k q with e | e
      · have := hFlt k e; omega
      · omega
    · have := hFlt' k q; omega
  have k1 := g1.ch hc4 (fun q => (hin P q).2.2.1 rfl)
  have k2 := hk3.ch hc4 (fun k hk q => (hin k q).1 hk)
  have k3 := g2.ch hc4 (fun k hk q => (hin k q).2.1 hk)
  have k4 := rob.ch hc4 (fun q => (hin ob q).2.2.2.1 rfl)
  have hbN4 : Below N w w4 := hbN3.trans (hc4.below (fun s hs q => by have := (hin s q).2.2.2.2; omega) (Nat.le_trans HK.out.size hbN3.size))
  have HPl := hid_of' k1
  have HOb := hid_of' k4
  have HBN := hid_of' hbN4
  have HSZ : Hid (N ≤ w4.heap.size) := Nat.le_trans HK.out.size hbN4.size
  have H4 := hid_of' (And.intro k2 (And.intro k3 (And.intro g3 (And.intro g4 g5))))
  clear hk3 hf3 g1 g2 g3 g4 g5 rob hbN3 hl2 hFlt hFlt' hbsz q1 o2 b2 h2 hobl hin k1 k2 k3 k4 hbN4 hc4 H3 H2
  refine wp_region_tail 7 (by kernel_rfl) (fun _ => none) (by kernel_rfl) (by kernel_rfl) (by decide) (fun i v x => match i with
    | 0 => v = .pointer (some ⟨P, 0, none⟩)
    | 1 => v = .pointer (some ⟨P, 0, none⟩)
    | 2 => v = .pointer (some ⟨P, 1, none⟩)
    | 3 => v = .pointer (some ⟨Br, 0, none⟩)
    | 4 => v = .pointer (some ⟨ob, 2, none⟩)
    | 5 => v = .slice aL nL cL
    | 6 => SlD x v (lL.take 20)
    | _ => True) (fun _ => false) (fun _ _ _ _ h => by cases h) ?_ ?_ ?_
  · intro i v x x' hR hb
    match i, hR with
    | 0, h => exact h
    | 1, h => exact h
    | 2, h => exact h
    | 3, h => exact h
    | 4, h => exact h
    | 5, h => exact h
    | 6, h => exact h.later hb
    | m + 7, h => exact h
  · intro i o hi ho q x vals hX hdep hoth
    have t0 : q.tmps[0]? = some (.pointer (some ⟨P, 0, none⟩)) := by rw [hoth 0 (by kernel_rfl)]; rfl
    have t3 : q.tmps[3]? = some (.pointer (some ⟨ob, 0, none⟩)) := by rw [hoth 3 (by kernel_rfl)]; rfl
    match i, hi, ho with
    | 0, _, ho =>
      simp only [List.getElem?_cons_zero, Option.some.injEq] at ho
      subst ho
      unfold Oper.wp
      simp [execOp, go_sem, t0]
      exact came _ rfl (Below.refl _ _) rfl (fun h => absurd h (by decide))
    | 1, _, ho =>
      simp only [List.getElem?_cons_succ, List.getElem?_cons_zero, Option.some.injEq] at ho
      subst ho
      obtain ⟨u0, e0⟩ := hdep ⟨0, .data⟩ (by simp) rfl _ 36 rfl rfl
      rw [show vals 0 = .pointer (some ⟨P, 0, none⟩) from e0] at u0
      unfold Oper.wp
      simp [execOp, go_sem, u0]
      exact came _ rfl (Below.refl _ _) rfl (fun h => absurd h (by decide))
    | 2, _, ho =>
      simp only [List.getElem?_cons_succ, List.getElem?_cons_zero, Option.some.injEq] at ho
      subst ho
      obtain ⟨u1, e1⟩ := hdep ⟨1, .data⟩ (by simp) rfl _ 37 rfl rfl
      rw [show vals 1 = .pointer (some ⟨P, 0, none⟩) from e1] at u1
      unfold Oper.wp
      simp [execOp, go_sem, u1]
      exact came _ rfl (Below.refl _ _) rfl (fun h => absurd h (by decide))
    | 3, _, ho =>
      simp only [List.getElem?_cons_succ, List.getElem?_cons_zero, Option.some.injEq] at ho
      subst ho
      obtain ⟨u2, e2⟩ := hdep ⟨2, .data⟩ (by simp) rfl _ 38 rfl rfl
      rw [show vals 2 = .pointer (some ⟨P, 1, none⟩) from e2] at u2
      have cc : x.cell? ⟨P, 1, none⟩ = some (.pointer (some ⟨Br, 0, none⟩)) := (HPl.out.later hX).cellIs 1 rfl
      unfold Oper.wp
      simp [execOp, go_sem, u2, cc]
      exact came _ rfl (Below.refl _ _) rfl (fun h => absurd h (by decide))
    | 4, _, ho =>
      simp only [List.getElem?_cons_succ, List.getElem?_cons_zero, Option.some.injEq] at ho
      subst ho
      unfold Oper.wp
      simp [execOp, go_sem, t3]
      exact came _ rfl (Below.refl _ _) rfl (fun h => absurd h (by decide))
    | 5, _, ho =>
      simp only [List.getElem?_cons_succ, List.getElem?_cons_zero, Option.some.injEq] at ho
      subst ho
      obtain ⟨u4, e4⟩ := hdep ⟨4, .data⟩ (by simp) rfl _ 40 rfl rfl
      rw [show vals 4 = .pointer (some ⟨ob, 2, none⟩) from e4] at u4
      have cc : x.cell? ⟨ob, 2, none⟩ = some (.slice aL nL cL) := (HOb.out.later hX).cellIs 2 rfl
      unfold Oper.wp
      simp [execOp, go_sem, u4, cc]
      exact came _ rfl (Below.refl _ _) rfl (fun h => absurd h (by decide))
    | 6, _, ho =>
      simp only [List.getElem?_cons_succ, List.getElem?_cons_zero, Option.some.injEq] at ho
      subst ho
      obtain ⟨u5, e5⟩ := hdep ⟨5, .data⟩ (by simp) rfl _ 41 rfl rfl
      rw [show vals 5 = .slice aL nL cL from e5] at u5
      unfold Oper.wp
      simp [go_sem, u5]
      refine (cut14_is (HL.out.1 x (HBN.out.trans (hX.mono HSZ.out))) HL.out.2).mono ?_
      rintro r x1 ⟨v1, rfl, hn1, h01⟩
      subst h01
      exact came _ rfl (Below.refl _ _) hn1 (fun h => absurd h (by decide))
    | m + 7, hi, _ => exact absurd hi (by omega)
  · intro vals x hX hR _
    have e3 : vals 3 = .pointer (some ⟨Br, 0, none⟩) := hR 3 (by decide)
    have hs6 : SlD x (vals 6) (lL.take 20) := hR 6 (by decide)
    obtain ⟨a6, c6, hv6⟩ := hs6.form
    generalize List.length _ = n6 at hv6
    rw [hv6] at hs6
    obtain ⟨k2, k3, g3, g4, g5⟩ := H4.out
    have HPu := hid_of' (refPush_ok (k3.later hX) hs6 hem hml2)
    have H5 := hid_of' hX
    clear hs6 hR hX k2 k3 g3 g4 g5
    simp only [List.drop, List.take, putAll, List.setIfInBounds_toArray, List.set_cons_succ, List.set_cons_zero, e3, hv6]
    clear e3 hv6
    go_wp2_with (go_at_call 32; (with_reducible refine HPu.out.mono ?_); rintro e w6 ⟨⟨z6, rfl⟩, vd6, F6, hk6, hc6, hf6⟩; clear HPu; have H6 := hid_of' (And.intro hk6 (And.intro hc6 hf6)); clear hk6 hc6 hf6)
    go_ret
    obtain ⟨k2, k3, g3, g4, g5⟩ := H4.out
    obtain ⟨hk6, hc6, hf6⟩ := H6.out
    have hX := H5.out
    have hP := PrAt.goR (HPl.out.later hX) (k2.later hX) (k3.later hX) g3 g4 HK.out.pF' HK.out.nP g5 HK.out.nF' hk6 hc6 hf6
    refine ⟨rfl, ⟨_, _, _, _, _, _, _, _, hP⟩, ?_⟩
    have a1 : Below N w x := HBN.out.trans (hX.mono HSZ.out)
    exact a1.trans (hc6.below (fun s hs q => by have := HK.out.nF' s q; omega) (Nat.le_trans HK.out.size a1.size))
set_option maxHeartbeats 8000000 in
theorem does_done_none {N P Bs Br : Nat} {d u : List (List Xg)} {vd vu vd' vu' : Value} {F F' : Nat → Prop} {w : World} {vL : Value} {lL : List Xg} (h : PrAt N P Bs Br d u vd vu vd' vu' F F' w) (dd : Int) (hdd : -9223372036854775808 ≤ dd ∧ dd ≤ 9223372036854775807) (rd : Bool) {ad : Nat → Addr} (_hLa : ∀ x, Below N w x → Laid ad x) (hL : ∀ x, Below N w x → SlD x vL lL) (hcap : ∀ a n c, vL = .slice a n c → n ≤ c) (hem : lL.take 20 = []) (hm : wiN dd 6 = 0) :
    Calls Tryd.prog 10 #[.pointer (some ⟨P, 0, none⟩), .agg #[.int .i64 dd, .bool rd, vL]] w fun e w' => DoQ N P Bs Br w e w' := by
  have HWi := hid_of' (fun x => within_is dd 6 x (by decide) (by decide) hdd)
  rw [hm, show ((6 : Nat) : Int) = 6 from rfl, show ((0 : Nat) : Int) = 0 from rfl] at HWi
  obtain ⟨aL, cL, hvL⟩ := (hL w (Below.refl _ _)).form
  have HL := hid_of' (And.intro hL hcap)
  generalize lL.length = nL at hvL
  subst hvL
  have r0 := row_new w (#[.int .i64 dd, .bool rd, .slice aL nL cL]) 35
  have b0 := below_one w (.cells (#[.int .i64 dd, .bool rd, .slice aL nL cL]) 35)
  have HK := hid_of' h
  clear h hL hcap hm hdd
  go_enter Tryd.func10, Tryd.ntmps10
  go_upto_region 1 with fail
  change Code.wp _ _ _ _ (w.alloc (.cells (#[.int .i64 dd, .bool rd, .slice aL nL cL]) 35))
  generalize w.alloc (.cells (#[.int .i64 dd, .bool rd, .slice aL nL cL]) 35) = X0 at r0 b0 ⊢
  generalize hob : w.heap.size = ob at r0 ⊢
  have c0 := r0.cellIs 0 rfl
  have c1 := r0.cellIs 1 rfl
  have c2 := r0.cellIs 2 rfl
  have H := hid_of' (HK.out.later b0)
  go_upto_region 3 with (go_at_call 31; (with_reducible refine (HWi.out _).mono ?_); rintro e w1 ⟨rfl, h0⟩; obtain rfl := h0.symm)
  clear c0 c1 c2
  have b1 := below_one X0 (.cells #[] 66)
  have c2 := (r0.later b1).cellIs 2 rfl
  have HC := hid_of' (cut14_is (HL.out.1 _ ((bgo b0 b1).mono HK.out.size)) HL.out.2)
  have hml : (lL.take 20).length ≤ 20 := by rw [List.length_take]; omega
  have HML := hid_of' hml
  have HB := hid_of' (And.intro b0 (And.intro b1 r0))
  clear hml b1
  go_upto_region 4 with (first | (go_at_call 17; (with_reducible refine HC.out.mono ?_); rintro e w1 ⟨u1, rfl, hu1, h0⟩; obtain rfl := h0.symm; clear HC; have HU1 := hid_of' hu1; obtain ⟨a1, c1, hv1⟩ := hu1.form; generalize List.length _ = n1 at hv1; subst hv1; clear hu1) | (at_builtin; refine wpL_appG (m := lL.take 20) rfl _ _ rfl rfl rfl (own_emptyX X0) HU1.out.so (by show 0 + _ ≤ _; have := HML.out; omega) ?_; intro v2 w2 q1 q2 q3; obtain ⟨a2, c2', hv2, _⟩ := Rw.form q1; generalize List.length _ = n2 at hv2; subst hv2))
  obtain ⟨_, b1, _⟩ := HB.out
  rw [List.nil_append] at q1
  have b2 : Below X0.heap.size X0 w2 := b1.grown q2 (by simp) (fun k hk => by cases hk; exact Nat.le_refl _)
  have o2 : ∀ k, Value.ownBlock (.slice a2 n2 c2') = some k → X0.heap.size ≤ k := fun k hk => by
    rcases q3 k hk with q | q
    · cases q; exact Nat.le_refl _
    · rw [World.size_alloc] at q; omega
  have h2 := H.out.later b2
  have p0 : w2.cell? ⟨P, 0, none⟩ = some (.pointer (some ⟨Bs, 0, none⟩)) := h2.lies.cellIs 0 rfl
  have hml2 : (lL.take 20).length ≤ 4398046510976 := by have := HML.out; omega
  have hobl : ob < X0.heap.size := r0.lt
  have H2 := hid_of' (And.intro q1 (And.intro o2 (And.intro b2 (And.intro h2 hobl))))
  have hnil : (lL.take 20).length = 0 := by rw [hem]; rfl
  have hn2 : n2 = 0 := by
    rcases q1.2 with ⟨e9, _⟩ | ⟨g9, cap9, cur9, e9, _⟩
    · simp only [Value.slice.injEq] at e9
      exact e9.2.1
    · simp only [Value.slice.injEq] at e9
      omega
  subst hn2
  have HD := hid_of' (done_none (B := Bs) (w := w2) (a := a2) (c := c2'))
  have HS := hid_of' (spoil_is q1 hml2)
  clear q1 q2 q3 b1 b2 o2 h2 c2 hobl
  go_upto_region 6 with (first | (go_at_call 28; (with_reducible refine HD.out.mono ?_); rintro e w3 ⟨⟨z, rfl⟩, h0⟩; obtain rfl := h0.symm; clear HD) | (go_at_call 23; (with_reducible refine HS.out.mono ?_); rintro e w4 ⟨⟨z4, rfl⟩, hc4⟩; clear HS))
  obtain ⟨q1, o2, b2, h2, hobl⟩ := H2.out
  have b4 : Below X0.heap.size X0 w4 := b2.trans (hc4.below (fun s hs q => by have := o2 s q; omega) b2.size)
  have h4 := H.out.later b4
  have HPl := hid_of' h4.lies
  have HOb := hid_of' (r0.later b4)
  have HBN : Hid (Below N w w4) := (bgo b0 b4).mono HK.out.size
  have HSZ : Hid (N ≤ w4.heap.size) := h4.size
  have H4 := hid_of' (And.intro h4 b4)
  clear q1 o2 b2 h2 hobl hc4 b4 h4 H2 p0
  refine wp_region_tail 7 (by kernel_rfl) (fun _ => none) (by kernel_rfl) (by kernel_rfl) (by decide) (fun i v x => match i with
    | 0 => v = .pointer (some ⟨P, 0, none⟩)
    | 1 => v = .pointer (some ⟨P, 0, none⟩)
    | 2 => v = .pointer (some ⟨P, 1, none⟩)
    | 3 => v = .pointer (some ⟨Br, 0, none⟩)
    | 4 => v = .pointer (some ⟨ob, 2, none⟩)
    | 5 => v = .slice aL nL cL
    | 6 => SlD x v (lL.take 20)
    | _ => True) (fun _ => false) (fun _ _ _ _ h => by cases h) ?_ ?_ ?_
  · intro i v x x' hR hb
    match i, hR with
    | 0, h => exact h
    | 1, h => exact h
    | 2, h => exact h
    | 3, h => exact h
    | 4, h => exact h
    | 5, h => exact h
    | 6, h => exact h.later hb
    | m + 7, h => exact h
  · intro i o hi ho q x vals hX hdep hoth
    have t0 : q.tmps[0]? = some (.pointer (some ⟨P, 0, none⟩)) := by rw [hoth 0 (by kernel_rfl)]; rfl
    have t3 : q.tmps[3]? = some (.pointer (some ⟨ob, 0, none⟩)) := by rw [hoth 3 (by kernel_rfl)]; rfl
    match i, hi, ho with
    | 0, _, ho =>
      simp only [List.getElem?_cons_zero, Option.some.injEq] at ho
      subst ho
      unfold Oper.wp
      simp [execOp, go_sem, t0]
      exact came _ rfl (Below.refl _ _) rfl (fun h => absurd h (by decide))
    | 1, _, ho =>
      simp only [List.getElem?_cons_succ, List.getElem?_cons_zero, Option.some.injEq] at ho
      subst ho
      obtain ⟨u0, e0⟩ := hdep ⟨0, .data⟩ (by simp) rfl _ 36 rfl rfl
      rw [show vals 0 = .pointer (some ⟨P, 0, none⟩) from e0] at u0
      unfold Oper.wp
      simp [execOp, go_sem, u0]
      exact came _ rfl (Below.refl _ _) rfl (fun h => absurd h (by decide))
    | 2, _, ho =>
      simp only [List.getElem?_cons_succ, List.getElem?_cons_zero, Option.some.injEq] at ho
      subst ho
      obtain ⟨u1, e1⟩ := hdep ⟨1, .data⟩ (by simp) rfl _ 37 rfl rfl
      rw [show vals 1 = .pointer (some ⟨P, 0, none⟩) from e1] at u1
      unfold Oper.wp
      simp [execOp, go_sem, u1]
      exact came _ rfl (Below.refl _ _) rfl (fun h => absurd h (by decide))
    | 3, _, ho =>
      simp only [List.getElem?_cons_succ, List.getElem?_cons_zero, Option.some.injEq] at ho
      subst ho
      obtain ⟨u2, e2⟩ := hdep ⟨2, .data⟩ (by simp) rfl _ 38 rfl rfl
      rw [show vals 2 = .pointer (some ⟨P, 1, none⟩) from e2] at u2
      have cc : x.cell? ⟨P, 1, none⟩ = some (.pointer (some ⟨Br, 0, none⟩)) := (HPl.out.later hX).cellIs 1 rfl
      unfold Oper.wp
      simp [execOp, go_sem, u2, cc]
      exact came _ rfl (Below.refl _ _) rfl (fun h => absurd h (by decide))
    | 4, _, ho =>
      simp only [List.getElem?_cons_succ, List.getElem?_cons_zero, Option.some.injEq] at ho
      subst ho
      unfold Oper.wp
      simp [execOp, go_sem, t3]
      exact came _ rfl (Below.refl _ _) rfl (fun h => absurd h (by decide))
    | 5, _, ho =>
      simp only [List.getElem?_cons_succ, List.getElem?_cons_zero, Option.some.injEq] at ho
      subst ho
      obtain ⟨u4, e4⟩ := hdep ⟨4, .data⟩ (by simp) rfl _ 40 rfl rfl
      rw [show vals 4 = .pointer (some ⟨ob, 2, none⟩) from e4] at u4
      have cc : x.cell? ⟨ob, 2, none⟩ = some (.slice aL nL cL) := (HOb.out.later hX).cellIs 2 rfl
      unfold Oper.wp
      simp [execOp, go_sem, u4, cc]
      exact came _ rfl (Below.refl _ _) rfl (fun h => absurd h (by decide))
    | 6, _, ho =>
      simp only [List.getElem?_cons_succ, List.getElem?_cons_zero, Option.some.injEq] at ho
      subst ho
      obtain ⟨u5, e5⟩ := hdep ⟨5, .data⟩ (by simp) rfl _ 41 rfl rfl
      rw [show vals 5 = .slice aL nL cL from e5] at u5
      unfold Oper.wp
      simp [go_sem, u5]
      refine (cut14_is (HL.out.1 x (HBN.out.trans (hX.mono HSZ.out))) HL.out.2).mono ?_
      rintro r x1 ⟨v1, rfl, hn1, h01⟩
      subst h01
      exact came _ rfl (Below.refl _ _) hn1 (fun h => absurd h (by decide))
    | m + 7, hi, _ => exact absurd hi (by omega)
  · intro vals x hX hR _
    have e3 : vals 3 = .pointer (some ⟨Br, 0, none⟩) := hR 3 (by decide)
    have hs6 : SlD x (vals 6) (lL.take 20) := hR 6 (by decide)
    obtain ⟨a6, c6, hv6⟩ := hs6.form
    rw [hnil] at hv6
    have HPu := hid_of' (refPush_none (B := Br) (w := x) (a := a6) (c := c6))
    have H5 := hid_of' hX
    clear hs6 hR hX
    simp only [List.drop, List.take, putAll, List.setIfInBounds_toArray, List.set_cons_succ, List.set_cons_zero, e3, hv6]
    clear e3 hv6
    go_wp2_with (go_at_call 32; (with_reducible refine HPu.out.mono ?_); rintro e w6 ⟨⟨z6, rfl⟩, h0⟩; obtain rfl := h0.symm; clear HPu)
    go_ret
    have hb := bgo H4.out.2 H5.out
    exact ⟨rfl, ⟨_, _, _, _, _, _, _, _, H.out.later hb⟩, (bgo b0 hb).mono HK.out.size⟩
end Go.Proofs.YtgkbgojgpomcdaaDoor
