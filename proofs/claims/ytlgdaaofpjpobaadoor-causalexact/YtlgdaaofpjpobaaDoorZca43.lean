
/-
  One call of both Inboxes: Next, Clear, and all that is told.
-/
import Derived.Test.YtlgdaaofpjpobaaDoorZca40
import Derived.Test.YtlgdaaofpjpobaaDoorZca42
namespace Go.Proofs.YtlgdaaofpjpobaaDoor
open Go.RowKit Go.Maps
set_option maxRecDepth 100000

/-- What Next tells, and what it leaves. -/
def NX (h : List Int) (l : List Ac) (y : Ac) (b : Bool) (l' : List Ac) : Prop :=
  (y = ac0 ∧ b = false ∧ l' = l ∧ ∀ x ∈ l, rdyC h x = false) ∨ ∃ i0, b = true ∧ l[i0]? = some y ∧ rdyC h y = true ∧ (∀ j z, j < i0 → l[j]? = some z → rdyC h z = false) ∧ l' = l.take i0 ++ l.drop (i0 + 1)
theorem NX.ex (h : List Int) : ∀ l : List Ac, ∃ y b l', NX h l y b l'
  | [] => ⟨ac0, false, [], .inl ⟨rfl, rfl, rfl, fun x hx => by cases hx⟩⟩
  | x :: t => by
    cases hx : rdyC h x
    · obtain ⟨y, b, l', q⟩ := NX.ex h t
      rcases q with ⟨h1, h2, h3, h4⟩ | ⟨i0, h1, h2, h3, h4, h5⟩
      · exact ⟨y, b, x :: t, .inl ⟨h1, h2, rfl, fun z hz => (List.mem_cons.1 hz).elim (fun e => by rw [e]; exact hx) (fun e => h4 z e)⟩⟩
      · refine ⟨y, b, x :: l', .inr ⟨i0 + 1, h1, by simpa using h2, h3, fun j z hj hz => ?_, by rw [h5]; simp⟩⟩
        cases j with
        | zero => simp only [List.getElem?_cons_zero, Option.some.injEq] at hz; rw [← hz]; exact hx
        | succ j => exact h4 j z (by omega) (by simpa using hz)
    · exact ⟨x, true, t, .inr ⟨0, rfl, rfl, hx, fun j z hj => by omega, by simp⟩⟩
theorem NX.fit {h : List Int} {l l' : List Ac} {y : Ac} {b : Bool} (q : NX h l y b l') (hf : AFit l) : y.Fit := by
  rcases q with ⟨h1, _⟩ | ⟨i0, _, h2, _⟩
  · rw [h1]; exact ac0_fit
  · exact hf.at h2
theorem next_any {B : Nat} {v : Value} {kb n : Nat} {m : Int} {l l' : List Ac} {w : World} (hI : IbAt B v kb n m l w) {h : List Int} (ha : Ck h) {y : Ac} {b : Bool} (q : NX h l y b l') :
    Calls Tryd.prog 19 #[.pointer (some ⟨B, 0, none⟩), .agg (cv h)] w fun e w' => ∃ v', e = .returned (.tuple #[.agg (acv y), .bool b]) ∧ IbAt B v' kb n m l' w' ∧ At' w v v' ∧ Ch (ibS B v kb) w w' := by
  rcases q with ⟨rfl, rfl, rfl, h4⟩ | ⟨i0, rfl, h2, h3, h4, rfl⟩
  · refine (next_none hI ha h4).mono ?_
    rintro e w' ⟨rfl, hb⟩
    exact ⟨v, rfl, hI.later hb, At'.refl _ _, Ch.of hb⟩
  · exact next_some hI ha h2 h3 h4
theorem refNext_any {R : Nat} {v : Value} {m : Int} {l l' : List Ac} {w : World} (hI : RbAt R v m l w) (hn : l.length ≤ 1000) {h : List Int} (ha : Ck h) {y : Ac} {b : Bool} (q : NX h l y b l') :
    Calls Tryd.prog 22 #[.pointer (some ⟨R, 0, none⟩), .agg (cv h)] w fun e w' => ∃ v', e = .returned (.tuple #[.agg (acv y), .bool b]) ∧ RbAt R v' m l' w' ∧ At' w v v' ∧ Ch (rbS R v) w w' := by
  rcases q with ⟨rfl, rfl, rfl, h4⟩ | ⟨i0, rfl, h2, h3, h4, rfl⟩
  · refine (refNext_none hI hn ha h4).mono ?_
    rintro e w' ⟨rfl, hb⟩
    exact ⟨v, rfl, hI.later hb, At'.refl _ _, Ch.of hb⟩
  · exact refNext_some hI hn ha h2 h3 h4

/-- Behind the program's Next. -/
def NxP (b0 P B R kb n : Nat) (vr : Value) (m : Int) (l' l : List Ac) (w : World) (ob : Nat) (h : List Int) (X : World) : Prop := ∃ vb', PrAt b0 P B R kb n vb' vr m l' l X ∧ Below b0 w X ∧ CsIn ob 1 (cv h) X
theorem KeptP.ch {S : Nat → Prop} {a b : World} (h : KeptP S a b) : Ch S a b := ⟨h.os, h.tape, h.output, h.size, h.block⟩
theorem NxP.of {b0 P B R kb n : Nat} {vb vr vb' : Value} {m : Int} {l l' : List Ac} {w : World} {ob : Nat} {h : List Int} {X X1 X2 : World} {S : Nat → Prop} (hh : PrAt b0 P B R kb n vb vr m l l X) (i1 : IbAt B vb' kb n m l' X1) (i2 : At' X vb vb') (i3 : Ch (ibS B vb kb) X X1) (hb : Below b0 w X)
    (hS : ∀ s, S s → ob < s ∧ s < X.heap.size) (ho : CsIn ob 1 (cv h) X) (hB : ∀ k, ibS B vb kb k → k < ob) (hR : ∀ k, rbS R vr k → k < ob) (hP : P < ob) (hk : KeptP S X1 X2) : NxP b0 P B R kb n vr m l' l w ob h X2 := by
  obtain ⟨g1, g2⟩ := hh.goB i1 i2 i3
  have hp0 := hh.p0
  refine ⟨vb', g1.ch hk.ch (fun e => by have := hS P e; omega) (fun k q e => ?_) (fun k q e => by have := hR k q; have := hS k e; omega), hb.trans (g2.trans (hk.ch.below (fun s hs e => by have := hS s e; omega) (by have := g1.p.lt; omega))), (ho.ch i3 (fun q => by have := hB ob q; omega)).ch hk.ch (fun e => by have := hS ob e; omega)⟩
  have hs := hS k e
  rcases q with q | q | q
  · have := hB k (.inl q); omega
  · have := hB k (.inr (.inl q)); omega
  · rcases i2 k q with q | q
    · have := hB k (.inr (.inr q)); omega
    · omega
/-- Behind both. -/
def NyP (b0 P B R kb n : Nat) (m : Int) (l' : List Ac) (w : World) (b5 : Nat) (y : Ac) (X : World) : Prop := ∃ vb' vr', PrAt b0 P B R kb n vb' vr' m l' l' X ∧ Below b0 w X ∧ RowAt b5 (acv y) 48 X
theorem NyP.of {b0 P B R kb n : Nat} {vb vr vr' : Value} {m : Int} {l l' : List Ac} {w : World} {b5 sz : Nat} {y : Ac} {X X1 X2 : World} {S : Nat → Prop} (hh : PrAt b0 P B R kb n vb vr m l' l X) (i1 : RbAt R vr' m l' X1) (i2 : At' X vr vr') (i3 : Ch (rbS R vr) X X1) (hb : Below b0 w X)
    (hS : ∀ s, S s → s < X.heap.size ∧ sz ≤ s) (ho : RowAt b5 (acv y) 48 X) (hB : ¬ rbS R vr b5 ∧ b5 < sz) (hP : P < sz ∧ (∀ k, ibS B vb kb k → k < sz) ∧ ∀ k, rbS R vr k → k < sz) (hk : KeptP S X1 X2) : NyP b0 P B R kb n m l' w b5 y X2 := by
  obtain ⟨g1, g2⟩ := hh.goR i1 i2 i3
  obtain ⟨hP1, hP2, hP3⟩ := hP
  have hp0 := hh.p0
  refine ⟨vb, vr', g1.ch hk.ch (fun e => by have := hS P e; omega) (fun k q e => by have := hP2 k q; have := hS k e; omega) (fun k q e => ?_), hb.trans (g2.trans (hk.ch.below (fun s hs e => by have := hS s e; omega) (by have := g1.p.lt; omega))), (ho.ch i3 hB.1).ch hk.ch (fun e => by have := hS b5 e; have := hB.2; omega)⟩
  have hs := hS k e
  rcases q with q | q
  · have := hP3 k (.inl q); omega
  · rcases i2 k q with q | q
    · have := hP3 k (.inr q); omega
    · omega

set_option maxHeartbeats 8000000 in
theorem does_1 {b0 P B R kb n : Nat} {vb vr : Value} {m : Int} {l : List Ac} {w : World} (H0 : PrAt b0 P B R kb n vb vr m l l w) (_hn : n < 1000000) {d : Int} (hd : fitsI d) {h : List Int} (ha : Ck h) {x : Ac} (_hx : x.Full) (hw : wiN d 5 = 1) :
    Calls Tryd.prog 8 #[.pointer (some ⟨P, 0, none⟩), .agg (ocv d h x)] w (DoQ b0 P B R kb n m w) := by
  obtain ⟨y, b, l', hnx⟩ := NX.ex h l
  have hyf := hnx.fit H0.r.row.2
  have hb2 := below_one w (.cells (ocv d h x) 50)
  have ho2 := row_new w (ocv d h x) 50
  have c0 := ho2.cellIs 0 (ocv_do d h x)
  have HW := hid_of' (within_is d 5 (w.alloc (.cells (ocv d h x) 50)) (by decide) (by decide) hd)
  rw [hw] at HW
  have hp0 := Nat.le_trans H0.p0 (Nat.le_of_lt H0.p.lt)
  have HB0 := hid_of' (Nat.le_trans hp0 hb2.size)
  have H2 := hid_of' (And.intro (H0.later hb2) (hb2.mono hp0))
  have HPL := hid_of' H0.p.lt
  have HLB := hid_of' (And.intro H0.ltB H0.ltR)
  have HO := hid_of' ho2
  have hl : l.length ≤ 1000 := by have := H0.b.room; have := H0.b.most; omega
  clear H0 ho2 hb2
  go_enter Tryd.func8, Tryd.ntmps8
  go_upto_region 5 with (go_at_call 20; refine HW.out.mono ?_; rintro e w1 ⟨rfl, hw1⟩; obtain rfl := hw1.symm; clear HW)
  clear c0
  obtain ⟨ob, hob⟩ : ∃ ob, w.heap.size = ob := ⟨_, rfl⟩
  rw [hob] at HO HPL HLB ⊢
  generalize w.alloc (.cells (ocv d h x) 50) = w2 at H2 HO HB0 ⊢
  have H2o := hid_of' (HO.out.in.sub (ds := cv h) 1 (fun j v => ocv_ck d h x))
  have HSZ := hid_of' (show ob < w2.heap.size from HO.out.lt)
  refine wp_region_floatC (by kernel_rfl) (by kernel_rfl) (ibS B vb kb) (fun s hs => PrAt.ltB H2.out.1 s hs) 6 (fun X => NxP b0 P B R kb n vr m l' l w ob h X) (fun ii u X => match ii with
    | 0 => u = .pointer (some ⟨P, 0, none⟩)
    | 1 => u = .pointer (some ⟨P, 0, none⟩)
    | 2 => u = .pointer (some ⟨P, 0, none⟩)
    | 3 => u = .pointer (some ⟨B, 0, none⟩)
    | 4 => u = .pointer (some ⟨ob, 1, none⟩)
    | 5 => u = .agg (cv h)
    | 6 => u = .tuple #[.agg (acv y), .bool b]
    | 7 => u = .tuple #[.agg (acv y), .bool b]
    | 8 => u = .agg (acv y)
    | 9 => u = .bool b
    | 12 => u = .bool b
    | _ => True) (fun i => match i with | 10 => some (48, 13) | _ => none) (fun i => match i with | 11 => some (10, 8) | _ => none) rfl rfl (by decide) ?_ ?_ ?_ ?_ ?_ ?_ ?_
  · intro kk f s h
    match kk, h with
    | 11, h => cases h; exact ⟨rfl, (by intro h; cases h), rfl, rfl, _, _, _, _, _, ⟨10, .data⟩, ⟨8, .data⟩, rfl, rfl, rfl, rfl, rfl, (by simp), rfl, rfl, (by simp), rfl, rfl⟩
    | 0, h | 1, h | 2, h | 3, h | 4, h | 5, h | 6, h | 7, h | 8, h | 9, h | 10, h | 12, h => cases h
    | m + 13, h => cases h
  · intro ii t n h
    match ii, h with
    | 10, h => rfl
    | 0, h | 1, h | 2, h | 3, h | 4, h | 5, h | 6, h | 7, h | 8, h | 9, h | 11, h | 12, h => cases h
    | m + 13, h => cases h
  · intro p q f s s' h1 h2
    have e1 : (p = 11 ∧ f = 10) := by
      match p, h1 with
      | 11, h => cases h; simp
      | 0, h | 1, h | 2, h | 3, h | 4, h | 5, h | 6, h | 7, h | 8, h | 9, h | 10, h | 12, h => cases h
      | m + 13, h => cases h
    have e2 : (q = 11 ∧ f = 10) := by
      match q, h2 with
      | 11, h => cases h; simp
      | 0, h | 1, h | 2, h | 3, h | 4, h | 5, h | 6, h | 7, h | 8, h | 9, h | 10, h | 12, h => cases h
      | m + 13, h => cases h
    omega
  · intro ii o ho hA hK q X vals S hC hX hS hdep hoth
    have t0 : q.tmps[0]? = some (.pointer (some ⟨P, 0, none⟩)) := by rw [hoth 0 (by kernel_rfl)]; rfl
    have t3 : q.tmps[3]? = some (.pointer (some ⟨ob, 0, none⟩)) := by rw [hoth 3 (by kernel_rfl)]; rfl
    match ii, ho, hA, hK with
    | 0, ho, hA, hK =>
      simp only [List.getElem?_cons_zero, Option.some.injEq] at ho
      subst ho
      unfold Oper.wp
      simp [execOp, go_sem, t0]
      exact cameFB _ rfl (by decide) (Below.refl _ _) (fun _ _ => rfl)
    | 1, ho, hA, hK =>
      simp only [List.getElem?_cons_succ, List.getElem?_cons_zero, Option.some.injEq] at ho
      subst ho
      obtain ⟨u0, e0⟩ := hdep ⟨0, .data⟩ (by simp) rfl _ 36 rfl rfl
      rw [show vals 0 = .pointer (some ⟨P, 0, none⟩) from e0 rfl rfl X (KeptP.refl _ _)] at u0
      unfold Oper.wp
      simp [execOp, go_sem, u0]
      exact cameFB _ rfl (by decide) (Below.refl _ _) (fun _ _ => rfl)
    | 2, ho, hA, hK =>
      simp only [List.getElem?_cons_succ, List.getElem?_cons_zero, Option.some.injEq] at ho
      subst ho
      obtain ⟨u1, e1⟩ := hdep ⟨1, .data⟩ (by simp) rfl _ 37 rfl rfl
      rw [show vals 1 = .pointer (some ⟨P, 0, none⟩) from e1 rfl rfl X (KeptP.refl _ _)] at u1
      unfold Oper.wp
      simp [execOp, go_sem, u1]
      exact cameFB _ rfl (by decide) (Below.refl _ _) (fun _ _ => rfl)
    | 3, ho, hA, hK =>
      simp only [List.getElem?_cons_succ, List.getElem?_cons_zero, Option.some.injEq] at ho
      subst ho
      obtain ⟨u2, e2⟩ := hdep ⟨2, .data⟩ (by simp) rfl _ 38 rfl rfl
      rw [show vals 2 = .pointer (some ⟨P, 0, none⟩) from e2 rfl rfl X (KeptP.refl _ _)] at u2
      have cc : X.cell? ⟨P, 0, none⟩ = some (.pointer (some ⟨B, 0, none⟩)) := (H2.out.1.p.later (hC (.inr (by kernel_rfl)))).cellIs 0 rfl
      unfold Oper.wp
      simp [execOp, go_sem, u2, cc]
      exact cameFB _ rfl (by decide) (Below.refl _ _) (fun _ _ => rfl)
    | 4, ho, hA, hK =>
      simp only [List.getElem?_cons_succ, List.getElem?_cons_zero, Option.some.injEq] at ho
      subst ho
      unfold Oper.wp
      simp [execOp, go_sem, t3]
      exact cameFB _ rfl (by decide) (Below.refl _ _) (fun _ _ => rfl)
    | 5, ho, hA, hK =>
      simp only [List.getElem?_cons_succ, List.getElem?_cons_zero, Option.some.injEq] at ho
      subst ho
      obtain ⟨u4, e4⟩ := hdep ⟨4, .data⟩ (by simp) rfl _ 40 rfl rfl
      rw [show vals 4 = .pointer (some ⟨ob, 1, none⟩) from e4 rfl rfl X (KeptP.refl _ _)] at u4
      exact opw_loadCkIn _ rfl (by simp [Act.eval, u4]) ha.1 (H2o.out.later (hC (.inr (by kernel_rfl)))) (cameFB _ rfl (by decide) (Below.refl _ _) (fun _ _ => rfl))
    | 6, ho, hA, hK =>
      simp only [List.getElem?_cons_succ, List.getElem?_cons_zero, Option.some.injEq] at ho
      subst ho
      obtain ⟨u3, e3⟩ := hdep ⟨3, .data⟩ (by simp) rfl _ 39 rfl rfl
      rw [show vals 3 = .pointer (some ⟨B, 0, none⟩) from e3 rfl rfl X (KeptP.refl _ _)] at u3
      obtain ⟨u5, e5⟩ := hdep ⟨5, .data⟩ (by simp) rfl _ 41 rfl rfl
      rw [show vals 5 = .agg (cv h) from e5 rfl rfl X (KeptP.refl _ _)] at u5
      have hb := hC (.inl rfl)
      have hh := PrAt.later H2.out.1 hb
      unfold Oper.wp
      simp [go_sem, u3, u5]
      refine (next_any hh.b ha hnx).mono ?_
      rintro r X1 ⟨v1, rfl, i1, i2, i3⟩
      exact cameFX _ rfl ⟨i3.os, i3.tape, i3.output, i3.size, i3.block⟩ (fun X2 hk => NxP.of hh i1 i2 i3 (H2.out.2.trans (hb.mono HB0.out)) (fun s hs => ⟨by have := (hS s hs).2; have := HSZ.out; omega, (hS s hs).1⟩) (H2o.out.later hb) HLB.out.1 HLB.out.2 HPL.out hk) (fun _ _ => rfl)
    | 7, ho, hA, hK =>
      simp only [List.getElem?_cons_succ, List.getElem?_cons_zero, Option.some.injEq] at ho
      subst ho
      obtain ⟨u6, e6⟩ := hdep ⟨6, .data⟩ (by simp) rfl _ 42 rfl rfl
      rw [show vals 6 = .tuple #[.agg (acv y), .bool b] from e6 rfl rfl X (KeptP.refl _ _)] at u6
      unfold Oper.wp
      simp [execOp, go_sem, u6]
      exact cameFB _ rfl (by decide) (Below.refl _ _) (fun _ _ => rfl)
    | 8, ho, hA, hK =>
      simp only [List.getElem?_cons_succ, List.getElem?_cons_zero, Option.some.injEq] at ho
      subst ho
      obtain ⟨u7, e7⟩ := hdep ⟨7, .data⟩ (by simp) rfl _ 35 rfl rfl
      rw [show vals 7 = .tuple #[.agg (acv y), .bool b] from e7 rfl rfl X (KeptP.refl _ _)] at u7
      unfold Oper.wp
      simp [execOp, go_sem, u7]
      exact cameFB _ rfl (by decide) (Below.refl _ _) (fun _ _ => rfl)
    | 9, ho, hA, hK =>
      simp only [List.getElem?_cons_succ, List.getElem?_cons_zero, Option.some.injEq] at ho
      subst ho
      obtain ⟨u7, e7⟩ := hdep ⟨7, .data⟩ (by simp) rfl _ 35 rfl rfl
      rw [show vals 7 = .tuple #[.agg (acv y), .bool b] from e7 rfl rfl X (KeptP.refl _ _)] at u7
      unfold Oper.wp
      simp [execOp, go_sem, u7]
      exact cameFB _ rfl (by decide) (Below.refl _ _) (fun _ _ => rfl)
    | 10, ho, hA, hK => cases hA
    | 11, ho, hA, hK => cases hK
    | 12, ho, hA, hK =>
      simp only [List.getElem?_cons_succ, List.getElem?_cons_zero, Option.some.injEq] at ho
      subst ho
      obtain ⟨u9, e9⟩ := hdep ⟨9, .data⟩ (by simp) rfl _ 44 rfl rfl
      rw [show vals 9 = .bool b from e9 rfl rfl X (KeptP.refl _ _)] at u9
      unfold Oper.wp
      simp [execOp, go_sem, u9]
      exact cameFB _ rfl (by decide) (Below.refl _ _) (fun _ _ => rfl)
    | m + 13, ho, hA, hK => simp at ho
  · intro ii o t n ho hA q X
    match ii, ho, hA with
    | 10, ho, hA =>
      cases hA
      simp only [List.getElem?_cons_succ, List.getElem?_cons_zero, Option.some.injEq] at ho
      subst ho
      unfold Oper.wp
      simp [execOp, go_sem]
      exact ⟨_, rfl, rfl, rfl⟩
    | 0, ho, hA | 1, ho, hA | 2, ho, hA | 3, ho, hA | 4, ho, hA | 5, ho, hA | 6, ho, hA | 7, ho, hA | 8, ho, hA | 9, ho, hA | 11, ho, hA | 12, ho, hA => cases hA
    | m + 13, ho, hA => cases hA
  · intro ii o of os_ f s n g' t df ds sv ho hK hA hf hs hdf hds q X cs0 sf ss hR hg hn
    match ii, ho, hK with
    | 11, ho, hK =>
      cases hK
      cases hA
      simp only [List.getElem?_cons_succ, List.getElem?_cons_zero, Option.some.injEq] at ho hf hs
      subst ho hf hs
      cases hdf
      cases hds
      obtain rfl : sv = .agg (acv y) := hR
      exact wp_store_row _ _ _ rfl g' ((acv y)) (by simp [Act.eval, sf]) (by simp [Act.eval, ss]) _ cs0 hg (a_size hyf) (by rw [hn]; exact (acv_size y hyf.1.1).symm) (acv_allOne y) ⟨undef, (acv y), rfl, rfl, (acv_size y hyf.1.1), rfl⟩
    | 0, ho, hK | 1, ho, hK | 2, ho, hK | 3, ho, hK | 4, ho, hK | 5, ho, hK | 6, ho, hK | 7, ho, hK | 8, ho, hK | 9, ho, hK | 10, ho, hK | 12, ho, hK => cases hK
    | m + 13, ho, hK => cases hK
  · intro vals X hPo hsz hR hA
    obtain ⟨vb6, p6, q6, o6⟩ := hPo
    obtain ⟨b5, cs, e10, hb5, hrow, _, hval⟩ := hA 10 _ _ (by decide) rfl
    have e8 : vals 8 = .agg (acv y) := hR 8 (by decide) rfl rfl
    have e12 : vals 12 = .bool b := hR 12 (by decide) rfl rfl
    have ecs : cs = acv y := Value.agg.inj ((hval 11 8 (by decide) rfl).symm.trans e8)
    subst ecs
    have H6 := hid_of' (And.intro p6 q6)
    have H6o := hid_of' o6
    have H6r : Hid (RowAt b5 (acv y) 48 X) := hid_of' hrow
    have hlt5 := H6r.out.lt
    have HPS := hid_of' (And.intro p6.p.lt (And.intro p6.ltB p6.ltR))
    have HB6 := hid_of' (Nat.le_trans p6.p0 (Nat.le_of_lt p6.p.lt))
    have HB5 : Hid (¬ rbS R vr b5 ∧ b5 < X.heap.size) := hid_of' ⟨fun q => by have := HLB.out.2 b5 q; have := HSZ.out; omega, hlt5⟩
    clear hR hA hsz hval hrow p6 q6 o6 hb5
    simp only [putAll, e10, e12, List.setIfInBounds_toArray, List.set_cons_succ, List.set_cons_zero]
    clear e10 e12 e8
    go_upto_region 6 with fail
    refine wp_region_floatC (by kernel_rfl) (by kernel_rfl) (rbS R vr) (fun s hs => PrAt.ltR H6.out.1 s hs) 6 (fun X => NyP b0 P B R kb n m l' w b5 y X) (fun ii u X => match ii with
      | 0 => u = .pointer (some ⟨P, 0, none⟩)
      | 1 => u = .pointer (some ⟨P, 0, none⟩)
      | 2 => u = .pointer (some ⟨P, 1, none⟩)
      | 3 => u = .pointer (some ⟨R, 0, none⟩)
      | 4 => u = .pointer (some ⟨ob, 1, none⟩)
      | 5 => u = .agg (cv h)
      | 6 => u = .tuple #[.agg (acv y), .bool b]
      | 7 => u = .tuple #[.agg (acv y), .bool b]
      | 8 => u = .agg (acv y)
      | 9 => u = .bool b
      | 12 => u = .bool b
      | _ => True) (fun i => match i with | 10 => some (48, 13) | _ => none) (fun i => match i with | 11 => some (10, 8) | _ => none) rfl rfl (by decide) ?_ ?_ ?_ ?_ ?_ ?_ ?_
    · intro kk f s h
      match kk, h with
      | 11, h => cases h; exact ⟨rfl, (by intro h; cases h), rfl, rfl, _, _, _, _, _, ⟨10, .data⟩, ⟨8, .data⟩, rfl, rfl, rfl, rfl, rfl, (by simp), rfl, rfl, (by simp), rfl, rfl⟩
      | 0, h | 1, h | 2, h | 3, h | 4, h | 5, h | 6, h | 7, h | 8, h | 9, h | 10, h | 12, h => cases h
      | m + 13, h => cases h
    · intro ii t n h
      match ii, h with
      | 10, h => rfl
      | 0, h | 1, h | 2, h | 3, h | 4, h | 5, h | 6, h | 7, h | 8, h | 9, h | 11, h | 12, h => cases h
      | m + 13, h => cases h
    · intro p q f s s' h1 h2
      have e1 : (p = 11 ∧ f = 10) := by
        match p, h1 with
        | 11, h => cases h; simp
        | 0, h | 1, h | 2, h | 3, h | 4, h | 5, h | 6, h | 7, h | 8, h | 9, h | 10, h | 12, h => cases h
        | m + 13, h => cases h
      have e2 : (q = 11 ∧ f = 10) := by
        match q, h2 with
        | 11, h => cases h; simp
        | 0, h | 1, h | 2, h | 3, h | 4, h | 5, h | 6, h | 7, h | 8, h | 9, h | 10, h | 12, h => cases h
        | m + 13, h => cases h
      omega
    · intro ii o ho hA hK q X vals S hC hX hS hdep hoth
      have t0 : q.tmps[0]? = some (.pointer (some ⟨P, 0, none⟩)) := by rw [hoth 0 (by kernel_rfl)]; rfl
      have t3 : q.tmps[3]? = some (.pointer (some ⟨ob, 0, none⟩)) := by rw [hoth 3 (by kernel_rfl)]; rfl
      match ii, ho, hA, hK with
      | 0, ho, hA, hK =>
        simp only [List.getElem?_cons_zero, Option.some.injEq] at ho
        subst ho
        unfold Oper.wp
        simp [execOp, go_sem, t0]
        exact cameFB _ rfl (by decide) (Below.refl _ _) (fun _ _ => rfl)
      | 1, ho, hA, hK =>
        simp only [List.getElem?_cons_succ, List.getElem?_cons_zero, Option.some.injEq] at ho
        subst ho
        obtain ⟨u0, e0⟩ := hdep ⟨0, .data⟩ (by simp) rfl _ 46 rfl rfl
        rw [show vals 0 = .pointer (some ⟨P, 0, none⟩) from e0 rfl rfl X (KeptP.refl _ _)] at u0
        unfold Oper.wp
        simp [execOp, go_sem, u0]
        exact cameFB _ rfl (by decide) (Below.refl _ _) (fun _ _ => rfl)
      | 2, ho, hA, hK =>
        simp only [List.getElem?_cons_succ, List.getElem?_cons_zero, Option.some.injEq] at ho
        subst ho
        obtain ⟨u1, e1⟩ := hdep ⟨1, .data⟩ (by simp) rfl _ 47 rfl rfl
        rw [show vals 1 = .pointer (some ⟨P, 0, none⟩) from e1 rfl rfl X (KeptP.refl _ _)] at u1
        unfold Oper.wp
        simp [execOp, go_sem, u1]
        exact cameFB _ rfl (by decide) (Below.refl _ _) (fun _ _ => rfl)
      | 3, ho, hA, hK =>
        simp only [List.getElem?_cons_succ, List.getElem?_cons_zero, Option.some.injEq] at ho
        subst ho
        obtain ⟨u2, e2⟩ := hdep ⟨2, .data⟩ (by simp) rfl _ 48 rfl rfl
        rw [show vals 2 = .pointer (some ⟨P, 1, none⟩) from e2 rfl rfl X (KeptP.refl _ _)] at u2
        have cc : X.cell? ⟨P, 1, none⟩ = some (.pointer (some ⟨R, 0, none⟩)) := (H6.out.1.p.later (hC (.inr (by kernel_rfl)))).cellIs 1 rfl
        unfold Oper.wp
        simp [execOp, go_sem, u2, cc]
        exact cameFB _ rfl (by decide) (Below.refl _ _) (fun _ _ => rfl)
      | 4, ho, hA, hK =>
        simp only [List.getElem?_cons_succ, List.getElem?_cons_zero, Option.some.injEq] at ho
        subst ho
        unfold Oper.wp
        simp [execOp, go_sem, t3]
        exact cameFB _ rfl (by decide) (Below.refl _ _) (fun _ _ => rfl)
      | 5, ho, hA, hK =>
        simp only [List.getElem?_cons_succ, List.getElem?_cons_zero, Option.some.injEq] at ho
        subst ho
        obtain ⟨u4, e4⟩ := hdep ⟨4, .data⟩ (by simp) rfl _ 50 rfl rfl
        rw [show vals 4 = .pointer (some ⟨ob, 1, none⟩) from e4 rfl rfl X (KeptP.refl _ _)] at u4
        exact opw_loadCkIn _ rfl (by simp [Act.eval, u4]) ha.1 (H6o.out.later (hC (.inr (by kernel_rfl)))) (cameFB _ rfl (by decide) (Below.refl _ _) (fun _ _ => rfl))
      | 6, ho, hA, hK =>
        simp only [List.getElem?_cons_succ, List.getElem?_cons_zero, Option.some.injEq] at ho
        subst ho
        obtain ⟨u3, e3⟩ := hdep ⟨3, .data⟩ (by simp) rfl _ 49 rfl rfl
        rw [show vals 3 = .pointer (some ⟨R, 0, none⟩) from e3 rfl rfl X (KeptP.refl _ _)] at u3
        obtain ⟨u5, e5⟩ := hdep ⟨5, .data⟩ (by simp) rfl _ 51 rfl rfl
        rw [show vals 5 = .agg (cv h) from e5 rfl rfl X (KeptP.refl _ _)] at u5
        have hb := hC (.inl rfl)
        have hh := PrAt.later H6.out.1 hb
        unfold Oper.wp
        simp [go_sem, u3, u5]
        refine (refNext_any hh.r hl ha hnx).mono ?_
        rintro r X1 ⟨v1, rfl, i1, i2, i3⟩
        exact cameFX _ rfl ⟨i3.os, i3.tape, i3.output, i3.size, i3.block⟩ (fun X2 hk => NyP.of hh i1 i2 i3 (H6.out.2.trans (hb.mono HB6.out)) (fun s hs => hS s hs) (H6r.out.later hb) HB5.out HPS.out hk) (fun _ _ => rfl)
      | 7, ho, hA, hK =>
        simp only [List.getElem?_cons_succ, List.getElem?_cons_zero, Option.some.injEq] at ho
        subst ho
        obtain ⟨u6, e6⟩ := hdep ⟨6, .data⟩ (by simp) rfl _ 52 rfl rfl
        rw [show vals 6 = .tuple #[.agg (acv y), .bool b] from e6 rfl rfl X (KeptP.refl _ _)] at u6
        unfold Oper.wp
        simp [execOp, go_sem, u6]
        exact cameFB _ rfl (by decide) (Below.refl _ _) (fun _ _ => rfl)
      | 8, ho, hA, hK =>
        simp only [List.getElem?_cons_succ, List.getElem?_cons_zero, Option.some.injEq] at ho
        subst ho
        obtain ⟨u7, e7⟩ := hdep ⟨7, .data⟩ (by simp) rfl _ 45 rfl rfl
        rw [show vals 7 = .tuple #[.agg (acv y), .bool b] from e7 rfl rfl X (KeptP.refl _ _)] at u7
        unfold Oper.wp
        simp [execOp, go_sem, u7]
        exact cameFB _ rfl (by decide) (Below.refl _ _) (fun _ _ => rfl)
      | 9, ho, hA, hK =>
        simp only [List.getElem?_cons_succ, List.getElem?_cons_zero, Option.some.injEq] at ho
        subst ho
        obtain ⟨u7, e7⟩ := hdep ⟨7, .data⟩ (by simp) rfl _ 45 rfl rfl
        rw [show vals 7 = .tuple #[.agg (acv y), .bool b] from e7 rfl rfl X (KeptP.refl _ _)] at u7
        unfold Oper.wp
        simp [execOp, go_sem, u7]
        exact cameFB _ rfl (by decide) (Below.refl _ _) (fun _ _ => rfl)
      | 10, ho, hA, hK => cases hA
      | 11, ho, hA, hK => cases hK
      | 12, ho, hA, hK =>
        simp only [List.getElem?_cons_succ, List.getElem?_cons_zero, Option.some.injEq] at ho
        subst ho
        obtain ⟨u9, e9⟩ := hdep ⟨9, .data⟩ (by simp) rfl _ 54 rfl rfl
        rw [show vals 9 = .bool b from e9 rfl rfl X (KeptP.refl _ _)] at u9
        unfold Oper.wp
        simp [execOp, go_sem, u9]
        exact cameFB _ rfl (by decide) (Below.refl _ _) (fun _ _ => rfl)
      | m + 13, ho, hA, hK => simp at ho
    · intro ii o t n ho hA q X
      match ii, ho, hA with
      | 10, ho, hA =>
        cases hA
        simp only [List.getElem?_cons_succ, List.getElem?_cons_zero, Option.some.injEq] at ho
        subst ho
        unfold Oper.wp
        simp [execOp, go_sem]
        exact ⟨_, rfl, rfl, rfl⟩
      | 0, ho, hA | 1, ho, hA | 2, ho, hA | 3, ho, hA | 4, ho, hA | 5, ho, hA | 6, ho, hA | 7, ho, hA | 8, ho, hA | 9, ho, hA | 11, ho, hA | 12, ho, hA => cases hA
      | m + 13, ho, hA => cases hA
    · intro ii o of os_ f s n g' t df ds sv ho hK hA hf hs hdf hds q X cs0 sf ss hR hg hn
      match ii, ho, hK with
      | 11, ho, hK =>
        cases hK
        cases hA
        simp only [List.getElem?_cons_succ, List.getElem?_cons_zero, Option.some.injEq] at ho hf hs
        subst ho hf hs
        cases hdf
        cases hds
        obtain rfl : sv = .agg (acv y) := hR
        exact wp_store_row _ _ _ rfl g' ((acv y)) (by simp [Act.eval, sf]) (by simp [Act.eval, ss]) _ cs0 hg (a_size hyf) (by rw [hn]; exact (acv_size y hyf.1.1).symm) (acv_allOne y) ⟨undef, (acv y), rfl, rfl, (acv_size y hyf.1.1), rfl⟩
      | 0, ho, hK | 1, ho, hK | 2, ho, hK | 3, ho, hK | 4, ho, hK | 5, ho, hK | 6, ho, hK | 7, ho, hK | 8, ho, hK | 9, ho, hK | 10, ho, hK | 12, ho, hK => cases hK
      | m + 13, ho, hK => cases hK
    · intro vals X7 hPo hsz hR hA
      obtain ⟨vb7, vr7, p7, q7, o7⟩ := hPo
      obtain ⟨b7, cs, e10, hb7, hrow, _, hval⟩ := hA 10 _ _ (by decide) rfl
      have e8 : vals 8 = .agg (acv y) := hR 8 (by decide) rfl rfl
      have e12 : vals 12 = .bool b := hR 12 (by decide) rfl rfl
      have ecs : cs = acv y := Value.agg.inj ((hval 11 8 (by decide) rfl).symm.trans e8)
      subst ecs
      have HZ := hid_of' (And.intro p7 q7)
      have r7 : RowAt b7 (acv y) 48 X7 := hrow
      clear hR hA hsz hval hrow p7 q7 hb7
      simp only [putAll, e10, e12, List.setIfInBounds_toArray, List.set_cons_succ, List.set_cons_zero]
      clear e10 e12 e8
      have hq := eqIn_act hyf hyf
      have hself := aeq_self y
      have hg := act_guard
      go_wp2_with (first | (refine wpL_loadA (p := y) rfl _ rfl rfl hyf o7.in ?_) | (refine wpL_loadA (p := y) rfl _ rfl rfl hyf r7.in ?_))
      go_ret
      exact ⟨_, _, _, _, rfl, HZ.out.1, by omega, HZ.out.2⟩

set_option maxHeartbeats 4000000 in
theorem does_4 {b0 P B R kb n : Nat} {vb vr : Value} {m : Int} {l : List Ac} {w : World} (H0 : PrAt b0 P B R kb n vb vr m l l w) (_hn : n < 1000000) {d : Int} (hd : fitsI d) {h : List Int} (_ha : Ck h) {x : Ac} (_hx : x.Full) (hw : wiN d 5 = 4) :
    Calls Tryd.prog 8 #[.pointer (some ⟨P, 0, none⟩), .agg (ocv d h x)] w (DoQ b0 P B R kb n m w) := by
  have hb2 := below_one w (.cells (ocv d h x) 50)
  have ho2 := row_new w (ocv d h x) 50
  have c0 := ho2.cellIs 0 (ocv_do d h x)
  have HW := hid_of' (within_is d 5 (w.alloc (.cells (ocv d h x) 50)) (by decide) (by decide) hd)
  rw [hw] at HW
  have hp0 := Nat.le_trans H0.p0 (Nat.le_of_lt H0.p.lt)
  have HB0 := hid_of' (Nat.le_trans hp0 hb2.size)
  have H2 := hid_of' (And.intro (H0.later hb2) (hb2.mono hp0))
  have HPL := hid_of' H0.p.lt
  have HLB := hid_of' (And.intro H0.ltB H0.ltR)
  have HO := hid_of' ho2
  have hl : l.length ≤ 1000 := by have := H0.b.room; have := H0.b.most; omega
  clear H0 ho2 hb2
  go_enter Tryd.func8, Tryd.ntmps8
  go_upto_region 14 with (go_at_call 20; refine HW.out.mono ?_; rintro e w1 ⟨rfl, hw1⟩; obtain rfl := hw1.symm; clear HW)
  clear c0
  obtain ⟨ob, hob⟩ : ∃ ob, w.heap.size = ob := ⟨_, rfl⟩
  rw [hob] at HO HPL HLB ⊢
  generalize w.alloc (.cells (ocv d h x) 50) = w2 at H2 HO HB0 ⊢
  have HS := hid_of' (same_ok H2.out.1)
  go_wp2_with (go_at_call 9; refine HS.out.mono ?_; rintro e w3 ⟨rfl, hb3⟩; clear HS)
  go_ret
  exact ⟨_, _, _, _, rfl, H2.out.1.later hb3, by omega, H2.out.2.trans (hb3.mono HB0.out)⟩

set_option maxHeartbeats 4000000 in
theorem does_3 {b0 P B R kb n : Nat} {vb vr : Value} {m : Int} {l : List Ac} {w : World} (H0 : PrAt b0 P B R kb n vb vr m l l w) (_hn : n < 1000000) {d : Int} (hd : fitsI d) {h : List Int} (_ha : Ck h) {x : Ac} (_hx : x.Full) (hw : wiN d 5 = 3) :
    Calls Tryd.prog 8 #[.pointer (some ⟨P, 0, none⟩), .agg (ocv d h x)] w (DoQ b0 P B R kb n m w) := by
  have hb2 := below_one w (.cells (ocv d h x) 50)
  have ho2 := row_new w (ocv d h x) 50
  have c0 := ho2.cellIs 0 (ocv_do d h x)
  have HW := hid_of' (within_is d 5 (w.alloc (.cells (ocv d h x) 50)) (by decide) (by decide) hd)
  rw [hw] at HW
  have hp0 := Nat.le_trans H0.p0 (Nat.le_of_lt H0.p.lt)
  have HB0 := hid_of' (Nat.le_trans hp0 hb2.size)
  have H2 := hid_of' (And.intro (H0.later hb2) (hb2.mono hp0))
  have HPL := hid_of' H0.p.lt
  have HLB := hid_of' (And.intro H0.ltB H0.ltR)
  have HO := hid_of' ho2
  have hl : l.length ≤ 1000 := by have := H0.b.room; have := H0.b.most; omega
  clear H0 ho2 hb2
  go_enter Tryd.func8, Tryd.ntmps8
  go_upto_region 11 with (go_at_call 20; refine HW.out.mono ?_; rintro e w1 ⟨rfl, hw1⟩; obtain rfl := hw1.symm; clear HW)
  clear c0
  obtain ⟨ob, hob⟩ : ∃ ob, w.heap.size = ob := ⟨_, rfl⟩
  rw [hob] at HO HPL HLB ⊢
  generalize w.alloc (.cells (ocv d h x) 50) = w2 at H2 HO HB0 ⊢
  have HC := hid_of' (clearI_ok H2.out.1.b)
  have c2 := H2.out.1.p.cellIs 0 rfl
  go_upto_region 12 with (go_at_call 25; refine HC.out.mono ?_; rintro e w3 ⟨⟨z, rfl⟩, i1, i3⟩; clear HC)
  clear c2
  obtain ⟨p3, q3⟩ := H2.out.1.goB i1 (fun k hk => by cases hk) i3
  have c3 := p3.p.cellIs 1 rfl
  have f3 := p3.r.lies.froz 1
  have s5 := ch_cell (w := w3) (b := R) (k := 1) (.slice none 0 0)
  obtain ⟨p4, q4⟩ := p3.goR (vr' := .slice none 0 0) (lr' := []) ⟨p3.r.lies.setc 1 (.slice none 0 0), OwnA.nil _⟩ (fun k hk => by cases hk) (s5.mono (fun s q => .inl (.inl q)))
  obtain ⟨ra, rc, rfl, _⟩ := p3.r.row.form
  have c5 := p3.r.lies.cellIs 1 rfl
  have HZ := hid_of' (And.intro p4 (H2.out.2.trans (q3.trans q4)))
  clear i1 i3 p3 q3 p4 q4 s5
  go_upto_region 13 with fail
  clear c3 c5 f3
  generalize w3.setCell ⟨R, 1, none⟩ (.slice none 0 0) = w4 at HZ ⊢
  have HL := hid_of' (lenI_is HZ.out.1.b)
  have c6 := HZ.out.1.p.cellIs 0 rfl
  go_wp2_with (go_at_call 18; refine HL.out.mono ?_; rintro e w5 ⟨rfl, hw5⟩; obtain rfl := hw5.symm; clear HL)
  go_ret
  exact ⟨_, _, _, _, rfl, HZ.out.1, by omega, HZ.out.2⟩
end Go.Proofs.YtlgdaaofpjpobaaDoor
