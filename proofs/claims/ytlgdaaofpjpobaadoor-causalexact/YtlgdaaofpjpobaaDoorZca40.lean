
/-
  One call of both Inboxes: Offer and Sweep.
-/
import Derived.Test.YtlgdaaofpjpobaaDoorZca39
import Derived.Test.YtlgdaaofpjpobaaDoorZca31
import Derived.Test.YtlgdaaofpjpobaaDoorZca13
namespace Go.Proofs.YtlgdaaofpjpobaaDoor
open Go.RowKit Go.Maps
set_option maxRecDepth 100000

def ocv (d : Int) (h : List Int) (x : Ac) : Array Value := (Value.int .i64 d :: ((cv h).toList ++ (acv x).toList)).toArray
theorem ocv_do (d : Int) (h : List Int) (x : Ac) : (ocv d h x)[0]? = some (.int .i64 d) := rfl
theorem ocv_ck (d : Int) (h : List Int) (x : Ac) {j : Nat} {v : Value} (hv : (cv h)[j]? = some v) : (ocv d h x)[1 + j]? = some v := by
  have hj : j < (cv h).size := (Array.getElem?_eq_some_iff.1 hv).1
  unfold ocv
  rw [List.getElem?_toArray, Nat.add_comm, List.getElem?_cons_succ, List.getElem?_append_left (by simpa using hj), Array.getElem?_toList]
  exact hv
theorem ocv_act {h : List Int} (hh : h.length = 8) (d : Int) (x : Ac) {j : Nat} {v : Value} (hv : (acv x)[j]? = some v) : (ocv d h x)[9 + j]? = some v := by
  have hs : (cv h).toList.length = 8 := by simp [cv, hh]
  unfold ocv
  rw [List.getElem?_toArray, show 9 + j = (8 + j) + 1 by omega, List.getElem?_cons_succ, List.getElem?_append_right (by omega), hs, Array.getElem?_toList, show 8 + j - 8 = j by omega]
  exact hv
theorem opw_loadCkIn {K : Act → World → Prop} {o : Oper} {A : Act} {w : World} {Q : Exit → Act → World → Prop} (x : Operand) (ho : o.op = .load 44 x) {b off : Nat} (hx : A.eval x = .pointer (some ⟨b, off, none⟩)) {p : List Int} (hp : p.length = 8) (h : CsIn b off (cv p) w)
    (k : K (A.put o.dst (.agg (cv p))) w) : o.wp Tryd.prog A w K Q := by
  unfold Oper.wp execOp
  simp only [ho, hx, Instr.loadAt, Instr.sureAddr, Sem.run_bind, Sem.run_pure, Result.andThen_ok, run_loadVar_in h Tryd.underlying44 rfl (ck_size hp)]
  exact k

/-- What one call leaves: true, and both Inboxes alike. -/
def DoQ (b0 P B R kb n : Nat) (m : Int) (w : World) (e : Ending) (w' : World) : Prop := ∃ n' vb' vr' l', e = .returned (.bool true) ∧ PrAt b0 P B R kb n' vb' vr' m l' l' w' ∧ n' ≤ n + 1 ∧ Below b0 w w'

def DoP (b0 P B R kb n : Nat) (vr : Value) (m : Int) (lo l : List Ac) (w : World) (cd : Int) (u : Value) (X : World) : Prop := u = .int .i64 cd ∧ ∃ vb', PrAt b0 P B R kb n vb' vr m lo l X ∧ Below b0 w X
theorem DoP.later {b0 P B R kb n : Nat} {vr : Value} {m : Int} {lo l : List Ac} {w : World} {cd : Int} {u : Value} {X X' : World} (h : DoP b0 P B R kb n vr m lo l w cd u X) (hb : Below X.heap.size X X') : DoP b0 P B R kb n vr m lo l w cd u X' :=
  ⟨h.1, h.2.imp fun _ q => ⟨q.1.later hb, q.2.trans (hb.mono (Nat.le_trans q.1.p0 (Nat.le_of_lt q.1.p.lt)))⟩⟩

set_option maxHeartbeats 4000000 in
theorem does_0 {b0 P B R kb n : Nat} {vb vr : Value} {m : Int} {l : List Ac} {w : World} (H0 : PrAt b0 P B R kb n vb vr m l l w) (hn : n < 1000000) {d : Int} (hd : fitsI d) {h : List Int} (ha : Ck h) {x : Ac} (hx : x.Full) (hw : wiN d 5 = 0) :
    Calls Tryd.prog 8 #[.pointer (some ⟨P, 0, none⟩), .agg (ocv d h x)] w (DoQ b0 P B R kb n m w) := by
  have hb2 := below_one w (.cells (ocv d h x) 50)
  have ho2 := row_new w (ocv d h x) 50
  have c0 := ho2.cellIs 0 (ocv_do d h x)
  have HW := hid_of' (within_is d 5 (w.alloc (.cells (ocv d h x) 50)) (by decide) (by decide) hd)
  rw [hw] at HW
  have hp0 := Nat.le_trans H0.p0 (Nat.le_of_lt H0.p.lt)
  have HB0 := hid_of' (Nat.le_trans hp0 hb2.size)
  have H2 := hid_of' (And.intro (H0.later hb2) (hb2.mono hp0))
  have HPL := hid_of' H0.p.lt
  have HLB := hid_of' H0.ltB
  have HO := hid_of' ho2
  have hl : l.length ≤ 1000 := by have := H0.b.room; have := H0.b.most; omega
  clear H0 ho2 hb2
  go_enter Tryd.func8, Tryd.ntmps8
  go_upto_region 3 with (go_at_call 20; refine HW.out.mono ?_; rintro e w1 ⟨rfl, hw1⟩; obtain rfl := hw1.symm; clear HW)
  clear c0
  obtain ⟨ob, hob⟩ : ∃ ob, w.heap.size = ob := ⟨_, rfl⟩
  rw [hob] at HO HPL HLB ⊢
  generalize w.alloc (.cells (ocv d h x) 50) = w2 at H2 HO HB0 ⊢
  have HOB : Hid (¬ ibS B vb kb ob) := hid_of' (fun q => absurd (HLB.out ob q) (by omega))
  have hP : ∀ X, Ch (ibS B vb kb) w2 X → RowAt P #[.pointer (some ⟨B, 0, none⟩), .pointer (some ⟨R, 0, none⟩)] 41 X ∧ CsIn ob 1 (cv h) X ∧ CsIn ob 9 (acv x) X := fun X hX => by
    have ho := HO.out.ch hX HOB.out
    exact ⟨H2.out.1.p.ch hX (fun q => (H2.out.1.fb P q).2.1 rfl), ho.in.sub 1 (fun j v => ocv_ck d h x), ho.in.sub 9 (fun j v => ocv_act ha.1 d x)⟩
  have HP := hid_of' hP
  clear hP
  obtain ⟨cd, lo, hof⟩ : ∃ cd lo, offR h m l x = (cd, lo) := ⟨_, _, rfl⟩
  have HN := hid_of' (And.intro (show n < 1099511627776 by omega) hof)
  clear hof
  refine wp_region_once 17 (by kernel_rfl) (fun _ => none) (by kernel_rfl) (by kernel_rfl) (by decide) (fun ii u X => match ii with
    | 0 => u = .pointer (some ⟨P, 0, none⟩)
    | 1 => u = .pointer (some ⟨P, 0, none⟩)
    | 2 => u = .pointer (some ⟨P, 0, none⟩)
    | 3 => u = .pointer (some ⟨B, 0, none⟩)
    | 4 => u = .pointer (some ⟨ob, 1, none⟩)
    | 5 => u = .agg (cv h)
    | 6 => u = .pointer (some ⟨ob, 9, none⟩)
    | 7 => u = .agg (acv x)
    | 8 => DoP b0 P B R kb (n + 1) vr m lo l w cd u X
    | 9 => u = .pointer (some ⟨P, 0, none⟩)
    | 10 => u = .pointer (some ⟨P, 0, none⟩)
    | 11 => u = .pointer (some ⟨P, 1, none⟩)
    | 12 => u = .pointer (some ⟨R, 0, none⟩)
    | 13 => u = .pointer (some ⟨ob, 1, none⟩)
    | 14 => u = .agg (cv h)
    | 15 => u = .pointer (some ⟨ob, 9, none⟩)
    | 16 => u = .agg (acv x)
    | _ => True) (fun _ => false) (fun _ _ _ _ h => by cases h) 8 (by decide) (fun a b => Ch (ibS B vb kb) a b) (fun a b => Ch (ibS B vb kb) a b) (fun _ _ g h => g.later h) (fun _ h => Ch.of h) (fun _ _ h g => (Ch.of h).trans g) (fun _ _ g => g.size) ?_ ?_ ?_ ?_
  · intro ii u X X' hR hb
    match ii, hR with
    | 0, h => exact h
    | 1, h => exact h
    | 2, h => exact h
    | 3, h => exact h
    | 4, h => exact h
    | 5, h => exact h
    | 6, h => exact h
    | 7, h => exact h
    | 8, h => exact DoP.later h hb
    | 9, h => exact h
    | 10, h => exact h
    | 11, h => exact h
    | 12, h => exact h
    | 13, h => exact h
    | 14, h => exact h
    | 15, h => exact h
    | 16, h => exact h
    | m + 17, h => exact h
  · intro ii u X X' hne hR hb
    match ii, hne, hR with
    | 0, hne, h => exact h
    | 1, hne, h => exact h
    | 2, hne, h => exact h
    | 3, hne, h => exact h
    | 4, hne, h => exact h
    | 5, hne, h => exact h
    | 6, hne, h => exact h
    | 7, hne, h => exact h
    | 8, hne, h => exact absurd rfl hne
    | 9, hne, h => exact h
    | 10, hne, h => exact h
    | 11, hne, h => exact h
    | 12, hne, h => exact h
    | 13, hne, h => exact h
    | 14, hne, h => exact h
    | 15, hne, h => exact h
    | 16, hne, h => exact h
    | m + 17, _, h => exact h
  · intro ii o hi ho q X vals hX hC hdep hoth
    have t0 : q.tmps[0]? = some (.pointer (some ⟨P, 0, none⟩)) := by rw [hoth 0 (by kernel_rfl)]; rfl
    have t3 : q.tmps[3]? = some (.pointer (some ⟨ob, 0, none⟩)) := by rw [hoth 3 (by kernel_rfl)]; rfl
    match ii, hi, ho, hC with
    | 0, _, ho, hC =>
      simp only [List.getElem?_cons_zero, Option.some.injEq] at ho
      subst ho
      unfold Oper.wp
      simp [execOp, go_sem, t0]
      exact cameB _ rfl (by decide) (Below.refl _ _) rfl (fun h => absurd h (by decide))
    | 1, _, ho, hC =>
      simp only [List.getElem?_cons_succ, List.getElem?_cons_zero, Option.some.injEq] at ho
      subst ho
      obtain ⟨u0, e0⟩ := hdep ⟨0, .data⟩ (by simp) rfl _ 14 rfl rfl
      rw [show vals 0 = .pointer (some ⟨P, 0, none⟩) from e0] at u0
      unfold Oper.wp
      simp [execOp, go_sem, u0]
      exact cameB _ rfl (by decide) (Below.refl _ _) rfl (fun h => absurd h (by decide))
    | 2, _, ho, hC =>
      simp only [List.getElem?_cons_succ, List.getElem?_cons_zero, Option.some.injEq] at ho
      subst ho
      obtain ⟨u1, e1⟩ := hdep ⟨1, .data⟩ (by simp) rfl _ 15 rfl rfl
      rw [show vals 1 = .pointer (some ⟨P, 0, none⟩) from e1] at u1
      unfold Oper.wp
      simp [execOp, go_sem, u1]
      exact cameB _ rfl (by decide) (Below.refl _ _) rfl (fun h => absurd h (by decide))
    | 3, _, ho, hC =>
      simp only [List.getElem?_cons_succ, List.getElem?_cons_zero, Option.some.injEq] at ho
      subst ho
      obtain ⟨u2, e2⟩ := hdep ⟨2, .data⟩ (by simp) rfl _ 16 rfl rfl
      rw [show vals 2 = .pointer (some ⟨P, 0, none⟩) from e2] at u2
      have cc : X.cell? ⟨P, 0, none⟩ = some (.pointer (some ⟨B, 0, none⟩)) := (HP.out X hX).1.cellIs 0 rfl
      unfold Oper.wp
      simp [execOp, go_sem, u2, cc]
      exact cameB _ rfl (by decide) (Below.refl _ _) rfl (fun h => absurd h (by decide))
    | 4, _, ho, hC =>
      simp only [List.getElem?_cons_succ, List.getElem?_cons_zero, Option.some.injEq] at ho
      subst ho
      unfold Oper.wp
      simp [execOp, go_sem, t3]
      exact cameB _ rfl (by decide) (Below.refl _ _) rfl (fun h => absurd h (by decide))
    | 5, _, ho, hC =>
      simp only [List.getElem?_cons_succ, List.getElem?_cons_zero, Option.some.injEq] at ho
      subst ho
      obtain ⟨u4, e4⟩ := hdep ⟨4, .data⟩ (by simp) rfl _ 18 rfl rfl
      rw [show vals 4 = .pointer (some ⟨ob, 1, none⟩) from e4] at u4
      exact opw_loadCkIn _ rfl (by simp [Act.eval, u4]) ha.1 (HP.out X hX).2.1 (cameB _ rfl (by decide) (Below.refl _ _) rfl (fun h => absurd h (by decide)))
    | 6, _, ho, hC =>
      simp only [List.getElem?_cons_succ, List.getElem?_cons_zero, Option.some.injEq] at ho
      subst ho
      unfold Oper.wp
      simp [execOp, go_sem, t3]
      exact cameB _ rfl (by decide) (Below.refl _ _) rfl (fun h => absurd h (by decide))
    | 7, _, ho, hC =>
      simp only [List.getElem?_cons_succ, List.getElem?_cons_zero, Option.some.injEq] at ho
      subst ho
      obtain ⟨u6, e6⟩ := hdep ⟨6, .data⟩ (by simp) rfl _ 20 rfl rfl
      rw [show vals 6 = .pointer (some ⟨ob, 9, none⟩) from e6] at u6
      exact opw_loadA _ rfl (by simp [Act.eval, u6]) hx.1 (HP.out X hX).2.2 (cameB _ rfl (by decide) (Below.refl _ _) rfl (fun h => absurd h (by decide)))
    | 8, _, ho, hC =>
      simp only [List.getElem?_cons_succ, List.getElem?_cons_zero, Option.some.injEq] at ho
      subst ho
      obtain ⟨u3, e3⟩ := hdep ⟨3, .data⟩ (by simp) rfl _ 17 rfl rfl
      rw [show vals 3 = .pointer (some ⟨B, 0, none⟩) from e3] at u3
      obtain ⟨u5, e5⟩ := hdep ⟨5, .data⟩ (by simp) rfl _ 19 rfl rfl
      rw [show vals 5 = .agg (cv h) from e5] at u5
      obtain ⟨u7, e7⟩ := hdep ⟨7, .data⟩ (by simp) rfl _ 21 rfl rfl
      rw [show vals 7 = .agg (acv x) from e7] at u7
      have hb := hC (.inl rfl)
      have hh := PrAt.later H2.out.1 hb
      unfold Oper.wp
      simp [go_sem, u3, u5, u7]
      refine (offer_any hh.b ha hx HN.out.1).mono ?_
      rintro r X1 ⟨v1, rfl, i1, i2, i3⟩
      rw [HN.out.2] at i1 ⊢
      obtain ⟨g1, g2⟩ := hh.goB i1 i2 i3
      exact cameX _ rfl i3 ⟨rfl, v1, g1, H2.out.2.trans ((hb.mono HB0.out).trans g2)⟩ rfl
    | 9, _, ho, hC =>
      simp only [List.getElem?_cons_succ, List.getElem?_cons_zero, Option.some.injEq] at ho
      subst ho
      unfold Oper.wp
      simp [execOp, go_sem, t0]
      exact cameB _ rfl (by decide) (Below.refl _ _) rfl (fun h => absurd h (by decide))
    | 10, _, ho, hC =>
      simp only [List.getElem?_cons_succ, List.getElem?_cons_zero, Option.some.injEq] at ho
      subst ho
      obtain ⟨u9, e9⟩ := hdep ⟨9, .data⟩ (by simp) rfl _ 23 rfl rfl
      rw [show vals 9 = .pointer (some ⟨P, 0, none⟩) from e9] at u9
      unfold Oper.wp
      simp [execOp, go_sem, u9]
      exact cameB _ rfl (by decide) (Below.refl _ _) rfl (fun h => absurd h (by decide))
    | 11, _, ho, hC =>
      simp only [List.getElem?_cons_succ, List.getElem?_cons_zero, Option.some.injEq] at ho
      subst ho
      obtain ⟨u10, e10⟩ := hdep ⟨10, .data⟩ (by simp) rfl _ 24 rfl rfl
      rw [show vals 10 = .pointer (some ⟨P, 0, none⟩) from e10] at u10
      unfold Oper.wp
      simp [execOp, go_sem, u10]
      exact cameB _ rfl (by decide) (Below.refl _ _) rfl (fun h => absurd h (by decide))
    | 12, _, ho, hC =>
      simp only [List.getElem?_cons_succ, List.getElem?_cons_zero, Option.some.injEq] at ho
      subst ho
      obtain ⟨u11, e11⟩ := hdep ⟨11, .data⟩ (by simp) rfl _ 25 rfl rfl
      rw [show vals 11 = .pointer (some ⟨P, 1, none⟩) from e11] at u11
      have cc : X.cell? ⟨P, 1, none⟩ = some (.pointer (some ⟨R, 0, none⟩)) := (HP.out X hX).1.cellIs 1 rfl
      unfold Oper.wp
      simp [execOp, go_sem, u11, cc]
      exact cameB _ rfl (by decide) (Below.refl _ _) rfl (fun h => absurd h (by decide))
    | 13, _, ho, hC =>
      simp only [List.getElem?_cons_succ, List.getElem?_cons_zero, Option.some.injEq] at ho
      subst ho
      unfold Oper.wp
      simp [execOp, go_sem, t3]
      exact cameB _ rfl (by decide) (Below.refl _ _) rfl (fun h => absurd h (by decide))
    | 14, _, ho, hC =>
      simp only [List.getElem?_cons_succ, List.getElem?_cons_zero, Option.some.injEq] at ho
      subst ho
      obtain ⟨u13, e13⟩ := hdep ⟨13, .data⟩ (by simp) rfl _ 27 rfl rfl
      rw [show vals 13 = .pointer (some ⟨ob, 1, none⟩) from e13] at u13
      exact opw_loadCkIn _ rfl (by simp [Act.eval, u13]) ha.1 (HP.out X hX).2.1 (cameB _ rfl (by decide) (Below.refl _ _) rfl (fun h => absurd h (by decide)))
    | 15, _, ho, hC =>
      simp only [List.getElem?_cons_succ, List.getElem?_cons_zero, Option.some.injEq] at ho
      subst ho
      unfold Oper.wp
      simp [execOp, go_sem, t3]
      exact cameB _ rfl (by decide) (Below.refl _ _) rfl (fun h => absurd h (by decide))
    | 16, _, ho, hC =>
      simp only [List.getElem?_cons_succ, List.getElem?_cons_zero, Option.some.injEq] at ho
      subst ho
      obtain ⟨u15, e15⟩ := hdep ⟨15, .data⟩ (by simp) rfl _ 29 rfl rfl
      rw [show vals 15 = .pointer (some ⟨ob, 9, none⟩) from e15] at u15
      exact opw_loadA _ rfl (by simp [Act.eval, u15]) hx.1 (HP.out X hX).2.2 (cameB _ rfl (by decide) (Below.refl _ _) rfl (fun h => absurd h (by decide)))
    | m + 17, hi, _, _ => exact absurd hi (by omega)
  · intro vals X hX hR _
    obtain ⟨e8, vb8, p8, b8⟩ : vals 8 = .int .i64 cd ∧ ∃ vb', PrAt b0 P B R kb (n + 1) vb' vr m lo l X ∧ Below b0 w X := hR 8 (by decide)
    have e12 : vals 12 = .pointer (some ⟨R, 0, none⟩) := hR 12 (by decide)
    have e14 : vals 14 = .agg (cv h) := hR 14 (by decide)
    have e16 : vals 16 = .agg (acv x) := hR 16 (by decide)
    have HF := hid_of' (refOffer_any p8.r hl ha hx)
    have H8 := hid_of' (And.intro p8 b8)
    clear hR hX p8 b8
    simp only [List.drop, List.take, putAll, List.setIfInBounds_toArray, List.set_cons_succ, List.set_cons_zero, e8, e12, e14, e16]
    clear e8 e12 e14 e16
    go_upto_region 20 with (go_at_call 21; refine HF.out.mono ?_; rintro e w3 ⟨v3, rfl, i1, i2, i3⟩; clear HF; rw [HN.out.2] at i1 ⊢)
    obtain ⟨g1, g2⟩ := H8.out.1.goR i1 i2 i3
    have HZ := hid_of' (And.intro g1 (H8.out.2.trans g2))
    clear i1 i2 i3 g1 g2
    go_wp2
    go_ret
    exact ⟨_, _, _, _, rfl, HZ.out.1, by omega, HZ.out.2⟩

set_option maxHeartbeats 4000000 in
theorem does_2 {b0 P B R kb n : Nat} {vb vr : Value} {m : Int} {l : List Ac} {w : World} (H0 : PrAt b0 P B R kb n vb vr m l l w) (_hn : n < 1000000) {d : Int} (hd : fitsI d) {h : List Int} (ha : Ck h) {x : Ac} (_hx : x.Full) (hw : wiN d 5 = 2) :
    Calls Tryd.prog 8 #[.pointer (some ⟨P, 0, none⟩), .agg (ocv d h x)] w (DoQ b0 P B R kb n m w) := by
  have hb2 := below_one w (.cells (ocv d h x) 50)
  have ho2 := row_new w (ocv d h x) 50
  have c0 := ho2.cellIs 0 (ocv_do d h x)
  have HW := hid_of' (within_is d 5 (w.alloc (.cells (ocv d h x) 50)) (by decide) (by decide) hd)
  rw [hw] at HW
  have hp0 := Nat.le_trans H0.p0 (Nat.le_of_lt H0.p.lt)
  have HB0 := hid_of' (Nat.le_trans hp0 hb2.size)
  have H2 := hid_of' (And.intro (H0.later hb2) (hb2.mono hp0))
  have HPL := hid_of' H0.p.lt
  have HLB := hid_of' H0.ltB
  have HO := hid_of' ho2
  have hl : l.length ≤ 1000 := by have := H0.b.room; have := H0.b.most; omega
  clear H0 ho2 hb2
  go_enter Tryd.func8, Tryd.ntmps8
  go_upto_region 9 with (go_at_call 20; refine HW.out.mono ?_; rintro e w1 ⟨rfl, hw1⟩; obtain rfl := hw1.symm; clear HW)
  clear c0
  obtain ⟨ob, hob⟩ : ∃ ob, w.heap.size = ob := ⟨_, rfl⟩
  rw [hob] at HO HPL HLB ⊢
  generalize w.alloc (.cells (ocv d h x) 50) = w2 at H2 HO HB0 ⊢
  have HOB : Hid (¬ ibS B vb kb ob) := hid_of' (fun q => absurd (HLB.out ob q) (by omega))
  have hP : ∀ X, Ch (ibS B vb kb) w2 X → RowAt P #[.pointer (some ⟨B, 0, none⟩), .pointer (some ⟨R, 0, none⟩)] 41 X ∧ CsIn ob 1 (cv h) X ∧ CsIn ob 9 (acv x) X := fun X hX => by
    have ho := HO.out.ch hX HOB.out
    exact ⟨H2.out.1.p.ch hX (fun q => (H2.out.1.fb P q).2.1 rfl), ho.in.sub 1 (fun j v => ocv_ck d h x), ho.in.sub 9 (fun j v => ocv_act ha.1 d x)⟩
  have HP := hid_of' hP
  clear hP
  obtain ⟨cd, hcd⟩ : ∃ cd, (l.length : Int) - ((swp h l).length : Int) = cd := ⟨_, rfl⟩
  obtain ⟨lo, hof⟩ : ∃ lo, swp h l = lo := ⟨_, rfl⟩
  rw [hof] at hcd
  have HN := hid_of' (And.intro hcd hof)
  clear hof hcd
  refine wp_region_once 13 (by kernel_rfl) (fun _ => none) (by kernel_rfl) (by kernel_rfl) (by decide) (fun ii u X => match ii with
    | 0 => u = .pointer (some ⟨P, 0, none⟩)
    | 1 => u = .pointer (some ⟨P, 0, none⟩)
    | 2 => u = .pointer (some ⟨P, 0, none⟩)
    | 3 => u = .pointer (some ⟨B, 0, none⟩)
    | 4 => u = .pointer (some ⟨ob, 1, none⟩)
    | 5 => u = .agg (cv h)
    | 6 => DoP b0 P B R kb n vr m lo l w cd u X
    | 7 => u = .pointer (some ⟨P, 0, none⟩)
    | 8 => u = .pointer (some ⟨P, 0, none⟩)
    | 9 => u = .pointer (some ⟨P, 1, none⟩)
    | 10 => u = .pointer (some ⟨R, 0, none⟩)
    | 11 => u = .pointer (some ⟨ob, 1, none⟩)
    | 12 => u = .agg (cv h)
    | _ => True) (fun _ => false) (fun _ _ _ _ h => by cases h) 6 (by decide) (fun a b => Ch (ibS B vb kb) a b) (fun a b => Ch (ibS B vb kb) a b) (fun _ _ g h => g.later h) (fun _ h => Ch.of h) (fun _ _ h g => (Ch.of h).trans g) (fun _ _ g => g.size) ?_ ?_ ?_ ?_
  · intro ii u X X' hR hb
    match ii, hR with
    | 0, h => exact h
    | 1, h => exact h
    | 2, h => exact h
    | 3, h => exact h
    | 4, h => exact h
    | 5, h => exact h
    | 6, h => exact DoP.later h hb
    | 7, h => exact h
    | 8, h => exact h
    | 9, h => exact h
    | 10, h => exact h
    | 11, h => exact h
    | 12, h => exact h
    | m + 13, h => exact h
  · intro ii u X X' hne hR hb
    match ii, hne, hR with
    | 0, hne, h => exact h
    | 1, hne, h => exact h
    | 2, hne, h => exact h
    | 3, hne, h => exact h
    | 4, hne, h => exact h
    | 5, hne, h => exact h
    | 6, hne, h => exact absurd rfl hne
    | 7, hne, h => exact h
    | 8, hne, h => exact h
    | 9, hne, h => exact h
    | 10, hne, h => exact h
    | 11, hne, h => exact h
    | 12, hne, h => exact h
    | m + 13, _, h => exact h
  · intro ii o hi ho q X vals hX hC hdep hoth
    have t0 : q.tmps[0]? = some (.pointer (some ⟨P, 0, none⟩)) := by rw [hoth 0 (by kernel_rfl)]; rfl
    have t3 : q.tmps[3]? = some (.pointer (some ⟨ob, 0, none⟩)) := by rw [hoth 3 (by kernel_rfl)]; rfl
    match ii, hi, ho, hC with
    | 0, _, ho, hC =>
      simp only [List.getElem?_cons_zero, Option.some.injEq] at ho
      subst ho
      unfold Oper.wp
      simp [execOp, go_sem, t0]
      exact cameB _ rfl (by decide) (Below.refl _ _) rfl (fun h => absurd h (by decide))
    | 1, _, ho, hC =>
      simp only [List.getElem?_cons_succ, List.getElem?_cons_zero, Option.some.injEq] at ho
      subst ho
      obtain ⟨u0, e0⟩ := hdep ⟨0, .data⟩ (by simp) rfl _ 65 rfl rfl
      rw [show vals 0 = .pointer (some ⟨P, 0, none⟩) from e0] at u0
      unfold Oper.wp
      simp [execOp, go_sem, u0]
      exact cameB _ rfl (by decide) (Below.refl _ _) rfl (fun h => absurd h (by decide))
    | 2, _, ho, hC =>
      simp only [List.getElem?_cons_succ, List.getElem?_cons_zero, Option.some.injEq] at ho
      subst ho
      obtain ⟨u1, e1⟩ := hdep ⟨1, .data⟩ (by simp) rfl _ 66 rfl rfl
      rw [show vals 1 = .pointer (some ⟨P, 0, none⟩) from e1] at u1
      unfold Oper.wp
      simp [execOp, go_sem, u1]
      exact cameB _ rfl (by decide) (Below.refl _ _) rfl (fun h => absurd h (by decide))
    | 3, _, ho, hC =>
      simp only [List.getElem?_cons_succ, List.getElem?_cons_zero, Option.some.injEq] at ho
      subst ho
      obtain ⟨u2, e2⟩ := hdep ⟨2, .data⟩ (by simp) rfl _ 67 rfl rfl
      rw [show vals 2 = .pointer (some ⟨P, 0, none⟩) from e2] at u2
      have cc : X.cell? ⟨P, 0, none⟩ = some (.pointer (some ⟨B, 0, none⟩)) := (HP.out X hX).1.cellIs 0 rfl
      unfold Oper.wp
      simp [execOp, go_sem, u2, cc]
      exact cameB _ rfl (by decide) (Below.refl _ _) rfl (fun h => absurd h (by decide))
    | 4, _, ho, hC =>
      simp only [List.getElem?_cons_succ, List.getElem?_cons_zero, Option.some.injEq] at ho
      subst ho
      unfold Oper.wp
      simp [execOp, go_sem, t3]
      exact cameB _ rfl (by decide) (Below.refl _ _) rfl (fun h => absurd h (by decide))
    | 5, _, ho, hC =>
      simp only [List.getElem?_cons_succ, List.getElem?_cons_zero, Option.some.injEq] at ho
      subst ho
      obtain ⟨u4, e4⟩ := hdep ⟨4, .data⟩ (by simp) rfl _ 69 rfl rfl
      rw [show vals 4 = .pointer (some ⟨ob, 1, none⟩) from e4] at u4
      exact opw_loadCkIn _ rfl (by simp [Act.eval, u4]) ha.1 (HP.out X hX).2.1 (cameB _ rfl (by decide) (Below.refl _ _) rfl (fun h => absurd h (by decide)))
    | 6, _, ho, hC =>
      simp only [List.getElem?_cons_succ, List.getElem?_cons_zero, Option.some.injEq] at ho
      subst ho
      obtain ⟨u3, e3⟩ := hdep ⟨3, .data⟩ (by simp) rfl _ 68 rfl rfl
      rw [show vals 3 = .pointer (some ⟨B, 0, none⟩) from e3] at u3
      obtain ⟨u5, e5⟩ := hdep ⟨5, .data⟩ (by simp) rfl _ 70 rfl rfl
      rw [show vals 5 = .agg (cv h) from e5] at u5
      have hb := hC (.inl rfl)
      have hh := PrAt.later H2.out.1 hb
      unfold Oper.wp
      simp [go_sem, u3, u5]
      refine (sweep_ok hh.b ha).mono ?_
      rintro r X1 ⟨v1, rfl, i1, i2, i3⟩
      rw [HN.out.2] at i1 ⊢
      rw [HN.out.1]
      obtain ⟨g1, g2⟩ := hh.goB i1 i2 i3
      exact cameX _ rfl i3 ⟨rfl, v1, g1, H2.out.2.trans ((hb.mono HB0.out).trans g2)⟩ rfl
    | 7, _, ho, hC =>
      simp only [List.getElem?_cons_succ, List.getElem?_cons_zero, Option.some.injEq] at ho
      subst ho
      unfold Oper.wp
      simp [execOp, go_sem, t0]
      exact cameB _ rfl (by decide) (Below.refl _ _) rfl (fun h => absurd h (by decide))
    | 8, _, ho, hC =>
      simp only [List.getElem?_cons_succ, List.getElem?_cons_zero, Option.some.injEq] at ho
      subst ho
      obtain ⟨u7, e7⟩ := hdep ⟨7, .data⟩ (by simp) rfl _ 72 rfl rfl
      rw [show vals 7 = .pointer (some ⟨P, 0, none⟩) from e7] at u7
      unfold Oper.wp
      simp [execOp, go_sem, u7]
      exact cameB _ rfl (by decide) (Below.refl _ _) rfl (fun h => absurd h (by decide))
    | 9, _, ho, hC =>
      simp only [List.getElem?_cons_succ, List.getElem?_cons_zero, Option.some.injEq] at ho
      subst ho
      obtain ⟨u8, e8⟩ := hdep ⟨8, .data⟩ (by simp) rfl _ 73 rfl rfl
      rw [show vals 8 = .pointer (some ⟨P, 0, none⟩) from e8] at u8
      unfold Oper.wp
      simp [execOp, go_sem, u8]
      exact cameB _ rfl (by decide) (Below.refl _ _) rfl (fun h => absurd h (by decide))
    | 10, _, ho, hC =>
      simp only [List.getElem?_cons_succ, List.getElem?_cons_zero, Option.some.injEq] at ho
      subst ho
      obtain ⟨u9, e9⟩ := hdep ⟨9, .data⟩ (by simp) rfl _ 74 rfl rfl
      rw [show vals 9 = .pointer (some ⟨P, 1, none⟩) from e9] at u9
      have cc : X.cell? ⟨P, 1, none⟩ = some (.pointer (some ⟨R, 0, none⟩)) := (HP.out X hX).1.cellIs 1 rfl
      unfold Oper.wp
      simp [execOp, go_sem, u9, cc]
      exact cameB _ rfl (by decide) (Below.refl _ _) rfl (fun h => absurd h (by decide))
    | 11, _, ho, hC =>
      simp only [List.getElem?_cons_succ, List.getElem?_cons_zero, Option.some.injEq] at ho
      subst ho
      unfold Oper.wp
      simp [execOp, go_sem, t3]
      exact cameB _ rfl (by decide) (Below.refl _ _) rfl (fun h => absurd h (by decide))
    | 12, _, ho, hC =>
      simp only [List.getElem?_cons_succ, List.getElem?_cons_zero, Option.some.injEq] at ho
      subst ho
      obtain ⟨u11, e11⟩ := hdep ⟨11, .data⟩ (by simp) rfl _ 76 rfl rfl
      rw [show vals 11 = .pointer (some ⟨ob, 1, none⟩) from e11] at u11
      exact opw_loadCkIn _ rfl (by simp [Act.eval, u11]) ha.1 (HP.out X hX).2.1 (cameB _ rfl (by decide) (Below.refl _ _) rfl (fun h => absurd h (by decide)))
    | m + 13, hi, _, _ => exact absurd hi (by omega)
  · intro vals X hX hR _
    obtain ⟨e8, vb8, p8, b8⟩ : vals 6 = .int .i64 cd ∧ ∃ vb', PrAt b0 P B R kb n vb' vr m lo l X ∧ Below b0 w X := hR 6 (by decide)
    have e12 : vals 10 = .pointer (some ⟨R, 0, none⟩) := hR 10 (by decide)
    have e14 : vals 12 = .agg (cv h) := hR 12 (by decide)
    have HF := hid_of' (refSweep_ok p8.r hl ha)
    have H8 := hid_of' (And.intro p8 b8)
    clear hR hX p8 b8
    simp only [List.drop, List.take, putAll, List.setIfInBounds_toArray, List.set_cons_succ, List.set_cons_zero, e8, e12, e14]
    clear e8 e12 e14
    go_upto_region 20 with (go_at_call 24; refine HF.out.mono ?_; rintro e w3 ⟨v3, rfl, i1, i2, i3⟩; clear HF; rw [HN.out.2] at i1 ⊢; rw [HN.out.1])
    obtain ⟨g1, g2⟩ := H8.out.1.goR i1 i2 i3
    have HZ := hid_of' (And.intro g1 (H8.out.2.trans g2))
    clear i1 i2 i3 g1 g2
    go_wp2
    go_ret
    exact ⟨_, _, _, _, rfl, HZ.out.1, by omega, HZ.out.2⟩
end Go.Proofs.YtlgdaaofpjpobaaDoor
