
/-
  One call of both Bags: Drop, Double, Swap, Clear, same.
-/
import Derived.Test.YtdojjhhnciaegaaDoorZb45
namespace Go.Proofs.YtdojjhhnciaegaaDoor
open Go.RowKit Go.Extern.Stop Go.Stop Go.Extern
set_option maxRecDepth 100000

theorem ErrR.down {ad : Nat → Addr} {M M' : Nat} {o : Rf} {v : Value} {w : World} (h : ErrR ad M o v w) (hm : M' ≤ M) : ErrR ad M' o v w := by
  match o, h with
  | none, h => exact h
  | some (_, _, _), ⟨b, h1, h2, h3, h4⟩ => exact ⟨b, h1, Nat.le_trans hm h2, h3, h4⟩
theorem NoR.down {M M' : Nat} {o : Rf} {v : Value} {w : World} (h : NoR M o v w) (hm : M' ≤ M) : NoR M' o v w := by
  match o, h with
  | none, h => exact h
  | some (_, _, _), ⟨g, g', h1, h2, h3, h4, h5⟩ => exact ⟨g, g', h1, Nat.le_trans hm h2, Nat.le_trans hm h3, h4, h5⟩
/-- The program's call is done. -/
def SixR (ad : Nat → Addr) (M P B R : Nat) (vr : Value) (g gr : Bg) (oo : Rf) (W : World) (u : Value) (X : World) : Prop := ∃ vb', ErrR ad W.heap.size oo u X ∧ PrAt M P B R vb' vr g gr X ∧ Below M W X
theorem SixR.later {ad : Nat → Addr} {M P B R : Nat} {vr : Value} {g gr : Bg} {oo : Rf} {W : World} {u : Value} {X X' : World} (h : SixR ad M P B R vr g gr oo W u X) (hb : Below X.heap.size X X') : SixR ad M P B R vr g gr oo W u X' := by
  obtain ⟨v, h1, h2, h3⟩ := h
  exact ⟨v, h1.later hb, h2.later hb, h3.trans (hb.mono (by have := h2.p0; have := h2.p.lt; omega))⟩
theorem SixR.mk {ad : Nat → Addr} {M P B R : Nat} {vb vr v9 : Value} {g gr g' : Bg} {K : Nat → Prop} {oo : Rf} {W : World} {u : Value} {X X1 : World} (hh : PrAt M P B R vb vr g gr X) (hb : Below W.heap.size W X) (i1 : ErrR ad X.heap.size oo u X1) (i2 : BgAt B v9 g' K X1) (i3 : At' X vb v9) (i4 : Ch (Bch B vb) X X1) (hM : M ≤ W.heap.size) : SixR ad M P B R vr g' gr oo W u X1 :=
  ⟨v9, i1.down hb.size, (hh.goB i2 i3 i4).1, (hb.mono hM).trans (hh.goB i2 i3 i4).2⟩
/-- What a call of both leaves. -/
def DoQ (M P B R : Nat) (w : World) (e : Ending) (w' : World) : Prop := e = .returned (.bool true) ∧ ∃ vb' vr' g', PrAt M P B R vb' vr' g' g' w' ∧ Below M w w'
set_option maxHeartbeats 8000000 in
theorem does_drop {ad : Nat → Addr} {M P B R : Nat} {vb vr : Value} {g : Bg} {w : World} (L : ∀ x, Below M w x → Laid ad x) (h : PrAt M P B R vb vr g g w) {o : Opb} (ho : o.Ok w) (_ho1 : o.rv.oneCell' = true) (hw : wiN o.d 9 = 2) :
    Calls Tryd.prog 9 #[.pointer (some ⟨P, 0, none⟩), .agg (ocb o)] w (DoQ M P B R w) := by
  have hb2 := below_one w (.cells (ocb o) 43)
  have ho2 := row_new w (ocb o) 43
  have c0 : (w.alloc (.cells (ocb o) 43)).cell? ⟨w.heap.size, 0, none⟩ = some (.int .i64 o.d) := ho2.cellIs 0 rfl
  have HWi := hid_of' (within_is o.d 9 (w.alloc (.cells (ocb o) 43)) (by decide) (by decide) ho.d)
  rw [hw] at HWi
  have hPl := h.p.lt
  have HLT := hid_of' (And.intro h.ltB h.ltR)
  have H2 := hid_of' (h.later hb2)
  have HO := hid_of' (And.intro ho2 hb2)
  have hMw : M ≤ w.heap.size := by have := h.p0; omega
  have HLw := hid_of' (fun x (hx : Below M (w.alloc (.cells (ocb o) 43)) x) => L x ((hb2.mono hMw).trans hx))
  clear h ho2 hb2 L
  go_enter Tryd.func9, Tryd.ntmps9
  go_upto_region 15 with (go_at_call 24; refine HWi.out.mono ?_; rintro e w1 ⟨rfl, hw1⟩; obtain rfl := hw1.symm; clear HWi)
  clear c0
  obtain ⟨ob, hob⟩ : ∃ ob, w.heap.size = ob := ⟨_, rfl⟩
  have hob1 := HO.out.1.lt
  rw [hob] at HLT hPl hob1 ⊢
  have hMo : M ≤ ob := by omega
  generalize w.alloc (.cells (ocb o) 43) = W at H2 HO HLw hob1 ⊢
  have HMW : Hid (M ≤ W.heap.size) := by show _ ≤ _; omega
  have HBw := hid_of' (HO.out.2.mono hMw)
  have HOb := hid_of' (show RowAt ob (ocb o) 43 W by rw [← hob]; exact HO.out.1)
  have HP := hid_of' (fun (X : World) (hX : Ch (Bch B vb) W X) => (⟨H2.out.p.ch hX (fun q => (H2.out.fb P q).2.1 rfl), HOb.out.ch hX (fun q => by have := HLT.out.1 _ q; omega)⟩ : RowAt P #[.pointer (some ⟨B, 0, none⟩), .pointer (some ⟨R, 0, none⟩)] 39 X ∧ RowAt ob (ocb o) 43 X))
  refine wp_region_once 13 (by kernel_rfl) (fun _ => none) (by kernel_rfl) (by kernel_rfl) (by decide) (fun ii u X => match ii with
    | 0 => u = .pointer (some ⟨P, 0, none⟩)
    | 1 => u = .pointer (some ⟨P, 0, none⟩)
    | 2 => u = .pointer (some ⟨P, 0, none⟩)
    | 3 => u = .pointer (some ⟨B, 0, none⟩)
    | 4 => u = .pointer (some ⟨ob, 1, none⟩)
    | 5 => u = .int .i64 o.i
    | 6 => SixR ad M P B R vr (drpG g o.i) g (rfAt bDrop g o.i) W u X
    | 7 => u = .pointer (some ⟨P, 0, none⟩)
    | 8 => u = .pointer (some ⟨P, 0, none⟩)
    | 9 => u = .pointer (some ⟨P, 1, none⟩)
    | 10 => u = .pointer (some ⟨R, 0, none⟩)
    | 11 => u = .pointer (some ⟨ob, 1, none⟩)
    | 12 => u = .int .i64 o.i
    | _ => True) (fun _ => false) (fun _ _ _ _ h => by cases h) 6 (by decide) (fun a b => Ch (Bch B vb) a b) (fun a b => Ch (Bch B vb) a b) (fun _ _ g h => g.later h) (fun _ h => Ch.of h) (fun _ _ h g => (Ch.of h).trans g) (fun _ _ g => g.size) ?_ ?_ ?_ ?_
  · intro ii u X X' hR hb
    match ii, hR with
    | 0, h => exact h
    | 1, h => exact h
    | 2, h => exact h
    | 3, h => exact h
    | 4, h => exact h
    | 5, h => exact h
    | 6, h => exact SixR.later h hb
    | 7, h => exact h
    | 8, h => exact h
    | 9, h => exact h
    | 10, h => exact h
    | 11, h => exact h
    | 12, h => exact h
    | m + 13, h => exact h
  · intro ii u X X' hne hR hb
    match ii, hne, hR with
    | 0, hne, h => exact h
    | 1, hne, h => exact h
    | 2, hne, h => exact h
    | 3, hne, h => exact h
    | 4, hne, h => exact h
    | 5, hne, h => exact h
    | 6, hne, h => exact absurd rfl hne
    | 7, hne, h => exact h
    | 8, hne, h => exact h
    | 9, hne, h => exact h
    | 10, hne, h => exact h
    | 11, hne, h => exact h
    | 12, hne, h => exact h
    | m + 13, _, h => exact h
  · intro ii o hi ho q X vals hX hC hdep hoth
    have t0 : q.tmps[0]? = some (.pointer (some ⟨P, 0, none⟩)) := by rw [hoth 0 (by kernel_rfl)]; rfl
    have t3 : q.tmps[3]? = some (.pointer (some ⟨ob, 0, none⟩)) := by rw [hoth 3 (by kernel_rfl)]; rfl
    match ii, hi, ho, hC with
    | 0, _, ho, hC =>
      simp only [List.getElem?_cons_zero, Option.some.injEq] at ho
      subst ho
      unfold Oper.wp
      simp [execOp, go_sem, t0]
      exact cameB _ rfl (by decide) (Below.refl _ _) rfl (fun h => absurd h (by decide))
    | 1, _, ho, hC =>
      simp only [List.getElem?_cons_succ, List.getElem?_cons_zero, Option.some.injEq] at ho
      subst ho
      obtain ⟨u0, e0⟩ := hdep ⟨0, .data⟩ (by simp) rfl _ 103 rfl rfl
      rw [show vals 0 = .pointer (some ⟨P, 0, none⟩) from e0] at u0
      unfold Oper.wp
      simp [execOp, go_sem, u0]
      exact cameB _ rfl (by decide) (Below.refl _ _) rfl (fun h => absurd h (by decide))
    | 2, _, ho, hC =>
      simp only [List.getElem?_cons_succ, List.getElem?_cons_zero, Option.some.injEq] at ho
      subst ho
      obtain ⟨u1, e1⟩ := hdep ⟨1, .data⟩ (by simp) rfl _ 104 rfl rfl
      rw [show vals 1 = .pointer (some ⟨P, 0, none⟩) from e1] at u1
      unfold Oper.wp
      simp [execOp, go_sem, u1]
      exact cameB _ rfl (by decide) (Below.refl _ _) rfl (fun h => absurd h (by decide))
    | 3, _, ho, hC =>
      simp only [List.getElem?_cons_succ, List.getElem?_cons_zero, Option.some.injEq] at ho
      subst ho
      obtain ⟨u2, e2⟩ := hdep ⟨2, .data⟩ (by simp) rfl _ 105 rfl rfl
      rw [show vals 2 = .pointer (some ⟨P, 0, none⟩) from e2] at u2
      have cc : X.cell? ⟨P, 0, none⟩ = some (.pointer (some ⟨B, 0, none⟩)) := (HP.out X hX).1.cellIs 0 rfl
      unfold Oper.wp
      simp [execOp, go_sem, u2, cc]
      exact cameB _ rfl (by decide) (Below.refl _ _) rfl (fun h => absurd h (by decide))
    | 4, _, ho, hC =>
      simp only [List.getElem?_cons_succ, List.getElem?_cons_zero, Option.some.injEq] at ho
      subst ho
      unfold Oper.wp
      simp [execOp, go_sem, t3]
      exact cameB _ rfl (by decide) (Below.refl _ _) rfl (fun h => absurd h (by decide))
    | 5, _, ho, hC =>
      simp only [List.getElem?_cons_succ, List.getElem?_cons_zero, Option.some.injEq] at ho
      subst ho
      obtain ⟨u4, e4⟩ := hdep ⟨4, .data⟩ (by simp) rfl _ 107 rfl rfl
      rw [show vals 4 = .pointer (some ⟨ob, 1, none⟩) from e4] at u4
      have cc : X.cell? ⟨ob, 1, none⟩ = some (.int .i64 o.i) := (HP.out X hX).2.cellIs 1 rfl
      unfold Oper.wp
      simp [execOp, go_sem, u4, cc]
      exact cameB _ rfl (by decide) (Below.refl _ _) rfl (fun h => absurd h (by decide))
    | 6, _, ho, hC =>
      simp only [List.getElem?_cons_succ, List.getElem?_cons_zero, Option.some.injEq] at ho
      subst ho
      obtain ⟨u3, e3⟩ := hdep ⟨3, .data⟩ (by simp) rfl _ 106 rfl rfl
      rw [show vals 3 = .pointer (some ⟨B, 0, none⟩) from e3] at u3
      obtain ⟨u5, e5⟩ := hdep ⟨5, .data⟩ (by simp) rfl _ 108 rfl rfl
      rw [show vals 5 = .int .i64 o.i from e5] at u5
      have hb := hC (.inl rfl)
      have hh := PrAt.later H2.out hb
      unfold Oper.wp
      simp [go_sem, u3, u5]
      refine (drop_any (HLw.out X (hb.mono HMW.out)).lb hh.b o.i).mono ?_
      rintro r X1 ⟨u9, v9, rfl, i1, i2, i3, i4⟩
      exact cameX _ rfl i4 (SixR.mk hh hb i1 i2 i3 i4 HMW.out) rfl
    | 7, _, ho, hC =>
      simp only [List.getElem?_cons_succ, List.getElem?_cons_zero, Option.some.injEq] at ho
      subst ho
      unfold Oper.wp
      simp [execOp, go_sem, t0]
      exact cameB _ rfl (by decide) (Below.refl _ _) rfl (fun h => absurd h (by decide))
    | 8, _, ho, hC =>
      simp only [List.getElem?_cons_succ, List.getElem?_cons_zero, Option.some.injEq] at ho
      subst ho
      obtain ⟨u7, e7⟩ := hdep ⟨7, .data⟩ (by simp) rfl _ 110 rfl rfl
      rw [show vals 7 = .pointer (some ⟨P, 0, none⟩) from e7] at u7
      unfold Oper.wp
      simp [execOp, go_sem, u7]
      exact cameB _ rfl (by decide) (Below.refl _ _) rfl (fun h => absurd h (by decide))
    | 9, _, ho, hC =>
      simp only [List.getElem?_cons_succ, List.getElem?_cons_zero, Option.some.injEq] at ho
      subst ho
      obtain ⟨u8, e8⟩ := hdep ⟨8, .data⟩ (by simp) rfl _ 111 rfl rfl
      rw [show vals 8 = .pointer (some ⟨P, 0, none⟩) from e8] at u8
      unfold Oper.wp
      simp [execOp, go_sem, u8]
      exact cameB _ rfl (by decide) (Below.refl _ _) rfl (fun h => absurd h (by decide))
    | 10, _, ho, hC =>
      simp only [List.getElem?_cons_succ, List.getElem?_cons_zero, Option.some.injEq] at ho
      subst ho
      obtain ⟨u9, e9⟩ := hdep ⟨9, .data⟩ (by simp) rfl _ 112 rfl rfl
      rw [show vals 9 = .pointer (some ⟨P, 1, none⟩) from e9] at u9
      have cc : X.cell? ⟨P, 1, none⟩ = some (.pointer (some ⟨R, 0, none⟩)) := (HP.out X hX).1.cellIs 1 rfl
      unfold Oper.wp
      simp [execOp, go_sem, u9, cc]
      exact cameB _ rfl (by decide) (Below.refl _ _) rfl (fun h => absurd h (by decide))
    | 11, _, ho, hC =>
      simp only [List.getElem?_cons_succ, List.getElem?_cons_zero, Option.some.injEq] at ho
      subst ho
      unfold Oper.wp
      simp [execOp, go_sem, t3]
      exact cameB _ rfl (by decide) (Below.refl _ _) rfl (fun h => absurd h (by decide))
    | 12, _, ho, hC =>
      simp only [List.getElem?_cons_succ, List.getElem?_cons_zero, Option.some.injEq] at ho
      subst ho
      obtain ⟨u11, e11⟩ := hdep ⟨11, .data⟩ (by simp) rfl _ 114 rfl rfl
      rw [show vals 11 = .pointer (some ⟨ob, 1, none⟩) from e11] at u11
      have cc : X.cell? ⟨ob, 1, none⟩ = some (.int .i64 o.i) := (HP.out X hX).2.cellIs 1 rfl
      unfold Oper.wp
      simp [execOp, go_sem, u11, cc]
      exact cameB _ rfl (by decide) (Below.refl _ _) rfl (fun h => absurd h (by decide))
    | m + 13, hi, _, _ => exact absurd hi (by omega)
  · intro vals X hX hR _
    have e10 : vals 10 = .pointer (some ⟨R, 0, none⟩) := hR 10 (by decide)
    have e12 : vals 12 = .int .i64 o.i := hR 12 (by decide)
    obtain ⟨vb9, q1, q2, q3⟩ : SixR ad M P B R vr (drpG g o.i) g (rfAt bDrop g o.i) W (vals 6) X := hR 6 (by decide)
    obtain ⟨u9, hu9⟩ : ∃ u9, u9 = vals 6 := ⟨_, rfl⟩
    rw [← hu9] at q1
    have HRf := hid_of' (refDrop_any q2.r o.i)
    have HX := hid_of' (And.intro q1 (And.intro q2 q3))
    clear hR hX q1 q2 q3
    simp only [List.drop, List.take, putAll, List.setIfInBounds_toArray, List.set_cons_succ, List.set_cons_zero, e10, e12, ← hu9]
    clear e10 e12 hu9
    go_wp2_with (first | (go_at_call 31; (with_reducible refine HRf.out.mono ?_); rintro e X1 ⟨u8, v8, rfl, i1, i2, i3, i4⟩; have hgo := HX.out.2.1.goR i2 i3 i4; have HG := hid_of' (And.intro hgo (refused_is (HLw.out X1 (HX.out.2.2.trans hgo.2)) (HX.out.1.ch i4 (fun s hs q => by have := HLT.out.2 s q; omega)) i1)); clear HRf i1 i2 i3 i4 hgo) | (go_at_call 7; (with_reducible refine HG.out.2.mono ?_); rintro e X2 ⟨rfl, hb9⟩))
    go_ret
    have hM1 : M ≤ X1.heap.size := Nat.le_trans HMW.out (Nat.le_trans HX.out.2.2.size HG.out.1.2.size)
    exact ⟨rfl, _, _, _, HG.out.1.1.later hb9, (HBw.out.trans (HX.out.2.2.trans HG.out.1.2)).trans (hb9.mono hM1)⟩
set_option maxHeartbeats 8000000 in
theorem does_double {ad : Nat → Addr} {M P B R : Nat} {vb vr : Value} {g : Bg} {w : World} (L : ∀ x, Below M w x → Laid ad x) (h : PrAt M P B R vb vr g g w) {o : Opb} (ho : o.Ok w) (_ho1 : o.rv.oneCell' = true) (hw : wiN o.d 9 = 3) :
    Calls Tryd.prog 9 #[.pointer (some ⟨P, 0, none⟩), .agg (ocb o)] w (DoQ M P B R w) := by
  have hb2 := below_one w (.cells (ocb o) 43)
  have ho2 := row_new w (ocb o) 43
  have c0 : (w.alloc (.cells (ocb o) 43)).cell? ⟨w.heap.size, 0, none⟩ = some (.int .i64 o.d) := ho2.cellIs 0 rfl
  have HWi := hid_of' (within_is o.d 9 (w.alloc (.cells (ocb o) 43)) (by decide) (by decide) ho.d)
  rw [hw] at HWi
  have hPl := h.p.lt
  have HLT := hid_of' (And.intro h.ltB h.ltR)
  have H2 := hid_of' (h.later hb2)
  have HO := hid_of' (And.intro ho2 hb2)
  have hMw : M ≤ w.heap.size := by have := h.p0; omega
  have HLw := hid_of' (fun x (hx : Below M (w.alloc (.cells (ocb o) 43)) x) => L x ((hb2.mono hMw).trans hx))
  clear h ho2 hb2 L
  go_enter Tryd.func9, Tryd.ntmps9
  go_upto_region 17 with (go_at_call 24; refine HWi.out.mono ?_; rintro e w1 ⟨rfl, hw1⟩; obtain rfl := hw1.symm; clear HWi)
  clear c0
  obtain ⟨ob, hob⟩ : ∃ ob, w.heap.size = ob := ⟨_, rfl⟩
  have hob1 := HO.out.1.lt
  rw [hob] at HLT hPl hob1 ⊢
  have hMo : M ≤ ob := by omega
  generalize w.alloc (.cells (ocb o) 43) = W at H2 HO HLw hob1 ⊢
  have HMW : Hid (M ≤ W.heap.size) := by show _ ≤ _; omega
  have HBw := hid_of' (HO.out.2.mono hMw)
  have HOb := hid_of' (show RowAt ob (ocb o) 43 W by rw [← hob]; exact HO.out.1)
  have HP := hid_of' (fun (X : World) (hX : Ch (Bch B vb) W X) => (⟨H2.out.p.ch hX (fun q => (H2.out.fb P q).2.1 rfl), HOb.out.ch hX (fun q => by have := HLT.out.1 _ q; omega)⟩ : RowAt P #[.pointer (some ⟨B, 0, none⟩), .pointer (some ⟨R, 0, none⟩)] 39 X ∧ RowAt ob (ocb o) 43 X))
  refine wp_region_once 13 (by kernel_rfl) (fun _ => none) (by kernel_rfl) (by kernel_rfl) (by decide) (fun ii u X => match ii with
    | 0 => u = .pointer (some ⟨P, 0, none⟩)
    | 1 => u = .pointer (some ⟨P, 0, none⟩)
    | 2 => u = .pointer (some ⟨P, 0, none⟩)
    | 3 => u = .pointer (some ⟨B, 0, none⟩)
    | 4 => u = .pointer (some ⟨ob, 1, none⟩)
    | 5 => u = .int .i64 o.i
    | 6 => SixR ad M P B R vr (dblA g o.i).1 g (dblA g o.i).2 W u X
    | 7 => u = .pointer (some ⟨P, 0, none⟩)
    | 8 => u = .pointer (some ⟨P, 0, none⟩)
    | 9 => u = .pointer (some ⟨P, 1, none⟩)
    | 10 => u = .pointer (some ⟨R, 0, none⟩)
    | 11 => u = .pointer (some ⟨ob, 1, none⟩)
    | 12 => u = .int .i64 o.i
    | _ => True) (fun _ => false) (fun _ _ _ _ h => by cases h) 6 (by decide) (fun a b => Ch (Bch B vb) a b) (fun a b => Ch (Bch B vb) a b) (fun _ _ g h => g.later h) (fun _ h => Ch.of h) (fun _ _ h g => (Ch.of h).trans g) (fun _ _ g => g.size) ?_ ?_ ?_ ?_
  · intro ii u X X' hR hb
    match ii, hR with
    | 0, h => exact h
    | 1, h => exact h
    | 2, h => exact h
    | 3, h => exact h
    | 4, h => exact h
    | 5, h => exact h
    | 6, h => exact SixR.later h hb
    | 7, h => exact h
    | 8, h => exact h
    | 9, h => exact h
    | 10, h => exact h
    | 11, h => exact h
    | 12, h => exact h
    | m + 13, h => exact h
  · intro ii u X X' hne hR hb
    match ii, hne, hR with
    | 0, hne, h => exact h
    | 1, hne, h => exact h
    | 2, hne, h => exact h
    | 3, hne, h => exact h
    | 4, hne, h => exact h
    | 5, hne, h => exact h
    | 6, hne, h => exact absurd rfl hne
    | 7, hne, h => exact h
    | 8, hne, h => exact h
    | 9, hne, h => exact h
    | 10, hne, h => exact h
    | 11, hne, h => exact h
    | 12, hne, h => exact h
    | m + 13, _, h => exact h
  · intro ii o hi ho q X vals hX hC hdep hoth
    have t0 : q.tmps[0]? = some (.pointer (some ⟨P, 0, none⟩)) := by rw [hoth 0 (by kernel_rfl)]; rfl
    have t3 : q.tmps[3]? = some (.pointer (some ⟨ob, 0, none⟩)) := by rw [hoth 3 (by kernel_rfl)]; rfl
    match ii, hi, ho, hC with
    | 0, _, ho, hC =>
      simp only [List.getElem?_cons_zero, Option.some.injEq] at ho
      subst ho
      unfold Oper.wp
      simp [execOp, go_sem, t0]
      exact cameB _ rfl (by decide) (Below.refl _ _) rfl (fun h => absurd h (by decide))
    | 1, _, ho, hC =>
      simp only [List.getElem?_cons_succ, List.getElem?_cons_zero, Option.some.injEq] at ho
      subst ho
      obtain ⟨u0, e0⟩ := hdep ⟨0, .data⟩ (by simp) rfl _ 120 rfl rfl
      rw [show vals 0 = .pointer (some ⟨P, 0, none⟩) from e0] at u0
      unfold Oper.wp
      simp [execOp, go_sem, u0]
      exact cameB _ rfl (by decide) (Below.refl _ _) rfl (fun h => absurd h (by decide))
    | 2, _, ho, hC =>
      simp only [List.getElem?_cons_succ, List.getElem?_cons_zero, Option.some.injEq] at ho
      subst ho
      obtain ⟨u1, e1⟩ := hdep ⟨1, .data⟩ (by simp) rfl _ 121 rfl rfl
      rw [show vals 1 = .pointer (some ⟨P, 0, none⟩) from e1] at u1
      unfold Oper.wp
      simp [execOp, go_sem, u1]
      exact cameB _ rfl (by decide) (Below.refl _ _) rfl (fun h => absurd h (by decide))
    | 3, _, ho, hC =>
      simp only [List.getElem?_cons_succ, List.getElem?_cons_zero, Option.some.injEq] at ho
      subst ho
      obtain ⟨u2, e2⟩ := hdep ⟨2, .data⟩ (by simp) rfl _ 122 rfl rfl
      rw [show vals 2 = .pointer (some ⟨P, 0, none⟩) from e2] at u2
      have cc : X.cell? ⟨P, 0, none⟩ = some (.pointer (some ⟨B, 0, none⟩)) := (HP.out X hX).1.cellIs 0 rfl
      unfold Oper.wp
      simp [execOp, go_sem, u2, cc]
      exact cameB _ rfl (by decide) (Below.refl _ _) rfl (fun h => absurd h (by decide))
    | 4, _, ho, hC =>
      simp only [List.getElem?_cons_succ, List.getElem?_cons_zero, Option.some.injEq] at ho
      subst ho
      unfold Oper.wp
      simp [execOp, go_sem, t3]
      exact cameB _ rfl (by decide) (Below.refl _ _) rfl (fun h => absurd h (by decide))
    | 5, _, ho, hC =>
      simp only [List.getElem?_cons_succ, List.getElem?_cons_zero, Option.some.injEq] at ho
      subst ho
      obtain ⟨u4, e4⟩ := hdep ⟨4, .data⟩ (by simp) rfl _ 124 rfl rfl
      rw [show vals 4 = .pointer (some ⟨ob, 1, none⟩) from e4] at u4
      have cc : X.cell? ⟨ob, 1, none⟩ = some (.int .i64 o.i) := (HP.out X hX).2.cellIs 1 rfl
      unfold Oper.wp
      simp [execOp, go_sem, u4, cc]
      exact cameB _ rfl (by decide) (Below.refl _ _) rfl (fun h => absurd h (by decide))
    | 6, _, ho, hC =>
      simp only [List.getElem?_cons_succ, List.getElem?_cons_zero, Option.some.injEq] at ho
      subst ho
      obtain ⟨u3, e3⟩ := hdep ⟨3, .data⟩ (by simp) rfl _ 123 rfl rfl
      rw [show vals 3 = .pointer (some ⟨B, 0, none⟩) from e3] at u3
      obtain ⟨u5, e5⟩ := hdep ⟨5, .data⟩ (by simp) rfl _ 125 rfl rfl
      rw [show vals 5 = .int .i64 o.i from e5] at u5
      have hb := hC (.inl rfl)
      have hh := PrAt.later H2.out hb
      unfold Oper.wp
      simp [go_sem, u3, u5]
      refine (double_any (HLw.out X (hb.mono HMW.out)).lb hh.b o.i).mono ?_
      rintro r X1 ⟨u9, v9, rfl, i1, i2, i3, i4⟩
      exact cameX _ rfl i4 (SixR.mk hh hb i1 i2 i3 i4 HMW.out) rfl
    | 7, _, ho, hC =>
      simp only [List.getElem?_cons_succ, List.getElem?_cons_zero, Option.some.injEq] at ho
      subst ho
      unfold Oper.wp
      simp [execOp, go_sem, t0]
      exact cameB _ rfl (by decide) (Below.refl _ _) rfl (fun h => absurd h (by decide))
    | 8, _, ho, hC =>
      simp only [List.getElem?_cons_succ, List.getElem?_cons_zero, Option.some.injEq] at ho
      subst ho
      obtain ⟨u7, e7⟩ := hdep ⟨7, .data⟩ (by simp) rfl _ 127 rfl rfl
      rw [show vals 7 = .pointer (some ⟨P, 0, none⟩) from e7] at u7
      unfold Oper.wp
      simp [execOp, go_sem, u7]
      exact cameB _ rfl (by decide) (Below.refl _ _) rfl (fun h => absurd h (by decide))
    | 9, _, ho, hC =>
      simp only [List.getElem?_cons_succ, List.getElem?_cons_zero, Option.some.injEq] at ho
      subst ho
      obtain ⟨u8, e8⟩ := hdep ⟨8, .data⟩ (by simp) rfl _ 128 rfl rfl
      rw [show vals 8 = .pointer (some ⟨P, 0, none⟩) from e8] at u8
      unfold Oper.wp
      simp [execOp, go_sem, u8]
      exact cameB _ rfl (by decide) (Below.refl _ _) rfl (fun h => absurd h (by decide))
    | 10, _, ho, hC =>
      simp only [List.getElem?_cons_succ, List.getElem?_cons_zero, Option.some.injEq] at ho
      subst ho
      obtain ⟨u9, e9⟩ := hdep ⟨9, .data⟩ (by simp) rfl _ 129 rfl rfl
      rw [show vals 9 = .pointer (some ⟨P, 1, none⟩) from e9] at u9
      have cc : X.cell? ⟨P, 1, none⟩ = some (.pointer (some ⟨R, 0, none⟩)) := (HP.out X hX).1.cellIs 1 rfl
      unfold Oper.wp
      simp [execOp, go_sem, u9, cc]
      exact cameB _ rfl (by decide) (Below.refl _ _) rfl (fun h => absurd h (by decide))
    | 11, _, ho, hC =>
      simp only [List.getElem?_cons_succ, List.getElem?_cons_zero, Option.some.injEq] at ho
      subst ho
      unfold Oper.wp
      simp [execOp, go_sem, t3]
      exact cameB _ rfl (by decide) (Below.refl _ _) rfl (fun h => absurd h (by decide))
    | 12, _, ho, hC =>
      simp only [List.getElem?_cons_succ, List.getElem?_cons_zero, Option.some.injEq] at ho
      subst ho
      obtain ⟨u11, e11⟩ := hdep ⟨11, .data⟩ (by simp) rfl _ 131 rfl rfl
      rw [show vals 11 = .pointer (some ⟨ob, 1, none⟩) from e11] at u11
      have cc : X.cell? ⟨ob, 1, none⟩ = some (.int .i64 o.i) := (HP.out X hX).2.cellIs 1 rfl
      unfold Oper.wp
      simp [execOp, go_sem, u11, cc]
      exact cameB _ rfl (by decide) (Below.refl _ _) rfl (fun h => absurd h (by decide))
    | m + 13, hi, _, _ => exact absurd hi (by omega)
  · intro vals X hX hR _
    have e10 : vals 10 = .pointer (some ⟨R, 0, none⟩) := hR 10 (by decide)
    have e12 : vals 12 = .int .i64 o.i := hR 12 (by decide)
    obtain ⟨vb9, q1, q2, q3⟩ : SixR ad M P B R vr (dblA g o.i).1 g (dblA g o.i).2 W (vals 6) X := hR 6 (by decide)
    obtain ⟨u9, hu9⟩ : ∃ u9, u9 = vals 6 := ⟨_, rfl⟩
    rw [← hu9] at q1
    have HRf := hid_of' (refDouble_any q2.r o.i)
    have HX := hid_of' (And.intro q1 (And.intro q2 q3))
    clear hR hX q1 q2 q3
    simp only [List.drop, List.take, putAll, List.setIfInBounds_toArray, List.set_cons_succ, List.set_cons_zero, e10, e12, ← hu9]
    clear e10 e12 hu9
    go_wp2_with (first | (go_at_call 33; (with_reducible refine HRf.out.mono ?_); rintro e X1 ⟨u8, v8, rfl, i1, i2, i3, i4⟩; have hgo := HX.out.2.1.goR i2 i3 i4; have HG := hid_of' (And.intro hgo (refused_is (HLw.out X1 (HX.out.2.2.trans hgo.2)) (HX.out.1.ch i4 (fun s hs q => by have := HLT.out.2 s q; omega)) i1)); clear HRf i1 i2 i3 i4 hgo) | (go_at_call 7; (with_reducible refine HG.out.2.mono ?_); rintro e X2 ⟨rfl, hb9⟩))
    go_ret
    have hM1 : M ≤ X1.heap.size := Nat.le_trans HMW.out (Nat.le_trans HX.out.2.2.size HG.out.1.2.size)
    exact ⟨rfl, _, _, _, HG.out.1.1.later hb9, (HBw.out.trans (HX.out.2.2.trans HG.out.1.2)).trans (hb9.mono hM1)⟩
set_option maxHeartbeats 8000000 in
theorem does_swap {ad : Nat → Addr} {M P B R : Nat} {vb vr : Value} {g : Bg} {w : World} (L : ∀ x, Below M w x → Laid ad x) (h : PrAt M P B R vb vr g g w) {o : Opb} (ho : o.Ok w) (_ho1 : o.rv.oneCell' = true) (hw : wiN o.d 9 = 4) :
    Calls Tryd.prog 9 #[.pointer (some ⟨P, 0, none⟩), .agg (ocb o)] w (DoQ M P B R w) := by
  have hb2 := below_one w (.cells (ocb o) 43)
  have ho2 := row_new w (ocb o) 43
  have c0 : (w.alloc (.cells (ocb o) 43)).cell? ⟨w.heap.size, 0, none⟩ = some (.int .i64 o.d) := ho2.cellIs 0 rfl
  have HWi := hid_of' (within_is o.d 9 (w.alloc (.cells (ocb o) 43)) (by decide) (by decide) ho.d)
  rw [hw] at HWi
  have hPl := h.p.lt
  have HLT := hid_of' (And.intro h.ltB h.ltR)
  have H2 := hid_of' (h.later hb2)
  have HO := hid_of' (And.intro ho2 hb2)
  have hMw : M ≤ w.heap.size := by have := h.p0; omega
  have HLw := hid_of' (fun x (hx : Below M (w.alloc (.cells (ocb o) 43)) x) => L x ((hb2.mono hMw).trans hx))
  clear h ho2 hb2 L
  go_enter Tryd.func9, Tryd.ntmps9
  go_upto_region 19 with (go_at_call 24; refine HWi.out.mono ?_; rintro e w1 ⟨rfl, hw1⟩; obtain rfl := hw1.symm; clear HWi)
  clear c0
  obtain ⟨ob, hob⟩ : ∃ ob, w.heap.size = ob := ⟨_, rfl⟩
  have hob1 := HO.out.1.lt
  rw [hob] at HLT hPl hob1 ⊢
  have hMo : M ≤ ob := by omega
  generalize w.alloc (.cells (ocb o) 43) = W at H2 HO HLw hob1 ⊢
  have HMW : Hid (M ≤ W.heap.size) := by show _ ≤ _; omega
  have HBw := hid_of' (HO.out.2.mono hMw)
  have HOb := hid_of' (show RowAt ob (ocb o) 43 W by rw [← hob]; exact HO.out.1)
  have HP := hid_of' (fun (X : World) (hX : Ch (Bch B vb) W X) => (⟨H2.out.p.ch hX (fun q => (H2.out.fb P q).2.1 rfl), HOb.out.ch hX (fun q => by have := HLT.out.1 _ q; omega)⟩ : RowAt P #[.pointer (some ⟨B, 0, none⟩), .pointer (some ⟨R, 0, none⟩)] 39 X ∧ RowAt ob (ocb o) 43 X))
  refine wp_region_once 17 (by kernel_rfl) (fun _ => none) (by kernel_rfl) (by kernel_rfl) (by decide) (fun ii u X => match ii with
    | 0 => u = .pointer (some ⟨P, 0, none⟩)
    | 1 => u = .pointer (some ⟨P, 0, none⟩)
    | 2 => u = .pointer (some ⟨P, 0, none⟩)
    | 3 => u = .pointer (some ⟨B, 0, none⟩)
    | 4 => u = .pointer (some ⟨ob, 1, none⟩)
    | 5 => u = .int .i64 o.i
    | 6 => u = .pointer (some ⟨ob, 2, none⟩)
    | 7 => u = .int .i64 o.j
    | 8 => SixR ad M P B R vr (swpA g o.i o.j).1 g (swpA g o.i o.j).2 W u X
    | 9 => u = .pointer (some ⟨P, 0, none⟩)
    | 10 => u = .pointer (some ⟨P, 0, none⟩)
    | 11 => u = .pointer (some ⟨P, 1, none⟩)
    | 12 => u = .pointer (some ⟨R, 0, none⟩)
    | 13 => u = .pointer (some ⟨ob, 1, none⟩)
    | 14 => u = .int .i64 o.i
    | 15 => u = .pointer (some ⟨ob, 2, none⟩)
    | 16 => u = .int .i64 o.j
    | _ => True) (fun _ => false) (fun _ _ _ _ h => by cases h) 8 (by decide) (fun a b => Ch (Bch B vb) a b) (fun a b => Ch (Bch B vb) a b) (fun _ _ g h => g.later h) (fun _ h => Ch.of h) (fun _ _ h g => (Ch.of h).trans g) (fun _ _ g => g.size) ?_ ?_ ?_ ?_
  · intro ii u X X' hR hb
    match ii, hR with
    | 0, h => exact h
    | 1, h => exact h
    | 2, h => exact h
    | 3, h => exact h
    | 4, h => exact h
    | 5, h => exact h
    | 6, h => exact h
    | 7, h => exact h
    | 8, h => exact SixR.later h hb
    | 9, h => exact h
    | 10, h => exact h
    | 11, h => exact h
    | 12, h => exact h
    | 13, h => exact h
    | 14, h => exact h
    | 15, h => exact h
    | 16, h => exact h
    | m + 17, h => exact h
  · intro ii u X X' hne hR hb
    match ii, hne, hR with
    | 0, hne, h => exact h
    | 1, hne, h => exact h
    | 2, hne, h => exact h
    | 3, hne, h => exact h
    | 4, hne, h => exact h
    | 5, hne, h => exact h
    | 6, hne, h => exact h
    | 7, hne, h => exact h
    | 8, hne, h => exact absurd rfl hne
    | 9, hne, h => exact h
    | 10, hne, h => exact h
    | 11, hne, h => exact h
    | 12, hne, h => exact h
    | 13, hne, h => exact h
    | 14, hne, h => exact h
    | 15, hne, h => exact h
    | 16, hne, h => exact h
    | m + 17, _, h => exact h
  · intro ii o hi ho q X vals hX hC hdep hoth
    have t0 : q.tmps[0]? = some (.pointer (some ⟨P, 0, none⟩)) := by rw [hoth 0 (by kernel_rfl)]; rfl
    have t3 : q.tmps[3]? = some (.pointer (some ⟨ob, 0, none⟩)) := by rw [hoth 3 (by kernel_rfl)]; rfl
    match ii, hi, ho, hC with
    | 0, _, ho, hC =>
      simp only [List.getElem?_cons_zero, Option.some.injEq] at ho
      subst ho
      unfold Oper.wp
      simp [execOp, go_sem, t0]
      exact cameB _ rfl (by decide) (Below.refl _ _) rfl (fun h => absurd h (by decide))
    | 1, _, ho, hC =>
      simp only [List.getElem?_cons_succ, List.getElem?_cons_zero, Option.some.injEq] at ho
      subst ho
      obtain ⟨u0, e0⟩ := hdep ⟨0, .data⟩ (by simp) rfl _ 137 rfl rfl
      rw [show vals 0 = .pointer (some ⟨P, 0, none⟩) from e0] at u0
      unfold Oper.wp
      simp [execOp, go_sem, u0]
      exact cameB _ rfl (by decide) (Below.refl _ _) rfl (fun h => absurd h (by decide))
    | 2, _, ho, hC =>
      simp only [List.getElem?_cons_succ, List.getElem?_cons_zero, Option.some.injEq] at ho
      subst ho
      obtain ⟨u1, e1⟩ := hdep ⟨1, .data⟩ (by simp) rfl _ 138 rfl rfl
      rw [show vals 1 = .pointer (some ⟨P, 0, none⟩) from e1] at u1
      unfold Oper.wp
      simp [execOp, go_sem, u1]
      exact cameB _ rfl (by decide) (Below.refl _ _) rfl (fun h => absurd h (by decide))
    | 3, _, ho, hC =>
      simp only [List.getElem?_cons_succ, List.getElem?_cons_zero, Option.some.injEq] at ho
      subst ho
      obtain ⟨u2, e2⟩ := hdep ⟨2, .data⟩ (by simp) rfl _ 139 rfl rfl
      rw [show vals 2 = .pointer (some ⟨P, 0, none⟩) from e2] at u2
      have cc : X.cell? ⟨P, 0, none⟩ = some (.pointer (some ⟨B, 0, none⟩)) := (HP.out X hX).1.cellIs 0 rfl
      unfold Oper.wp
      simp [execOp, go_sem, u2, cc]
      exact cameB _ rfl (by decide) (Below.refl _ _) rfl (fun h => absurd h (by decide))
    | 4, _, ho, hC =>
      simp only [List.getElem?_cons_succ, List.getElem?_cons_zero, Option.some.injEq] at ho
      subst ho
      unfold Oper.wp
      simp [execOp, go_sem, t3]
      exact cameB _ rfl (by decide) (Below.refl _ _) rfl (fun h => absurd h (by decide))
    | 5, _, ho, hC =>
      simp only [List.getElem?_cons_succ, List.getElem?_cons_zero, Option.some.injEq] at ho
      subst ho
      obtain ⟨u4, e4⟩ := hdep ⟨4, .data⟩ (by simp) rfl _ 141 rfl rfl
      rw [show vals 4 = .pointer (some ⟨ob, 1, none⟩) from e4] at u4
      have cc : X.cell? ⟨ob, 1, none⟩ = some (.int .i64 o.i) := (HP.out X hX).2.cellIs 1 rfl
      unfold Oper.wp
      simp [execOp, go_sem, u4, cc]
      exact cameB _ rfl (by decide) (Below.refl _ _) rfl (fun h => absurd h (by decide))
    | 6, _, ho, hC =>
      simp only [List.getElem?_cons_succ, List.getElem?_cons_zero, Option.some.injEq] at ho
      subst ho
      unfold Oper.wp
      simp [execOp, go_sem, t3]
      exact cameB _ rfl (by decide) (Below.refl _ _) rfl (fun h => absurd h (by decide))
    | 7, _, ho, hC =>
      simp only [List.getElem?_cons_succ, List.getElem?_cons_zero, Option.some.injEq] at ho
      subst ho
      obtain ⟨u6, e6⟩ := hdep ⟨6, .data⟩ (by simp) rfl _ 143 rfl rfl
      rw [show vals 6 = .pointer (some ⟨ob, 2, none⟩) from e6] at u6
      have cc : X.cell? ⟨ob, 2, none⟩ = some (.int .i64 o.j) := (HP.out X hX).2.cellIs 2 rfl
      unfold Oper.wp
      simp [execOp, go_sem, u6, cc]
      exact cameB _ rfl (by decide) (Below.refl _ _) rfl (fun h => absurd h (by decide))
    | 8, _, ho, hC =>
      simp only [List.getElem?_cons_succ, List.getElem?_cons_zero, Option.some.injEq] at ho
      subst ho
      obtain ⟨u3, e3⟩ := hdep ⟨3, .data⟩ (by simp) rfl _ 140 rfl rfl
      rw [show vals 3 = .pointer (some ⟨B, 0, none⟩) from e3] at u3
      obtain ⟨u5, e5⟩ := hdep ⟨5, .data⟩ (by simp) rfl _ 142 rfl rfl
      rw [show vals 5 = .int .i64 o.i from e5] at u5
      obtain ⟨u7, e7⟩ := hdep ⟨7, .data⟩ (by simp) rfl _ 144 rfl rfl
      rw [show vals 7 = .int .i64 o.j from e7] at u7
      have hb := hC (.inl rfl)
      have hh := PrAt.later H2.out hb
      unfold Oper.wp
      simp [go_sem, u3, u5, u7]
      refine (swap_any (HLw.out X (hb.mono HMW.out)).lb hh.b o.i o.j).mono ?_
      rintro r X1 ⟨u9, rfl, i1, i2, i4⟩; have i3 := At'.refl X vb
      exact cameX _ rfl i4 (SixR.mk hh hb i1 i2 i3 i4 HMW.out) rfl
    | 9, _, ho, hC =>
      simp only [List.getElem?_cons_succ, List.getElem?_cons_zero, Option.some.injEq] at ho
      subst ho
      unfold Oper.wp
      simp [execOp, go_sem, t0]
      exact cameB _ rfl (by decide) (Below.refl _ _) rfl (fun h => absurd h (by decide))
    | 10, _, ho, hC =>
      simp only [List.getElem?_cons_succ, List.getElem?_cons_zero, Option.some.injEq] at ho
      subst ho
      obtain ⟨u9, e9⟩ := hdep ⟨9, .data⟩ (by simp) rfl _ 146 rfl rfl
      rw [show vals 9 = .pointer (some ⟨P, 0, none⟩) from e9] at u9
      unfold Oper.wp
      simp [execOp, go_sem, u9]
      exact cameB _ rfl (by decide) (Below.refl _ _) rfl (fun h => absurd h (by decide))
    | 11, _, ho, hC =>
      simp only [List.getElem?_cons_succ, List.getElem?_cons_zero, Option.some.injEq] at ho
      subst ho
      obtain ⟨u10, e10⟩ := hdep ⟨10, .data⟩ (by simp) rfl _ 147 rfl rfl
      rw [show vals 10 = .pointer (some ⟨P, 0, none⟩) from e10] at u10
      unfold Oper.wp
      simp [execOp, go_sem, u10]
      exact cameB _ rfl (by decide) (Below.refl _ _) rfl (fun h => absurd h (by decide))
    | 12, _, ho, hC =>
      simp only [List.getElem?_cons_succ, List.getElem?_cons_zero, Option.some.injEq] at ho
      subst ho
      obtain ⟨u11, e11⟩ := hdep ⟨11, .data⟩ (by simp) rfl _ 148 rfl rfl
      rw [show vals 11 = .pointer (some ⟨P, 1, none⟩) from e11] at u11
      have cc : X.cell? ⟨P, 1, none⟩ = some (.pointer (some ⟨R, 0, none⟩)) := (HP.out X hX).1.cellIs 1 rfl
      unfold Oper.wp
      simp [execOp, go_sem, u11, cc]
      exact cameB _ rfl (by decide) (Below.refl _ _) rfl (fun h => absurd h (by decide))
    | 13, _, ho, hC =>
      simp only [List.getElem?_cons_succ, List.getElem?_cons_zero, Option.some.injEq] at ho
      subst ho
      unfold Oper.wp
      simp [execOp, go_sem, t3]
      exact cameB _ rfl (by decide) (Below.refl _ _) rfl (fun h => absurd h (by decide))
    | 14, _, ho, hC =>
      simp only [List.getElem?_cons_succ, List.getElem?_cons_zero, Option.some.injEq] at ho
      subst ho
      obtain ⟨u13, e13⟩ := hdep ⟨13, .data⟩ (by simp) rfl _ 150 rfl rfl
      rw [show vals 13 = .pointer (some ⟨ob, 1, none⟩) from e13] at u13
      have cc : X.cell? ⟨ob, 1, none⟩ = some (.int .i64 o.i) := (HP.out X hX).2.cellIs 1 rfl
      unfold Oper.wp
      simp [execOp, go_sem, u13, cc]
      exact cameB _ rfl (by decide) (Below.refl _ _) rfl (fun h => absurd h (by decide))
    | 15, _, ho, hC =>
      simp only [List.getElem?_cons_succ, List.getElem?_cons_zero, Option.some.injEq] at ho
      subst ho
      unfold Oper.wp
      simp [execOp, go_sem, t3]
      exact cameB _ rfl (by decide) (Below.refl _ _) rfl (fun h => absurd h (by decide))
    | 16, _, ho, hC =>
      simp only [List.getElem?_cons_succ, List.getElem?_cons_zero, Option.some.injEq] at ho
      subst ho
      obtain ⟨u15, e15⟩ := hdep ⟨15, .data⟩ (by simp) rfl _ 152 rfl rfl
      rw [show vals 15 = .pointer (some ⟨ob, 2, none⟩) from e15] at u15
      have cc : X.cell? ⟨ob, 2, none⟩ = some (.int .i64 o.j) := (HP.out X hX).2.cellIs 2 rfl
      unfold Oper.wp
      simp [execOp, go_sem, u15, cc]
      exact cameB _ rfl (by decide) (Below.refl _ _) rfl (fun h => absurd h (by decide))
    | m + 17, hi, _, _ => exact absurd hi (by omega)
  · intro vals X hX hR _
    have e12 : vals 12 = .pointer (some ⟨R, 0, none⟩) := hR 12 (by decide)
    have e14 : vals 14 = .int .i64 o.i := hR 14 (by decide)
    have e16 : vals 16 = .int .i64 o.j := hR 16 (by decide)
    obtain ⟨vb9, q1, q2, q3⟩ : SixR ad M P B R vr (swpA g o.i o.j).1 g (swpA g o.i o.j).2 W (vals 8) X := hR 8 (by decide)
    obtain ⟨u9, hu9⟩ : ∃ u9, u9 = vals 8 := ⟨_, rfl⟩
    rw [← hu9] at q1
    have HRf := hid_of' (refSwap_any q2.r o.i o.j)
    have HX := hid_of' (And.intro q1 (And.intro q2 q3))
    clear hR hX q1 q2 q3
    simp only [List.drop, List.take, putAll, List.setIfInBounds_toArray, List.set_cons_succ, List.set_cons_zero, e12, e14, e16, ← hu9]
    clear e12 e14 e16 hu9
    go_wp2_with (first | (go_at_call 35; (with_reducible refine HRf.out.mono ?_); rintro e X1 ⟨u8, v8, rfl, i1, i2, i3, i4⟩; have hgo := HX.out.2.1.goR i2 i3 i4; have HG := hid_of' (And.intro hgo (refused_is (HLw.out X1 (HX.out.2.2.trans hgo.2)) (HX.out.1.ch i4 (fun s hs q => by have := HLT.out.2 s q; omega)) i1)); clear HRf i1 i2 i3 i4 hgo) | (go_at_call 7; (with_reducible refine HG.out.2.mono ?_); rintro e X2 ⟨rfl, hb9⟩))
    go_ret
    have hM1 : M ≤ X1.heap.size := Nat.le_trans HMW.out (Nat.le_trans HX.out.2.2.size HG.out.1.2.size)
    exact ⟨rfl, _, _, _, HG.out.1.1.later hb9, (HBw.out.trans (HX.out.2.2.trans HG.out.1.2)).trans (hb9.mono hM1)⟩
set_option maxHeartbeats 8000000 in
theorem does_same {ad : Nat → Addr} {M P B R : Nat} {vb vr : Value} {g : Bg} {w : World} (L : ∀ x, Below M w x → Laid ad x) (h : PrAt M P B R vb vr g g w) {o : Opb} (ho : o.Ok w) (_ho1 : o.rv.oneCell' = true) (hw : wiN o.d 9 = 8) :
    Calls Tryd.prog 9 #[.pointer (some ⟨P, 0, none⟩), .agg (ocb o)] w (DoQ M P B R w) := by
  have hb2 := below_one w (.cells (ocb o) 43)
  have ho2 := row_new w (ocb o) 43
  have c0 : (w.alloc (.cells (ocb o) 43)).cell? ⟨w.heap.size, 0, none⟩ = some (.int .i64 o.d) := ho2.cellIs 0 rfl
  have HWi := hid_of' (within_is o.d 9 (w.alloc (.cells (ocb o) 43)) (by decide) (by decide) ho.d)
  rw [hw] at HWi
  have hPl := h.p.lt
  have HLT := hid_of' (And.intro h.ltB h.ltR)
  have H2 := hid_of' (h.later hb2)
  have HO := hid_of' (And.intro ho2 hb2)
  have hMw : M ≤ w.heap.size := by have := h.p0; omega
  have HLw := hid_of' (fun x (hx : Below M (w.alloc (.cells (ocb o) 43)) x) => L x ((hb2.mono hMw).trans hx))
  clear h ho2 hb2 L
  go_enter Tryd.func9, Tryd.ntmps9
  go_upto_region 33 with (go_at_call 24; refine HWi.out.mono ?_; rintro e w1 ⟨rfl, hw1⟩; obtain rfl := hw1.symm; clear HWi)
  clear c0
  obtain ⟨ob, hob⟩ : ∃ ob, w.heap.size = ob := ⟨_, rfl⟩
  have hob1 := HO.out.1.lt
  rw [hob] at HLT hPl hob1 ⊢
  have hMo : M ≤ ob := by omega
  generalize w.alloc (.cells (ocb o) 43) = W at H2 HO HLw hob1 ⊢
  have HMW : Hid (M ≤ W.heap.size) := by show _ ≤ _; omega
  have HBw := hid_of' (HO.out.2.mono hMw)
  have HOb := hid_of' (show RowAt ob (ocb o) 43 W by rw [← hob]; exact HO.out.1)
  have HS := hid_of' (same_ok H2.out)
  go_wp2_with (go_at_call 11; refine HS.out.mono ?_; rintro e X2 ⟨rfl, hb9⟩)
  go_ret
  exact ⟨rfl, _, _, _, H2.out.later hb9, HBw.out.trans (hb9.mono HMW.out)⟩
set_option maxHeartbeats 8000000 in
theorem does_clear {ad : Nat → Addr} {M P B R : Nat} {vb vr : Value} {g : Bg} {w : World} (L : ∀ x, Below M w x → Laid ad x) (h : PrAt M P B R vb vr g g w) {o : Opb} (ho : o.Ok w) (_ho1 : o.rv.oneCell' = true) (hw : wiN o.d 9 = 7) :
    Calls Tryd.prog 9 #[.pointer (some ⟨P, 0, none⟩), .agg (ocb o)] w (DoQ M P B R w) := by
  have hb2 := below_one w (.cells (ocb o) 43)
  have ho2 := row_new w (ocb o) 43
  have c0 : (w.alloc (.cells (ocb o) 43)).cell? ⟨w.heap.size, 0, none⟩ = some (.int .i64 o.d) := ho2.cellIs 0 rfl
  have HWi := hid_of' (within_is o.d 9 (w.alloc (.cells (ocb o) 43)) (by decide) (by decide) ho.d)
  rw [hw] at HWi
  have hPl := h.p.lt
  have HLT := hid_of' (And.intro h.ltB h.ltR)
  have H2 := hid_of' (h.later hb2)
  have HO := hid_of' (And.intro ho2 hb2)
  have hMw : M ≤ w.heap.size := by have := h.p0; omega
  have HLw := hid_of' (fun x (hx : Below M (w.alloc (.cells (ocb o) 43)) x) => L x ((hb2.mono hMw).trans hx))
  clear h ho2 hb2 L
  go_enter Tryd.func9, Tryd.ntmps9
  go_upto_region 30 with (go_at_call 24; refine HWi.out.mono ?_; rintro e w1 ⟨rfl, hw1⟩; obtain rfl := hw1.symm; clear HWi)
  clear c0
  obtain ⟨ob, hob⟩ : ∃ ob, w.heap.size = ob := ⟨_, rfl⟩
  have hob1 := HO.out.1.lt
  rw [hob] at HLT hPl hob1 ⊢
  have hMo : M ≤ ob := by omega
  generalize w.alloc (.cells (ocb o) 43) = W at H2 HO HLw hob1 ⊢
  have HMW : Hid (M ≤ W.heap.size) := by show _ ≤ _; omega
  have HBw := hid_of' (HO.out.2.mono hMw)
  have HOb := hid_of' (show RowAt ob (ocb o) 43 W by rw [← hob]; exact HO.out.1)
  have c0 := H2.out.p.cellIs 0 rfl
  have HC := hid_of' (clear_is H2.out.b)
  go_upto_region 31 with (go_at_call 41; refine HC.out.mono ?_; rintro e X1 ⟨⟨z, rfl⟩, i2, i4⟩; clear HC)
  clear c0
  have hgo := H2.out.goB i2 (fun k hk => by cases hk) i4
  have c1 := hgo.1.p.cellIs 1 rfl
  have HC := hid_of' (refClear_is hgo.1.r hgo.1.b.most0)
  have HG := hid_of' hgo
  clear hgo i2 i4
  go_upto_region 32 with (go_at_call 42; refine HC.out.mono ?_; rintro e X2 ⟨⟨z2, rfl⟩, i2, i4⟩; clear HC)
  clear c1
  have hgo := HG.out.1.goR i2 (fun k hk => by cases hk) (chBch i4)
  have c0 := hgo.1.p.cellIs 0 rfl
  have HN := hid_of' (len_is hgo.1.b)
  have HG2 := hid_of' hgo
  clear hgo i2 i4
  go_wp2_with (go_at_call 10; refine HN.out.mono ?_; rintro e X3 ⟨rfl, h0⟩; obtain rfl := h0.symm)
  go_ret
  exact ⟨by simp [clrG], _, _, _, HG2.out.1, (HBw.out.trans HG.out.2).trans HG2.out.2⟩
end Go.Proofs.YtdojjhhnciaegaaDoor
