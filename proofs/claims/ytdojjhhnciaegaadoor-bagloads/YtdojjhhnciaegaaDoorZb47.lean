
/-
  One call of both Bags: To.
-/
import Derived.Test.YtdojjhhnciaegaaDoorZb46
namespace Go.Proofs.YtdojjhhnciaegaaDoor
open Go.RowKit Go.Extern.Stop Go.Stop Go.Extern
set_option maxRecDepth 100000

/-- The places told. -/
def ToQ (M : Nat) (t : Int) (l : List Pl) (u : Value) (X : World) : Prop := Rw 3 1 u (plc t l).length (ints (plc t l)) X ∧ ∀ k, u.ownBlock = some k → M ≤ k
theorem ToQ.later {M : Nat} {t : Int} {l : List Pl} {u : Value} {X X' : World} (h : ToQ M t l u X) (hb : Below X.heap.size X X') : ToQ M t l u X' := ⟨h.1.later hb, h.2⟩
theorem rwSl {v : Value} {xs : List Int} {w : World} (h : Rw 3 1 v xs.length (ints xs) w) : SlAt w v 1 xs.length (ints xs) := by
  have h9 := h
  refine ⟨h.1, ?_⟩
  rcases h.2 with ⟨e, hn⟩ | ⟨g, cap, cur, e, hg, _⟩
  · exact .inl ⟨hn, _, _, e⟩
  · subst e
    exact .inr ⟨g, 0, cap, rfl, (Array.getElem?_eq_some_iff.1 hg).1, fun j u hj => Rw.cells h9 j u hj⟩
set_option maxHeartbeats 8000000 in
theorem does_to {ad : Nat → Addr} {M P B R : Nat} {vb vr : Value} {g : Bg} {w : World} (L : ∀ x, Below M w x → Laid ad x) (h : PrAt M P B R vb vr g g w) {o : Opb} (ho : o.Ok w) (_ho1 : o.rv.oneCell' = true) (hw : wiN o.d 9 = 6) :
    Calls Tryd.prog 9 #[.pointer (some ⟨P, 0, none⟩), .agg (ocb o)] w (DoQ M P B R w) := by
  have hb2 := below_one w (.cells (ocb o) 43)
  have ho2 := row_new w (ocb o) 43
  have c0 : (w.alloc (.cells (ocb o) 43)).cell? ⟨w.heap.size, 0, none⟩ = some (.int .i64 o.d) := ho2.cellIs 0 rfl
  have HWi := hid_of' (within_is o.d 9 (w.alloc (.cells (ocb o) 43)) (by decide) (by decide) ho.d)
  rw [hw] at HWi
  have hPl := h.p.lt
  have HLT := hid_of' (And.intro h.ltB h.ltR)
  have H2 := hid_of' (h.later hb2)
  have HO := hid_of' (And.intro ho2 hb2)
  have hMw : M ≤ w.heap.size := by have := h.p0; omega
  have HLw := hid_of' (fun x (hx : Below M (w.alloc (.cells (ocb o) 43)) x) => L x ((hb2.mono hMw).trans hx))
  clear h ho2 hb2 L
  go_enter Tryd.func9, Tryd.ntmps9
  go_upto_region 25 with (go_at_call 24; refine HWi.out.mono ?_; rintro e w1 ⟨rfl, hw1⟩; obtain rfl := hw1.symm; clear HWi)
  clear c0
  obtain ⟨ob, hob⟩ : ∃ ob, w.heap.size = ob := ⟨_, rfl⟩
  have hob1 := HO.out.1.lt
  rw [hob] at HLT hPl hob1 ⊢
  have hMo : M ≤ ob := by omega
  generalize w.alloc (.cells (ocb o) 43) = W at H2 HO HLw hob1 ⊢
  have HMW : Hid (M ≤ W.heap.size) := by show _ ≤ _; omega
  have HBw := hid_of' (HO.out.2.mono hMw)
  have HOb := hid_of' (show RowAt ob (ocb o) 43 W by rw [← hob]; exact HO.out.1)
  refine wp_region_tail 8 (by kernel_rfl) (fun _ => none) (by kernel_rfl) (by kernel_rfl) (by decide) (fun ii u X => match ii with
    | 0 => u = .pointer (some ⟨P, 0, none⟩)
    | 1 => u = .pointer (some ⟨P, 0, none⟩)
    | 2 => u = .pointer (some ⟨P, 0, none⟩)
    | 3 => u = .pointer (some ⟨B, 0, none⟩)
    | 4 => u = .pointer (some ⟨ob, 1, none⟩)
    | 5 => u = .int .i64 o.i
    | 6 => ToQ W.heap.size o.i g.l u X
    | 7 => ToQ W.heap.size o.i g.l u X
    | _ => True) (fun _ => false) (fun _ _ _ _ h => by cases h) ?_ ?_ ?_
  · intro ii u X X' hR hb
    match ii, hR with
    | 0, h => exact h
    | 1, h => exact h
    | 2, h => exact h
    | 3, h => exact h
    | 4, h => exact h
    | 5, h => exact h
    | 6, h => exact h.later hb
    | 7, h => exact h.later hb
    | m + 8, h => exact h
  · intro ii o hi ho q X vals hX hdep hoth
    have t0 : q.tmps[0]? = some (.pointer (some ⟨P, 0, none⟩)) := by rw [hoth 0 (by kernel_rfl)]; rfl
    have t3 : q.tmps[3]? = some (.pointer (some ⟨ob, 0, none⟩)) := by rw [hoth 3 (by kernel_rfl)]; rfl
    match ii, hi, ho with
    | 0, _, ho =>
      simp only [List.getElem?_cons_zero, Option.some.injEq] at ho
      subst ho
      unfold Oper.wp
      simp [execOp, go_sem, t0]
      exact came _ rfl (Below.refl _ _) rfl (fun h => absurd h (by decide))
    | 1, _, ho =>
      simp only [List.getElem?_cons_succ, List.getElem?_cons_zero, Option.some.injEq] at ho
      subst ho
      obtain ⟨u0, e0⟩ := hdep ⟨0, .data⟩ (by simp) rfl _ 185 rfl rfl
      rw [show vals 0 = .pointer (some ⟨P, 0, none⟩) from e0] at u0
      unfold Oper.wp
      simp [execOp, go_sem, u0]
      exact came _ rfl (Below.refl _ _) rfl (fun h => absurd h (by decide))
    | 2, _, ho =>
      simp only [List.getElem?_cons_succ, List.getElem?_cons_zero, Option.some.injEq] at ho
      subst ho
      obtain ⟨u1, e1⟩ := hdep ⟨1, .data⟩ (by simp) rfl _ 186 rfl rfl
      rw [show vals 1 = .pointer (some ⟨P, 0, none⟩) from e1] at u1
      unfold Oper.wp
      simp [execOp, go_sem, u1]
      exact came _ rfl (Below.refl _ _) rfl (fun h => absurd h (by decide))
    | 3, _, ho =>
      simp only [List.getElem?_cons_succ, List.getElem?_cons_zero, Option.some.injEq] at ho
      subst ho
      obtain ⟨u2, e2⟩ := hdep ⟨2, .data⟩ (by simp) rfl _ 187 rfl rfl
      rw [show vals 2 = .pointer (some ⟨P, 0, none⟩) from e2] at u2
      have cc : X.cell? ⟨P, 0, none⟩ = some (.pointer (some ⟨B, 0, none⟩)) := (RowAt.later H2.out.p hX).cellIs 0 rfl
      unfold Oper.wp
      simp [execOp, go_sem, u2, cc]
      exact came _ rfl (Below.refl _ _) rfl (fun h => absurd h (by decide))
    | 4, _, ho =>
      simp only [List.getElem?_cons_succ, List.getElem?_cons_zero, Option.some.injEq] at ho
      subst ho
      unfold Oper.wp
      simp [execOp, go_sem, t3]
      exact came _ rfl (Below.refl _ _) rfl (fun h => absurd h (by decide))
    | 5, _, ho =>
      simp only [List.getElem?_cons_succ, List.getElem?_cons_zero, Option.some.injEq] at ho
      subst ho
      obtain ⟨u4, e4⟩ := hdep ⟨4, .data⟩ (by simp) rfl _ 189 rfl rfl
      rw [show vals 4 = .pointer (some ⟨ob, 1, none⟩) from e4] at u4
      have cc : X.cell? ⟨ob, 1, none⟩ = some (.int .i64 o.i) := (RowAt.later HOb.out hX).cellIs 1 rfl
      unfold Oper.wp
      simp [execOp, go_sem, u4, cc]
      exact came _ rfl (Below.refl _ _) rfl (fun h => absurd h (by decide))
    | 6, _, ho =>
      simp only [List.getElem?_cons_succ, List.getElem?_cons_zero, Option.some.injEq] at ho
      subst ho
      obtain ⟨u3, e3⟩ := hdep ⟨3, .data⟩ (by simp) rfl _ 188 rfl rfl
      rw [show vals 3 = .pointer (some ⟨B, 0, none⟩) from e3] at u3
      obtain ⟨u5, e5⟩ := hdep ⟨5, .data⟩ (by simp) rfl _ 190 rfl rfl
      rw [show vals 5 = .int .i64 o.i from e5] at u5
      unfold Oper.wp
      simp [go_sem, u3, u5]
      refine (to_is (H2.out.b.later hX) o.i).mono ?_
      rintro r X1 ⟨u9, rfl, i1, i2, hb1⟩
      exact came _ rfl hb1 ⟨i1, fun k hk => Nat.le_trans hX.size (i2 k hk)⟩ (fun h => absurd h (by decide))
    | 7, _, ho =>
      simp only [List.getElem?_cons_succ, List.getElem?_cons_zero, Option.some.injEq] at ho
      subst ho
      obtain ⟨u6, e6⟩ := hdep ⟨6, .data⟩ (by simp) rfl _ 191 rfl rfl
      unfold Oper.wp
      simp [execOp, go_sem, u6]
      exact came _ rfl (Below.refl _ _) e6 (fun h => absurd h (by decide))
    | m + 8, hi, _ => exact absurd hi (by omega)
  · intro vals X hX hR _
    obtain ⟨q1, q2⟩ : ToQ W.heap.size o.i g.l (vals 7) X := hR 7 (by decide)
    obtain ⟨q6, _⟩ : ToQ W.heap.size o.i g.l (vals 6) X := hR 6 (by decide)
    obtain ⟨a9, c9, e7, _, _⟩ := Rw.form q1
    obtain ⟨u6, hu6⟩ : ∃ u6, u6 = vals 6 := ⟨_, rfl⟩
    have HLe := hid_of' (show (plc o.i g.l).length ≤ 1000000 by have := plc_len o.i g.l; have := H2.out.b.room; have := H2.out.b.most1; omega)
    obtain ⟨N, hN⟩ : ∃ N, (plc o.i g.l).length = N := ⟨_, rfl⟩
    have HN := hid_of' hN
    rw [hN] at e7
    rw [e7] at q1 q2
    have HT := hid_of' (And.intro q1 (And.intro q2 hX))
    clear hR q1 q2 q6 hX hN
    simp only [List.drop, List.take, putAll, List.setIfInBounds_toArray, List.set_cons_succ, List.set_cons_zero, e7, ← hu6]
    clear e7 hu6
    have H3 := hid_of' (H2.out.later HT.out.2.2)
    have HO3 := hid_of' (HOb.out.later HT.out.2.2)
    have HT3 := hid_of' (And.intro HT.out.1 HT.out.2.1)
    go_upto_region 26 with fail
    refine wp_region_tail 10 (by kernel_rfl) (fun _ => none) (by kernel_rfl) (by kernel_rfl) (by decide) (fun ii u X => match ii with
      | 0 => u = .slice a9 N c9
      | 1 => u = .pointer (some ⟨P, 0, none⟩)
      | 2 => u = .pointer (some ⟨P, 0, none⟩)
      | 3 => u = .pointer (some ⟨P, 1, none⟩)
      | 4 => u = .pointer (some ⟨R, 0, none⟩)
      | 5 => u = .pointer (some ⟨ob, 1, none⟩)
      | 6 => u = .int .i64 o.i
      | 7 => ToQ 0 o.i g.l u X
      | 8 => u = .bool true
      | 9 => u = .bool true
      | _ => True) (fun _ => false) (fun _ _ _ _ h => by cases h) ?_ ?_ ?_
    · intro ii u X X' hR hb
      match ii, hR with
      | 0, h => exact h
      | 1, h => exact h
      | 2, h => exact h
      | 3, h => exact h
      | 4, h => exact h
      | 5, h => exact h
      | 6, h => exact h
      | 7, h => exact h.later hb
      | 8, h => exact h
      | 9, h => exact h
      | m + 10, h => exact h
    · intro ii o hi ho q X vals hX hdep hoth
      have t0 : q.tmps[0]? = some (.pointer (some ⟨P, 0, none⟩)) := by rw [hoth 0 (by kernel_rfl)]; rfl
      have t3 : q.tmps[3]? = some (.pointer (some ⟨ob, 0, none⟩)) := by rw [hoth 3 (by kernel_rfl)]; rfl
      have t19 : q.tmps[19]? = some (.slice a9 N c9) := by rw [hoth 19 (by kernel_rfl)]; rfl
      match ii, hi, ho with
      | 0, _, ho =>
        simp only [List.getElem?_cons_zero, Option.some.injEq] at ho
        subst ho
        unfold Oper.wp
        simp [execOp, go_sem, t19]
        exact came _ rfl (Below.refl _ _) rfl (fun h => absurd h (by decide))
      | 1, _, ho =>
        simp only [List.getElem?_cons_succ, List.getElem?_cons_zero, Option.some.injEq] at ho
        subst ho
        unfold Oper.wp
        simp [execOp, go_sem, t0]
        exact came _ rfl (Below.refl _ _) rfl (fun h => absurd h (by decide))
      | 2, _, ho =>
        simp only [List.getElem?_cons_succ, List.getElem?_cons_zero, Option.some.injEq] at ho
        subst ho
        obtain ⟨u1, e1⟩ := hdep ⟨1, .data⟩ (by simp) rfl _ 193 rfl rfl
        rw [show vals 1 = .pointer (some ⟨P, 0, none⟩) from e1] at u1
        unfold Oper.wp
        simp [execOp, go_sem, u1]
        exact came _ rfl (Below.refl _ _) rfl (fun h => absurd h (by decide))
      | 3, _, ho =>
        simp only [List.getElem?_cons_succ, List.getElem?_cons_zero, Option.some.injEq] at ho
        subst ho
        obtain ⟨u2, e2⟩ := hdep ⟨2, .data⟩ (by simp) rfl _ 194 rfl rfl
        rw [show vals 2 = .pointer (some ⟨P, 0, none⟩) from e2] at u2
        unfold Oper.wp
        simp [execOp, go_sem, u2]
        exact came _ rfl (Below.refl _ _) rfl (fun h => absurd h (by decide))
      | 4, _, ho =>
        simp only [List.getElem?_cons_succ, List.getElem?_cons_zero, Option.some.injEq] at ho
        subst ho
        obtain ⟨u3, e3⟩ := hdep ⟨3, .data⟩ (by simp) rfl _ 195 rfl rfl
        rw [show vals 3 = .pointer (some ⟨P, 1, none⟩) from e3] at u3
        have cc : X.cell? ⟨P, 1, none⟩ = some (.pointer (some ⟨R, 0, none⟩)) := (RowAt.later H3.out.p hX).cellIs 1 rfl
        unfold Oper.wp
        simp [execOp, go_sem, u3, cc]
        exact came _ rfl (Below.refl _ _) rfl (fun h => absurd h (by decide))
      | 5, _, ho =>
        simp only [List.getElem?_cons_succ, List.getElem?_cons_zero, Option.some.injEq] at ho
        subst ho
        unfold Oper.wp
        simp [execOp, go_sem, t3]
        exact came _ rfl (Below.refl _ _) rfl (fun h => absurd h (by decide))
      | 6, _, ho =>
        simp only [List.getElem?_cons_succ, List.getElem?_cons_zero, Option.some.injEq] at ho
        subst ho
        obtain ⟨u5, e5⟩ := hdep ⟨5, .data⟩ (by simp) rfl _ 197 rfl rfl
        rw [show vals 5 = .pointer (some ⟨ob, 1, none⟩) from e5] at u5
        have cc : X.cell? ⟨ob, 1, none⟩ = some (.int .i64 o.i) := (RowAt.later HO3.out hX).cellIs 1 rfl
        unfold Oper.wp
        simp [execOp, go_sem, u5, cc]
        exact came _ rfl (Below.refl _ _) rfl (fun h => absurd h (by decide))
      | 7, _, ho =>
        simp only [List.getElem?_cons_succ, List.getElem?_cons_zero, Option.some.injEq] at ho
        subst ho
        obtain ⟨u4, e4⟩ := hdep ⟨4, .data⟩ (by simp) rfl _ 196 rfl rfl
        rw [show vals 4 = .pointer (some ⟨R, 0, none⟩) from e4] at u4
        obtain ⟨u6, e6⟩ := hdep ⟨6, .data⟩ (by simp) rfl _ 198 rfl rfl
        rw [show vals 6 = .int .i64 o.i from e6] at u6
        unfold Oper.wp
        simp [go_sem, u4, u6]
        refine (refTo_is (H3.out.r.later hX) o.i).mono ?_
        rintro r X1 ⟨u9, rfl, i1, i2, hb1⟩
        exact came _ rfl hb1 ⟨i1, fun k hk => Nat.zero_le _⟩ (fun h => absurd h (by decide))
      | 8, _, ho =>
        simp only [List.getElem?_cons_succ, List.getElem?_cons_zero, Option.some.injEq] at ho
        subst ho
        obtain ⟨u0, e0⟩ := hdep ⟨0, .data⟩ (by simp) rfl _ 192 rfl rfl
        rw [show vals 0 = .slice a9 N c9 from e0] at u0
        obtain ⟨u7, e7⟩ := hdep ⟨7, .data⟩ (by simp) rfl _ 199 rfl rfl
        unfold Oper.wp
        simp [go_sem, u0, u7]
        refine (ints_eq (rwSl (HT3.out.1.later hX)) (rwSl (show ToQ 0 o.i g.l (vals 7) X from e7).1) HLe.out).mono ?_
        rintro r x1 ⟨rfl, hb1⟩
        exact came _ rfl hb1 rfl (fun h => absurd h (by decide))
      | 9, _, ho =>
        simp only [List.getElem?_cons_succ, List.getElem?_cons_zero, Option.some.injEq] at ho
        subst ho
        obtain ⟨u8, e8⟩ := hdep ⟨8, .data⟩ (by simp) rfl _ 200 rfl rfl
        rw [show vals 8 = .bool true from e8] at u8
        unfold Oper.wp
        simp [execOp, go_sem, u8]
        exact came _ rfl (Below.refl _ _) rfl (fun h => absurd h (by decide))
      | m + 10, hi, _ => exact absurd hi (by omega)
    · intro vals X3 hX3 hR _
      have e9 : vals 9 = .bool true := hR 9 (by decide)
      have HSp := hid_of' (spoilInts_is (HT3.out.1.later hX3) HLe.out)
      have HX3 := hid_of' hX3
      clear hR hX3
      simp only [List.drop, List.take, putAll, List.setIfInBounds_toArray, List.set_cons_succ, List.set_cons_zero, e9]
      clear e9
      go_wp2_with (go_at_call 40; refine HSp.out.mono ?_; rintro e X4 ⟨⟨z, rfl⟩, hc4⟩; clear HSp)
      go_ret
      have hb4 : Below W.heap.size W X4 := (HT.out.2.2.trans (HX3.out.mono HT.out.2.2.size)).trans (hc4.below (fun s hs q => by have := HT.out.2.1 s q; omega) (Nat.le_trans HT.out.2.2.size HX3.out.size))
      exact ⟨rfl, _, _, _, H2.out.later hb4, HBw.out.trans (hb4.mono HMW.out)⟩
end Go.Proofs.YtdojjhhnciaegaaDoor
