
/-
  A pair of Inboxes, and barrowlaw11's same.
-/
import Derived.Test.YtlgdaaofpjpobaaDoorZca38
namespace Go.Proofs.YtlgdaaofpjpobaaDoor
open Go.RowKit Go.Maps
set_option maxRecDepth 100000

/-- An Inbox of the program and the document's, both laid behind b0. -/
structure PrAt (b0 P B R kb n : Nat) (vb vr : Value) (m : Int) (l lr : List Ac) (w : World) : Prop where
  p : RowAt P #[.pointer (some ⟨B, 0, none⟩), .pointer (some ⟨R, 0, none⟩)] 41 w
  b : IbAt B vb kb n m l w
  r : RbAt R vr m lr w
  fb : ∀ k, ibS B vb kb k → b0 ≤ k ∧ ¬ k = P ∧ ¬ rbS R vr k
  fr : ∀ k, rbS R vr k → b0 ≤ k ∧ ¬ k = P
  p0 : b0 ≤ P
theorem PrAt.later {b0 P B R kb n : Nat} {vb vr : Value} {m : Int} {l lr : List Ac} {w w' : World} (h : PrAt b0 P B R kb n vb vr m l lr w) (hb : Below w.heap.size w w') : PrAt b0 P B R kb n vb vr m l lr w' := ⟨h.p.later hb, h.b.later hb, h.r.later hb, h.fb, h.fr, h.p0⟩
theorem PrAt.ch {b0 P B R kb n : Nat} {vb vr : Value} {m : Int} {l lr : List Ac} {S : Nat → Prop} {w w' : World} (h : PrAt b0 P B R kb n vb vr m l lr w) (c : Ch S w w') (h1 : ¬ S P) (h2 : ∀ k, ibS B vb kb k → ¬ S k) (h3 : ∀ k, rbS R vr k → ¬ S k) : PrAt b0 P B R kb n vb vr m l lr w' :=
  ⟨h.p.ch c h1, h.b.ch c (h2 _ (.inl rfl)) (h2 _ (.inr (.inl rfl))) (fun k hk => h2 k (.inr (.inr hk))), h.r.ch c (h3 _ (.inl rfl)) (fun k hk => h3 k (.inr hk)), h.fb, h.fr, h.p0⟩
theorem PrAt.ltB {b0 P B R kb n : Nat} {vb vr : Value} {m : Int} {l lr : List Ac} {w : World} (h : PrAt b0 P B R kb n vb vr m l lr w) : ∀ k, ibS B vb kb k → k < w.heap.size := fun k hk => by
  rcases hk with rfl | rfl | hk
  · exact h.b.lies.lt
  · exact h.b.map.lt
  · exact h.b.row.lt k hk
theorem PrAt.ltR {b0 P B R kb n : Nat} {vb vr : Value} {m : Int} {l lr : List Ac} {w : World} (h : PrAt b0 P B R kb n vb vr m l lr w) : ∀ k, rbS R vr k → k < w.heap.size := fun k hk => by
  rcases hk with rfl | hk
  · exact h.r.lies.lt
  · exact h.r.row.lt k hk
/-- The program's has changed. -/
theorem PrAt.goB {b0 P B R kb n : Nat} {vb vr : Value} {m : Int} {l lr : List Ac} {n' : Nat} {vb' : Value} {l' : List Ac} {w w' : World} (h : PrAt b0 P B R kb n vb vr m l lr w) (hi : IbAt B vb' kb n' m l' w') (ha : At' w vb vb') (hc : Ch (ibS B vb kb) w w') : PrAt b0 P B R kb n' vb' vr m l' lr w' ∧ Below b0 w w' := by
  have hP := h.p.lt
  have hp0 := h.p0
  refine ⟨⟨h.p.ch hc (fun q => (h.fb P q).2.1 rfl), hi, h.r.ch hc (fun q => (h.fb R q).2.2 (.inl rfl)) (fun k hk q => (h.fb k q).2.2 (.inr hk)), fun k hk => ?_, h.fr, h.p0⟩, hc.below (fun s hs q => by have := (h.fb s q).1; omega) (by omega)⟩
  rcases hk with rfl | rfl | hk
  · exact h.fb _ (.inl rfl)
  · exact h.fb _ (.inr (.inl rfl))
  · rcases ha k hk with q | q
    · exact h.fb k (.inr (.inr q))
    · exact ⟨by omega, by omega, fun e => by have := h.ltR k e; omega⟩
/-- The document's has changed. -/
theorem PrAt.goR {b0 P B R kb n : Nat} {vb vr : Value} {m : Int} {l lr : List Ac} {vr' : Value} {lr' : List Ac} {w w' : World} (h : PrAt b0 P B R kb n vb vr m l lr w) (hi : RbAt R vr' m lr' w') (ha : At' w vr vr') (hc : Ch (rbS R vr) w w') : PrAt b0 P B R kb n vb vr' m l lr' w' ∧ Below b0 w w' := by
  have hP := h.p.lt
  have hp0 := h.p0
  refine ⟨⟨h.p.ch hc (fun q => (h.fr P q).2 rfl), h.b.ch hc (fun q => (h.fb B (.inl rfl)).2.2 q) (fun q => (h.fb kb (.inr (.inl rfl))).2.2 q) (fun k hk q => (h.fb k (.inr (.inr hk))).2.2 q), hi, fun k hk => ⟨(h.fb k hk).1, (h.fb k hk).2.1, ?_⟩, fun k hk => ?_, h.p0⟩, hc.below (fun s hs q => by have := (h.fr s q).1; omega) (by omega)⟩
  · rintro (e | e)
    · exact (h.fb k hk).2.2 (.inl e)
    · rcases ha k e with q | q
      · exact (h.fb k hk).2.2 (.inr q)
      · have := h.ltB k hk; omega
  · rcases hk with rfl | hk
    · exact h.fr _ (.inl rfl)
    · rcases ha k hk with q | q
      · exact h.fr k (.inr q)
      · exact ⟨by omega, by omega⟩

set_option maxHeartbeats 4000000 in
theorem same_ok {b0 P B R kb n : Nat} {vb vr : Value} {m : Int} {l : List Ac} {w : World} (h : PrAt b0 P B R kb n vb vr m l l w) :
    Calls Tryd.prog 9 #[.pointer (some ⟨P, 0, none⟩)] w fun e w' => e = .returned (.bool true) ∧ Below w.heap.size w w' := by
  obtain ⟨ra, rc, rfl, _⟩ := h.r.row.form
  have hl : l.length ≤ 1000 := by have := h.b.room; have := h.b.most; omega
  have c0 := h.p.cellIs 0 rfl
  have H := hid_of' h
  have HC := hid_of' (acts_any h.b)
  clear h
  go_enter Tryd.func9, Tryd.ntmps9
  go_upto_region 2 with (go_at_call 26; refine HC.out.mono ?_; rintro e w1 ⟨r1, rfl, ho1, hn1, hb1⟩; clear HC)
  clear c0
  obtain ⟨a1, c1, rfl, _⟩ := ho1.form
  obtain ⟨N, hN⟩ : ∃ N, l.length = N := ⟨_, rfl⟩
  have hA : ∀ X, Below w1.heap.size w1 X → SlC X (.slice a1 N c1) l := fun X hX => by rw [← hN]; exact (ho1.later hX).sl
  have HA := hid_of' hA
  have HN := hid_of' (And.intro ho1 (And.intro hn1 hb1))
  have H2 := hid_of' (H.out.later hb1)
  have HL := hid_of' (And.intro hN (show l.length ≤ 1000000 by omega))
  have HL2 := hid_of' hl
  rw [hN] at H2 H ⊢
  clear hA ho1 hn1 hb1 hN hl
  refine wp_region_tail 26 (by kernel_rfl) (fun j => match j with | 14 => some true | _ => none) (by kernel_rfl) (by kernel_rfl) (by decide) (fun ii v X => match ii with
    | 0 => v = .pointer (some ⟨P, 0, none⟩)
    | 1 => v = .pointer (some ⟨P, 0, none⟩)
    | 2 => v = .pointer (some ⟨P, 0, none⟩)
    | 3 => v = .pointer (some ⟨B, 0, none⟩)
    | 4 => v = .int .i64 (N : Int)
    | 5 => v = .pointer (some ⟨P, 0, none⟩)
    | 6 => v = .pointer (some ⟨P, 0, none⟩)
    | 7 => v = .pointer (some ⟨P, 1, none⟩)
    | 8 => v = .pointer (some ⟨R, 0, none⟩)
    | 9 => v = .pointer (some ⟨R, 0, none⟩)
    | 10 => v = .pointer (some ⟨R, 1, none⟩)
    | 11 => v = .slice ra N rc
    | 12 => v = .int .i64 (N : Int)
    | 13 => v = .bool true
    | 14 => v = .bool true
    | 15 => v = .slice a1 N c1
    | 16 => v = .pointer (some ⟨P, 0, none⟩)
    | 17 => v = .pointer (some ⟨P, 0, none⟩)
    | 18 => v = .pointer (some ⟨P, 1, none⟩)
    | 19 => v = .pointer (some ⟨R, 0, none⟩)
    | 20 => v = .pointer (some ⟨R, 0, none⟩)
    | 21 => v = .pointer (some ⟨R, 1, none⟩)
    | 22 => v = .slice ra N rc
    | 23 => v = .bool true
    | 24 => v = .bool true
    | 25 => v = .bool true
    | _ => True) (fun _ => false) (fun j v x b h hR => by
      match j, h, hR with
      | 14, h, hR => cases h; exact hR
      | 0, h, _ | 1, h, _ | 2, h, _ | 3, h, _ | 4, h, _ | 5, h, _ | 6, h, _ | 7, h, _ | 8, h, _ | 9, h, _ | 10, h, _ | 11, h, _ | 12, h, _ | 13, h, _ | 15, h, _ | 16, h, _ | 17, h, _ | 18, h, _ | 19, h, _ | 20, h, _ | 21, h, _ | 22, h, _ | 23, h, _ | 24, h, _ | 25, h, _ => cases h
      | m + 26, h, _ => cases h) ?_ ?_ ?_
  · intro ii v X X' hR hb
    match ii, hR with
    | 0, h => exact h
    | 1, h => exact h
    | 2, h => exact h
    | 3, h => exact h
    | 4, h => exact h
    | 5, h => exact h
    | 6, h => exact h
    | 7, h => exact h
    | 8, h => exact h
    | 9, h => exact h
    | 10, h => exact h
    | 11, h => exact h
    | 12, h => exact h
    | 13, h => exact h
    | 14, h => exact h
    | 15, h => exact h
    | 16, h => exact h
    | 17, h => exact h
    | 18, h => exact h
    | 19, h => exact h
    | 20, h => exact h
    | 21, h => exact h
    | 22, h => exact h
    | 23, h => exact h
    | 24, h => exact h
    | 25, h => exact h
    | m + 26, h => exact h
  · intro ii o hi ho q X vals hX hdep hoth
    have t0 : q.tmps[0]? = some (.pointer (some ⟨P, 0, none⟩)) := by rw [hoth 0 (by kernel_rfl)]; rfl
    have t3 : q.tmps[3]? = some (.slice a1 N c1) := by rw [hoth 3 (by kernel_rfl)]; rfl
    match ii, hi, ho with
    | 0, _, ho =>
      simp only [List.getElem?_cons_zero, Option.some.injEq] at ho
      subst ho
      unfold Oper.wp
      simp [execOp, go_sem, t0]
      exact came _ rfl (Below.refl _ _) rfl (fun h => absurd h (by decide))
    | 1, _, ho =>
      simp only [List.getElem?_cons_succ, List.getElem?_cons_zero, Option.some.injEq] at ho
      subst ho
      obtain ⟨u0, e0⟩ := hdep ⟨0, .data⟩ (by simp) rfl _ 10 rfl rfl
      rw [show vals 0 = .pointer (some ⟨P, 0, none⟩) from e0] at u0
      unfold Oper.wp
      simp [execOp, go_sem, u0]
      exact came _ rfl (Below.refl _ _) rfl (fun h => absurd h (by decide))
    | 2, _, ho =>
      simp only [List.getElem?_cons_succ, List.getElem?_cons_zero, Option.some.injEq] at ho
      subst ho
      obtain ⟨u1, e1⟩ := hdep ⟨1, .data⟩ (by simp) rfl _ 11 rfl rfl
      rw [show vals 1 = .pointer (some ⟨P, 0, none⟩) from e1] at u1
      unfold Oper.wp
      simp [execOp, go_sem, u1]
      exact came _ rfl (Below.refl _ _) rfl (fun h => absurd h (by decide))
    | 3, _, ho =>
      simp only [List.getElem?_cons_succ, List.getElem?_cons_zero, Option.some.injEq] at ho
      subst ho
      obtain ⟨u2, e2⟩ := hdep ⟨2, .data⟩ (by simp) rfl _ 12 rfl rfl
      rw [show vals 2 = .pointer (some ⟨P, 0, none⟩) from e2] at u2
      have cc : X.cell? ⟨P, 0, none⟩ = some (.pointer (some ⟨B, 0, none⟩)) := (PrAt.later H2.out hX).p.cellIs 0 rfl
      unfold Oper.wp
      simp [execOp, go_sem, u2, cc]
      exact came _ rfl (Below.refl _ _) rfl (fun h => absurd h (by decide))
    | 4, _, ho =>
      simp only [List.getElem?_cons_succ, List.getElem?_cons_zero, Option.some.injEq] at ho
      subst ho
      obtain ⟨u3, e3⟩ := hdep ⟨3, .data⟩ (by simp) rfl _ 13 rfl rfl
      rw [show vals 3 = .pointer (some ⟨B, 0, none⟩) from e3] at u3
      unfold Oper.wp
      simp [go_sem, u3]
      refine (lenI_is (PrAt.later H2.out hX).b).mono ?_
      rintro r X1 ⟨rfl, hw⟩; have hb1 : Below X.heap.size X X1 := hw ▸ Below.refl _ _; rw [HL.out.1]
      exact came _ rfl hb1 rfl (fun h => absurd h (by decide))
    | 5, _, ho =>
      simp only [List.getElem?_cons_succ, List.getElem?_cons_zero, Option.some.injEq] at ho
      subst ho
      unfold Oper.wp
      simp [execOp, go_sem, t0]
      exact came _ rfl (Below.refl _ _) rfl (fun h => absurd h (by decide))
    | 6, _, ho =>
      simp only [List.getElem?_cons_succ, List.getElem?_cons_zero, Option.some.injEq] at ho
      subst ho
      obtain ⟨u5, e5⟩ := hdep ⟨5, .data⟩ (by simp) rfl _ 15 rfl rfl
      rw [show vals 5 = .pointer (some ⟨P, 0, none⟩) from e5] at u5
      unfold Oper.wp
      simp [execOp, go_sem, u5]
      exact came _ rfl (Below.refl _ _) rfl (fun h => absurd h (by decide))
    | 7, _, ho =>
      simp only [List.getElem?_cons_succ, List.getElem?_cons_zero, Option.some.injEq] at ho
      subst ho
      obtain ⟨u6, e6⟩ := hdep ⟨6, .data⟩ (by simp) rfl _ 16 rfl rfl
      rw [show vals 6 = .pointer (some ⟨P, 0, none⟩) from e6] at u6
      unfold Oper.wp
      simp [execOp, go_sem, u6]
      exact came _ rfl (Below.refl _ _) rfl (fun h => absurd h (by decide))
    | 8, _, ho =>
      simp only [List.getElem?_cons_succ, List.getElem?_cons_zero, Option.some.injEq] at ho
      subst ho
      obtain ⟨u7, e7⟩ := hdep ⟨7, .data⟩ (by simp) rfl _ 17 rfl rfl
      rw [show vals 7 = .pointer (some ⟨P, 1, none⟩) from e7] at u7
      have cc : X.cell? ⟨P, 1, none⟩ = some (.pointer (some ⟨R, 0, none⟩)) := (PrAt.later H2.out hX).p.cellIs 1 rfl
      unfold Oper.wp
      simp [execOp, go_sem, u7, cc]
      exact came _ rfl (Below.refl _ _) rfl (fun h => absurd h (by decide))
    | 9, _, ho =>
      simp only [List.getElem?_cons_succ, List.getElem?_cons_zero, Option.some.injEq] at ho
      subst ho
      obtain ⟨u8, e8⟩ := hdep ⟨8, .data⟩ (by simp) rfl _ 18 rfl rfl
      rw [show vals 8 = .pointer (some ⟨R, 0, none⟩) from e8] at u8
      unfold Oper.wp
      simp [execOp, go_sem, u8]
      exact came _ rfl (Below.refl _ _) rfl (fun h => absurd h (by decide))
    | 10, _, ho =>
      simp only [List.getElem?_cons_succ, List.getElem?_cons_zero, Option.some.injEq] at ho
      subst ho
      obtain ⟨u9, e9⟩ := hdep ⟨9, .data⟩ (by simp) rfl _ 19 rfl rfl
      rw [show vals 9 = .pointer (some ⟨R, 0, none⟩) from e9] at u9
      unfold Oper.wp
      simp [execOp, go_sem, u9]
      exact came _ rfl (Below.refl _ _) rfl (fun h => absurd h (by decide))
    | 11, _, ho =>
      simp only [List.getElem?_cons_succ, List.getElem?_cons_zero, Option.some.injEq] at ho
      subst ho
      obtain ⟨u10, e10⟩ := hdep ⟨10, .data⟩ (by simp) rfl _ 20 rfl rfl
      rw [show vals 10 = .pointer (some ⟨R, 1, none⟩) from e10] at u10
      have cc : X.cell? ⟨R, 1, none⟩ = some (.slice ra N rc) := (PrAt.later H2.out hX).r.lies.cellIs 1 rfl
      unfold Oper.wp
      simp [execOp, go_sem, u10, cc]
      exact came _ rfl (Below.refl _ _) rfl (fun h => absurd h (by decide))
    | 12, _, ho =>
      simp only [List.getElem?_cons_succ, List.getElem?_cons_zero, Option.some.injEq] at ho
      subst ho
      obtain ⟨u11, e11⟩ := hdep ⟨11, .data⟩ (by simp) rfl _ 21 rfl rfl
      rw [show vals 11 = .slice ra N rc from e11] at u11
      unfold Oper.wp
      simp [go_sem, u11]
      exact came _ rfl (Below.refl _ _) rfl (fun h => absurd h (by decide))
    | 13, _, ho =>
      simp only [List.getElem?_cons_succ, List.getElem?_cons_zero, Option.some.injEq] at ho
      subst ho
      obtain ⟨u4, e4⟩ := hdep ⟨4, .data⟩ (by simp) rfl _ 14 rfl rfl
      rw [show vals 4 = .int .i64 (N : Int) from e4] at u4
      obtain ⟨u12, e12⟩ := hdep ⟨12, .data⟩ (by simp) rfl _ 22 rfl rfl
      rw [show vals 12 = .int .i64 (N : Int) from e12] at u12
      unfold Oper.wp
      simp [execOp, go_sem, u4, u12]
      exact came _ rfl (Below.refl _ _) rfl (fun h => absurd h (by decide))
    | 14, _, ho =>
      simp only [List.getElem?_cons_succ, List.getElem?_cons_zero, Option.some.injEq] at ho
      subst ho
      obtain ⟨u13, e13⟩ := hdep ⟨13, .data⟩ (by simp) rfl _ 23 rfl rfl
      rw [show vals 13 = .bool true from e13] at u13
      unfold Oper.wp
      simp [execOp, go_sem, u13]
      exact came _ rfl (Below.refl _ _) rfl (fun h => absurd h (by decide))
    | 15, _, ho =>
      simp only [List.getElem?_cons_succ, List.getElem?_cons_zero, Option.some.injEq] at ho
      subst ho
      unfold Oper.wp
      simp [execOp, go_sem, t3]
      exact came _ rfl (Below.refl _ _) rfl (fun h => absurd h (by decide))
    | 16, _, ho =>
      simp only [List.getElem?_cons_succ, List.getElem?_cons_zero, Option.some.injEq] at ho
      subst ho
      unfold Oper.wp
      simp [execOp, go_sem, t0]
      exact came _ rfl (Below.refl _ _) rfl (fun h => absurd h (by decide))
    | 17, _, ho =>
      simp only [List.getElem?_cons_succ, List.getElem?_cons_zero, Option.some.injEq] at ho
      subst ho
      obtain ⟨u16, e16⟩ := hdep ⟨16, .data⟩ (by simp) rfl _ 26 rfl rfl
      rw [show vals 16 = .pointer (some ⟨P, 0, none⟩) from e16] at u16
      unfold Oper.wp
      simp [execOp, go_sem, u16]
      exact came _ rfl (Below.refl _ _) rfl (fun h => absurd h (by decide))
    | 18, _, ho =>
      simp only [List.getElem?_cons_succ, List.getElem?_cons_zero, Option.some.injEq] at ho
      subst ho
      obtain ⟨u17, e17⟩ := hdep ⟨17, .data⟩ (by simp) rfl _ 27 rfl rfl
      rw [show vals 17 = .pointer (some ⟨P, 0, none⟩) from e17] at u17
      unfold Oper.wp
      simp [execOp, go_sem, u17]
      exact came _ rfl (Below.refl _ _) rfl (fun h => absurd h (by decide))
    | 19, _, ho =>
      simp only [List.getElem?_cons_succ, List.getElem?_cons_zero, Option.some.injEq] at ho
      subst ho
      obtain ⟨u18, e18⟩ := hdep ⟨18, .data⟩ (by simp) rfl _ 28 rfl rfl
      rw [show vals 18 = .pointer (some ⟨P, 1, none⟩) from e18] at u18
      have cc : X.cell? ⟨P, 1, none⟩ = some (.pointer (some ⟨R, 0, none⟩)) := (PrAt.later H2.out hX).p.cellIs 1 rfl
      unfold Oper.wp
      simp [execOp, go_sem, u18, cc]
      exact came _ rfl (Below.refl _ _) rfl (fun h => absurd h (by decide))
    | 20, _, ho =>
      simp only [List.getElem?_cons_succ, List.getElem?_cons_zero, Option.some.injEq] at ho
      subst ho
      obtain ⟨u19, e19⟩ := hdep ⟨19, .data⟩ (by simp) rfl _ 29 rfl rfl
      rw [show vals 19 = .pointer (some ⟨R, 0, none⟩) from e19] at u19
      unfold Oper.wp
      simp [execOp, go_sem, u19]
      exact came _ rfl (Below.refl _ _) rfl (fun h => absurd h (by decide))
    | 21, _, ho =>
      simp only [List.getElem?_cons_succ, List.getElem?_cons_zero, Option.some.injEq] at ho
      subst ho
      obtain ⟨u20, e20⟩ := hdep ⟨20, .data⟩ (by simp) rfl _ 30 rfl rfl
      rw [show vals 20 = .pointer (some ⟨R, 0, none⟩) from e20] at u20
      unfold Oper.wp
      simp [execOp, go_sem, u20]
      exact came _ rfl (Below.refl _ _) rfl (fun h => absurd h (by decide))
    | 22, _, ho =>
      simp only [List.getElem?_cons_succ, List.getElem?_cons_zero, Option.some.injEq] at ho
      subst ho
      obtain ⟨u21, e21⟩ := hdep ⟨21, .data⟩ (by simp) rfl _ 31 rfl rfl
      rw [show vals 21 = .pointer (some ⟨R, 1, none⟩) from e21] at u21
      have cc : X.cell? ⟨R, 1, none⟩ = some (.slice ra N rc) := (PrAt.later H2.out hX).r.lies.cellIs 1 rfl
      unfold Oper.wp
      simp [execOp, go_sem, u21, cc]
      exact came _ rfl (Below.refl _ _) rfl (fun h => absurd h (by decide))
    | 23, _, ho =>
      simp only [List.getElem?_cons_succ, List.getElem?_cons_zero, Option.some.injEq] at ho
      subst ho
      obtain ⟨u15, e15⟩ := hdep ⟨15, .data⟩ (by simp) rfl _ 25 rfl rfl
      rw [show vals 15 = .slice a1 N c1 from e15] at u15
      obtain ⟨u22, e22⟩ := hdep ⟨22, .data⟩ (by simp) rfl _ 32 rfl rfl
      rw [show vals 22 = .slice ra N rc from e22] at u22
      unfold Oper.wp
      simp [go_sem, u15, u22]
      refine (acts_same (HA.out X hX) (PrAt.later H2.out hX).r.row.sl (PrAt.later H2.out hX).r.row.2 HL.out.2).mono ?_
      rintro r x1 ⟨rfl, hb1⟩
      exact came _ rfl hb1 rfl (fun h => absurd h (by decide))
    | 24, _, ho =>
      simp only [List.getElem?_cons_succ, List.getElem?_cons_zero, Option.some.injEq] at ho
      subst ho
      obtain ⟨u14, e14⟩ := hdep ⟨14, .data⟩ (by simp) rfl _ 24 rfl rfl
      rw [show vals 14 = .bool true from e14] at u14
      obtain ⟨u23, e23⟩ := hdep ⟨23, .data⟩ (by simp) rfl _ 33 rfl rfl
      rw [show vals 23 = .bool true from e23] at u23
      unfold Oper.wp
      simp [execOp, go_sem, u14, u23]
      exact came _ rfl (Below.refl _ _) rfl (fun h => absurd h (by decide))
    | 25, _, ho =>
      simp only [List.getElem?_cons_succ, List.getElem?_cons_zero, Option.some.injEq] at ho
      subst ho
      obtain ⟨u24, e24⟩ := hdep ⟨24, .data⟩ (by simp) rfl _ 34 rfl rfl
      rw [show vals 24 = .bool true from e24] at u24
      unfold Oper.wp
      simp [execOp, go_sem, u24]
      exact came _ rfl (Below.refl _ _) rfl (fun h => absurd h (by decide))
    | m + 26, hi, _ => exact absurd hi (by omega)
  · intro vals X hX hR _
    have e25 : vals 25 = .bool true := hR 25 (by decide)
    have HO := hid_of' (HN.out.1.later hX)
    have HBX := hid_of' (bgo HN.out.2.2 hX)
    have H3 := hid_of' (PrAt.later H2.out hX)
    have HS := hid_of' (spoilA_is HO.out.any HL2.out)
    rw [HL.out.1] at HS
    clear hR hX
    simp only [List.drop, List.take, putAll, List.setIfInBounds_toArray, List.set_cons_succ, List.set_cons_zero, e25]
    clear e25
    go_upto_region 4 with (go_at_call 28; refine HS.out.mono ?_; rintro e w5 ⟨⟨z, rfl⟩, hc5⟩; clear HS)
    have hno : ∀ k, k < w.heap.size → ¬ (Value.slice a1 N c1).ownBlock = some k := fun k hk e => by have := HN.out.2.1 k (by rw [HL.out.1]; exact e); omega
    have H4 := hid_of' (H3.out.ch hc5 (hno P (by have := H.out.p.lt; exact this)) (fun k hk => hno k (H.out.ltB k hk)) (fun k hk => hno k (H.out.ltR k hk)))
    have HB5 := hid_of' (HBX.out.trans (hc5.below (fun s hs => hno s hs) HBX.out.size))
    clear hc5 hno
    refine wp_region_tail 17 (by kernel_rfl) (fun j => match j with | 1 => some true | _ => none) (by kernel_rfl) (by kernel_rfl) (by decide) (fun ii v X => match ii with
      | 0 => v = .bool true
      | 1 => v = .bool true
      | 2 => v = .pointer (some ⟨P, 0, none⟩)
      | 3 => v = .pointer (some ⟨P, 0, none⟩)
      | 4 => v = .pointer (some ⟨P, 0, none⟩)
      | 5 => v = .pointer (some ⟨B, 0, none⟩)
      | 6 => OwnA v l X
      | 7 => v = .pointer (some ⟨P, 0, none⟩)
      | 8 => v = .pointer (some ⟨P, 0, none⟩)
      | 9 => v = .pointer (some ⟨P, 1, none⟩)
      | 10 => v = .pointer (some ⟨R, 0, none⟩)
      | 11 => v = .pointer (some ⟨R, 0, none⟩)
      | 12 => v = .pointer (some ⟨R, 1, none⟩)
      | 13 => v = .slice ra N rc
      | 14 => v = .bool true
      | 15 => v = .bool true
      | 16 => v = .bool true
      | _ => True) (fun _ => false) (fun j v x b h hR => by
        match j, h, hR with
        | 1, h, hR => cases h; exact hR
        | 0, h, _ | 2, h, _ | 3, h, _ | 4, h, _ | 5, h, _ | 6, h, _ | 7, h, _ | 8, h, _ | 9, h, _ | 10, h, _ | 11, h, _ | 12, h, _ | 13, h, _ | 14, h, _ | 15, h, _ | 16, h, _ => cases h
        | m + 17, h, _ => cases h) ?_ ?_ ?_
    · intro ii v X X' hR hb
      match ii, hR with
      | 0, h => exact h
      | 1, h => exact h
      | 2, h => exact h
      | 3, h => exact h
      | 4, h => exact h
      | 5, h => exact h
      | 6, h => exact h.later hb
      | 7, h => exact h
      | 8, h => exact h
      | 9, h => exact h
      | 10, h => exact h
      | 11, h => exact h
      | 12, h => exact h
      | 13, h => exact h
      | 14, h => exact h
      | 15, h => exact h
      | 16, h => exact h
      | m + 17, h => exact h
    · intro ii o hi ho q X vals hX hdep hoth
      have t0 : q.tmps[0]? = some (.pointer (some ⟨P, 0, none⟩)) := by rw [hoth 0 (by kernel_rfl)]; rfl
      have t4 : q.tmps[4]? = some (.bool true) := by rw [hoth 4 (by kernel_rfl)]; rfl
      match ii, hi, ho with
      | 0, _, ho =>
        simp only [List.getElem?_cons_zero, Option.some.injEq] at ho
        subst ho
        unfold Oper.wp
        simp [execOp, go_sem, t4]
        exact came _ rfl (Below.refl _ _) rfl (fun h => absurd h (by decide))
      | 1, _, ho =>
        simp only [List.getElem?_cons_succ, List.getElem?_cons_zero, Option.some.injEq] at ho
        subst ho
        obtain ⟨u0, e0⟩ := hdep ⟨0, .data⟩ (by simp) rfl _ 37 rfl rfl
        rw [show vals 0 = .bool true from e0] at u0
        unfold Oper.wp
        simp [execOp, go_sem, u0]
        exact came _ rfl (Below.refl _ _) rfl (fun h => absurd h (by decide))
      | 2, _, ho =>
        simp only [List.getElem?_cons_succ, List.getElem?_cons_zero, Option.some.injEq] at ho
        subst ho
        unfold Oper.wp
        simp [execOp, go_sem, t0]
        exact came _ rfl (Below.refl _ _) rfl (fun h => absurd h (by decide))
      | 3, _, ho =>
        simp only [List.getElem?_cons_succ, List.getElem?_cons_zero, Option.some.injEq] at ho
        subst ho
        obtain ⟨u2, e2⟩ := hdep ⟨2, .data⟩ (by simp) rfl _ 39 rfl rfl
        rw [show vals 2 = .pointer (some ⟨P, 0, none⟩) from e2] at u2
        unfold Oper.wp
        simp [execOp, go_sem, u2]
        exact came _ rfl (Below.refl _ _) rfl (fun h => absurd h (by decide))
      | 4, _, ho =>
        simp only [List.getElem?_cons_succ, List.getElem?_cons_zero, Option.some.injEq] at ho
        subst ho
        obtain ⟨u3, e3⟩ := hdep ⟨3, .data⟩ (by simp) rfl _ 40 rfl rfl
        rw [show vals 3 = .pointer (some ⟨P, 0, none⟩) from e3] at u3
        unfold Oper.wp
        simp [execOp, go_sem, u3]
        exact came _ rfl (Below.refl _ _) rfl (fun h => absurd h (by decide))
      | 5, _, ho =>
        simp only [List.getElem?_cons_succ, List.getElem?_cons_zero, Option.some.injEq] at ho
        subst ho
        obtain ⟨u4, e4⟩ := hdep ⟨4, .data⟩ (by simp) rfl _ 41 rfl rfl
        rw [show vals 4 = .pointer (some ⟨P, 0, none⟩) from e4] at u4
        have cc : X.cell? ⟨P, 0, none⟩ = some (.pointer (some ⟨B, 0, none⟩)) := (PrAt.later H4.out hX).p.cellIs 0 rfl
        unfold Oper.wp
        simp [execOp, go_sem, u4, cc]
        exact came _ rfl (Below.refl _ _) rfl (fun h => absurd h (by decide))
      | 6, _, ho =>
        simp only [List.getElem?_cons_succ, List.getElem?_cons_zero, Option.some.injEq] at ho
        subst ho
        obtain ⟨u5, e5⟩ := hdep ⟨5, .data⟩ (by simp) rfl _ 42 rfl rfl
        rw [show vals 5 = .pointer (some ⟨B, 0, none⟩) from e5] at u5
        unfold Oper.wp
        simp [go_sem, u5]
        refine (acts_any (PrAt.later H4.out hX).b).mono ?_
        rintro r X1 ⟨v1, rfl, ho, _, hb1⟩
        exact came _ rfl hb1 ho (fun h => absurd h (by decide))
      | 7, _, ho =>
        simp only [List.getElem?_cons_succ, List.getElem?_cons_zero, Option.some.injEq] at ho
        subst ho
        unfold Oper.wp
        simp [execOp, go_sem, t0]
        exact came _ rfl (Below.refl _ _) rfl (fun h => absurd h (by decide))
      | 8, _, ho =>
        simp only [List.getElem?_cons_succ, List.getElem?_cons_zero, Option.some.injEq] at ho
        subst ho
        obtain ⟨u7, e7⟩ := hdep ⟨7, .data⟩ (by simp) rfl _ 44 rfl rfl
        rw [show vals 7 = .pointer (some ⟨P, 0, none⟩) from e7] at u7
        unfold Oper.wp
        simp [execOp, go_sem, u7]
        exact came _ rfl (Below.refl _ _) rfl (fun h => absurd h (by decide))
      | 9, _, ho =>
        simp only [List.getElem?_cons_succ, List.getElem?_cons_zero, Option.some.injEq] at ho
        subst ho
        obtain ⟨u8, e8⟩ := hdep ⟨8, .data⟩ (by simp) rfl _ 45 rfl rfl
        rw [show vals 8 = .pointer (some ⟨P, 0, none⟩) from e8] at u8
        unfold Oper.wp
        simp [execOp, go_sem, u8]
        exact came _ rfl (Below.refl _ _) rfl (fun h => absurd h (by decide))
      | 10, _, ho =>
        simp only [List.getElem?_cons_succ, List.getElem?_cons_zero, Option.some.injEq] at ho
        subst ho
        obtain ⟨u9, e9⟩ := hdep ⟨9, .data⟩ (by simp) rfl _ 46 rfl rfl
        rw [show vals 9 = .pointer (some ⟨P, 1, none⟩) from e9] at u9
        have cc : X.cell? ⟨P, 1, none⟩ = some (.pointer (some ⟨R, 0, none⟩)) := (PrAt.later H4.out hX).p.cellIs 1 rfl
        unfold Oper.wp
        simp [execOp, go_sem, u9, cc]
        exact came _ rfl (Below.refl _ _) rfl (fun h => absurd h (by decide))
      | 11, _, ho =>
        simp only [List.getElem?_cons_succ, List.getElem?_cons_zero, Option.some.injEq] at ho
        subst ho
        obtain ⟨u10, e10⟩ := hdep ⟨10, .data⟩ (by simp) rfl _ 47 rfl rfl
        rw [show vals 10 = .pointer (some ⟨R, 0, none⟩) from e10] at u10
        unfold Oper.wp
        simp [execOp, go_sem, u10]
        exact came _ rfl (Below.refl _ _) rfl (fun h => absurd h (by decide))
      | 12, _, ho =>
        simp only [List.getElem?_cons_succ, List.getElem?_cons_zero, Option.some.injEq] at ho
        subst ho
        obtain ⟨u11, e11⟩ := hdep ⟨11, .data⟩ (by simp) rfl _ 48 rfl rfl
        rw [show vals 11 = .pointer (some ⟨R, 0, none⟩) from e11] at u11
        unfold Oper.wp
        simp [execOp, go_sem, u11]
        exact came _ rfl (Below.refl _ _) rfl (fun h => absurd h (by decide))
      | 13, _, ho =>
        simp only [List.getElem?_cons_succ, List.getElem?_cons_zero, Option.some.injEq] at ho
        subst ho
        obtain ⟨u12, e12⟩ := hdep ⟨12, .data⟩ (by simp) rfl _ 49 rfl rfl
        rw [show vals 12 = .pointer (some ⟨R, 1, none⟩) from e12] at u12
        have cc : X.cell? ⟨R, 1, none⟩ = some (.slice ra N rc) := (PrAt.later H4.out hX).r.lies.cellIs 1 rfl
        unfold Oper.wp
        simp [execOp, go_sem, u12, cc]
        exact came _ rfl (Below.refl _ _) rfl (fun h => absurd h (by decide))
      | 14, _, ho =>
        simp only [List.getElem?_cons_succ, List.getElem?_cons_zero, Option.some.injEq] at ho
        subst ho
        obtain ⟨u6, e6⟩ := hdep ⟨6, .data⟩ (by simp) rfl _ 43 rfl rfl
        obtain ⟨u13, e13⟩ := hdep ⟨13, .data⟩ (by simp) rfl _ 50 rfl rfl
        rw [show vals 13 = .slice ra N rc from e13] at u13
        unfold Oper.wp
        simp [go_sem, u6, u13]
        refine (acts_same (OwnA.sl (show OwnA (vals 6) l X from e6)) (PrAt.later H4.out hX).r.row.sl (PrAt.later H4.out hX).r.row.2 HL.out.2).mono ?_
        rintro r x1 ⟨rfl, hb1⟩
        exact came _ rfl hb1 rfl (fun h => absurd h (by decide))
      | 15, _, ho =>
        simp only [List.getElem?_cons_succ, List.getElem?_cons_zero, Option.some.injEq] at ho
        subst ho
        obtain ⟨u1, e1⟩ := hdep ⟨1, .data⟩ (by simp) rfl _ 38 rfl rfl
        rw [show vals 1 = .bool true from e1] at u1
        obtain ⟨u14, e14⟩ := hdep ⟨14, .data⟩ (by simp) rfl _ 51 rfl rfl
        rw [show vals 14 = .bool true from e14] at u14
        unfold Oper.wp
        simp [execOp, go_sem, u1, u14]
        exact came _ rfl (Below.refl _ _) rfl (fun h => absurd h (by decide))
      | 16, _, ho =>
        simp only [List.getElem?_cons_succ, List.getElem?_cons_zero, Option.some.injEq] at ho
        subst ho
        obtain ⟨u15, e15⟩ := hdep ⟨15, .data⟩ (by simp) rfl _ 52 rfl rfl
        rw [show vals 15 = .bool true from e15] at u15
        unfold Oper.wp
        simp [execOp, go_sem, u15]
        exact came _ rfl (Below.refl _ _) rfl (fun h => absurd h (by decide))
      | m + 17, hi, _ => exact absurd hi (by omega)
    · intro vals X5 hX hR _
      have e16 : vals 16 = .bool true := hR 16 (by decide)
      have HBY := hid_of' (HB5.out.trans (hX.mono HB5.out.size))
      clear hR hX
      simp only [List.drop, List.take, putAll, List.setIfInBounds_toArray, List.set_cons_succ, List.set_cons_zero, e16]
      clear e16
      go_wp2
      go_ret
      exact ⟨rfl, HBY.out⟩
end Go.Proofs.YtlgdaaofpjpobaaDoor
