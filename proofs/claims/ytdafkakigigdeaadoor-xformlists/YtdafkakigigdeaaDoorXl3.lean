
/-
  xform.Cross: two rows of operations, each behind the other one.
-/
import Derived.Test.YtdafkakigigdeaaDoorXl2
import Derived.Test.YtdafkakigigdeaaDoorOnc
namespace Go.Proofs.YtdafkakigigdeaaDoor
open Go.RowKit
set_option maxRecDepth 100000

theorem kpO_cells {b : Nat} : ∀ (vs : List Value) (o_ : Nat) (w : World), Kp b w (w.setCells b o_ vs)
  | [], _, _w => Kp.of (Below.refl _ _)
  | v :: r, o_, _w => (Kp.cell b o_ v).trans (kpO_cells r (o_ + 1) _)
theorem k2_cells {g : Nat} (w : World) (o_ : Nat) (vs : List Value) : K2 g g w (w.setCells g o_ vs) := K2.one (kpO_cells vs o_ w)
theorem OrB.blk {g n : Nat} {A : List Xo} {w w' : World} (h : OrB g n A w) (hb : w'.heap[g]? = w.heap[g]?) : OrB g n A w' := by
  obtain ⟨⟨cs, h1, h2⟩, h3, h4⟩ := h
  have hr : RowAt g cs 37 w' := hb.trans h1
  exact ⟨⟨cs, hr, h2⟩, fun i x hx => ⟨hr.lt, fun j v hv => (World.cell?_of_block hb).trans ((h3 i x hx).2 j v hv)⟩, h4⟩
theorem OrB.k2 {g n x : Nat} {A : List Xo} {w w' : World} (h : OrB g n A w) (k : K2 x x w w') (hne : ¬ x = g) : OrB g n A w' := h.blk (k.block g h.lt (fun e => hne e.symm) (fun e => hne e.symm))
theorem set_same {l : List Xo} {i : Nat} {x : Xo} (h : l[i]? = some x) : l.set i x = l := by
  refine List.ext_getElem? fun k => ?_
  by_cases q : i = k
  · subst q
    rw [List.getElem?_set_self (List.getElem?_eq_some_iff.1 h).1, h]
  · rw [List.getElem?_set_ne q]
theorem pA_end {xs bs : List Xo} {b : Xo} {j : Nat} (h : bs[j]? = some b) : pA (cA xs bs j) b xs.length = cA xs bs (j + 1) := by
  have e : xs.length = (cA xs bs j).length := cA_len.symm
  rw [cA_next h, e, pA_all]
theorem pB_end {xs bs : List Xo} {b : Xo} {j : Nat} (h : bs[j]? = some b) : (cB xs bs j).set j (pB (cA xs bs j) b xs.length) = cB xs bs (j + 1) := by
  have e : xs.length = (cA xs bs j).length := cA_len.symm
  rw [cB_next h, e, pB_all]
theorem OwnO.orb2 {base n c : Nat} {a : Option Addr} {l : List Xo} {w : World} (h : OwnO base (.slice a n c) l w) (hl : l ≠ []) : ∃ g, a = some ⟨g, 0, none⟩ ∧ base ≤ g ∧ OrB g (c * 4) l w ∧ n = l.length ∧ l.length ≤ c ∧ c ≤ maxLen := by
  have h0 := h
  rcases h.2 with ⟨h6, hn⟩ | ⟨g, cap, cur, h6, h7, h8, h9, h10, h11, _⟩
  · exact absurd (List.length_eq_zero_iff.1 hn) hl
  · simp only [Value.slice.injEq] at h6
    obtain ⟨rfl, rfl, rfl⟩ := h6
    refine ⟨g, rfl, h7, ⟨⟨cur, h8, h11⟩, ?_, by omega⟩, rfl, h9, h10⟩
    rcases h0.sl with ⟨q, _⟩ | ⟨g', o', c', q1, q2⟩
    · exact absurd q hl
    · simp only [Value.slice.injEq, Option.some.injEq, Addr.mk.injEq] at q1
      obtain ⟨⟨rfl, rfl, _⟩, _, rfl⟩ := q1
      exact q2
theorem OrB.own {base g c : Nat} {A : List Xo} {w : World} (h : OrB g (c * 4) A w) (hb : base ≤ g) (h1 : A.length ≤ c) (h2 : c ≤ maxLen) : OwnO base (.slice (some ⟨g, 0, none⟩) A.length c) A w := by
  obtain ⟨⟨cs, q1, q2⟩, q3, q4⟩ := h
  refine ⟨ocells_len A, .inr ⟨g, c, cs, rfl, hb, q1, h1, h2, q2, ?_⟩⟩
  have hl := ocells_len A
  refine List.ext_getElem? fun k => ?_
  by_cases hk : k < A.length * 4
  · rw [List.getElem?_take_of_lt hk]
    obtain ⟨u, hu⟩ : ∃ u, (ocells A)[k]? = some u := ⟨_, List.getElem?_eq_getElem (by omega)⟩
    obtain ⟨i, e, j, p1, p2, p3⟩ := ocells_of A k u hu
    have p4 := (q3 i e p1).2 j u p3
    rw [RowAt.cell q1, show 0 + i * 4 + j = k by omega] at p4
    rw [hu, ← p4]
    simp
  · rw [List.getElem?_eq_none (by rw [List.length_take]; omega), List.getElem?_eq_none (by omega)]
theorem OwnO.later {base : Nat} {v : Value} {l : List Xo} {w w' : World} (h : OwnO base v l w) (hb : Below w.heap.size w w') : OwnO base v l w' := by
  obtain ⟨h1, h2⟩ := h
  refine ⟨h1, ?_⟩
  rcases h2 with h | ⟨g, cap, cur, q1, q2, q3, q4⟩
  · exact .inl h
  · exact .inr ⟨g, cap, cur, q1, q2, (hb.block _ (Array.getElem?_eq_some_iff.1 q3).1).trans q3, q4⟩
theorem OwnO.lower {b b' : Nat} {v : Value} {l : List Xo} {w : World} (h : OwnO b v l w) (hb : b' ≤ b) : OwnO b' v l w := by
  obtain ⟨h1, h2⟩ := h
  refine ⟨h1, ?_⟩
  rcases h2 with h | ⟨g, cap, cur, q1, q2, q3⟩
  · exact .inl h
  · exact .inr ⟨g, cap, cur, q1, Nat.le_trans hb q2, q3⟩
/-- What Cross answers: two rows, each in a block of its own. -/
def CrO (w : World) (xs ys : List Xo) (r : Ending) (w' : World) : Prop := ∃ u v, r = .returned (.tuple #[u, v]) ∧ OwnO w.heap.size u xs w' ∧ OwnO w.heap.size v ys w' ∧ (∀ g, u.ownBlock = some g → v.ownBlock ≠ some g) ∧ Below w.heap.size w w'
theorem tO_low {a b : Xo} (h : -9223372036854775808 ≤ a.p) : -9223372036854775808 ≤ (tO a b).p := by
  rcases tO_is a b with e | e <;> rw [e]
  · exact h
  · show _ ≤ a.p + 1; omega
def LowP (l : List Xo) : Prop := ∀ x ∈ l, -9223372036854775808 ≤ x.p
theorem LowP.set {l : List Xo} (h : LowP l) (i : Nat) {x : Xo} (hx : -9223372036854775808 ≤ x.p) : LowP (l.set i x) := fun y hy => by
  rcases List.mem_or_eq_of_mem_set hy with h1 | h1
  · exact h y h1
  · rw [h1]; exact hx

set_option maxHeartbeats 8000000 in
theorem crossX_ok {w : World} {va vb : Value} {xs bs : List Xo} (ha : SlO w va xs) (hb : SlO w vb bs) (hia : LowP xs) (hib : LowP bs) (hn : xs.length ≤ 1000000) (hm : bs.length ≤ 1000000) :
    Calls Tryd.prog 9 #[va, vb] w (CrO w (crossO xs bs).1 (crossO xs bs).2) := by
  have H1 := hid_of' (cloneO_any ha (by omega))
  have H2 := hid_of' (fun (x : World) (hx : Below w.heap.size w x) => cloneO_any (hb.later hx) (by omega))
  obtain ⟨a0, c0, rfl⟩ := ha.form
  obtain ⟨b0, d0, rfl⟩ := hb.form
  go_enter Tryd.func9, Tryd.ntmps9
  go_upto_region 2 with (first | (go_at_call 28; (with_reducible refine H1.out.mono ?_); clear H1; rintro r w1 ⟨v1, rfl, o1, hb1⟩) | (go_at_call 28; (with_reducible refine (H2.out _ hb1).mono ?_); clear H2; rintro r w2 ⟨v2, rfl, o2, hb2⟩))
  obtain ⟨a1, c1, rfl⟩ := o1.form
  obtain ⟨a2, c2, rfl⟩ := o2.form
  have hap : ∀ g, (Value.slice a1 xs.length c1).ownBlock = some g → (Value.slice a2 bs.length c2).ownBlock ≠ some g := fun g e1 e2 => by
    have := (o1.lt g e1).2
    have := (o2.lt g e2).1
    omega
  have q1 := o1.later hb2
  have q2 := o2.lower hb1.size
  have hB := bgo hb1 hb2
  clear o1 o2 hb1 hb2 ha hb
  go_wp2
  go_loopw [14] (fun jv wr => ∃ j : Nat, jv = .int .i64 (j : Int) ∧ j ≤ bs.length ∧ OwnO w.heap.size (.slice a1 xs.length c1) (cA xs bs j) wr ∧ OwnO w.heap.size (.slice a2 bs.length c2) (cB xs bs j) wr ∧ LowP (cA xs bs j) ∧ LowP (cB xs bs j) ∧ Below w.heap.size w wr) (fun jv _ => bs.length - (intOf jv).toNat)
  case atStart =>
    exact ⟨0, rfl, Nat.zero_le _, by rw [cA_zero]; exact q1, by rw [cB_zero]; exact q2, by rw [cA_zero]; exact hia, by rw [cB_zero]; exact hib, hB⟩
  case round =>
    obtain ⟨j, rfl, hj, o1, o2, l1, l2, hBj⟩ := hrel
    clear q1 q2 hB hia hib
    by_cases hlt : j < bs.length
    · have hji : (j : Int) < (bs.length : Int) := by omega
      obtain ⟨b0, hb0⟩ : ∃ b, bs[j]? = some b := ⟨_, List.getElem?_eq_getElem hlt⟩
      obtain ⟨wo, hwo⟩ : ∃ wo : World, wo = wr := ⟨_, rfl⟩
      rw [← hwo] at o1 o2 hBj ⊢
      clear hwo
      go_wp2
      go_loopw [19] (fun iv wq => ∃ p : Nat, iv = .int .i64 (p : Int) ∧ p ≤ xs.length ∧ OwnO w.heap.size (.slice a1 xs.length c1) (pA (cA xs bs j) b0 p) wq ∧ OwnO w.heap.size (.slice a2 bs.length c2) ((cB xs bs j).set j (pB (cA xs bs j) b0 p)) wq ∧ LowP (pA (cA xs bs j) b0 p) ∧ -9223372036854775808 ≤ (pB (cA xs bs j) b0 p).p ∧ Below w.heap.size w wq) (fun iv _ => xs.length - (intOf iv).toNat)
      case atStart =>
        refine ⟨0, rfl, Nat.zero_le _, by rw [pA_zero]; exact o1, ?_, by rw [pA_zero]; exact l1, ?_, hBj⟩
        · rw [pB_zero, set_same (cB_at hb0)]
          exact o2
        · rw [pB_zero]
          exact l2 b0 (List.mem_of_getElem? (cB_at hb0))
      case round =>
        obtain ⟨p, rfl, hi, o3, o4, l3, l4, hBi⟩ := hrel
        clear o1 o2 l1 hBj
        by_cases hlti : p < xs.length
        · have hii : (p : Int) < (xs.length : Int) := by omega
          have hjj : (j : Int) < (bs.length : Int) := hji
          obtain ⟨a, ha0⟩ : ∃ a, (cA xs bs j)[p]? = some a := ⟨_, List.getElem?_eq_getElem (by rw [cA_len]; exact hlti)⟩
          obtain ⟨b, hbe⟩ : ∃ b, pB (cA xs bs j) b0 p = b := ⟨_, rfl⟩
          have haA := pA_at (b := b0) ha0
          have hnA := pA_next (b := b0) ha0
          have hnB := pB_next (b := b0) ha0
          have hLl : (pA (cA xs bs j) b0 p).length = xs.length := by rw [pA_len, cA_len]
          have hLb : ((cB xs bs j).set j b).length = bs.length := by rw [List.length_set, cB_len hj]
          have hbB : ((cB xs bs j).set j b)[j]? = some b := List.getElem?_set_self (by rw [cB_len hj]; exact hlt)
          rw [hbe] at hnA hnB o4 l4
          obtain ⟨LA, hLA⟩ : ∃ LA, pA (cA xs bs j) b0 p = LA := ⟨_, rfl⟩
          obtain ⟨LB, hLB⟩ : ∃ LB, (cB xs bs j).set j b = LB := ⟨_, rfl⟩
          rw [hLA] at o3 l3 hnA haA hLl
          have hLB2 : (cB xs bs j).set j (tO b a) = LB.set j (tO b a) := by rw [← hLB, List.set_set]
          rw [hLB] at o4 hLb hbB
          have HN := hid_of' (And.intro hnA (And.intro hnB hLB2))
          have HL := hid_of' (And.intro hLl hLb)
          have hil : p < LA.length := by omega
          have hjl : j < LB.length := by omega
          obtain ⟨ga, ea, hga, hA, en1, hcl1, hcm1⟩ := o3.orb2 (by intro e; rw [e] at hil; simp at hil)
          obtain ⟨gb, eb, hgb, hBb, en2, hcl2, hcm2⟩ := o4.orb2 (by intro e; rw [e] at hjl; simp at hjl)
          subst ea eb
          clear en1 en2
          have hne : ¬ ga = gb := fun e => hap ga rfl (by rw [e]; rfl)
          have hca := hA.in haA
          have hcb := hBb.in hbB
          have hpa := l3 a (List.mem_of_getElem? haA)
          have hpb : -9223372036854775808 ≤ b.p := l4
          have l5 := hid_of' (And.intro (l3.set p (tO_low (b := b) hpa)) (tO_low (b := a) hpb))
          clear hnA hnB hLB2 hLA hLB hbe ha0 hLb hLl haA hbB hlti l3 l4 o3 o4 hap
          go_upto_region 8 with fail
          refine wp_region_onceA 24 (by kernel_rfl) (fun _ => none) (by kernel_rfl) (by kernel_rfl) (by decide) (fun i v x => match i with
            | 0 => v = .slice (some ⟨ga, 0, none⟩) xs.length c1
            | 1 => v = .int .i64 (p : Int)
            | 2 => v = .slice (some ⟨gb, 0, none⟩) bs.length c2
            | 3 => v = .int .i64 (j : Int)
            | 4 => v = .slice (some ⟨ga, 0, none⟩) xs.length c1
            | 5 => v = .int .i64 (p : Int)
            | 6 => v = .pointer (some ⟨ga, p * 4, none⟩)
            | 7 => v = .agg (ov a)
            | 8 => v = .slice (some ⟨gb, 0, none⟩) bs.length c2
            | 9 => v = .int .i64 (j : Int)
            | 10 => v = .pointer (some ⟨gb, j * 4, none⟩)
            | 11 => v = .agg (ov b)
            | 12 => v = .agg (ov (tO a b))
            | 13 => v = .slice (some ⟨gb, 0, none⟩) bs.length c2
            | 14 => v = .int .i64 (j : Int)
            | 15 => v = .pointer (some ⟨gb, j * 4, none⟩)
            | 16 => v = .agg (ov b)
            | 17 => v = .slice (some ⟨ga, 0, none⟩) xs.length c1
            | 18 => v = .int .i64 (p : Int)
            | 19 => v = .pointer (some ⟨ga, p * 4, none⟩)
            | 20 => v = .agg (ov a)
            | 21 => v = .agg (ov (tO b a))
            | 22 => v = .pointer (some ⟨ga, p * 4, none⟩)
            | 23 => OrB ga (c1 * 4) (LA.set p (tO a b)) x
            | _ => True) (fun _ => false) (fun _ _ _ _ h => by cases h) 23 (by decide) (fun u v => K2 ga ga u v) (fun u v => K2 ga ga u v) (fun _ _ h hb => h.trans (K2.of hb)) (fun _ h => K2.of h) (fun _ _ h k => (K2.of h).trans k) (fun _ _ k => k.size) ?_ ?_ ?_ ?_
          · intro i v x x' hR hb
            match i, hR with
            | 0, h => exact h
            | 1, h => exact h
            | 2, h => exact h
            | 3, h => exact h
            | 4, h => exact h
            | 5, h => exact h
            | 6, h => exact h
            | 7, h => exact h
            | 8, h => exact h
            | 9, h => exact h
            | 10, h => exact h
            | 11, h => exact h
            | 12, h => exact h
            | 13, h => exact h
            | 14, h => exact h
            | 15, h => exact h
            | 16, h => exact h
            | 17, h => exact h
            | 18, h => exact h
            | 19, h => exact h
            | 20, h => exact h
            | 21, h => exact h
            | 22, h => exact h
            | 23, h => exact h.later hb
            | m + 24, h => exact h
          · intro i v x x' hne hR hb
            match i, hne, hR with
            | 0, hne, h => exact h
            | 1, hne, h => exact h
            | 2, hne, h => exact h
            | 3, hne, h => exact h
            | 4, hne, h => exact h
            | 5, hne, h => exact h
            | 6, hne, h => exact h
            | 7, hne, h => exact h
            | 8, hne, h => exact h
            | 9, hne, h => exact h
            | 10, hne, h => exact h
            | 11, hne, h => exact h
            | 12, hne, h => exact h
            | 13, hne, h => exact h
            | 14, hne, h => exact h
            | 15, hne, h => exact h
            | 16, hne, h => exact h
            | 17, hne, h => exact h
            | 18, hne, h => exact h
            | 19, hne, h => exact h
            | 20, hne, h => exact h
            | 21, hne, h => exact h
            | 22, hne, h => exact h
            | 23, hne, h => exact absurd rfl hne
            | m + 24, _, h => exact h
          · intro i o hi ho q x vals hX hC hdep hoth
            have t0 : q.tmps[0]? = some (.slice (some ⟨ga, 0, none⟩) xs.length c1) := by rw [hoth 0 (by kernel_rfl)]; rfl
            have t1 : q.tmps[1]? = some (.slice (some ⟨gb, 0, none⟩) bs.length c2) := by rw [hoth 1 (by kernel_rfl)]; rfl
            have t6 : q.tmps[6]? = some (.int .i64 (j : Int)) := by rw [hoth 6 (by kernel_rfl)]; rfl
            have t7 : q.tmps[7]? = some (.int .i64 (p : Int)) := by rw [hoth 7 (by kernel_rfl)]; rfl
            match i, hi, ho, hC with
            | 0, _, ho, hC =>
              simp only [List.getElem?_cons_zero, Option.some.injEq] at ho
              subst ho
              unfold Oper.wp
              simp [execOp, go_sem, t0]
              exact cameB _ rfl (by decide) (Below.refl _ _) rfl (fun h => absurd h (by decide))
            | 1, _, ho, hC =>
              simp only [List.getElem?_cons_succ, List.getElem?_cons_zero, Option.some.injEq] at ho
              subst ho
              unfold Oper.wp
              simp [execOp, go_sem, t7]
              exact cameB _ rfl (by decide) (Below.refl _ _) rfl (fun h => absurd h (by decide))
            | 2, _, ho, hC =>
              simp only [List.getElem?_cons_succ, List.getElem?_cons_zero, Option.some.injEq] at ho
              subst ho
              unfold Oper.wp
              simp [execOp, go_sem, t1]
              exact cameB _ rfl (by decide) (Below.refl _ _) rfl (fun h => absurd h (by decide))
            | 3, _, ho, hC =>
              simp only [List.getElem?_cons_succ, List.getElem?_cons_zero, Option.some.injEq] at ho
              subst ho
              unfold Oper.wp
              simp [execOp, go_sem, t6]
              exact cameB _ rfl (by decide) (Below.refl _ _) rfl (fun h => absurd h (by decide))
            | 4, _, ho, hC =>
              simp only [List.getElem?_cons_succ, List.getElem?_cons_zero, Option.some.injEq] at ho
              subst ho
              unfold Oper.wp
              simp [execOp, go_sem, t0]
              exact cameB _ rfl (by decide) (Below.refl _ _) rfl (fun h => absurd h (by decide))
            | 5, _, ho, hC =>
              simp only [List.getElem?_cons_succ, List.getElem?_cons_zero, Option.some.injEq] at ho
              subst ho
              unfold Oper.wp
              simp [execOp, go_sem, t7]
              exact cameB _ rfl (by decide) (Below.refl _ _) rfl (fun h => absurd h (by decide))
            | 6, _, ho, hC =>
              simp only [List.getElem?_cons_succ, List.getElem?_cons_zero, Option.some.injEq] at ho
              subst ho
              obtain ⟨u4, e4⟩ := hdep ⟨4, .data⟩ (by simp) rfl _ 26 rfl rfl
              rw [show vals 4 = .slice (some ⟨ga, 0, none⟩) xs.length c1 from e4] at u4
              obtain ⟨u5, e5⟩ := hdep ⟨5, .data⟩ (by simp) rfl _ 27 rfl rfl
              rw [show vals 5 = .int .i64 (p : Int) from e5] at u5
              unfold Oper.wp
              simp [execOp, go_sem, u4, u5, hii]
              exact cameB _ rfl (by decide) (Below.refl _ _) rfl (fun h => absurd h (by decide))
            | 7, _, ho, hC =>
              simp only [List.getElem?_cons_succ, List.getElem?_cons_zero, Option.some.injEq] at ho
              subst ho
              obtain ⟨u6, e6⟩ := hdep ⟨6, .data⟩ (by simp) rfl _ 28 rfl rfl
              rw [show vals 6 = .pointer (some ⟨ga, p * 4, none⟩) from e6] at u6
              exact opw_loadO _ rfl (by simp [Act.eval, u6]) (hca.later (hC (.inr (by kernel_rfl)))) (cameB _ rfl (by decide) (Below.refl _ _) rfl (fun h => absurd h (by decide)))
            | 8, _, ho, hC =>
              simp only [List.getElem?_cons_succ, List.getElem?_cons_zero, Option.some.injEq] at ho
              subst ho
              unfold Oper.wp
              simp [execOp, go_sem, t1]
              exact cameB _ rfl (by decide) (Below.refl _ _) rfl (fun h => absurd h (by decide))
            | 9, _, ho, hC =>
              simp only [List.getElem?_cons_succ, List.getElem?_cons_zero, Option.some.injEq] at ho
              subst ho
              unfold Oper.wp
              simp [execOp, go_sem, t6]
              exact cameB _ rfl (by decide) (Below.refl _ _) rfl (fun h => absurd h (by decide))
            | 10, _, ho, hC =>
              simp only [List.getElem?_cons_succ, List.getElem?_cons_zero, Option.some.injEq] at ho
              subst ho
              obtain ⟨u8, e8⟩ := hdep ⟨8, .data⟩ (by simp) rfl _ 30 rfl rfl
              rw [show vals 8 = .slice (some ⟨gb, 0, none⟩) bs.length c2 from e8] at u8
              obtain ⟨u9, e9⟩ := hdep ⟨9, .data⟩ (by simp) rfl _ 31 rfl rfl
              rw [show vals 9 = .int .i64 (j : Int) from e9] at u9
              unfold Oper.wp
              simp [execOp, go_sem, u8, u9, hjj]
              exact cameB _ rfl (by decide) (Below.refl _ _) rfl (fun h => absurd h (by decide))
            | 11, _, ho, hC =>
              simp only [List.getElem?_cons_succ, List.getElem?_cons_zero, Option.some.injEq] at ho
              subst ho
              obtain ⟨u10, e10⟩ := hdep ⟨10, .data⟩ (by simp) rfl _ 32 rfl rfl
              rw [show vals 10 = .pointer (some ⟨gb, j * 4, none⟩) from e10] at u10
              exact opw_loadO _ rfl (by simp [Act.eval, u10]) (hcb.later (hC (.inr (by kernel_rfl)))) (cameB _ rfl (by decide) (Below.refl _ _) rfl (fun h => absurd h (by decide)))
            | 12, _, ho, hC =>
              simp only [List.getElem?_cons_succ, List.getElem?_cons_zero, Option.some.injEq] at ho
              subst ho
              obtain ⟨u7, e7⟩ := hdep ⟨7, .data⟩ (by simp) rfl _ 29 rfl rfl
              rw [show vals 7 = .agg (ov a) from e7] at u7
              obtain ⟨u11, e11⟩ := hdep ⟨11, .data⟩ (by simp) rfl _ 33 rfl rfl
              rw [show vals 11 = .agg (ov b) from e11] at u11
              unfold Oper.wp
              simp [go_sem, u7, u11]
              refine (tX_any a b x hpa).mono ?_
              rintro r x1 ⟨rfl, hb1⟩
              exact cameB _ rfl (by decide) hb1 rfl (fun h => absurd h (by decide))
            | 13, _, ho, hC =>
              simp only [List.getElem?_cons_succ, List.getElem?_cons_zero, Option.some.injEq] at ho
              subst ho
              unfold Oper.wp
              simp [execOp, go_sem, t1]
              exact cameB _ rfl (by decide) (Below.refl _ _) rfl (fun h => absurd h (by decide))
            | 14, _, ho, hC =>
              simp only [List.getElem?_cons_succ, List.getElem?_cons_zero, Option.some.injEq] at ho
              subst ho
              unfold Oper.wp
              simp [execOp, go_sem, t6]
              exact cameB _ rfl (by decide) (Below.refl _ _) rfl (fun h => absurd h (by decide))
            | 15, _, ho, hC =>
              simp only [List.getElem?_cons_succ, List.getElem?_cons_zero, Option.some.injEq] at ho
              subst ho
              obtain ⟨u13, e13⟩ := hdep ⟨13, .data⟩ (by simp) rfl _ 35 rfl rfl
              rw [show vals 13 = .slice (some ⟨gb, 0, none⟩) bs.length c2 from e13] at u13
              obtain ⟨u14, e14⟩ := hdep ⟨14, .data⟩ (by simp) rfl _ 36 rfl rfl
              rw [show vals 14 = .int .i64 (j : Int) from e14] at u14
              unfold Oper.wp
              simp [execOp, go_sem, u13, u14, hjj]
              exact cameB _ rfl (by decide) (Below.refl _ _) rfl (fun h => absurd h (by decide))
            | 16, _, ho, hC =>
              simp only [List.getElem?_cons_succ, List.getElem?_cons_zero, Option.some.injEq] at ho
              subst ho
              obtain ⟨u15, e15⟩ := hdep ⟨15, .data⟩ (by simp) rfl _ 37 rfl rfl
              rw [show vals 15 = .pointer (some ⟨gb, j * 4, none⟩) from e15] at u15
              exact opw_loadO _ rfl (by simp [Act.eval, u15]) (hcb.later (hC (.inr (by kernel_rfl)))) (cameB _ rfl (by decide) (Below.refl _ _) rfl (fun h => absurd h (by decide)))
            | 17, _, ho, hC =>
              simp only [List.getElem?_cons_succ, List.getElem?_cons_zero, Option.some.injEq] at ho
              subst ho
              unfold Oper.wp
              simp [execOp, go_sem, t0]
              exact cameB _ rfl (by decide) (Below.refl _ _) rfl (fun h => absurd h (by decide))
            | 18, _, ho, hC =>
              simp only [List.getElem?_cons_succ, List.getElem?_cons_zero, Option.some.injEq] at ho
              subst ho
              unfold Oper.wp
              simp [execOp, go_sem, t7]
              exact cameB _ rfl (by decide) (Below.refl _ _) rfl (fun h => absurd h (by decide))
            | 19, _, ho, hC =>
              simp only [List.getElem?_cons_succ, List.getElem?_cons_zero, Option.some.injEq] at ho
              subst ho
              obtain ⟨u17, e17⟩ := hdep ⟨17, .data⟩ (by simp) rfl _ 39 rfl rfl
              rw [show vals 17 = .slice (some ⟨ga, 0, none⟩) xs.length c1 from e17] at u17
              obtain ⟨u18, e18⟩ := hdep ⟨18, .data⟩ (by simp) rfl _ 40 rfl rfl
              rw [show vals 18 = .int .i64 (p : Int) from e18] at u18
              unfold Oper.wp
              simp [execOp, go_sem, u17, u18, hii]
              exact cameB _ rfl (by decide) (Below.refl _ _) rfl (fun h => absurd h (by decide))
            | 20, _, ho, hC =>
              simp only [List.getElem?_cons_succ, List.getElem?_cons_zero, Option.some.injEq] at ho
              subst ho
              obtain ⟨u19, e19⟩ := hdep ⟨19, .data⟩ (by simp) rfl _ 41 rfl rfl
              rw [show vals 19 = .pointer (some ⟨ga, p * 4, none⟩) from e19] at u19
              exact opw_loadO _ rfl (by simp [Act.eval, u19]) (hca.later (hC (.inr (by kernel_rfl)))) (cameB _ rfl (by decide) (Below.refl _ _) rfl (fun h => absurd h (by decide)))
            | 21, _, ho, hC =>
              simp only [List.getElem?_cons_succ, List.getElem?_cons_zero, Option.some.injEq] at ho
              subst ho
              obtain ⟨u16, e16⟩ := hdep ⟨16, .data⟩ (by simp) rfl _ 38 rfl rfl
              rw [show vals 16 = .agg (ov b) from e16] at u16
              obtain ⟨u20, e20⟩ := hdep ⟨20, .data⟩ (by simp) rfl _ 42 rfl rfl
              rw [show vals 20 = .agg (ov a) from e20] at u20
              unfold Oper.wp
              simp [go_sem, u16, u20]
              refine (tX_any b a x hpb).mono ?_
              rintro r x1 ⟨rfl, hb1⟩
              exact cameB _ rfl (by decide) hb1 rfl (fun h => absurd h (by decide))
            | 22, _, ho, hC =>
              simp only [List.getElem?_cons_succ, List.getElem?_cons_zero, Option.some.injEq] at ho
              subst ho
              obtain ⟨u0, e0⟩ := hdep ⟨0, .data⟩ (by simp) rfl _ 22 rfl rfl
              rw [show vals 0 = .slice (some ⟨ga, 0, none⟩) xs.length c1 from e0] at u0
              obtain ⟨u1, e1⟩ := hdep ⟨1, .data⟩ (by simp) rfl _ 23 rfl rfl
              rw [show vals 1 = .int .i64 (p : Int) from e1] at u1
              unfold Oper.wp
              simp [execOp, go_sem, u0, u1, hii]
              exact cameB _ rfl (by decide) (Below.refl _ _) rfl (fun h => absurd h (by decide))
            | 23, _, ho, hC =>
              simp only [List.getElem?_cons_succ, List.getElem?_cons_zero, Option.some.injEq] at ho
              subst ho
              obtain ⟨u22, e22⟩ := hdep ⟨22, .data⟩ (by simp) rfl _ 44 rfl rfl
              rw [show vals 22 = .pointer (some ⟨ga, p * 4, none⟩) from e22] at u22
              obtain ⟨u12, e12⟩ := hdep ⟨12, .data⟩ (by simp) rfl _ 34 rfl rfl
              rw [show vals 12 = .agg (ov (tO a b)) from e12] at u12
              have hs2 : OrB ga (c1 * 4) LA x := hA.later (hC (.inl rfl))
              exact wp_store_mid _ _ _ rfl ga (p * 4) (ov (tO a b)) (by simp [Act.eval, u22]) (by simp [Act.eval, u12]) (hs2.there hil) (o_size _) (by simp [ov, Value.oneCell']) (cameX _ rfl (k2_cells _ _ _) (hs2.put hil _) rfl)
            | m + 24, hi, _, _ => exact absurd hi (by omega)
          · intro vals x hX hRv _
            have q12 : vals 12 = .agg (ov (tO a b)) := hRv 12 (by decide)
            have q21 : vals 21 = .agg (ov (tO b a)) := hRv 21 (by decide)
            have q2 : vals 2 = .slice (some ⟨gb, 0, none⟩) bs.length c2 := hRv 2 (by decide)
            have q3 : vals 3 = .int .i64 (j : Int) := hRv 3 (by decide)
            have q23 : OrB ga (c1 * 4) (LA.set p (tO a b)) x := hRv 23 (by decide)
            have hB2 : OrB gb (c2 * 4) LB x := hBb.k2 hX hne
            have hBx : Below w.heap.size w x := K2.below hBi hX hga hga hBi.size
            simp only [List.take, List.drop, putAll, q12, q21, q2, q3]
            clear hRv q12 q21 q2 q3
            try simp only [List.setIfInBounds_toArray, List.set_cons_succ, List.set_cons_zero]
            have z1 := hB2.put hjl (tO b a)
            have z2 := q23.other hne (j * 4) (ov (tO b a)).toList
            have z3 : Below w.heap.size w (x.setCells gb (j * 4) (ov (tO b a)).toList) := K2.below hBx (k2_cells x (j * 4) (ov (tO b a)).toList) hgb hgb hBx.size
            go_wp2_with (refine wpL_storeQ (g := gb) (off := j * 4) (e := tO b a) rfl (.tmp 45) _ rfl rfl rfl (hB2.there hjl) ?_; generalize x.setCells gb (j * 4) (ov (tO b a)).toList = x2 at z1 z2 z3 ⊢)
            clear q23 hB2 hBx hX
            go_roundw
            case rel =>
              refine ⟨p + 1, by go_num, by omega, ?_, ?_, ?_, ?_, z3⟩
              · rw [HN.out.1]
                have := z2.own hga (by rw [List.length_set]; exact hcl1) hcm1
                rw [List.length_set, HL.out.1] at this
                exact this
              · rw [HN.out.2.1, HN.out.2.2]
                have := z1.own hgb (by rw [List.length_set]; exact hcl2) hcm2
                rw [List.length_set, HL.out.2] at this
                exact this
              · rw [HN.out.1]; exact l5.out.1
              · rw [HN.out.2.1]; exact l5.out.2
            case measure => simp [intOf]; omega
        · obtain rfl : p = xs.length := by omega
          have l5 := hid_of' (And.intro l3 (pB_end hb0 ▸ l2.set j l4))
          rw [pA_end hb0] at o3 l5
          rw [pB_end hb0] at o4
          clear l3 l4 l2 hlti hi
          go_wp2
          go_roundw
          case rel => exact ⟨j + 1, by go_num, by omega, o3, o4, l5.out.1, l5.out.2, hBi⟩
          case measure => simp [intOf]; omega
    · obtain rfl : j = bs.length := by omega
      rw [cA_all] at o1
      rw [cB_all] at o2
      clear hlt l1 l2
      go_wp2
      go_ret2
      exact ⟨_, _, rfl, o1, o2, hap, hBj⟩
end Go.Proofs.YtdafkakigigdeaaDoor
