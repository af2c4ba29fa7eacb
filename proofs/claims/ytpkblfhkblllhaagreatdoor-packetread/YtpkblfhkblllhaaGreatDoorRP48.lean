
/-
  barrowref09.Reader: End.
-/
import Derived.Test.YtpkblfhkblllhaaGreatDoorRP47
namespace Go.Proofs.YtpkblfhkblllhaaGreatDoor
open Go.RowKit Go.Extern.Stop Go.Stop Go.Extern
set_option maxRecDepth 100000

def nmPk : ByteArray := ⟨#[112, 97, 99, 107, 101, 116]⟩
def nmRd : ByteArray := ⟨#[82, 101, 97, 100]⟩
/-- What the document's Read refuses, as a No in memory. -/
def NoQ (s : PS) (no : Value) (w : World) : Prop := match s.wf with
  | some p => ∃ g g', no = .agg (nov 6 (some ⟨g', 0, none⟩) 1 1 (some ⟨g, 0, none⟩) 1 1) ∧ RowAt g' #[.string nmPk, .string nmRd, .int .i64 (p : Int)] 105 w ∧ RowAt g #[.int .i64 6] 3 w
  | none => match s.st with
    | none => no = .agg (nov 0 none 0 0 none 0 0)
    | some (ca, p, c) => ∃ g ra rc, no = .agg (nov ((c : Int) + 1) ra (1 + 1) rc (some ⟨g, 0, none⟩) 1 1) ∧ Rw 105 3 (.slice ra (1 + 1) rc) (1 + 1) (ls1 nmPk nmRd s.pl ++ ls1 nmW ca p) w ∧ RowAt g #[.int .i64 ((c : Int) + 1)] 3 w
theorem NoQ.later {s : PS} {no : Value} {w w' : World} (h : NoQ s no w) (hb : Below w.heap.size w w') : NoQ s no w' := by
  obtain ⟨pl, st, wf⟩ := s
  cases wf with
  | some p => obtain ⟨g, g', h1, h2, h3⟩ := h; exact ⟨g, g', h1, h2.later hb, h3.later hb⟩
  | none => cases st with
    | none => exact h
    | some y => obtain ⟨ca, p, c⟩ := y; obtain ⟨g, ra, rc, h1, h2, h3⟩ := h; exact ⟨g, ra, rc, h1, h2.later hb, h3.later hb⟩
theorem NoQ.set {s : PS} {no : Value} {w : World} (h : NoQ s no w) {b : Nat} {cs : Array Value} (hb : RowAt b cs 37 w) (c : Array Value) : NoQ s no (w.setRow b c) := by
  obtain ⟨pl, st, wf⟩ := s
  cases wf with
  | some p => obtain ⟨g, g', h1, h2, h3⟩ := h; exact ⟨g, g', h1, h2.other _ _ (row_neT h2 hb (by decide)), h3.other _ _ (row_neT h3 hb (by decide))⟩
  | none => cases st with
    | none => exact h
    | some y =>
      obtain ⟨ca, p, k⟩ := y
      obtain ⟨g, ra, rc, h1, h2, h3⟩ := h
      refine ⟨g, ra, rc, h1, h2.rowN _ _ (fun k hk e => ?_), h3.other _ _ (row_neT h3 hb (by decide))⟩
      subst e
      rcases h2.2 with ⟨_, e⟩ | ⟨gg, _, _, e, hgg, _⟩
      · omega
      · rw [e] at hk
        simp only [Value.ownBlock, Option.some.injEq] at hk
        subst hk
        exact row_neT hgg hb (by decide) rfl
theorem PxAt.x1 {pb xb : Nat} {v : Value} {bs : List UInt8} {s : PS} {w : World} (h : PxAt pb xb v bs s w) : w.cell? ⟨xb, 1, none⟩ = some (.int .i64 (s.pl : Int)) := by
  obtain ⟨_, _, _, hx⟩ := h.xs
  exact hx.at_.row.cell 1
theorem PxAt.p1 {pb xb : Nat} {v : Value} {bs : List UInt8} {s : PS} {w : World} (h : PxAt pb xb v bs s w) : w.cell? ⟨pb, 1, none⟩ = some (.bool s.wf.isSome) := h.row.cell 1
theorem PxAt.p2 {pb xb : Nat} {v : Value} {bs : List UInt8} {s : PS} {w : World} (h : PxAt pb xb v bs s w) : w.cell? ⟨pb, 2, none⟩ = some (.int .i64 ((s.wf.getD 0 : Nat) : Int)) := h.row.cell 2
theorem xs_no {xb pl : Nat} {v : Value} {bs : List UInt8} {st : StO} {n0 n1 n2 : Value} {w : World} (h : XsAt xb v bs pl st n0 n1 n2 w) : CsIn xb 2 #[n0, n1, n2] w :=
  ⟨h.at_.row.lt, fun j u hj => by
    have hc := h.at_.row.cell (2 + j)
    rw [hc, ← hj]
    match j with
    | 0 | 1 | 2 => rfl
    | j + 3 => rw [Array.getElem?_eq_none (by simp; omega), Array.getElem?_eq_none (by simp)]⟩
theorem wrap_zero (la ca : ByteArray) (at_ : Int) (w : World) :
    Calls Tryz.prog 41 #[.string la, .string ca, .int .i64 at_, .agg (nov 0 none 0 0 none 0 0)] w fun e w' => e = .returned (.agg (nov 0 none 0 0 none 0 0)) ∧ Below w.heap.size w w' := by
  unfold nov
  go_enter Tryz.func41, Tryz.ntmps41
  go_wp2
  exact bodyPost_ret (v := .agg #[.int .i64 0, .slice none 0 0, .slice none 0 0]) (by simp [results, Tryz.results41, go_sem]) rfl ⟨rfl, bgo (below_one w _) (below_one _ _)⟩
/-- Wrap of what wire's Reader has refused, if anything. -/
theorem wrap_st {xb pl : Nat} {v : Value} {bs : List UInt8} {st : StO} {n0 n1 n2 : Value} {w : World} (h : XsAt xb v bs pl st n0 n1 n2 w) :
    Calls Tryz.prog 41 #[.string nmPk, .string nmRd, .int .i64 (pl : Int), .agg #[n0, n1, n2]] w fun e w' => ∃ (c : Int) (a : Option Addr × Nat × Nat × Option Addr × Nat × Nat), e = .returned (.agg (nov c a.1 a.2.1 a.2.2.1 a.2.2.2.1 a.2.2.2.2.1 a.2.2.2.2.2)) ∧ NoQ ⟨pl, st, none⟩ (.agg (nov c a.1 a.2.1 a.2.2.1 a.2.2.2.1 a.2.2.2.2.1 a.2.2.2.2.2)) w' ∧ Below w.heap.size w w' := by
  have hn := h.no
  clear h
  match st, hn with
  | none, ⟨e0, e1, e2⟩ =>
    subst e0 e1 e2
    refine (wrap_zero nmPk nmRd _ w).mono ?_
    rintro e w' ⟨rfl, hb⟩
    exact ⟨0, (none, 0, 0, none, 0, 0), rfl, rfl, hb⟩
  | some (ca, p, c), ⟨g, g', e0, e1, e2, c1, c2⟩ =>
    subst e0 e1 e2
    refine (wrap_two nmPk nmRd nmW ca pl p ((c : Int) + 1) g g' (by rw [beq_eq_false_iff_ne]; omega) c1).mono ?_
    rintro e w' ⟨r, rfl, hr, hb⟩
    obtain ⟨ra, rc, rfl⟩ := hr.form
    exact ⟨_, (ra, 1 + 1, rc, some ⟨g, 0, none⟩, 1, 1), rfl, ⟨g, ra, rc, rfl, hr.1, c2.later hb⟩, hb⟩
theorem fin_bad {bs : List UInt8} {s : PS} (h : s.bad = true) : s.fin bs = s := by unfold PS.fin; rw [h]; rfl
set_option maxHeartbeats 8000000 in
theorem end_px {pb xb : Nat} {rv : Value} {bs : List UInt8} {s : PS} {w : World} (h : PxAt pb xb rv bs s w) :
    Calls Tryz.prog 22 #[.pointer (some ⟨pb, 0, none⟩), .string nmPk, .string nmRd] w fun e w' => ∃ no, e = .returned (.agg no) ∧ NoQ (s.fin bs) (.agg no) w' ∧ Kept [pb, xb] w w' := by
  have hpx : pb < w.heap.size ∧ xb < w.heap.size := by
    obtain ⟨_, _, _, hx⟩ := h.xs
    exact ⟨h.row.lt, hx.at_.row.lt⟩
  have b1 := below_one w (.cells #[.int .i64 0, .slice none 0 0, .slice none 0 0] 37)
  have hr : RowAt w.heap.size #[.int .i64 0, .slice none 0 0, .slice none 0 0] 37 (w.alloc (.cells #[.int .i64 0, .slice none 0 0, .slice none 0 0] 37)) := RowAt.new w _ _
  have h1 := h.later b1
  have hB := bad_is h1
  obtain ⟨w1, hw1⟩ : ∃ w1, w1 = w.alloc (.cells #[.int .i64 0, .slice none 0 0, .slice none 0 0] 37) := ⟨_, rfl⟩
  rw [← hw1] at b1 hr h1 hB
  clear h
  cases hb : s.bad with
  | true =>
    rw [hb] at hB
    rw [fin_bad hb]
    cases hwf : s.wf with
    | some p =>
      have p1 := h1.p1
      have p2 := h1.p2
      rw [hwf] at p1 p2
      have hS := say_any nmPk nmRd (p : Int) 6 w1 rfl
      have HB := hid_of' (And.intro hB (And.intro hS (And.intro hr (And.intro b1 hwf))))
      clear hB hS b1
      go_enter Tryz.func22, Tryz.ntmps22
      go_upto_region 1 with fail
      rw [← hw1]; clear hw1
      go_wp2_with (first | (go_at_call 34; refine HB.out.1.mono ?_; rintro e wz ⟨rfl, hz⟩; obtain rfl := hz.symm) | (go_at_call 40; refine HB.out.2.1.mono ?_; rintro e w2 ⟨g, g', rfl, g1, g2, g3, g4, g5⟩) | (refine wpL_storeNo rfl _ _ rfl rfl rfl (HB.out.2.2.1.later g5) ?_))
      have hr2 := HB.out.2.2.1.later g5
      have hq : NoQ s (.agg (nov 6 (some ⟨g', 0, none⟩) 1 1 (some ⟨g, 0, none⟩) 1 1)) w2 := by
        unfold NoQ
        rw [HB.out.2.2.2.2]
        exact ⟨g, g', rfl, by have := g3; rw [show place (p : Int) = (p : Int) from if_neg (by omega)] at this; exact this, g4⟩
      have hrow : RowAt w.heap.size (nov 6 (some ⟨g', 0, none⟩) 1 1 (some ⟨g, 0, none⟩) 1 1) 37 (w2.setRow w.heap.size (nov 6 (some ⟨g', 0, none⟩) 1 1 (some ⟨g, 0, none⟩) 1 1)) := setRow_heap _ _ _ _ _ _ hr2
      have hk : Kept [pb, xb] w (w2.setRow w.heap.size (nov 6 (some ⟨g', 0, none⟩) 1 1 (some ⟨g, 0, none⟩) 1 1)) := ((Kept.of HB.out.2.2.2.1).trans (.of g5)).go (kept_setRowQ _ _ _) (fun k hk => .inr (by simp at hk; omega))
      exact bodyPost_ret (v := .agg (nov 6 (some ⟨g', 0, none⟩) 1 1 (some ⟨g, 0, none⟩) 1 1)) (results_cell_row rfl _ _ w.heap.size _ _ _ _ rfl hrow Tryz.underlying37 rfl no_size) rfl ⟨_, rfl, hq.set hr2 _, hk⟩
    | none =>
      have p1 := h1.p1
      rw [hwf] at p1
      obtain ⟨n0, n1, n2, hx⟩ := h1.xs
      have HW := hid_of' (fun (x : World) (hb : Below w1.heap.size w1 x) => wrap_st (hx.later hb))
      have HX := hid_of' h1
      have HN := hid_of' hx
      have HB := hid_of' hB
      have HE := hid_of' (And.intro hr (show Kept [pb, xb] w w1 from .of b1))
      obtain ⟨pl, st, wf⟩ := s
      obtain rfl : wf = none := hwf
      dsimp only at HW HN
      clear hB b1 hr h1 hx hb
      go_enter Tryz.func22, Tryz.ntmps22
      go_upto_region 1 with fail
      rw [← hw1]; clear hw1
      go_upto_region 5 with (go_at_call 34; refine HB.out.mono ?_; rintro e wz ⟨rfl, hz⟩; obtain rfl := hz.symm)
      refine wp_region_tail 17 (by kernel_rfl) (fun _ => none) (by kernel_rfl) (by kernel_rfl) (by decide) (fun i v x => match i with
        | 0 => v = .string nmPk
        | 1 => v = .string nmRd
        | 2 => v = .pointer (some ⟨pb, 0, none⟩)
        | 3 => v = .pointer (some ⟨pb, 0, none⟩)
        | 4 => v = .pointer (some ⟨pb, 0, none⟩)
        | 5 => v = .pointer (some ⟨xb, 0, none⟩)
        | 6 => v = .pointer (some ⟨xb, 0, none⟩)
        | 7 => v = .pointer (some ⟨xb, 1, none⟩)
        | 8 => v = .int .i64 (pl : Int)
        | 9 => v = .pointer (some ⟨pb, 0, none⟩)
        | 10 => v = .pointer (some ⟨pb, 0, none⟩)
        | 11 => v = .pointer (some ⟨pb, 0, none⟩)
        | 12 => v = .pointer (some ⟨xb, 0, none⟩)
        | 13 => v = .pointer (some ⟨xb, 0, none⟩)
        | 14 => v = .pointer (some ⟨xb, 2, none⟩)
        | 15 => v = .agg #[n0, n1, n2]
        | 16 => ∃ (c : Int) (a : Option Addr × Nat × Nat × Option Addr × Nat × Nat), v = .agg (nov c a.1 a.2.1 a.2.2.1 a.2.2.2.1 a.2.2.2.2.1 a.2.2.2.2.2) ∧ NoQ (⟨pl, st, none⟩ : PS) v x
        | _ => True) (fun _ => false) (fun _ _ _ _ h => by cases h) ?_ ?_ ?_
      · intro i v x x' hR hb
        match i, hR with
        | 0, h => exact h
        | 1, h => exact h
        | 2, h => exact h
        | 3, h => exact h
        | 4, h => exact h
        | 5, h => exact h
        | 6, h => exact h
        | 7, h => exact h
        | 8, h => exact h
        | 9, h => exact h
        | 10, h => exact h
        | 11, h => exact h
        | 12, h => exact h
        | 13, h => exact h
        | 14, h => exact h
        | 15, h => exact h
        | 16, h => exact (by obtain ⟨c, a, h1, h2⟩ := h; exact ⟨c, a, h1, h2.later hb⟩)
        | m + 17, h => exact h
      · intro i o hi ho q x vals hX hdep hoth
        have t0 : q.tmps[0]? = some (.pointer (some ⟨pb, 0, none⟩)) := by rw [hoth 0 (by kernel_rfl)]; rfl
        have t1 : q.tmps[1]? = some (.string nmPk) := by rw [hoth 1 (by kernel_rfl)]; rfl
        have t2 : q.tmps[2]? = some (.string nmRd) := by rw [hoth 2 (by kernel_rfl)]; rfl
        match i, hi, ho with
        | 0, _, ho =>
          simp only [List.getElem?_cons_zero, Option.some.injEq] at ho
          subst ho
          unfold Oper.wp
          simp [execOp, go_sem, t1]
          exact came _ rfl (Below.refl _ _) rfl (fun h => absurd h (by decide))
        | 1, _, ho =>
          simp only [List.getElem?_cons_succ, List.getElem?_cons_zero, Option.some.injEq] at ho
          subst ho
          unfold Oper.wp
          simp [execOp, go_sem, t2]
          exact came _ rfl (Below.refl _ _) rfl (fun h => absurd h (by decide))
        | 2, _, ho =>
          simp only [List.getElem?_cons_succ, List.getElem?_cons_zero, Option.some.injEq] at ho
          subst ho
          unfold Oper.wp
          simp [execOp, go_sem, t0]
          exact came _ rfl (Below.refl _ _) rfl (fun h => absurd h (by decide))
        | 3, _, ho =>
          simp only [List.getElem?_cons_succ, List.getElem?_cons_zero, Option.some.injEq] at ho
          subst ho
          obtain ⟨u2, e2⟩ := hdep ⟨2, .data⟩ (by simp) rfl _ 28 rfl rfl
          rw [show vals 2 = .pointer (some ⟨pb, 0, none⟩) from e2] at u2
          unfold Oper.wp
          simp [execOp, go_sem, u2]
          exact came _ rfl (Below.refl _ _) rfl (fun h => absurd h (by decide))
        | 4, _, ho =>
          simp only [List.getElem?_cons_succ, List.getElem?_cons_zero, Option.some.injEq] at ho
          subst ho
          obtain ⟨u3, e3⟩ := hdep ⟨3, .data⟩ (by simp) rfl _ 29 rfl rfl
          rw [show vals 3 = .pointer (some ⟨pb, 0, none⟩) from e3] at u3
          unfold Oper.wp
          simp [execOp, go_sem, u3]
          exact came _ rfl (Below.refl _ _) rfl (fun h => absurd h (by decide))
        | 5, _, ho =>
          simp only [List.getElem?_cons_succ, List.getElem?_cons_zero, Option.some.injEq] at ho
          subst ho
          obtain ⟨u4, e4⟩ := hdep ⟨4, .data⟩ (by simp) rfl _ 30 rfl rfl
          rw [show vals 4 = .pointer (some ⟨pb, 0, none⟩) from e4] at u4
          have cc : x.cell? ⟨pb, 0, none⟩ = some (.pointer (some ⟨xb, 0, none⟩)) := (HX.out.later hX).p0
          unfold Oper.wp
          simp [execOp, go_sem, u4, cc]
          exact came _ rfl (Below.refl _ _) rfl (fun h => absurd h (by decide))
        | 6, _, ho =>
          simp only [List.getElem?_cons_succ, List.getElem?_cons_zero, Option.some.injEq] at ho
          subst ho
          obtain ⟨u5, e5⟩ := hdep ⟨5, .data⟩ (by simp) rfl _ 31 rfl rfl
          rw [show vals 5 = .pointer (some ⟨xb, 0, none⟩) from e5] at u5
          unfold Oper.wp
          simp [execOp, go_sem, u5]
          exact came _ rfl (Below.refl _ _) rfl (fun h => absurd h (by decide))
        | 7, _, ho =>
          simp only [List.getElem?_cons_succ, List.getElem?_cons_zero, Option.some.injEq] at ho
          subst ho
          obtain ⟨u6, e6⟩ := hdep ⟨6, .data⟩ (by simp) rfl _ 32 rfl rfl
          rw [show vals 6 = .pointer (some ⟨xb, 0, none⟩) from e6] at u6
          unfold Oper.wp
          simp [execOp, go_sem, u6]
          exact came _ rfl (Below.refl _ _) rfl (fun h => absurd h (by decide))
        | 8, _, ho =>
          simp only [List.getElem?_cons_succ, List.getElem?_cons_zero, Option.some.injEq] at ho
          subst ho
          obtain ⟨u7, e7⟩ := hdep ⟨7, .data⟩ (by simp) rfl _ 33 rfl rfl
          rw [show vals 7 = .pointer (some ⟨xb, 1, none⟩) from e7] at u7
          have cc : x.cell? ⟨xb, 1, none⟩ = some (.int .i64 (pl : Int)) := (HX.out.later hX).x1
          unfold Oper.wp
          simp [execOp, go_sem, u7, cc]
          exact came _ rfl (Below.refl _ _) rfl (fun h => absurd h (by decide))
        | 9, _, ho =>
          simp only [List.getElem?_cons_succ, List.getElem?_cons_zero, Option.some.injEq] at ho
          subst ho
          unfold Oper.wp
          simp [execOp, go_sem, t0]
          exact came _ rfl (Below.refl _ _) rfl (fun h => absurd h (by decide))
        | 10, _, ho =>
          simp only [List.getElem?_cons_succ, List.getElem?_cons_zero, Option.some.injEq] at ho
          subst ho
          obtain ⟨u9, e9⟩ := hdep ⟨9, .data⟩ (by simp) rfl _ 35 rfl rfl
          rw [show vals 9 = .pointer (some ⟨pb, 0, none⟩) from e9] at u9
          unfold Oper.wp
          simp [execOp, go_sem, u9]
          exact came _ rfl (Below.refl _ _) rfl (fun h => absurd h (by decide))
        | 11, _, ho =>
          simp only [List.getElem?_cons_succ, List.getElem?_cons_zero, Option.some.injEq] at ho
          subst ho
          obtain ⟨u10, e10⟩ := hdep ⟨10, .data⟩ (by simp) rfl _ 36 rfl rfl
          rw [show vals 10 = .pointer (some ⟨pb, 0, none⟩) from e10] at u10
          unfold Oper.wp
          simp [execOp, go_sem, u10]
          exact came _ rfl (Below.refl _ _) rfl (fun h => absurd h (by decide))
        | 12, _, ho =>
          simp only [List.getElem?_cons_succ, List.getElem?_cons_zero, Option.some.injEq] at ho
          subst ho
          obtain ⟨u11, e11⟩ := hdep ⟨11, .data⟩ (by simp) rfl _ 37 rfl rfl
          rw [show vals 11 = .pointer (some ⟨pb, 0, none⟩) from e11] at u11
          have cc : x.cell? ⟨pb, 0, none⟩ = some (.pointer (some ⟨xb, 0, none⟩)) := (HX.out.later hX).p0
          unfold Oper.wp
          simp [execOp, go_sem, u11, cc]
          exact came _ rfl (Below.refl _ _) rfl (fun h => absurd h (by decide))
        | 13, _, ho =>
          simp only [List.getElem?_cons_succ, List.getElem?_cons_zero, Option.some.injEq] at ho
          subst ho
          obtain ⟨u12, e12⟩ := hdep ⟨12, .data⟩ (by simp) rfl _ 38 rfl rfl
          rw [show vals 12 = .pointer (some ⟨xb, 0, none⟩) from e12] at u12
          unfold Oper.wp
          simp [execOp, go_sem, u12]
          exact came _ rfl (Below.refl _ _) rfl (fun h => absurd h (by decide))
        | 14, _, ho =>
          simp only [List.getElem?_cons_succ, List.getElem?_cons_zero, Option.some.injEq] at ho
          subst ho
          obtain ⟨u13, e13⟩ := hdep ⟨13, .data⟩ (by simp) rfl _ 39 rfl rfl
          rw [show vals 13 = .pointer (some ⟨xb, 0, none⟩) from e13] at u13
          unfold Oper.wp
          simp [execOp, go_sem, u13]
          exact came _ rfl (Below.refl _ _) rfl (fun h => absurd h (by decide))
        | 15, _, ho =>
          simp only [List.getElem?_cons_succ, List.getElem?_cons_zero, Option.some.injEq] at ho
          subst ho
          obtain ⟨u14, e14⟩ := hdep ⟨14, .data⟩ (by simp) rfl _ 40 rfl rfl
          rw [show vals 14 = .pointer (some ⟨xb, 2, none⟩) from e14] at u14
          refine opw_ldNo _ rfl (by simp [Act.eval, u14]) (xs_no (HN.out.later hX)) ?_
          exact came _ rfl (Below.refl _ _) rfl (fun h => absurd h (by decide))
        | 16, _, ho =>
          simp only [List.getElem?_cons_succ, List.getElem?_cons_zero, Option.some.injEq] at ho
          subst ho
          obtain ⟨u0, e0⟩ := hdep ⟨0, .data⟩ (by simp) rfl _ 26 rfl rfl
          rw [show vals 0 = .string nmPk from e0] at u0
          obtain ⟨u1, e1⟩ := hdep ⟨1, .data⟩ (by simp) rfl _ 27 rfl rfl
          rw [show vals 1 = .string nmRd from e1] at u1
          obtain ⟨u8, e8⟩ := hdep ⟨8, .data⟩ (by simp) rfl _ 34 rfl rfl
          rw [show vals 8 = .int .i64 (pl : Int) from e8] at u8
          obtain ⟨u15, e15⟩ := hdep ⟨15, .data⟩ (by simp) rfl _ 41 rfl rfl
          rw [show vals 15 = .agg #[n0, n1, n2] from e15] at u15
          unfold Oper.wp
          simp [go_sem, u0, u1, u8, u15]
          refine (HW.out _ hX).mono ?_
          rintro r x1 ⟨c, a, rfl, hq1, hb1⟩
          exact came _ rfl hb1 ⟨⟨c, a.1, a.2.1, a.2.2.1, a.2.2.2.1, a.2.2.2.2.1, a.2.2.2.2.2, rfl⟩, hq1⟩ (fun h => absurd h (by decide))
        | m + 17, hi, _ => exact absurd hi (by omega)
      · intro vals x hX hR _
        obtain ⟨c, a, e16, hq⟩ : ∃ (c : Int) (a : Option Addr × Nat × Nat × Option Addr × Nat × Nat), vals 16 = .agg (nov c a.1 a.2.1 a.2.2.1 a.2.2.2.1 a.2.2.2.2.1 a.2.2.2.2.2) ∧ NoQ (⟨pl, st, none⟩ : PS) (vals 16) x := hR 16 (by decide)
        rw [e16] at hq
        simp only [List.take, List.drop, putAll, e16]
        simp only [List.setIfInBounds_toArray, List.set_cons_succ, List.set_cons_zero]
        have hx1 := HE.out.1.later hX
        have hrow : RowAt w.heap.size (nov c a.1 a.2.1 a.2.2.1 a.2.2.2.1 a.2.2.2.2.1 a.2.2.2.2.2) 37 (x.setRow w.heap.size (nov c a.1 a.2.1 a.2.2.1 a.2.2.2.1 a.2.2.2.2.1 a.2.2.2.2.2)) := setRow_heap _ _ _ _ _ _ hx1
        have hk : Kept [pb, xb] w (x.setRow w.heap.size (nov c a.1 a.2.1 a.2.2.1 a.2.2.2.1 a.2.2.2.2.1 a.2.2.2.2.2)) := (HE.out.2.trans (.of hX)).go (kept_setRowQ _ _ _) (fun g hg => .inr (by simp at hg; omega))
        have HQ := hid_of' (And.intro (hq.set hx1 (nov c a.1 a.2.1 a.2.2.1 a.2.2.2.1 a.2.2.2.2.1 a.2.2.2.2.2)) hk)
        clear hq hk
        go_wp2_with (refine wpL_storeNo rfl _ _ rfl rfl rfl hx1 ?_)
        exact bodyPost_ret (v := .agg (nov c a.1 a.2.1 a.2.2.1 a.2.2.2.1 a.2.2.2.2.1 a.2.2.2.2.2)) (results_cell_row rfl _ _ w.heap.size _ _ _ _ rfl hrow Tryz.underlying37 rfl no_size) rfl ⟨_, rfl, HQ.out.1, HQ.out.2⟩
  | false =>
    rw [hb] at hB
    obtain ⟨n0', n1', n2', hx'⟩ := h1.xs
    have p0 := h1.p0
    have HB := hid_of' (And.intro hB (And.intro (xo_End hx') (And.intro h1 (And.intro hr (And.intro b1 hb)))))
    clear hB hx' h1 hr b1
    go_enter Tryz.func22, Tryz.ntmps22
    go_upto_region 1 with fail
    rw [← hw1]; clear hw1
    go_upto_region 3 with (first | (go_at_call 34; refine HB.out.1.mono ?_; rintro e wz ⟨rfl, hz⟩; obtain rfl := hz.symm) | (go_at_call 39; refine HB.out.2.1.mono ?_; rintro e w2 ⟨n0, n1, n2, rfl, hx, hk⟩))
    have h2 : PxAt pb xb rv bs (s.fin bs) w2 := by
      have q := HB.out.2.2.1.next hk hx
      have hg := PS.good HB.out.2.2.2.2.2
      obtain ⟨pl, st, wf⟩ := s
      obtain ⟨rfl, rfl⟩ : st = none ∧ wf = none := hg
      unfold PS.fin
      rw [HB.out.2.2.2.2.2]
      cases hr : endR (bs.drop pl) with
      | error c =>
        simp only [hr, Except.map, resS] at q
        exact q
      | ok u =>
        have hu : u.2 = 0 := by
          cases hd : bs.drop pl with
          | nil => rw [hd] at hr; cases hr; rfl
          | cons b r => rw [hd] at hr; cases hr
        simp only [hr, Except.map, resS, hu, Nat.add_zero] at q
        exact q
    have hwf : (s.fin bs).wf = none := by
      unfold PS.fin
      rw [HB.out.2.2.2.2.2]
      have hg := (PS.good HB.out.2.2.2.2.2).2
      simp only [Bool.false_eq_true, if_false]
      split <;> exact hg
    have hr2 : RowAt w.heap.size #[.int .i64 0, .slice none 0 0, .slice none 0 0] 37 w2 := HB.out.2.2.2.1.kept hk (by have := hpx; simp; omega)
    have hk2 : Kept [pb, xb] w w2 := (Kept.of HB.out.2.2.2.2.1).trans (hk.mono (by simp))
    clear hx hk HB
    generalize hs9 : s.fin bs = s9 at h2 hwf
    have p0 := h2.p0
    have p1 := h2.p1
    rw [hwf] at p1
    obtain ⟨m0, m1, m2, hx⟩ := h2.xs
    have HW := hid_of' (fun (x : World) (hb : Below w2.heap.size w2 x) => wrap_st (hx.later hb))
    have HX := hid_of' h2
    have HN := hid_of' hx
    have HE := hid_of' (And.intro hr2 hk2)
    obtain ⟨pl, st, wf⟩ := s9
    obtain rfl : wf = none := hwf
    dsimp only at HW HN
    have HS9 := hid_of' hs9
    clear h2 hx hr2 hk2 hs9
    go_upto_region 5 with fail
    refine wp_region_tail 17 (by kernel_rfl) (fun _ => none) (by kernel_rfl) (by kernel_rfl) (by decide) (fun i v x => match i with
      | 0 => v = .string nmPk
      | 1 => v = .string nmRd
      | 2 => v = .pointer (some ⟨pb, 0, none⟩)
      | 3 => v = .pointer (some ⟨pb, 0, none⟩)
      | 4 => v = .pointer (some ⟨pb, 0, none⟩)
      | 5 => v = .pointer (some ⟨xb, 0, none⟩)
      | 6 => v = .pointer (some ⟨xb, 0, none⟩)
      | 7 => v = .pointer (some ⟨xb, 1, none⟩)
      | 8 => v = .int .i64 (pl : Int)
      | 9 => v = .pointer (some ⟨pb, 0, none⟩)
      | 10 => v = .pointer (some ⟨pb, 0, none⟩)
      | 11 => v = .pointer (some ⟨pb, 0, none⟩)
      | 12 => v = .pointer (some ⟨xb, 0, none⟩)
      | 13 => v = .pointer (some ⟨xb, 0, none⟩)
      | 14 => v = .pointer (some ⟨xb, 2, none⟩)
      | 15 => v = .agg #[m0, m1, m2]
      | 16 => ∃ (c : Int) (a : Option Addr × Nat × Nat × Option Addr × Nat × Nat), v = .agg (nov c a.1 a.2.1 a.2.2.1 a.2.2.2.1 a.2.2.2.2.1 a.2.2.2.2.2) ∧ NoQ (⟨pl, st, none⟩ : PS) v x
      | _ => True) (fun _ => false) (fun _ _ _ _ h => by cases h) ?_ ?_ ?_
    · intro i v x x' hR hb
      match i, hR with
      | 0, h => exact h
      | 1, h => exact h
      | 2, h => exact h
      | 3, h => exact h
      | 4, h => exact h
      | 5, h => exact h
      | 6, h => exact h
      | 7, h => exact h
      | 8, h => exact h
      | 9, h => exact h
      | 10, h => exact h
      | 11, h => exact h
      | 12, h => exact h
      | 13, h => exact h
      | 14, h => exact h
      | 15, h => exact h
      | 16, h => exact (by obtain ⟨c, a, h1, h2⟩ := h; exact ⟨c, a, h1, h2.later hb⟩)
      | m + 17, h => exact h
    · intro i o hi ho q x vals hX hdep hoth
      have t0 : q.tmps[0]? = some (.pointer (some ⟨pb, 0, none⟩)) := by rw [hoth 0 (by kernel_rfl)]; rfl
      have t1 : q.tmps[1]? = some (.string nmPk) := by rw [hoth 1 (by kernel_rfl)]; rfl
      have t2 : q.tmps[2]? = some (.string nmRd) := by rw [hoth 2 (by kernel_rfl)]; rfl
      match i, hi, ho with
      | 0, _, ho =>
        simp only [List.getElem?_cons_zero, Option.some.injEq] at ho
        subst ho
        unfold Oper.wp
        simp [execOp, go_sem, t1]
        exact came _ rfl (Below.refl _ _) rfl (fun h => absurd h (by decide))
      | 1, _, ho =>
        simp only [List.getElem?_cons_succ, List.getElem?_cons_zero, Option.some.injEq] at ho
        subst ho
        unfold Oper.wp
        simp [execOp, go_sem, t2]
        exact came _ rfl (Below.refl _ _) rfl (fun h => absurd h (by decide))
      | 2, _, ho =>
        simp only [List.getElem?_cons_succ, List.getElem?_cons_zero, Option.some.injEq] at ho
        subst ho
        unfold Oper.wp
        simp [execOp, go_sem, t0]
        exact came _ rfl (Below.refl _ _) rfl (fun h => absurd h (by decide))
      | 3, _, ho =>
        simp only [List.getElem?_cons_succ, List.getElem?_cons_zero, Option.some.injEq] at ho
        subst ho
        obtain ⟨u2, e2⟩ := hdep ⟨2, .data⟩ (by simp) rfl _ 28 rfl rfl
        rw [show vals 2 = .pointer (some ⟨pb, 0, none⟩) from e2] at u2
        unfold Oper.wp
        simp [execOp, go_sem, u2]
        exact came _ rfl (Below.refl _ _) rfl (fun h => absurd h (by decide))
      | 4, _, ho =>
        simp only [List.getElem?_cons_succ, List.getElem?_cons_zero, Option.some.injEq] at ho
        subst ho
        obtain ⟨u3, e3⟩ := hdep ⟨3, .data⟩ (by simp) rfl _ 29 rfl rfl
        rw [show vals 3 = .pointer (some ⟨pb, 0, none⟩) from e3] at u3
        unfold Oper.wp
        simp [execOp, go_sem, u3]
        exact came _ rfl (Below.refl _ _) rfl (fun h => absurd h (by decide))
      | 5, _, ho =>
        simp only [List.getElem?_cons_succ, List.getElem?_cons_zero, Option.some.injEq] at ho
        subst ho
        obtain ⟨u4, e4⟩ := hdep ⟨4, .data⟩ (by simp) rfl _ 30 rfl rfl
        rw [show vals 4 = .pointer (some ⟨pb, 0, none⟩) from e4] at u4
        have cc : x.cell? ⟨pb, 0, none⟩ = some (.pointer (some ⟨xb, 0, none⟩)) := (HX.out.later hX).p0
        unfold Oper.wp
        simp [execOp, go_sem, u4, cc]
        exact came _ rfl (Below.refl _ _) rfl (fun h => absurd h (by decide))
      | 6, _, ho =>
        simp only [List.getElem?_cons_succ, List.getElem?_cons_zero, Option.some.injEq] at ho
        subst ho
        obtain ⟨u5, e5⟩ := hdep ⟨5, .data⟩ (by simp) rfl _ 31 rfl rfl
        rw [show vals 5 = .pointer (some ⟨xb, 0, none⟩) from e5] at u5
        unfold Oper.wp
        simp [execOp, go_sem, u5]
        exact came _ rfl (Below.refl _ _) rfl (fun h => absurd h (by decide))
      | 7, _, ho =>
        simp only [List.getElem?_cons_succ, List.getElem?_cons_zero, Option.some.injEq] at ho
        subst ho
        obtain ⟨u6, e6⟩ := hdep ⟨6, .data⟩ (by simp) rfl _ 32 rfl rfl
        rw [show vals 6 = .pointer (some ⟨xb, 0, none⟩) from e6] at u6
        unfold Oper.wp
        simp [execOp, go_sem, u6]
        exact came _ rfl (Below.refl _ _) rfl (fun h => absurd h (by decide))
      | 8, _, ho =>
        simp only [List.getElem?_cons_succ, List.getElem?_cons_zero, Option.some.injEq] at ho
        subst ho
        obtain ⟨u7, e7⟩ := hdep ⟨7, .data⟩ (by simp) rfl _ 33 rfl rfl
        rw [show vals 7 = .pointer (some ⟨xb, 1, none⟩) from e7] at u7
        have cc : x.cell? ⟨xb, 1, none⟩ = some (.int .i64 (pl : Int)) := (HX.out.later hX).x1
        unfold Oper.wp
        simp [execOp, go_sem, u7, cc]
        exact came _ rfl (Below.refl _ _) rfl (fun h => absurd h (by decide))
      | 9, _, ho =>
        simp only [List.getElem?_cons_succ, List.getElem?_cons_zero, Option.some.injEq] at ho
        subst ho
        unfold Oper.wp
        simp [execOp, go_sem, t0]
        exact came _ rfl (Below.refl _ _) rfl (fun h => absurd h (by decide))
      | 10, _, ho =>
        simp only [List.getElem?_cons_succ, List.getElem?_cons_zero, Option.some.injEq] at ho
        subst ho
        obtain ⟨u9, e9⟩ := hdep ⟨9, .data⟩ (by simp) rfl _ 35 rfl rfl
        rw [show vals 9 = .pointer (some ⟨pb, 0, none⟩) from e9] at u9
        unfold Oper.wp
        simp [execOp, go_sem, u9]
        exact came _ rfl (Below.refl _ _) rfl (fun h => absurd h (by decide))
      | 11, _, ho =>
        simp only [List.getElem?_cons_succ, List.getElem?_cons_zero, Option.some.injEq] at ho
        subst ho
        obtain ⟨u10, e10⟩ := hdep ⟨10, .data⟩ (by simp) rfl _ 36 rfl rfl
        rw [show vals 10 = .pointer (some ⟨pb, 0, none⟩) from e10] at u10
        unfold Oper.wp
        simp [execOp, go_sem, u10]
        exact came _ rfl (Below.refl _ _) rfl (fun h => absurd h (by decide))
      | 12, _, ho =>
        simp only [List.getElem?_cons_succ, List.getElem?_cons_zero, Option.some.injEq] at ho
        subst ho
        obtain ⟨u11, e11⟩ := hdep ⟨11, .data⟩ (by simp) rfl _ 37 rfl rfl
        rw [show vals 11 = .pointer (some ⟨pb, 0, none⟩) from e11] at u11
        have cc : x.cell? ⟨pb, 0, none⟩ = some (.pointer (some ⟨xb, 0, none⟩)) := (HX.out.later hX).p0
        unfold Oper.wp
        simp [execOp, go_sem, u11, cc]
        exact came _ rfl (Below.refl _ _) rfl (fun h => absurd h (by decide))
      | 13, _, ho =>
        simp only [List.getElem?_cons_succ, List.getElem?_cons_zero, Option.some.injEq] at ho
        subst ho
        obtain ⟨u12, e12⟩ := hdep ⟨12, .data⟩ (by simp) rfl _ 38 rfl rfl
        rw [show vals 12 = .pointer (some ⟨xb, 0, none⟩) from e12] at u12
        unfold Oper.wp
        simp [execOp, go_sem, u12]
        exact came _ rfl (Below.refl _ _) rfl (fun h => absurd h (by decide))
      | 14, _, ho =>
        simp only [List.getElem?_cons_succ, List.getElem?_cons_zero, Option.some.injEq] at ho
        subst ho
        obtain ⟨u13, e13⟩ := hdep ⟨13, .data⟩ (by simp) rfl _ 39 rfl rfl
        rw [show vals 13 = .pointer (some ⟨xb, 0, none⟩) from e13] at u13
        unfold Oper.wp
        simp [execOp, go_sem, u13]
        exact came _ rfl (Below.refl _ _) rfl (fun h => absurd h (by decide))
      | 15, _, ho =>
        simp only [List.getElem?_cons_succ, List.getElem?_cons_zero, Option.some.injEq] at ho
        subst ho
        obtain ⟨u14, e14⟩ := hdep ⟨14, .data⟩ (by simp) rfl _ 40 rfl rfl
        rw [show vals 14 = .pointer (some ⟨xb, 2, none⟩) from e14] at u14
        refine opw_ldNo _ rfl (by simp [Act.eval, u14]) (xs_no (HN.out.later hX)) ?_
        exact came _ rfl (Below.refl _ _) rfl (fun h => absurd h (by decide))
      | 16, _, ho =>
        simp only [List.getElem?_cons_succ, List.getElem?_cons_zero, Option.some.injEq] at ho
        subst ho
        obtain ⟨u0, e0⟩ := hdep ⟨0, .data⟩ (by simp) rfl _ 26 rfl rfl
        rw [show vals 0 = .string nmPk from e0] at u0
        obtain ⟨u1, e1⟩ := hdep ⟨1, .data⟩ (by simp) rfl _ 27 rfl rfl
        rw [show vals 1 = .string nmRd from e1] at u1
        obtain ⟨u8, e8⟩ := hdep ⟨8, .data⟩ (by simp) rfl _ 34 rfl rfl
        rw [show vals 8 = .int .i64 (pl : Int) from e8] at u8
        obtain ⟨u15, e15⟩ := hdep ⟨15, .data⟩ (by simp) rfl _ 41 rfl rfl
        rw [show vals 15 = .agg #[m0, m1, m2] from e15] at u15
        unfold Oper.wp
        simp [go_sem, u0, u1, u8, u15]
        refine (HW.out _ hX).mono ?_
        rintro r x1 ⟨c, a, rfl, hq1, hb1⟩
        exact came _ rfl hb1 ⟨⟨c, a.1, a.2.1, a.2.2.1, a.2.2.2.1, a.2.2.2.2.1, a.2.2.2.2.2, rfl⟩, hq1⟩ (fun h => absurd h (by decide))
      | m + 17, hi, _ => exact absurd hi (by omega)
    · intro vals x hX hR _
      obtain ⟨c, a, e16, hq⟩ : ∃ (c : Int) (a : Option Addr × Nat × Nat × Option Addr × Nat × Nat), vals 16 = .agg (nov c a.1 a.2.1 a.2.2.1 a.2.2.2.1 a.2.2.2.2.1 a.2.2.2.2.2) ∧ NoQ (⟨pl, st, none⟩ : PS) (vals 16) x := hR 16 (by decide)
      rw [e16] at hq
      simp only [List.take, List.drop, putAll, e16]
      simp only [List.setIfInBounds_toArray, List.set_cons_succ, List.set_cons_zero]
      have hx1 := HE.out.1.later hX
      have hrow : RowAt w.heap.size (nov c a.1 a.2.1 a.2.2.1 a.2.2.2.1 a.2.2.2.2.1 a.2.2.2.2.2) 37 (x.setRow w.heap.size (nov c a.1 a.2.1 a.2.2.1 a.2.2.2.1 a.2.2.2.2.1 a.2.2.2.2.2)) := setRow_heap _ _ _ _ _ _ hx1
      have hk : Kept [pb, xb] w (x.setRow w.heap.size (nov c a.1 a.2.1 a.2.2.1 a.2.2.2.1 a.2.2.2.2.1 a.2.2.2.2.2)) := (HE.out.2.trans (.of hX)).go (kept_setRowQ _ _ _) (fun g hg => .inr (by simp at hg; omega))
      have HQ := hid_of' (And.intro (hq.set hx1 (nov c a.1 a.2.1 a.2.2.1 a.2.2.2.1 a.2.2.2.2.1 a.2.2.2.2.2)) hk)
      clear hq hk
      go_wp2_with (refine wpL_storeNo rfl _ _ rfl rfl rfl hx1 ?_)
      exact bodyPost_ret (v := .agg (nov c a.1 a.2.1 a.2.2.1 a.2.2.2.1 a.2.2.2.2.1 a.2.2.2.2.2)) (results_cell_row rfl _ _ w.heap.size _ _ _ _ rfl hrow Tryz.underlying37 rfl no_size) rfl ⟨_, rfl, (by rw [HS9.out]; exact HQ.out.1), HQ.out.2⟩
end Go.Proofs.YtpkblfhkblllhaaGreatDoor
