
/-
  barrowkeep.Refused: an error held against the document's refusal.
-/
import Derived.Test.YthabeapgkaggmaaDoorChain
import Derived.Test.YthabeapgkaggmaaDoorTsRef0
import Derived.Test.YthabeapgkaggmaaDoorInvU
namespace Go.Proofs.YthabeapgkaggmaaDoor
open Go.RowKit Go.Extern.Stop Go.Stop Go.Extern
set_option maxRecDepth 100000

theorem slAt_of_in {w : World} {g n c size : Nat} {cs : List Value} (h : CsIn g 0 cs.toArray w) (hs : cs.length = n * size) : SlAt w (.slice (some ⟨g, 0, none⟩) n c) size n cs :=
  ⟨hs, .inr ⟨g, 0, c, rfl, h.1, fun j u hu => h.2 j u (by simpa using hu)⟩⟩

/-- A Fault around a reason, in memory. -/
def FaultAt (ad : Nat → Addr) (b : Nat) (la ca : ByteArray) (at_ : Int) (k : Nat) (w : World) : Prop := RowAt b #[.string la, .string ca, .int .i64 at_, .iface 128 (.pointer (some (ad k)))] 66 w
theorem FaultAt.spine {ad : Nat → Addr} {b : Nat} {la ca : ByteArray} {at_ : Int} {k : Nat} {w : World} (h : FaultAt ad b la ca at_ k w) (hk : k < 14) : Spine ad w.heap.size w (.fault b la ca at_ (.rsn k)) := ⟨RowAt.lt h, h, (by intro e; cases e), hk⟩
theorem plain_fault (b : Nat) (la ca : ByteArray) (at_ : Int) (k : Nat) : Plain (.fault b la ca at_ (.rsn k)) := by intro b g c l h; cases h

theorem codeF {ad : Nat → Addr} {b : Nat} {la ca : ByteArray} {at_ : Int} {k : Nat} {w : World} (L : Laid ad w) (h : FaultAt ad b la ca at_ k w) (hk : k < 13) :
    Calls Tryd.prog 20 #[.iface 64 (.pointer (some ⟨b, 0, none⟩))] w fun e w' => e = .returned (.int .i64 ((k : Int) + 1)) ∧ Below w.heap.size w w' := by
  have := code_any (ad := ad) (w := w) (.fault b la ca at_ (.rsn k)) (by intro h; cases h) (through_plain L _ (plain_fault b la ca at_ k) (h.spine (by omega)))
  simpa [codeOf, cds, hk, val] using this
theorem chainF {ad : Nat → Addr} {b : Nat} {la ca : ByteArray} {at_ : Int} {k : Nat} {w : World} (L : Laid ad w) (h : FaultAt ad b la ca at_ k w) (hk : k < 13) :
    Calls Tryd.prog 22 #[.iface 64 (.pointer (some ⟨b, 0, none⟩))] w fun e w' => ∃ r, e = .returned r ∧ SlAt w' r 3 1 (lcells [⟨la, ca, at_⟩]) ∧ Below w.heap.size w w' :=
  (chain_plain L (.fault b la ca at_ (.rsn k)) (plain_fault b la ca at_ k) (h.spine (by omega)) (by simp [deep])).mono fun _ _ ⟨r, h1, h2, h3⟩ => ⟨r, h1, SlAt.of_owns h2, h3⟩
theorem codesF {ad : Nat → Addr} {b : Nat} {la ca : ByteArray} {at_ : Int} {k : Nat} {w : World} (L : Laid ad w) (h : FaultAt ad b la ca at_ k w) (hk : k < 13) :
    Calls Tryd.prog 24 #[.iface 64 (.pointer (some ⟨b, 0, none⟩))] w fun e w' => ∃ r, e = .returned r ∧ SlAt w' r 1 1 (ints [(k : Int) + 1]) ∧ Below w.heap.size w w' := by
  have hth : ThroughV (val ad (.fault b la ca at_ (.rsn k))) (fst (.fault b la ca at_ (.rsn k))) (cds (.fault b la ca at_ (.rsn k))) w := through_plain L _ (plain_fault b la ca at_ k) (h.spine (by omega))
  have := codes_any hth
  have hc : cds (.fault b la ca at_ (.rsn k)) = [(k : Int) + 1] := by simp [cds, hk]
  rw [hc] at this
  exact this.mono fun _ _ ⟨r, h1, h2, h3⟩ => ⟨r, h1, SlAt.of_owns h2, h3⟩

set_option maxHeartbeats 2000000 in
/-- An error that is a Fault around a reason, and the document's refusal of the same place and reason. -/
theorem refused_some {ad : Nat → Addr} {b : Nat} {la ca : ByteArray} {at_ : Int} {k : Nat} {w : World} (L : Laid ad w) (hF : FaultAt ad b la ca at_ k w) (hk : k < 13)
    {g g' : Nat} (h1 : CsIn g' 0 #[.string la, .string ca, .int .i64 at_] w) (h2 : CsIn g 0 #[.int .i64 ((k : Int) + 1)] w) :
    Calls Tryd.prog 12 #[.iface 64 (.pointer (some ⟨b, 0, none⟩)), .agg (nov ((k : Int) + 1) (some ⟨g', 0, none⟩) 1 1 (some ⟨g, 0, none⟩) 1 1)] w fun e w' => e = .returned (.bool true) ∧ Below w.heap.size w w' := by
  have hnz : (((k : Int) + 1) == 0) = false := by rw [beq_eq_false_iff_ne]; omega
  have hse : (((k : Int) + 1) == ((k : Int) + 1)) = true := by simp
  have hN : RowAt w.heap.size (nov ((k : Int) + 1) (some ⟨g', 0, none⟩) 1 1 (some ⟨g, 0, none⟩) 1 1) 33 (w.alloc (.cells (nov ((k : Int) + 1) (some ⟨g', 0, none⟩) 1 1 (some ⟨g, 0, none⟩) 1 1) 33)) := heap_alloc_last w _
  have n0 : (nov ((k : Int) + 1) (some ⟨g', 0, none⟩) 1 1 (some ⟨g, 0, none⟩) 1 1)[0]? = some (.int .i64 ((k : Int) + 1)) := rfl
  have hB := below_one w (.cells (nov ((k : Int) + 1) (some ⟨g', 0, none⟩) 1 1 (some ⟨g, 0, none⟩) 1 1) 33)
  go_enter Tryd.func12, Tryd.ntmps12
  go_upto_region 3 with fail
  have c0 := hN.cls 0 _ n0
  refine wp_region_cls (by kernel_rfl) (by kernel_rfl) ?_
  repeat (first | go_big_quiet_skip | (go_big_quiet_want; first | (go_big_quiet_op; first | go_big_quiet_on | go_big_quiet_call ((go_at_call 20; exact cls_of (codeF (L.below (bgo hB (wOf_below _))) (hF.later (bgo hB (wOf_below _))) hk))))))
  refine wpQuiet_nil ?_
  rintro w1 ⟨s1, e1⟩
  have hb1 := wOf_below s1
  rw [← e1] at hb1
  clear e1 s1
  replace hN := hN.later hb1
  replace hB := bgo hB hb1
  clear hb1
  clear c0 n0
  go_upto_region 5 with fail
  refine wp_region_tail 13 (by kernel_rfl) (fun j => if j = 5 then some true else none) (by kernel_rfl) (by kernel_rfl) (by decide) (fun i v x => match i with
    | 0 => v = .iface 64 (.pointer (some ⟨b, 0, none⟩))
    | 1 => SlAt x v 3 1 (lcells [⟨la, ca, at_⟩])
    | 2 => v = .pointer (some ⟨w.heap.size, 1, none⟩)
    | 3 => v = .slice (some ⟨g', 0, none⟩) 1 1
    | 6 => v = .iface 64 (.pointer (some ⟨b, 0, none⟩))
    | 7 => SlAt x v 1 1 (ints [(k : Int) + 1])
    | 8 => v = .pointer (some ⟨w.heap.size, 2, none⟩)
    | 9 => v = .slice (some ⟨g, 0, none⟩) 1 1
    | _ => v = .bool true) (fun _ => false) ?_ ?_ ?_ ?_
  · intro j v x b hj hR
    by_cases e : j = 5
    · subst e; simp at hj; subst hj; exact hR
    · simp [e] at hj
  · intro i v x x' hR hb
    match i, hR with
    | 0, h | 2, h | 3, h | 4, h | 5, h | 6, h | 8, h | 9, h => exact h
    | 1, h => exact SlAt.below h hb
    | 7, h => exact SlAt.below h hb
    | n + 10, h => exact h
  · intro i o hi ho q x vals hX hdep hoth
    have t0 : q.tmps[0]? = some (.iface 64 (.pointer (some ⟨b, 0, none⟩))) := by rw [hoth 0 (by kernel_rfl)]; rfl
    have t3 : q.tmps[3]? = some (.pointer (some ⟨w.heap.size, 0, none⟩)) := by rw [hoth 3 (by kernel_rfl)]; rfl
    match i, hi, ho with
    | 0, _, ho =>
      simp only [List.getElem?_cons_zero, Option.some.injEq] at ho
      subst ho
      unfold Oper.wp
      simp [execOp, go_sem, t0]
      exact came _ rfl (Below.refl _ _) rfl (fun h => absurd h (by decide))
    | 1, _, ho =>
      simp only [List.getElem?_cons_succ, List.getElem?_cons_zero, Option.some.injEq] at ho
      subst ho
      obtain ⟨u0, e0⟩ := hdep ⟨0, .data⟩ (by simp) rfl _ 19 rfl rfl
      rw [show vals 0 = .iface 64 (.pointer (some ⟨b, 0, none⟩)) from e0] at u0
      unfold Oper.wp
      simp [go_sem, u0]
      refine (chainF (L.below (bgo hB hX)) (hF.later (bgo hB hX)) hk).mono ?_
      rintro e x1 ⟨r, rfl, h1, hb1⟩
      exact came _ rfl hb1 h1 (fun h => absurd h (by decide))
    | 2, _, ho =>
      simp only [List.getElem?_cons_succ, List.getElem?_cons_zero, Option.some.injEq] at ho
      subst ho
      unfold Oper.wp
      simp [execOp, go_sem, t3]
      exact came _ rfl (Below.refl _ _) rfl (fun h => absurd h (by decide))
    | 3, _, ho =>
      simp only [List.getElem?_cons_succ, List.getElem?_cons_zero, Option.some.injEq] at ho
      subst ho
      obtain ⟨u0, e0⟩ := hdep ⟨2, .data⟩ (by simp) rfl _ 21 rfl rfl
      rw [show vals 2 = .pointer (some ⟨w.heap.size, 1, none⟩) from e0] at u0
      have cc := (hN.later hX).cell 1
      unfold Oper.wp
      simp [execOp, go_sem, u0, cc, nov]
      exact came _ rfl (Below.refl _ _) rfl (fun h => absurd h (by decide))
    | 4, _, ho =>
      simp only [List.getElem?_cons_succ, List.getElem?_cons_zero, Option.some.injEq] at ho
      subst ho
      obtain ⟨u0, e0⟩ := hdep ⟨1, .data⟩ (by simp) rfl _ 20 rfl rfl
      obtain ⟨u1, e1⟩ := hdep ⟨3, .data⟩ (by simp) rfl _ 22 rfl rfl
      rw [show vals 3 = .slice (some ⟨g', 0, none⟩) 1 1 from e1] at u1
      have e0' : SlAt x (vals 1) 3 1 (lcells [⟨la, ca, at_⟩]) := e0
      have hs : SlAt x (.slice (some ⟨g', 0, none⟩) 1 1) 3 1 (lcells [⟨la, ca, at_⟩]) := slAt_of_in (h1.later (bgo hB hX)) rfl
      unfold Oper.wp
      simp [go_sem, u0, u1]
      refine (links_eq (xs := [⟨la, ca, at_⟩]) e0' hs (by simp)).mono ?_
      rintro e x1 ⟨rfl, hb1⟩
      exact came _ rfl hb1 rfl (fun h => absurd h (by decide))
    | 5, _, ho =>
      simp only [List.getElem?_cons_succ, List.getElem?_cons_zero, Option.some.injEq] at ho
      subst ho
      obtain ⟨u0, e0⟩ := hdep ⟨4, .data⟩ (by simp) rfl _ 23 rfl rfl
      rw [show vals 4 = .bool true from e0] at u0
      unfold Oper.wp
      simp [execOp, go_sem, u0]
      exact came _ rfl (Below.refl _ _) rfl (fun h => absurd h (by decide))
    | 6, _, ho =>
      simp only [List.getElem?_cons_succ, List.getElem?_cons_zero, Option.some.injEq] at ho
      subst ho
      unfold Oper.wp
      simp [execOp, go_sem, t0]
      exact came _ rfl (Below.refl _ _) rfl (fun h => absurd h (by decide))
    | 7, _, ho =>
      simp only [List.getElem?_cons_succ, List.getElem?_cons_zero, Option.some.injEq] at ho
      subst ho
      obtain ⟨u0, e0⟩ := hdep ⟨6, .data⟩ (by simp) rfl _ 25 rfl rfl
      rw [show vals 6 = .iface 64 (.pointer (some ⟨b, 0, none⟩)) from e0] at u0
      unfold Oper.wp
      simp [go_sem, u0]
      refine (codesF (L.below (bgo hB hX)) (hF.later (bgo hB hX)) hk).mono ?_
      rintro e x1 ⟨r, rfl, h1, hb1⟩
      exact came _ rfl hb1 h1 (fun h => absurd h (by decide))
    | 8, _, ho =>
      simp only [List.getElem?_cons_succ, List.getElem?_cons_zero, Option.some.injEq] at ho
      subst ho
      unfold Oper.wp
      simp [execOp, go_sem, t3]
      exact came _ rfl (Below.refl _ _) rfl (fun h => absurd h (by decide))
    | 9, _, ho =>
      simp only [List.getElem?_cons_succ, List.getElem?_cons_zero, Option.some.injEq] at ho
      subst ho
      obtain ⟨u0, e0⟩ := hdep ⟨8, .data⟩ (by simp) rfl _ 27 rfl rfl
      rw [show vals 8 = .pointer (some ⟨w.heap.size, 2, none⟩) from e0] at u0
      have cc := (hN.later hX).cell 2
      unfold Oper.wp
      simp [execOp, go_sem, u0, cc, nov]
      exact came _ rfl (Below.refl _ _) rfl (fun h => absurd h (by decide))
    | 10, _, ho =>
      simp only [List.getElem?_cons_succ, List.getElem?_cons_zero, Option.some.injEq] at ho
      subst ho
      obtain ⟨u0, e0⟩ := hdep ⟨7, .data⟩ (by simp) rfl _ 26 rfl rfl
      obtain ⟨u1, e1⟩ := hdep ⟨9, .data⟩ (by simp) rfl _ 28 rfl rfl
      rw [show vals 9 = .slice (some ⟨g, 0, none⟩) 1 1 from e1] at u1
      have e0' : SlAt x (vals 7) 1 1 (ints [(k : Int) + 1]) := e0
      have hs : SlAt x (.slice (some ⟨g, 0, none⟩) 1 1) 1 1 (ints [(k : Int) + 1]) := slAt_of_in (h2.later (bgo hB hX)) rfl
      unfold Oper.wp
      simp [go_sem, u0, u1]
      refine (ints_eq (xs := [(k : Int) + 1]) e0' hs (by simp)).mono ?_
      rintro e x1 ⟨rfl, hb1⟩
      exact came _ rfl hb1 rfl (fun h => absurd h (by decide))
    | 11, _, ho =>
      simp only [List.getElem?_cons_succ, List.getElem?_cons_zero, Option.some.injEq] at ho
      subst ho
      obtain ⟨u0, e0⟩ := hdep ⟨5, .data⟩ (by simp) rfl _ 24 rfl rfl
      obtain ⟨u1, e1⟩ := hdep ⟨10, .data⟩ (by simp) rfl _ 29 rfl rfl
      rw [show vals 5 = .bool true from e0] at u0
      rw [show vals 10 = .bool true from e1] at u1
      unfold Oper.wp
      simp [execOp, go_sem, u0, u1]
      exact came _ rfl (Below.refl _ _) rfl (fun h => absurd h (by decide))
    | 12, _, ho =>
      simp only [List.getElem?_cons_succ, List.getElem?_cons_zero, Option.some.injEq] at ho
      subst ho
      obtain ⟨u0, e0⟩ := hdep ⟨11, .data⟩ (by simp) rfl _ 30 rfl rfl
      rw [show vals 11 = .bool true from e0] at u0
      unfold Oper.wp
      simp [execOp, go_sem, u0]
      exact came _ rfl (Below.refl _ _) rfl (fun h => absurd h (by decide))
  · intro vals x hX hR _
    have e4 : vals 12 = .bool true := hR 12 (by decide)
    simp only [List.drop, List.take, putAll, List.setIfInBounds_toArray, List.set_cons_succ, List.set_cons_zero, e4]
    go_wp2
    go_ret
    exact ⟨rfl, bgo hB hX⟩
end Go.Proofs.YthabeapgkaggmaaDoor
