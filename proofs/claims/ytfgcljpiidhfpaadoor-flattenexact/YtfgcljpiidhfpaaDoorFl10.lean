
/-
  Package flatten: Propose where it is refused.
-/
import Derived.Test.YtfgcljpiidhfpaaDoorFl9
import Derived.Test.YtfgcljpiidhfpaaDoorCkTk
namespace Go.Proofs.YtfgcljpiidhfpaaDoor
open Go.RowKit
set_option maxRecDepth 100000
/-- The variable of the reason Busy. -/
def Lz (ad : Nat → Addr) (w : World) : Prop := w.cell? ⟨1, 0, none⟩ = some (.iface 166 (.pointer (some (ad 10))))
theorem Lz.later {ad : Nat → Addr} {w w' : World} (h : Lz ad w) (hb : Below w.heap.size w w') : Lz ad w' := by
  unfold Lz at h ⊢
  rw [hb.cell (p := ⟨1, 0, none⟩) (World.block_lt_of_cell? _ _ h)]; exact h
theorem Lz.of {ad : Nat → Addr} {w : World} (L : Laid ad w) : Lz ad w := L.var 10 (by decide)
/-- A refusal: one Fault around a reason, of one's own. -/
def FtV (ad : Nat → Addr) (B : Nat) (la ca : ByteArray) (p : Int) (k : Nat) (v : Value) (w : World) : Prop := ∃ b, v = .iface 101 (.pointer (some ⟨b, 0, none⟩)) ∧ FaultAt ad b la ca p k w ∧ B ≤ b
theorem FtV.later {ad : Nat → Addr} {B : Nat} {la ca : ByteArray} {p : Int} {k : Nat} {v : Value} {w w' : World} (h : FtV ad B la ca p k v w) (hb : Below w.heap.size w w') : FtV ad B la ca p k v w' := by
  obtain ⟨b, h1, h2, h3⟩ := h
  exact ⟨b, h1, RowAt.later h2 hb, h3⟩
theorem place_nat (s : Nat) : place (s : Int) = (s : Int) := if_neg (by omega)
set_option maxHeartbeats 4000000 in
theorem propose_no {ad : Nat → Addr} {d : Nat} {n : Int} {s : Nat} {l : List Rnd} {w : World} (h : DkAt d n s l w) (hs : s < 8) {r : Rnd} (hrs : l[s]? = some r) {cut : List Int} (hcl : cut.length = 8) (L : Lz ad w) (hb : busyR r = true) :
    Calls Tryd.prog 34 #[.pointer (some ⟨d, 0, none⟩), .agg (cv cut)] w fun e w' => (∃ v, e = .returned v ∧ FtV ad w.heap.size bFlat bProp (s : Int) 10 v w') ∧ Below w.heap.size w w' := by
  have hdl := h.lt
  have hsi : (s : Int) < 8 := by omega
  have hr := h.2.2 r (List.mem_of_getElem? hrs)
  have HO := fun w => hid_of' (isOpen_any r hr w)
  have HL := hid_of' L
  clear L
  obtain ⟨W0, hW0⟩ : ∃ b, w.heap.size = b := ⟨_, rfl⟩
  have hpost : ∀ (e : Ending) (w' : World), ((∃ v, e = .returned v ∧ FtV ad W0 bFlat bProp (s : Int) 10 v w') ∧ Below w.heap.size w w') → ((∃ v, e = .returned v ∧ FtV ad w.heap.size bFlat bProp (s : Int) 10 v w') ∧ Below w.heap.size w w') := fun e w' q => by rw [hW0]; rw [hW0] at q; exact q
  refine Calls.mono ?_ hpost
  clear hpost
  have HW0 := hid_of' hW0
  clear hW0
  have k1 := CkAt.new w hcl
  have hB1 := below_one w (.cells (cv cut) 42)
  have H1 := hid_of' (And.intro (h.later hB1) (And.intro k1 hB1))
  have ok := h.2
  clear h k1 hB1
  go_enter Tryd.func34, Tryd.ntmps34
  go_upto_region 1 with fail
  obtain ⟨cb, hcb⟩ : ∃ b, w.heap.size = b := ⟨_, rfl⟩
  generalize w.alloc (.cells (cv cut) 42) = W1 at H1 ⊢
  rw [hcb] at hdl ⊢
  have H1 : Hid (DkAt d n s l W1 ∧ CkAt cb cut W1 ∧ Below w.heap.size w W1) := by
    have q := H1.out
    rw [← hcb]
    exact q
  have HB0 := hid_of' hcb
  clear hcb
  have HS0 : Hid (W0 ≤ W1.heap.size) := by have q1 := HW0.out; have q2 := H1.out.2.2.size; unfold Hid; omega
  refine wp_region_tail 10 (by kernel_rfl) (fun _ => none) (by kernel_rfl) (by kernel_rfl) (by decide) (fun ii u X => match ii with
    | 0 => u = .pointer (some ⟨d, 0, none⟩)
    | 1 => u = .pointer (some ⟨d, 0, none⟩)
    | 2 => u = .pointer (some ⟨d, 0, none⟩)
    | 3 => u = .pointer (some ⟨d, 1, none⟩)
    | 4 => u = .int .i64 (s : Int)
    | 5 => u = .pointer (some ⟨d, 0, none⟩)
    | 6 => u = .pointer (some ⟨d, 2, none⟩)
    | 7 => u = .pointer (some ⟨d, 2 + s * 18, none⟩)
    | 8 => u = .agg (cv (rc r))
    | 9 => ∃ g, u = .pointer (some ⟨g, 0, none⟩) ∧ RowAt g (cv (rc rnd0)) 44 X ∧ W1.heap.size ≤ g
    | _ => True) (fun _ => false) (fun _ _ _ _ h => by cases h) ?_ ?_ ?_
  · intro ii u X X' hR hb
    match ii, hR with
    | 0, h => exact h
    | 1, h => exact h
    | 2, h => exact h
    | 3, h => exact h
    | 4, h => exact h
    | 5, h => exact h
    | 6, h => exact h
    | 7, h => exact h
    | 8, h => exact h
    | 9, h => exact (Exists.elim h fun g q => ⟨g, q.1, RowAt.later q.2.1 hb, q.2.2⟩)
    | m + 10, h => exact h
  · intro ii o hi ho qq X vals hX hdep hoth
    have t0 : qq.tmps[0]? = some (.pointer (some ⟨d, 0, none⟩)) := by rw [hoth 0 (by kernel_rfl)]; rfl
    match ii, hi, ho with
    | 0, _, ho =>
      simp only [List.getElem?_cons_zero, Option.some.injEq] at ho
      subst ho
      unfold Oper.wp
      simp [execOp, go_sem, t0]
      exact came _ rfl (Below.refl _ _) rfl (fun h => absurd h (by decide))
    | 1, _, ho =>
      simp only [List.getElem?_cons_succ, List.getElem?_cons_zero, Option.some.injEq] at ho
      subst ho
      unfold Oper.wp
      simp [execOp, go_sem, t0]
      exact came _ rfl (Below.refl _ _) rfl (fun h => absurd h (by decide))
    | 2, _, ho =>
      simp only [List.getElem?_cons_succ, List.getElem?_cons_zero, Option.some.injEq] at ho
      subst ho
      obtain ⟨u1, e1⟩ := hdep ⟨1, .data⟩ (by simp) rfl _ 7 rfl rfl
      rw [show vals 1 = .pointer (some ⟨d, 0, none⟩) from e1] at u1
      unfold Oper.wp
      simp [execOp, go_sem, u1]
      exact came _ rfl (Below.refl _ _) rfl (fun h => absurd h (by decide))
    | 3, _, ho =>
      simp only [List.getElem?_cons_succ, List.getElem?_cons_zero, Option.some.injEq] at ho
      subst ho
      obtain ⟨u2, e2⟩ := hdep ⟨2, .data⟩ (by simp) rfl _ 8 rfl rfl
      rw [show vals 2 = .pointer (some ⟨d, 0, none⟩) from e2] at u2
      unfold Oper.wp
      simp [execOp, go_sem, u2]
      exact came _ rfl (Below.refl _ _) rfl (fun h => absurd h (by decide))
    | 4, _, ho =>
      simp only [List.getElem?_cons_succ, List.getElem?_cons_zero, Option.some.injEq] at ho
      subst ho
      obtain ⟨u3, e3⟩ := hdep ⟨3, .data⟩ (by simp) rfl _ 9 rfl rfl
      rw [show vals 3 = .pointer (some ⟨d, 1, none⟩) from e3] at u3
      have cc := (DkAt.later H1.out.1 hX).c1
      unfold Oper.wp
      simp [execOp, go_sem, u3, cc]
      exact came _ rfl (Below.refl _ _) rfl (fun h => absurd h (by decide))
    | 5, _, ho =>
      simp only [List.getElem?_cons_succ, List.getElem?_cons_zero, Option.some.injEq] at ho
      subst ho
      obtain ⟨u0, e0⟩ := hdep ⟨0, .data⟩ (by simp) rfl _ 6 rfl rfl
      rw [show vals 0 = .pointer (some ⟨d, 0, none⟩) from e0] at u0
      unfold Oper.wp
      simp [execOp, go_sem, u0]
      exact came _ rfl (Below.refl _ _) rfl (fun h => absurd h (by decide))
    | 6, _, ho =>
      simp only [List.getElem?_cons_succ, List.getElem?_cons_zero, Option.some.injEq] at ho
      subst ho
      obtain ⟨u5, e5⟩ := hdep ⟨5, .data⟩ (by simp) rfl _ 11 rfl rfl
      rw [show vals 5 = .pointer (some ⟨d, 0, none⟩) from e5] at u5
      unfold Oper.wp
      simp [execOp, go_sem, u5]
      exact came _ rfl (Below.refl _ _) rfl (fun h => absurd h (by decide))
    | 7, _, ho =>
      simp only [List.getElem?_cons_succ, List.getElem?_cons_zero, Option.some.injEq] at ho
      subst ho
      obtain ⟨u6, e6⟩ := hdep ⟨6, .data⟩ (by simp) rfl _ 12 rfl rfl
      rw [show vals 6 = .pointer (some ⟨d, 2, none⟩) from e6] at u6
      obtain ⟨u4, e4⟩ := hdep ⟨4, .data⟩ (by simp) rfl _ 10 rfl rfl
      rw [show vals 4 = .int .i64 (s : Int) from e4] at u4
      unfold Oper.wp
      simp [execOp, go_sem, u6, u4, hsi]
      exact came _ rfl (Below.refl _ _) rfl (fun h => absurd h (by decide))
    | 8, _, ho =>
      simp only [List.getElem?_cons_succ, List.getElem?_cons_zero, Option.some.injEq] at ho
      subst ho
      obtain ⟨u7, e7⟩ := hdep ⟨7, .data⟩ (by simp) rfl _ 13 rfl rfl
      rw [show vals 7 = .pointer (some ⟨d, 2 + s * 18, none⟩) from e7] at u7
      exact opRnd hr _ rfl (by simp [Act.eval, u7]) ((DkAt.later H1.out.1 hX).rnd hrs) (came _ rfl (Below.refl _ _) rfl (fun h => absurd h (by decide)))
    | 9, _, ho =>
      simp only [List.getElem?_cons_succ, List.getElem?_cons_zero, Option.some.injEq] at ho
      subst ho
      refine opw_alloc _ rfl zRnd ?_
      exact came _ rfl (below_one _ _) ⟨_, rfl, RowAt.news _ _ _, hX.size⟩ (fun h => absurd h (by decide))
    | m + 10, hi, _ => exact absurd hi (by omega)
  · intro vals X hX hR _
    have e8 : vals 8 = .agg (cv (rc r)) := hR 8 (by decide)
    obtain ⟨g, e9, hg, hgl⟩ : ∃ g, vals 9 = .pointer (some ⟨g, 0, none⟩) ∧ RowAt g (cv (rc rnd0)) 44 X ∧ W1.heap.size ≤ g := hR 9 (by decide)
    have hds := H1.out.1.lt
    have hcs := H1.out.2.1.lt
    have hc2 := (Ch.of (S := fun k => k = g) hX).row (g := g) (.inl rfl) (cv (rc r))
    have H2 := hid_of' (And.intro (DkAt.ch H1.out.1 hc2 (by omega)) (And.intro (hg.rowI (cv (rc r))) (And.intro (CkAt.ch H1.out.2.1 hc2 (by omega)) (Ch.none ((Ch.of (S := fun _ => False) H1.out.2.2).go hc2 (fun z hz => .inr (by have := H1.out.2.2.size; omega))) (fun _ _ q => q)))))
    clear hR hX hc2
    simp only [List.drop, List.take, putAll, List.setIfInBounds_toArray, List.set_cons_succ, List.set_cons_zero, e8, e9]
    clear e8 e9
    go_upto_region 2 with (refine wpL_stRow rfl _ _ _ rfl rfl rfl hg (rnd_size hr) (two_sz (by rw [rc_len hr, rc_len rnd0_ok])) (cv_one _) ?_; go_simp)
    clear hg
    generalize X.setRow g (cv (rc r)) = X2 at H2 ⊢
    have r2 := H2.out.2.1
    have hB := Below.refl X2.heap.size X2
    have q0 := r2.cls 0 _ (rcv_num r)
    have HS0 : Hid (W0 ≤ X2.heap.size) := by have q1 := HW0.out; have q2 := H2.out.2.2.2.size; unfold Hid; omega
    cases ho : openR r
    · rw [ho] at HO
      have hlt : 4611686018427387904 ≤ r.num := by simpa [busyR, ho] using hb
      clear hb ho
      refine wp_region_cls0 ?_
      repeat (first | go_big_quiet_skip | (go_big_quiet_want; first | (refine qRnd hr _ rfl rfl r2.in.cls ?_; simp only [Act.put, List.setIfInBounds_toArray, List.set_cons_succ, List.set_cons_zero]; go_big_quiet_on) | (go_big_quiet_op; first | go_big_quiet_on | go_big_quiet_call ((go_at_call 56; exact cls_of (HO _).out)))))
      refine wpQuiet_nil ?_
      rintro w1 ⟨s1, e1⟩
      have hb1 := wOf_below s1
      rw [← e1] at hb1
      clear e1 s1
      replace r2 := r2.later hb1
      replace hB := bgo hB hb1
      clear hb1
      clear q0
      have H3 := hid_of' (And.intro (H2.out.1.later hB) (And.intro (H2.out.2.1.later hB) (And.intro (H2.out.2.2.1.later hB) (bgo H2.out.2.2.2 hB))))
      clear H2 hB r2
      go_upto_region 3 with fail
      rename World => X3
      have HS0 : Hid (W0 ≤ X3.heap.size) := by have q1 := HW0.out; have q2 := H3.out.2.2.2.size; unfold Hid; omega
      refine wp_region_tail 7 (by kernel_rfl) (fun _ => none) (by kernel_rfl) (by kernel_rfl) (by decide) (fun ii u X => match ii with
        | 0 => u = .pointer (some ⟨d, 0, none⟩)
        | 1 => u = .pointer (some ⟨d, 0, none⟩)
        | 2 => u = .pointer (some ⟨d, 1, none⟩)
        | 3 => u = .int .i64 (s : Int)
        | 4 => u = .iface 166 (.pointer (some (ad 10)))
        | 5 => FtV ad W0 bFlat bProp (s : Int) 10 u X
        | 6 => FtV ad W0 bFlat bProp (s : Int) 10 u X
        | _ => True) (fun _ => false) (fun _ _ _ _ h => by cases h) ?_ ?_ ?_
      · intro ii u X X' hR hb
        match ii, hR with
        | 0, h => exact h
        | 1, h => exact h
        | 2, h => exact h
        | 3, h => exact h
        | 4, h => exact h
        | 5, h => exact FtV.later h hb
        | 6, h => exact FtV.later h hb
        | m + 7, h => exact h
      · intro ii o hi ho qq X vals hX hdep hoth
        have t0 : qq.tmps[0]? = some (.pointer (some ⟨d, 0, none⟩)) := by rw [hoth 0 (by kernel_rfl)]; rfl
        match ii, hi, ho with
        | 0, _, ho =>
          simp only [List.getElem?_cons_zero, Option.some.injEq] at ho
          subst ho
          unfold Oper.wp
          simp [execOp, go_sem, t0]
          exact came _ rfl (Below.refl _ _) rfl (fun h => absurd h (by decide))
        | 1, _, ho =>
          simp only [List.getElem?_cons_succ, List.getElem?_cons_zero, Option.some.injEq] at ho
          subst ho
          obtain ⟨u0, e0⟩ := hdep ⟨0, .data⟩ (by simp) rfl _ 22 rfl rfl
          rw [show vals 0 = .pointer (some ⟨d, 0, none⟩) from e0] at u0
          unfold Oper.wp
          simp [execOp, go_sem, u0]
          exact came _ rfl (Below.refl _ _) rfl (fun h => absurd h (by decide))
        | 2, _, ho =>
          simp only [List.getElem?_cons_succ, List.getElem?_cons_zero, Option.some.injEq] at ho
          subst ho
          obtain ⟨u1, e1⟩ := hdep ⟨1, .data⟩ (by simp) rfl _ 23 rfl rfl
          rw [show vals 1 = .pointer (some ⟨d, 0, none⟩) from e1] at u1
          unfold Oper.wp
          simp [execOp, go_sem, u1]
          exact came _ rfl (Below.refl _ _) rfl (fun h => absurd h (by decide))
        | 3, _, ho =>
          simp only [List.getElem?_cons_succ, List.getElem?_cons_zero, Option.some.injEq] at ho
          subst ho
          obtain ⟨u2, e2⟩ := hdep ⟨2, .data⟩ (by simp) rfl _ 24 rfl rfl
          rw [show vals 2 = .pointer (some ⟨d, 1, none⟩) from e2] at u2
          have cc := (DkAt.later H3.out.1 hX).c1
          unfold Oper.wp
          simp [execOp, go_sem, u2, cc]
          exact came _ rfl (Below.refl _ _) rfl (fun h => absurd h (by decide))
        | 4, _, ho =>
          simp only [List.getElem?_cons_succ, List.getElem?_cons_zero, Option.some.injEq] at ho
          subst ho
          have cc : X.cell? ⟨1, 0, none⟩ = some (.iface 166 (.pointer (some (ad 10)))) := HL.out.later (bgo H3.out.2.2.2 hX)
          unfold Oper.wp
          simp [execOp, go_sem, cc]
          exact came _ rfl (Below.refl _ _) rfl (fun h => absurd h (by decide))
        | 5, _, ho =>
          simp only [List.getElem?_cons_succ, List.getElem?_cons_zero, Option.some.injEq] at ho
          subst ho
          obtain ⟨u3, e3⟩ := hdep ⟨3, .data⟩ (by simp) rfl _ 25 rfl rfl
          rw [show vals 3 = .int .i64 (s : Int) from e3] at u3
          obtain ⟨u4, e4⟩ := hdep ⟨4, .data⟩ (by simp) rfl _ 26 rfl rfl
          rw [show vals 4 = .iface 166 (.pointer (some (ad 10))) from e4] at u4
          unfold Oper.wp
          simp [go_sem, u3, u4]
          refine (newF (ad := ad) bFlat bProp (s : Int) 10 X).mono ?_
          rintro e X1 ⟨rfl, hf, hb1⟩
          exact came _ rfl hb1 ⟨_, rfl, by rw [place_nat] at hf; exact hf, Nat.le_trans HS0.out hX.size⟩ (fun h => absurd h (by decide))
        | 6, _, ho =>
          simp only [List.getElem?_cons_succ, List.getElem?_cons_zero, Option.some.injEq] at ho
          subst ho
          obtain ⟨u5, e5⟩ := hdep ⟨5, .data⟩ (by simp) rfl _ 27 rfl rfl
          unfold Oper.wp
          simp [execOp, go_sem, u5]
          exact came _ rfl (Below.refl _ _) e5 (fun h => absurd h (by decide))
        | m + 7, hi, _ => exact absurd hi (by omega)
      · intro vals Y hY hR _
        obtain ⟨b, e6, hf, hbl⟩ : FtV ad W0 bFlat bProp (s : Int) 10 (vals 6) Y := hR 6 (by decide)
        obtain ⟨b', e5, _, _⟩ : FtV ad W0 bFlat bProp (s : Int) 10 (vals 5) Y := hR 5 (by decide)
        have HF := hid_of' (And.intro hf (And.intro hbl (bgo H3.out.2.2.2 hY)))
        clear hR hY hf hbl
        simp only [List.drop, List.take, putAll, List.setIfInBounds_toArray, List.set_cons_succ, List.set_cons_zero, e6, e5]
        clear e6 e5
        go_wp2
        go_ret
        exact ⟨⟨_, rfl, _, rfl, HF.out.1, HF.out.2.1⟩, HF.out.2.2⟩
    · rw [ho] at HO
      clear hb ho
      refine wp_region_cls0 ?_
      repeat (first | go_big_quiet_skip | (go_big_quiet_want; first | (refine qRnd hr _ rfl rfl r2.in.cls ?_; simp only [Act.put, List.setIfInBounds_toArray, List.set_cons_succ, List.set_cons_zero]; go_big_quiet_on) | (go_big_quiet_op; first | go_big_quiet_on | go_big_quiet_call ((go_at_call 56; exact cls_of (HO _).out)))))
      refine wpQuiet_nil ?_
      rintro w1 ⟨s1, e1⟩
      have hb1 := wOf_below s1
      rw [← e1] at hb1
      clear e1 s1
      replace r2 := r2.later hb1
      replace hB := bgo hB hb1
      clear hb1
      clear q0
      have H3 := hid_of' (And.intro (H2.out.1.later hB) (And.intro (H2.out.2.1.later hB) (And.intro (H2.out.2.2.1.later hB) (bgo H2.out.2.2.2 hB))))
      clear H2 hB r2
      go_upto_region 3 with fail
      rename World => X3
      have HS0 : Hid (W0 ≤ X3.heap.size) := by have q1 := HW0.out; have q2 := H3.out.2.2.2.size; unfold Hid; omega
      refine wp_region_tail 7 (by kernel_rfl) (fun _ => none) (by kernel_rfl) (by kernel_rfl) (by decide) (fun ii u X => match ii with
        | 0 => u = .pointer (some ⟨d, 0, none⟩)
        | 1 => u = .pointer (some ⟨d, 0, none⟩)
        | 2 => u = .pointer (some ⟨d, 1, none⟩)
        | 3 => u = .int .i64 (s : Int)
        | 4 => u = .iface 166 (.pointer (some (ad 10)))
        | 5 => FtV ad W0 bFlat bProp (s : Int) 10 u X
        | 6 => FtV ad W0 bFlat bProp (s : Int) 10 u X
        | _ => True) (fun _ => false) (fun _ _ _ _ h => by cases h) ?_ ?_ ?_
      · intro ii u X X' hR hb
        match ii, hR with
        | 0, h => exact h
        | 1, h => exact h
        | 2, h => exact h
        | 3, h => exact h
        | 4, h => exact h
        | 5, h => exact FtV.later h hb
        | 6, h => exact FtV.later h hb
        | m + 7, h => exact h
      · intro ii o hi ho qq X vals hX hdep hoth
        have t0 : qq.tmps[0]? = some (.pointer (some ⟨d, 0, none⟩)) := by rw [hoth 0 (by kernel_rfl)]; rfl
        match ii, hi, ho with
        | 0, _, ho =>
          simp only [List.getElem?_cons_zero, Option.some.injEq] at ho
          subst ho
          unfold Oper.wp
          simp [execOp, go_sem, t0]
          exact came _ rfl (Below.refl _ _) rfl (fun h => absurd h (by decide))
        | 1, _, ho =>
          simp only [List.getElem?_cons_succ, List.getElem?_cons_zero, Option.some.injEq] at ho
          subst ho
          obtain ⟨u0, e0⟩ := hdep ⟨0, .data⟩ (by simp) rfl _ 22 rfl rfl
          rw [show vals 0 = .pointer (some ⟨d, 0, none⟩) from e0] at u0
          unfold Oper.wp
          simp [execOp, go_sem, u0]
          exact came _ rfl (Below.refl _ _) rfl (fun h => absurd h (by decide))
        | 2, _, ho =>
          simp only [List.getElem?_cons_succ, List.getElem?_cons_zero, Option.some.injEq] at ho
          subst ho
          obtain ⟨u1, e1⟩ := hdep ⟨1, .data⟩ (by simp) rfl _ 23 rfl rfl
          rw [show vals 1 = .pointer (some ⟨d, 0, none⟩) from e1] at u1
          unfold Oper.wp
          simp [execOp, go_sem, u1]
          exact came _ rfl (Below.refl _ _) rfl (fun h => absurd h (by decide))
        | 3, _, ho =>
          simp only [List.getElem?_cons_succ, List.getElem?_cons_zero, Option.some.injEq] at ho
          subst ho
          obtain ⟨u2, e2⟩ := hdep ⟨2, .data⟩ (by simp) rfl _ 24 rfl rfl
          rw [show vals 2 = .pointer (some ⟨d, 1, none⟩) from e2] at u2
          have cc := (DkAt.later H3.out.1 hX).c1
          unfold Oper.wp
          simp [execOp, go_sem, u2, cc]
          exact came _ rfl (Below.refl _ _) rfl (fun h => absurd h (by decide))
        | 4, _, ho =>
          simp only [List.getElem?_cons_succ, List.getElem?_cons_zero, Option.some.injEq] at ho
          subst ho
          have cc : X.cell? ⟨1, 0, none⟩ = some (.iface 166 (.pointer (some (ad 10)))) := HL.out.later (bgo H3.out.2.2.2 hX)
          unfold Oper.wp
          simp [execOp, go_sem, cc]
          exact came _ rfl (Below.refl _ _) rfl (fun h => absurd h (by decide))
        | 5, _, ho =>
          simp only [List.getElem?_cons_succ, List.getElem?_cons_zero, Option.some.injEq] at ho
          subst ho
          obtain ⟨u3, e3⟩ := hdep ⟨3, .data⟩ (by simp) rfl _ 25 rfl rfl
          rw [show vals 3 = .int .i64 (s : Int) from e3] at u3
          obtain ⟨u4, e4⟩ := hdep ⟨4, .data⟩ (by simp) rfl _ 26 rfl rfl
          rw [show vals 4 = .iface 166 (.pointer (some (ad 10))) from e4] at u4
          unfold Oper.wp
          simp [go_sem, u3, u4]
          refine (newF (ad := ad) bFlat bProp (s : Int) 10 X).mono ?_
          rintro e X1 ⟨rfl, hf, hb1⟩
          exact came _ rfl hb1 ⟨_, rfl, by rw [place_nat] at hf; exact hf, Nat.le_trans HS0.out hX.size⟩ (fun h => absurd h (by decide))
        | 6, _, ho =>
          simp only [List.getElem?_cons_succ, List.getElem?_cons_zero, Option.some.injEq] at ho
          subst ho
          obtain ⟨u5, e5⟩ := hdep ⟨5, .data⟩ (by simp) rfl _ 27 rfl rfl
          unfold Oper.wp
          simp [execOp, go_sem, u5]
          exact came _ rfl (Below.refl _ _) e5 (fun h => absurd h (by decide))
        | m + 7, hi, _ => exact absurd hi (by omega)
      · intro vals Y hY hR _
        obtain ⟨b, e6, hf, hbl⟩ : FtV ad W0 bFlat bProp (s : Int) 10 (vals 6) Y := hR 6 (by decide)
        obtain ⟨b', e5, _, _⟩ : FtV ad W0 bFlat bProp (s : Int) 10 (vals 5) Y := hR 5 (by decide)
        have HF := hid_of' (And.intro hf (And.intro hbl (bgo H3.out.2.2.2 hY)))
        clear hR hY hf hbl
        simp only [List.drop, List.take, putAll, List.setIfInBounds_toArray, List.set_cons_succ, List.set_cons_zero, e6, e5]
        clear e6 e5
        go_wp2
        go_ret
        exact ⟨⟨_, rfl, _, rfl, HF.out.1, HF.out.2.1⟩, HF.out.2.2⟩
end Go.Proofs.YtfgcljpiidhfpaaDoor
