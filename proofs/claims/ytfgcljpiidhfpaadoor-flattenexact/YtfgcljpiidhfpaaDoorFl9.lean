
/-
  Package flatten: Propose.
-/
import Derived.Test.YtfgcljpiidhfpaaDoorFl8
namespace Go.Proofs.YtfgcljpiidhfpaaDoor
open Go.RowKit
set_option maxRecDepth 100000

section
variable {P : Program} {K : Act → World → Prop} {o : Oper} {a : Act} {w : World} {Q : Exit → Act → World → Prop}
theorem opw_alloc (ty : TypeId) (ho : o.op = .alloc ty) {z : Array Value} (hz : (P.info? ty).bind (·.zero) = some (.agg z))
    (k : K (a.put o.dst (.pointer (some ⟨w.heap.size, 0, none⟩))) (w.alloc (.cells z ty))) : o.wp P a w K Q := by
  unfold Oper.wp execOp
  simp only [ho, Sem.run_bind, run_alloc_z hz, Result.andThen_ok]
  exact k
theorem opw_bld (t : TypeId) (parts : Array (Nat × Operand)) (ho : o.op = .build t parts) (cells : Array Value)
    (hc : P.built t (parts.map fun (i, x) => (i, a.eval x)).toList = some cells) (k : K (a.put o.dst (.agg cells)) w) : o.wp P a w K Q := by
  unfold Oper.wp execOp
  simp only [ho, Sem.run_bind, run_build w t _ cells hc, Result.andThen_ok]
  exact k
end
/-- Is a round in the way of a new one? -/
def busyR (r : Rnd) : Bool := openR r || decide (4611686018427387904 ≤ r.num)
/-- 'flatten', 'New', 'Propose'. -/
def bFlat : ByteArray := ⟨#[102, 108, 97, 116, 116, 101, 110]⟩
def bNewF : ByteArray := ⟨#[78, 101, 119]⟩
def bProp : ByteArray := ⟨#[80, 114, 111, 112, 111, 115, 101]⟩

set_option maxHeartbeats 4000000 in
theorem propose_ok {d : Nat} {n : Int} {s : Nat} {l : List Rnd} {w : World} (h : DkAt d n s l w) (hs : s < 8) {r : Rnd} (hrs : l[s]? = some r) {cut : List Int} (hcl : cut.length = 8) (hb : busyR r = false) (hlo : -9223372036854775808 ≤ r.num) :
    Calls Tryd.prog 34 #[.pointer (some ⟨d, 0, none⟩), .agg (cv cut)] w fun e w' => e = .returned .nilIface ∧ DkAt d n s (l.set s ⟨r.num + 1, cut, z8, 0⟩) w' ∧ Ch (fun k => k = d) w w' := by
  have hdl := h.lt
  have hsi : (s : Int) < 8 := by omega
  have hr := h.2.2 r (List.mem_of_getElem? hrs)
  have HO := fun w => hid_of' (isOpen_any r hr w)
  have hbb : openR r = false ∧ r.num < 4611686018427387904 := by simpa [busyR] using hb
  rw [hbb.1] at HO
  have hlt : ¬ 4611686018427387904 ≤ r.num := by omega
  have hwr : IntKind.i64.wrap (r.num + 1) = r.num + 1 := by have := hbb.2; rw [IntKind.wrap_i64]; omega
  clear hb hbb
  have k1 := CkAt.new w hcl
  have hB1 := below_one w (.cells (cv cut) 42)
  have H1 := hid_of' (And.intro (h.later hB1) (And.intro k1 hB1))
  have ok := h.2
  clear h k1 hB1
  go_enter Tryd.func34, Tryd.ntmps34
  go_upto_region 1 with fail
  obtain ⟨cb, hcb⟩ : ∃ b, w.heap.size = b := ⟨_, rfl⟩
  generalize w.alloc (.cells (cv cut) 42) = W1 at H1 ⊢
  rw [hcb] at hdl ⊢
  have H1 : Hid (DkAt d n s l W1 ∧ CkAt cb cut W1 ∧ Below w.heap.size w W1) := by
    have q := H1.out
    rw [← hcb]
    exact q
  have HB0 := hid_of' hcb
  clear hcb
  refine wp_region_tail 10 (by kernel_rfl) (fun _ => none) (by kernel_rfl) (by kernel_rfl) (by decide) (fun ii u X => match ii with
    | 0 => u = .pointer (some ⟨d, 0, none⟩)
    | 1 => u = .pointer (some ⟨d, 0, none⟩)
    | 2 => u = .pointer (some ⟨d, 0, none⟩)
    | 3 => u = .pointer (some ⟨d, 1, none⟩)
    | 4 => u = .int .i64 (s : Int)
    | 5 => u = .pointer (some ⟨d, 0, none⟩)
    | 6 => u = .pointer (some ⟨d, 2, none⟩)
    | 7 => u = .pointer (some ⟨d, 2 + s * 18, none⟩)
    | 8 => u = .agg (cv (rc r))
    | 9 => ∃ g, u = .pointer (some ⟨g, 0, none⟩) ∧ RowAt g (cv (rc rnd0)) 44 X ∧ W1.heap.size ≤ g
    | _ => True) (fun _ => false) (fun _ _ _ _ h => by cases h) ?_ ?_ ?_
  · intro ii u X X' hR hb
    match ii, hR with
    | 0, h => exact h
    | 1, h => exact h
    | 2, h => exact h
    | 3, h => exact h
    | 4, h => exact h
    | 5, h => exact h
    | 6, h => exact h
    | 7, h => exact h
    | 8, h => exact h
    | 9, h => exact (Exists.elim h fun g q => ⟨g, q.1, RowAt.later q.2.1 hb, q.2.2⟩)
    | m + 10, h => exact h
  · intro ii o hi ho qq X vals hX hdep hoth
    have t0 : qq.tmps[0]? = some (.pointer (some ⟨d, 0, none⟩)) := by rw [hoth 0 (by kernel_rfl)]; rfl
    match ii, hi, ho with
    | 0, _, ho =>
      simp only [List.getElem?_cons_zero, Option.some.injEq] at ho
      subst ho
      unfold Oper.wp
      simp [execOp, go_sem, t0]
      exact came _ rfl (Below.refl _ _) rfl (fun h => absurd h (by decide))
    | 1, _, ho =>
      simp only [List.getElem?_cons_succ, List.getElem?_cons_zero, Option.some.injEq] at ho
      subst ho
      unfold Oper.wp
      simp [execOp, go_sem, t0]
      exact came _ rfl (Below.refl _ _) rfl (fun h => absurd h (by decide))
    | 2, _, ho =>
      simp only [List.getElem?_cons_succ, List.getElem?_cons_zero, Option.some.injEq] at ho
      subst ho
      obtain ⟨u1, e1⟩ := hdep ⟨1, .data⟩ (by simp) rfl _ 7 rfl rfl
      rw [show vals 1 = .pointer (some ⟨d, 0, none⟩) from e1] at u1
      unfold Oper.wp
      simp [execOp, go_sem, u1]
      exact came _ rfl (Below.refl _ _) rfl (fun h => absurd h (by decide))
    | 3, _, ho =>
      simp only [List.getElem?_cons_succ, List.getElem?_cons_zero, Option.some.injEq] at ho
      subst ho
      obtain ⟨u2, e2⟩ := hdep ⟨2, .data⟩ (by simp) rfl _ 8 rfl rfl
      rw [show vals 2 = .pointer (some ⟨d, 0, none⟩) from e2] at u2
      unfold Oper.wp
      simp [execOp, go_sem, u2]
      exact came _ rfl (Below.refl _ _) rfl (fun h => absurd h (by decide))
    | 4, _, ho =>
      simp only [List.getElem?_cons_succ, List.getElem?_cons_zero, Option.some.injEq] at ho
      subst ho
      obtain ⟨u3, e3⟩ := hdep ⟨3, .data⟩ (by simp) rfl _ 9 rfl rfl
      rw [show vals 3 = .pointer (some ⟨d, 1, none⟩) from e3] at u3
      have cc := (DkAt.later H1.out.1 hX).c1
      unfold Oper.wp
      simp [execOp, go_sem, u3, cc]
      exact came _ rfl (Below.refl _ _) rfl (fun h => absurd h (by decide))
    | 5, _, ho =>
      simp only [List.getElem?_cons_succ, List.getElem?_cons_zero, Option.some.injEq] at ho
      subst ho
      obtain ⟨u0, e0⟩ := hdep ⟨0, .data⟩ (by simp) rfl _ 6 rfl rfl
      rw [show vals 0 = .pointer (some ⟨d, 0, none⟩) from e0] at u0
      unfold Oper.wp
      simp [execOp, go_sem, u0]
      exact came _ rfl (Below.refl _ _) rfl (fun h => absurd h (by decide))
    | 6, _, ho =>
      simp only [List.getElem?_cons_succ, List.getElem?_cons_zero, Option.some.injEq] at ho
      subst ho
      obtain ⟨u5, e5⟩ := hdep ⟨5, .data⟩ (by simp) rfl _ 11 rfl rfl
      rw [show vals 5 = .pointer (some ⟨d, 0, none⟩) from e5] at u5
      unfold Oper.wp
      simp [execOp, go_sem, u5]
      exact came _ rfl (Below.refl _ _) rfl (fun h => absurd h (by decide))
    | 7, _, ho =>
      simp only [List.getElem?_cons_succ, List.getElem?_cons_zero, Option.some.injEq] at ho
      subst ho
      obtain ⟨u6, e6⟩ := hdep ⟨6, .data⟩ (by simp) rfl _ 12 rfl rfl
      rw [show vals 6 = .pointer (some ⟨d, 2, none⟩) from e6] at u6
      obtain ⟨u4, e4⟩ := hdep ⟨4, .data⟩ (by simp) rfl _ 10 rfl rfl
      rw [show vals 4 = .int .i64 (s : Int) from e4] at u4
      unfold Oper.wp
      simp [execOp, go_sem, u6, u4, hsi]
      exact came _ rfl (Below.refl _ _) rfl (fun h => absurd h (by decide))
    | 8, _, ho =>
      simp only [List.getElem?_cons_succ, List.getElem?_cons_zero, Option.some.injEq] at ho
      subst ho
      obtain ⟨u7, e7⟩ := hdep ⟨7, .data⟩ (by simp) rfl _ 13 rfl rfl
      rw [show vals 7 = .pointer (some ⟨d, 2 + s * 18, none⟩) from e7] at u7
      exact opRnd hr _ rfl (by simp [Act.eval, u7]) ((DkAt.later H1.out.1 hX).rnd hrs) (came _ rfl (Below.refl _ _) rfl (fun h => absurd h (by decide)))
    | 9, _, ho =>
      simp only [List.getElem?_cons_succ, List.getElem?_cons_zero, Option.some.injEq] at ho
      subst ho
      refine opw_alloc _ rfl zRnd ?_
      exact came _ rfl (below_one _ _) ⟨_, rfl, RowAt.news _ _ _, hX.size⟩ (fun h => absurd h (by decide))
    | m + 10, hi, _ => exact absurd hi (by omega)
  · intro vals X hX hR _
    have e8 : vals 8 = .agg (cv (rc r)) := hR 8 (by decide)
    obtain ⟨g, e9, hg, hgl⟩ : ∃ g, vals 9 = .pointer (some ⟨g, 0, none⟩) ∧ RowAt g (cv (rc rnd0)) 44 X ∧ W1.heap.size ≤ g := hR 9 (by decide)
    have hds := H1.out.1.lt
    have hcs := H1.out.2.1.lt
    have hc2 := (Ch.of (S := fun k => k = g) hX).row (g := g) (.inl rfl) (cv (rc r))
    have H2 := hid_of' (And.intro (DkAt.ch H1.out.1 hc2 (by omega)) (And.intro (hg.rowI (cv (rc r))) (And.intro (CkAt.ch H1.out.2.1 hc2 (by omega)) (Ch.none ((Ch.of (S := fun _ => False) H1.out.2.2).go hc2 (fun z hz => .inr (by have := H1.out.2.2.size; omega))) (fun _ _ q => q)))))
    clear hR hX hc2
    simp only [List.drop, List.take, putAll, List.setIfInBounds_toArray, List.set_cons_succ, List.set_cons_zero, e8, e9]
    clear e8 e9
    go_upto_region 2 with (refine wpL_stRow rfl _ _ _ rfl rfl rfl hg (rnd_size hr) (two_sz (by rw [rc_len hr, rc_len rnd0_ok])) (cv_one _) ?_; go_simp)
    clear hg
    generalize X.setRow g (cv (rc r)) = X2 at H2 ⊢
    have r2 := H2.out.2.1
    have hB := Below.refl X2.heap.size X2
    have q0 := r2.cls 0 _ (rcv_num r)
    refine wp_region_cls0 ?_
    repeat (first | go_big_quiet_skip | (go_big_quiet_want; first | (refine qRnd hr _ rfl rfl r2.in.cls ?_; simp only [Act.put, List.setIfInBounds_toArray, List.set_cons_succ, List.set_cons_zero]; go_big_quiet_on) | (go_big_quiet_op; first | go_big_quiet_on | go_big_quiet_call ((go_at_call 56; exact cls_of (HO _).out)))))
    refine wpQuiet_nil ?_
    rintro w1 ⟨s1, e1⟩
    have hb1 := wOf_below s1
    rw [← e1] at hb1
    clear e1 s1
    replace r2 := r2.later hb1
    replace hB := bgo hB hb1
    clear hb1
    clear q0
    have H3 := hid_of' (And.intro (H2.out.1.later hB) (And.intro (H2.out.2.1.later hB) (And.intro (H2.out.2.2.1.later hB) (bgo H2.out.2.2.2 hB))))
    clear H2 hB r2
    go_upto_region 4 with fail
    rename World => X3
    refine wp_region_tail 13 (by kernel_rfl) (fun _ => none) (by kernel_rfl) (by kernel_rfl) (by decide) (fun ii u X => match ii with
      | 0 => u = .pointer (some ⟨d, 0, none⟩)
      | 1 => u = .pointer (some ⟨d, 0, none⟩)
      | 2 => u = .pointer (some ⟨d, 0, none⟩)
      | 3 => u = .pointer (some ⟨d, 1, none⟩)
      | 4 => u = .int .i64 (s : Int)
      | 5 => u = .pointer (some ⟨g, 0, none⟩)
      | 6 => u = .int .i64 r.num
      | 7 => u = .int .i64 (r.num + 1)
      | 8 => u = .agg (cv cut)
      | 9 => u = .agg (cv (rc ⟨r.num + 1, cut, z8, 0⟩))
      | 10 => u = .pointer (some ⟨d, 0, none⟩)
      | 11 => u = .pointer (some ⟨d, 2, none⟩)
      | 12 => u = .pointer (some ⟨d, 2 + s * 18, none⟩)
      | _ => True) (fun _ => false) (fun _ _ _ _ h => by cases h) ?_ ?_ ?_
    · intro ii u X X' hR hb
      match ii, hR with
      | 0, h => exact h
      | 1, h => exact h
      | 2, h => exact h
      | 3, h => exact h
      | 4, h => exact h
      | 5, h => exact h
      | 6, h => exact h
      | 7, h => exact h
      | 8, h => exact h
      | 9, h => exact h
      | 10, h => exact h
      | 11, h => exact h
      | 12, h => exact h
      | m + 13, h => exact h
    · intro ii o hi ho qq X vals hX hdep hoth
      have t0 : qq.tmps[0]? = some (.pointer (some ⟨d, 0, none⟩)) := by rw [hoth 0 (by kernel_rfl)]; rfl
      have t5 : qq.tmps[5]? = some (.pointer (some ⟨g, 0, none⟩)) := by rw [hoth 5 (by kernel_rfl)]; rfl
      have t3 : qq.tmps[3]? = some (.pointer (some ⟨cb, 0, none⟩)) := by rw [hoth 3 (by kernel_rfl)]; rfl
      match ii, hi, ho with
      | 0, _, ho =>
        simp only [List.getElem?_cons_zero, Option.some.injEq] at ho
        subst ho
        unfold Oper.wp
        simp [execOp, go_sem, t0]
        exact came _ rfl (Below.refl _ _) rfl (fun h => absurd h (by decide))
      | 1, _, ho =>
        simp only [List.getElem?_cons_succ, List.getElem?_cons_zero, Option.some.injEq] at ho
        subst ho
        unfold Oper.wp
        simp [execOp, go_sem, t0]
        exact came _ rfl (Below.refl _ _) rfl (fun h => absurd h (by decide))
      | 2, _, ho =>
        simp only [List.getElem?_cons_succ, List.getElem?_cons_zero, Option.some.injEq] at ho
        subst ho
        obtain ⟨u1, e1⟩ := hdep ⟨1, .data⟩ (by simp) rfl _ 29 rfl rfl
        rw [show vals 1 = .pointer (some ⟨d, 0, none⟩) from e1] at u1
        unfold Oper.wp
        simp [execOp, go_sem, u1]
        exact came _ rfl (Below.refl _ _) rfl (fun h => absurd h (by decide))
      | 3, _, ho =>
        simp only [List.getElem?_cons_succ, List.getElem?_cons_zero, Option.some.injEq] at ho
        subst ho
        obtain ⟨u2, e2⟩ := hdep ⟨2, .data⟩ (by simp) rfl _ 30 rfl rfl
        rw [show vals 2 = .pointer (some ⟨d, 0, none⟩) from e2] at u2
        unfold Oper.wp
        simp [execOp, go_sem, u2]
        exact came _ rfl (Below.refl _ _) rfl (fun h => absurd h (by decide))
      | 4, _, ho =>
        simp only [List.getElem?_cons_succ, List.getElem?_cons_zero, Option.some.injEq] at ho
        subst ho
        obtain ⟨u3, e3⟩ := hdep ⟨3, .data⟩ (by simp) rfl _ 31 rfl rfl
        rw [show vals 3 = .pointer (some ⟨d, 1, none⟩) from e3] at u3
        have cc := (DkAt.later H3.out.1 hX).c1
        unfold Oper.wp
        simp [execOp, go_sem, u3, cc]
        exact came _ rfl (Below.refl _ _) rfl (fun h => absurd h (by decide))
      | 5, _, ho =>
        simp only [List.getElem?_cons_succ, List.getElem?_cons_zero, Option.some.injEq] at ho
        subst ho
        unfold Oper.wp
        simp [execOp, go_sem, t5]
        exact came _ rfl (Below.refl _ _) rfl (fun h => absurd h (by decide))
      | 6, _, ho =>
        simp only [List.getElem?_cons_succ, List.getElem?_cons_zero, Option.some.injEq] at ho
        subst ho
        obtain ⟨u5, e5⟩ := hdep ⟨5, .data⟩ (by simp) rfl _ 33 rfl rfl
        rw [show vals 5 = .pointer (some ⟨g, 0, none⟩) from e5] at u5
        have cc : X.cell? ⟨g, 0, none⟩ = some (.int .i64 r.num) := (RowAt.later H3.out.2.1 hX).cell 0
        unfold Oper.wp
        simp [execOp, go_sem, u5, cc]
        exact came _ rfl (Below.refl _ _) rfl (fun h => absurd h (by decide))
      | 7, _, ho =>
        simp only [List.getElem?_cons_succ, List.getElem?_cons_zero, Option.some.injEq] at ho
        subst ho
        obtain ⟨u6, e6⟩ := hdep ⟨6, .data⟩ (by simp) rfl _ 34 rfl rfl
        rw [show vals 6 = .int .i64 r.num from e6] at u6
        unfold Oper.wp
        simp [execOp, go_sem, u6, hwr]
        exact came _ rfl (Below.refl _ _) rfl (fun h => absurd h (by decide))
      | 8, _, ho =>
        simp only [List.getElem?_cons_succ, List.getElem?_cons_zero, Option.some.injEq] at ho
        subst ho
        exact opCk hcl _ rfl (by simp [Act.eval, t3]) (CkAt.later H3.out.2.2.1 hX).in (came _ rfl (Below.refl _ _) rfl (fun h => absurd h (by decide)))
      | 9, _, ho =>
        simp only [List.getElem?_cons_succ, List.getElem?_cons_zero, Option.some.injEq] at ho
        subst ho
        obtain ⟨u7, e7⟩ := hdep ⟨7, .data⟩ (by simp) rfl _ 35 rfl rfl
        rw [show vals 7 = .int .i64 (r.num + 1) from e7] at u7
        obtain ⟨u8, e8⟩ := hdep ⟨8, .data⟩ (by simp) rfl _ 36 rfl rfl
        rw [show vals 8 = .agg (cv cut) from e8] at u8
        refine opw_bld _ _ rfl _ (by simpa [Act.eval, u7, u8] using bldRnd (r.num + 1) hcl) ?_
        exact (came _ rfl (Below.refl _ _) rfl (fun h => absurd h (by decide)))
      | 10, _, ho =>
        simp only [List.getElem?_cons_succ, List.getElem?_cons_zero, Option.some.injEq] at ho
        subst ho
        obtain ⟨u0, e0⟩ := hdep ⟨0, .data⟩ (by simp) rfl _ 28 rfl rfl
        rw [show vals 0 = .pointer (some ⟨d, 0, none⟩) from e0] at u0
        unfold Oper.wp
        simp [execOp, go_sem, u0]
        exact came _ rfl (Below.refl _ _) rfl (fun h => absurd h (by decide))
      | 11, _, ho =>
        simp only [List.getElem?_cons_succ, List.getElem?_cons_zero, Option.some.injEq] at ho
        subst ho
        obtain ⟨u10, e10⟩ := hdep ⟨10, .data⟩ (by simp) rfl _ 38 rfl rfl
        rw [show vals 10 = .pointer (some ⟨d, 0, none⟩) from e10] at u10
        unfold Oper.wp
        simp [execOp, go_sem, u10]
        exact came _ rfl (Below.refl _ _) rfl (fun h => absurd h (by decide))
      | 12, _, ho =>
        simp only [List.getElem?_cons_succ, List.getElem?_cons_zero, Option.some.injEq] at ho
        subst ho
        obtain ⟨u11, e11⟩ := hdep ⟨11, .data⟩ (by simp) rfl _ 39 rfl rfl
        rw [show vals 11 = .pointer (some ⟨d, 2, none⟩) from e11] at u11
        obtain ⟨u4, e4⟩ := hdep ⟨4, .data⟩ (by simp) rfl _ 32 rfl rfl
        rw [show vals 4 = .int .i64 (s : Int) from e4] at u4
        unfold Oper.wp
        simp [execOp, go_sem, u11, u4, hsi]
        exact came _ rfl (Below.refl _ _) rfl (fun h => absurd h (by decide))
      | m + 13, hi, _ => exact absurd hi (by omega)
    · intro vals Y hY hR _
      have e9 : vals 9 = .agg (cv (rc ⟨r.num + 1, cut, z8, 0⟩)) := hR 9 (by decide)
      have e12 : vals 12 = .pointer (some ⟨d, 2 + s * 18, none⟩) := hR 12 (by decide)
      have hdY := DkAt.later H3.out.1 hY
      have ho2 : Rnd.Ok ⟨r.num + 1, cut, z8, 0⟩ := ⟨hcl, rfl⟩
      have hp := hdY.1.putC (o := 2 + s * 18) (y := rc ⟨r.num + 1, cut, z8, 0⟩) (by rw [dk_len n s hdY.2, rc_len ho2]; omega)
      rw [dk_put n s hdY.2 (by omega) ho2] at hp
      have hc := Ch.cells (S := fun k => k = d) (a := w) (g := d) (.inl rfl) (cv (rc ⟨r.num + 1, cut, z8, 0⟩)).toList (2 + s * 18) Y (Ch.of (bgo H3.out.2.2.2 hY))
      have HF := hid_of' (And.intro hp hc)
      clear hR hY hp hc
      simp only [List.drop, List.take, putAll, List.setIfInBounds_toArray, List.set_cons_succ, List.set_cons_zero, e9, e12]
      clear e9 e12
      go_wp2_with (refine stRnd rfl _ _ rfl rfl ho2 rfl hdY.1 (by rw [dk_len n s hdY.2]; omega) ?_)
      go_ret
      exact ⟨rfl, ⟨HF.out.1, ok.set s ho2⟩, HF.out.2⟩
end Go.Proofs.YtfgcljpiidhfpaaDoor
