
/-
  PacketUnlike: two right messages that are unlike have unlike bytes.
-/
import Derived.Test.YtildmcmjpmidgaaDoorPkV3
import Derived.Test.YtildmcmjpmidgaaDoorInvU
import Derived.Lib.SlicesS
namespace Go.Proofs.YtildmcmjpmidgaaDoor
open Go.RowKit
set_option maxRecDepth 100000

theorem wpO_ms {o : Oper} {a : Act} {w : World} {K : Act → World → Prop} {Q : Exit → Act → World → Prop} {m : Pms} {s : Value} (hx : shM m) (y : Operand) (ho : o.op = .load 30 y) {b off : Nat} (hy : a.eval y = .pointer (some ⟨b, off, none⟩)) (h : CsIn b off (mv m s) w) (k : K (a.put o.dst (.agg (mv m s))) w) : o.wp Tryd.prog a w K Q := by
  unfold Oper.wp execOp
  simp only [ho, hy, Instr.loadAt, Instr.sureAddr, Sem.run_bind, Sem.run_pure, Result.andThen_ok, run_loadVar_in h Tryd.underlying30 rfl (mv_size hx)]
  exact k
theorem cutM_ck {m : Pms} (h : ckM m) : ckM (cutM m) := ⟨h.1, fun a ha => h.2.1 a (List.mem_of_mem_take ha), h.2.2⟩
theorem bytes_ne {x y : List UInt8} (h : x ≠ y) : ¬ (⟨x.toArray⟩ : ByteArray) = ⟨y.toArray⟩ := fun e => h (by simpa using e)

set_option maxHeartbeats 8000000 in
theorem packetUnlike_all {ad : Nat → Addr} {w : World} (L : Lw ad w) (a : Pms) (s : Value) (sha : shM a) (hfa : ∀ x ∈ a.2.2.2.2.1, fitA x) (hba : bndM a) (hAa : SlA w s a.2.2.2.2.1) (hca : ∀ x n c, s = .slice x n c → n ≤ c) (hka : ckM a)
    (b : Pms) (t : Value) (shb : shM b) (hfb : ∀ x ∈ b.2.2.2.2.1, fitA x) (hbb : bndM b) (hAb : SlA w t b.2.2.2.2.1) (hcb : ∀ x n c, t = .slice x n c → n ≤ c) (hkb : ckM b) :
    Calls Tryd.prog 5 #[.agg (mv a s), .agg (mv b t)] w fun e w' => e = .returned (.bool true) ∧ Below w.heap.size w w' := by
  obtain ⟨h1, h2, hB⟩ := two_boxes w (mv a s) (mv b t) 30 30
  go_enter Tryd.func5, Tryd.ntmps5
  go_upto_region 1 with fail
  generalize (w.alloc (.cells (mv a s) 30)).alloc (.cells (mv b t) 30) = w0 at *
  have q1 := h1.in
  have q2 := h2.in
  refine wp_region_tail 4 (by kernel_rfl) (fun _ => none) (by kernel_rfl) (by kernel_rfl) (by decide) (fun i v _ => match i with
    | 0 => v = .agg (mv a s)
    | 1 => ∃ s', v = .agg (mv (cutM a) s') ∧ ∀ y, SlA y s a.2.2.2.2.1 → SlA y s' (cutM a).2.2.2.2.1
    | 2 => v = .agg (mv b t)
    | 3 => ∃ s', v = .agg (mv (cutM b) s') ∧ ∀ y, SlA y t b.2.2.2.2.1 → SlA y s' (cutM b).2.2.2.2.1
    | _ => True) (fun _ => false) (fun _ _ _ _ h => by cases h) ?_ ?_ ?_
  · intro i v x x' hR _
    match i, hR with
    | 0, h => exact h
    | 1, h => exact h
    | 2, h => exact h
    | 3, h => exact h
    | m + 4, h => exact h
  · intro i o hi ho q x vals hX hdep hoth
    have t2 : q.tmps[2]? = some (.pointer (some ⟨w.heap.size, 0, none⟩)) := by rw [hoth 2 (by kernel_rfl)]; rfl
    have t3 : q.tmps[3]? = some (.pointer (some ⟨w.heap.size + 1, 0, none⟩)) := by rw [hoth 3 (by kernel_rfl)]; rfl
    match i, hi, ho with
    | 0, _, ho =>
      simp only [List.getElem?_cons_zero, Option.some.injEq] at ho
      subst ho
      exact wpO_ms sha _ rfl (by simp [Act.eval, t2]) (q1.later hX) (came _ rfl (Below.refl _ _) rfl (fun h => absurd h (by decide)))
    | 1, _, ho =>
      simp only [List.getElem?_cons_succ, List.getElem?_cons_zero, Option.some.injEq] at ho
      subst ho
      obtain ⟨u0, e0⟩ := hdep ⟨0, .data⟩ (by simp) rfl _ 9 rfl rfl
      rw [show vals 0 = .agg (mv a s) from e0] at u0
      unfold Oper.wp
      simp [go_sem, u0]
      refine (cut9_any a s x sha (hAa.later (bgo hB hX)) hca).mono ?_
      rintro r x1 ⟨s', rfl, hcut, hb1⟩
      exact came _ rfl hb1 ⟨s', rfl, hcut⟩ (fun h => absurd h (by decide))
    | 2, _, ho =>
      simp only [List.getElem?_cons_succ, List.getElem?_cons_zero, Option.some.injEq] at ho
      subst ho
      exact wpO_ms shb _ rfl (by simp [Act.eval, t3]) (q2.later hX) (came _ rfl (Below.refl _ _) rfl (fun h => absurd h (by decide)))
    | 3, _, ho =>
      simp only [List.getElem?_cons_succ, List.getElem?_cons_zero, Option.some.injEq] at ho
      subst ho
      obtain ⟨u2, e2⟩ := hdep ⟨2, .data⟩ (by simp) rfl _ 11 rfl rfl
      rw [show vals 2 = .agg (mv b t) from e2] at u2
      unfold Oper.wp
      simp [go_sem, u2]
      refine (cut9_any b t x shb (hAb.later (bgo hB hX)) hcb).mono ?_
      rintro r x1 ⟨s', rfl, hcut, hb1⟩
      exact came _ rfl hb1 ⟨s', rfl, hcut⟩ (fun h => absurd h (by decide))
    | m + 4, hi, _ => exact absurd hi (by omega)
  · intro vals w1 hX hR _
    have e0 : vals 0 = .agg (mv a s) := hR 0 (by decide)
    have e2 : vals 2 = .agg (mv b t) := hR 2 (by decide)
    obtain ⟨s', e1, hc1⟩ : ∃ s', vals 1 = .agg (mv (cutM a) s') ∧ ∀ y, SlA y s a.2.2.2.2.1 → SlA y s' (cutM a).2.2.2.2.1 := hR 1 (by decide)
    obtain ⟨t', e3, hc3⟩ : ∃ s', vals 3 = .agg (mv (cutM b) s') ∧ ∀ y, SlA y t b.2.2.2.2.1 → SlA y s' (cutM b).2.2.2.2.1 := hR 3 (by decide)
    have hA := hc1 w hAa
    have hAB := hc3 w hAb
    have o1 := slA_one hA
    have o2 := slA_one hAB
    have g1 := h1.later hX
    have g2 := h2.later hX
    replace hB := bgo hB hX
    have fA := cutM_fit sha hfa
    have fB := cutM_fit shb hfb
    have bA := cutM_bnd hba
    have bB := cutM_bnd hbb
    have kA := cutM_ck hka
    have kB := cutM_ck hkb
    have k1 := kept_setRow w.heap.size (mv (cutM a) s') w1
    have g2' := g2.kept k1 (by simp)
    have g1' : RowAt w.heap.size (mv (cutM a) s') 30 (w1.setRow w.heap.size (mv (cutM a) s')) := setRow_heap _ _ _ _ _ _ g1
    have hB1 := below_setRow hB (Nat.le_refl _) (mv (cutM a) s')
    simp only [List.take, List.drop, putAll, e0, e1, e2, e3, List.setIfInBounds_toArray, List.set_cons_succ, List.set_cons_zero]
    clear hX hR hc1 hc3 q1 q2 h1 h2 e0 e1 e2 e3
    go_upto_region 2 with (first | (refine wpList_store_row rfl _ _ _ rfl w.heap.size _ rfl rfl _ _ g1 (mv_size fA.sh) (by rw [mv_sz sha, mv_sz fA.sh]) (mv_one _ o1) ?_; go_simp) | (refine wpList_store_row rfl _ _ _ rfl (w.heap.size + 1) _ rfl rfl _ _ g2' (mv_size fB.sh) (by rw [mv_sz shb, mv_sz fB.sh]) (mv_one _ o2) ?_; go_simp))
    have k2 := kept_setRow (w.heap.size + 1) (mv (cutM b) t') (w1.setRow w.heap.size (mv (cutM a) s'))
    have r1 := g1'.kept k2 (by simp)
    have r2 : RowAt (w.heap.size + 1) (mv (cutM b) t') 30 _ := setRow_heap _ _ _ _ _ _ g2'
    replace hB := below_setRow hB1 (Nat.le_succ _) (mv (cutM b) t')
    clear k1 k2 g1 g2 g1' g2' hB1 sha hfa hba hAa hca hka shb hfb hbb hAb hcb hkb
    generalize (w1.setRow w.heap.size (mv (cutM a) s')).setRow (w.heap.size + 1) (mv (cutM b) t') = w2 at *
    generalize cutM a = A at *
    generalize cutM b = B at *
    replace hA := hA.later hB
    replace hAB := hAB.later hB
    replace L := L.later hB
    have p1 := r1.in
    have p2 := r2.in
    cases ra : rightB A
    · have HY := hid_of' (bytesP_no A s' w2 L fA hA ra)
      go_upto_region 3 with (first | (refine ld_ms fA.sh rfl _ rfl rfl p1 ?_) | (go_at_call 8; (with_reducible refine HY.out.mono ?_); rintro e w3 ⟨fx, _, rfl, _, hb3⟩))
      replace r1 := r1.later hb3
      replace r2 := r2.later hb3
      replace hA := hA.later hb3
      replace hAB := hAB.later hb3
      replace L := L.later hb3
      replace hB := bgo hB hb3
      clear HY p1 p2 hb3
      have p1 := r1.in
      have p2 := r2.in
      cases rb : rightB B
      · have HZ := hid_of' (bytesP_no B t' w3 L fB hAB rb)
        go_upto_region 4 with (first | (refine ld_ms fB.sh rfl _ rfl rfl p2 ?_) | (go_at_call 8; (with_reducible refine HZ.out.mono ?_); rintro e w4 ⟨fy, _, rfl, _, hb4⟩))
        replace r1 := r1.later hb4
        replace r2 := r2.later hb4
        replace hA := hA.later hb4
        replace hAB := hAB.later hb4
        replace L := L.later hb4
        replace hB := bgo hB hb4
        clear HZ p1 p2 hb4
        go_upto_region 4 with fail
        refine wp_region_cls0 ?_
        repeat (first | go_big_quiet_skip | (go_big_quiet_want; first | (go_big_quiet_op; first | go_big_quiet_on | go_big_quiet_call ((fail)))))
        refine wpQuiet_nil ?_
        rintro w1 ⟨s1, e1⟩
        have hb1 := wOf_below s1
        rw [← e1] at hb1
        clear e1 s1
        replace r1 := r1.later hb1
        replace r2 := r2.later hb1
        replace hA := hA.later hb1
        replace hAB := hAB.later hb1
        replace L := L.later hb1
        replace hB := bgo hB hb1
        clear hb1
        have p1 := r1.in
        have p2 := r2.in
        go_upto_region 5 with fail
        refine wp_region_cls (by kernel_rfl) (by kernel_rfl) ?_
        repeat (first | go_big_quiet_skip | (go_big_quiet_want; first | (refine quiet_ms fA.sh _ rfl rfl p1.cls ?_; simp only [Act.put, List.setIfInBounds_toArray, List.set_cons_succ, List.set_cons_zero]; go_big_quiet_on) | (refine quiet_ms fB.sh _ rfl rfl p2.cls ?_; simp only [Act.put, List.setIfInBounds_toArray, List.set_cons_succ, List.set_cons_zero]; go_big_quiet_on) | (go_big_quiet_op; first | go_big_quiet_on | go_big_quiet_call ((first | (go_at_call_of 15 (Value.agg (mv A s')); exact cls_of (refRight_is ra _ _ fA kA (hA.later (wOf_below _)))) | (go_at_call_of 15 (Value.agg (mv B t')); exact cls_of (refRight_is rb _ _ fB kB (hAB.later (wOf_below _)))) | (go_at_call 10; exact cls_of (wakes9_ok (L.later (wOf_below _)))))))))
        refine wpQuiet_nil ?_
        rintro w1 ⟨s1, e1⟩
        have hb1 := wOf_below s1
        rw [← e1] at hb1
        clear e1 s1
        replace L := L.later hb1
        replace hB := bgo hB hb1
        clear hb1
        go_wp2
        go_ret
        exact ⟨rfl, hB⟩
      · have HZ := hid_of' (bytesP_ok B t' w3 fB bB hAB ((right_ok fB bB).1 rb))
        go_upto_region 4 with (first | (refine ld_ms fB.sh rfl _ rfl rfl p2 ?_) | (go_at_call 8; (with_reducible refine HZ.out.mono ?_); rintro e w4 ⟨gy, _, rfl, hgy, hb4⟩))
        replace r1 := r1.later hb4
        replace r2 := r2.later hb4
        replace hA := hA.later hb4
        replace hAB := hAB.later hb4
        replace L := L.later hb4
        replace hB := bgo hB hb4
        clear HZ p1 p2 hb4
        go_upto_region 4 with fail
        refine wp_region_cls0 ?_
        repeat (first | go_big_quiet_skip | (go_big_quiet_want; first | (go_big_quiet_op; first | go_big_quiet_on | go_big_quiet_call ((fail)))))
        refine wpQuiet_nil ?_
        rintro w1 ⟨s1, e1⟩
        have hb1 := wOf_below s1
        rw [← e1] at hb1
        clear e1 s1
        replace r1 := r1.later hb1
        replace r2 := r2.later hb1
        replace hA := hA.later hb1
        replace hAB := hAB.later hb1
        replace L := L.later hb1
        replace hB := bgo hB hb1
        clear hb1
        have p1 := r1.in
        have p2 := r2.in
        go_upto_region 5 with fail
        refine wp_region_cls (by kernel_rfl) (by kernel_rfl) ?_
        repeat (first | go_big_quiet_skip | (go_big_quiet_want; first | (refine quiet_ms fA.sh _ rfl rfl p1.cls ?_; simp only [Act.put, List.setIfInBounds_toArray, List.set_cons_succ, List.set_cons_zero]; go_big_quiet_on) | (refine quiet_ms fB.sh _ rfl rfl p2.cls ?_; simp only [Act.put, List.setIfInBounds_toArray, List.set_cons_succ, List.set_cons_zero]; go_big_quiet_on) | (go_big_quiet_op; first | go_big_quiet_on | go_big_quiet_call ((first | (go_at_call_of 15 (Value.agg (mv A s')); exact cls_of (refRight_is ra _ _ fA kA (hA.later (wOf_below _)))) | (go_at_call_of 15 (Value.agg (mv B t')); exact cls_of (refRight_is rb _ _ fB kB (hAB.later (wOf_below _)))) | (go_at_call 10; exact cls_of (wakes9_ok (L.later (wOf_below _)))))))))
        refine wpQuiet_nil ?_
        rintro w1 ⟨s1, e1⟩
        have hb1 := wOf_below s1
        rw [← e1] at hb1
        clear e1 s1
        replace L := L.later hb1
        replace hB := bgo hB hb1
        clear hb1
        go_wp2
        go_ret
        exact ⟨rfl, hB⟩
    · have HY := hid_of' (bytesP_ok A s' w2 fA bA hA ((right_ok fA bA).1 ra))
      go_upto_region 3 with (first | (refine ld_ms fA.sh rfl _ rfl rfl p1 ?_) | (go_at_call 8; (with_reducible refine HY.out.mono ?_); rintro e w3 ⟨gx, _, rfl, hgx, hb3⟩))
      replace r1 := r1.later hb3
      replace r2 := r2.later hb3
      replace hA := hA.later hb3
      replace hAB := hAB.later hb3
      replace L := L.later hb3
      replace hB := bgo hB hb3
      clear HY p1 p2 hb3
      have p1 := r1.in
      have p2 := r2.in
      cases rb : rightB B
      · have HZ := hid_of' (bytesP_no B t' w3 L fB hAB rb)
        go_upto_region 4 with (first | (refine ld_ms fB.sh rfl _ rfl rfl p2 ?_) | (go_at_call 8; (with_reducible refine HZ.out.mono ?_); rintro e w4 ⟨fy, _, rfl, _, hb4⟩))
        have hgx' : w4.heap[gx]? = some (.cells (Lib.byteCells (fMsg A)).toArray 5 (0, 0)) := by rw [hb4.block gx (Array.getElem?_eq_some_iff.1 hgx).1]; exact hgx
        clear hgx
        replace r1 := r1.later hb4
        replace r2 := r2.later hb4
        replace hA := hA.later hb4
        replace hAB := hAB.later hb4
        replace L := L.later hb4
        replace hB := bgo hB hb4
        clear HZ p1 p2 hb4
        clear hgx'
        go_upto_region 4 with fail
        refine wp_region_cls0 ?_
        repeat (first | go_big_quiet_skip | (go_big_quiet_want; first | (go_big_quiet_op; first | go_big_quiet_on | go_big_quiet_call ((fail)))))
        refine wpQuiet_nil ?_
        rintro w1 ⟨s1, e1⟩
        have hb1 := wOf_below s1
        rw [← e1] at hb1
        clear e1 s1
        replace r1 := r1.later hb1
        replace r2 := r2.later hb1
        replace hA := hA.later hb1
        replace hAB := hAB.later hb1
        replace L := L.later hb1
        replace hB := bgo hB hb1
        clear hb1
        have p1 := r1.in
        have p2 := r2.in
        go_upto_region 5 with fail
        refine wp_region_cls (by kernel_rfl) (by kernel_rfl) ?_
        repeat (first | go_big_quiet_skip | (go_big_quiet_want; first | (refine quiet_ms fA.sh _ rfl rfl p1.cls ?_; simp only [Act.put, List.setIfInBounds_toArray, List.set_cons_succ, List.set_cons_zero]; go_big_quiet_on) | (refine quiet_ms fB.sh _ rfl rfl p2.cls ?_; simp only [Act.put, List.setIfInBounds_toArray, List.set_cons_succ, List.set_cons_zero]; go_big_quiet_on) | (go_big_quiet_op; first | go_big_quiet_on | go_big_quiet_call ((first | (go_at_call_of 15 (Value.agg (mv A s')); exact cls_of (refRight_is ra _ _ fA kA (hA.later (wOf_below _)))) | (go_at_call_of 15 (Value.agg (mv B t')); exact cls_of (refRight_is rb _ _ fB kB (hAB.later (wOf_below _)))) | (go_at_call 10; exact cls_of (wakes9_ok (L.later (wOf_below _)))))))))
        refine wpQuiet_nil ?_
        rintro w1 ⟨s1, e1⟩
        have hb1 := wOf_below s1
        rw [← e1] at hb1
        clear e1 s1
        replace L := L.later hb1
        replace hB := bgo hB hb1
        clear hb1
        go_wp2
        go_ret
        exact ⟨rfl, hB⟩
      · have HZ := hid_of' (bytesP_ok B t' w3 fB bB hAB ((right_ok fB bB).1 rb))
        go_upto_region 4 with (first | (refine ld_ms fB.sh rfl _ rfl rfl p2 ?_) | (go_at_call 8; (with_reducible refine HZ.out.mono ?_); rintro e w4 ⟨gy, _, rfl, hgy, hb4⟩))
        have hgx' : w4.heap[gx]? = some (.cells (Lib.byteCells (fMsg A)).toArray 5 (0, 0)) := by rw [hb4.block gx (Array.getElem?_eq_some_iff.1 hgx).1]; exact hgx
        clear hgx
        replace r1 := r1.later hb4
        replace r2 := r2.later hb4
        replace hA := hA.later hb4
        replace hAB := hAB.later hb4
        replace L := L.later hb4
        replace hB := bgo hB hb4
        clear HZ p1 p2 hb4
        have sx := slB_block hgx'
        have sy := slB_block hgy
        clear hgx' hgy
        have hne := (right_ok fA bA).1 ra
        have hne2 := (right_ok fB bB).1 rb
        have HO := hid_of' (And.intro hne hne2)
        clear hne hne2
        go_upto_region 4 with fail
        refine wp_region_cls0 ?_
        repeat (first | go_big_quiet_skip | (go_big_quiet_want; first | (go_big_quiet_op; first | go_big_quiet_on | go_big_quiet_call ((fail)))))
        refine wpQuiet_nil ?_
        rintro w1 ⟨s1, e1⟩
        have hb1 := wOf_below s1
        rw [← e1] at hb1
        clear e1 s1
        replace r1 := r1.later hb1
        replace r2 := r2.later hb1
        replace hA := hA.later hb1
        replace hAB := hAB.later hb1
        replace L := L.later hb1
        replace sx := sx.later hb1
        replace sy := sy.later hb1
        replace hB := bgo hB hb1
        clear hb1
        have p1 := r1.in
        have p2 := r2.in
        have c1 : ∀ x : Wld w1, (convert 32 9 (.slice (some ⟨gx, 0, none⟩) (fMsg A).length (fMsg A).length)).run Tryd.prog (wOf x) = .ok (.string ⟨(fMsg A).toArray⟩) (wOf x) := fun x => conv_all (sx.later (wOf_below x))
        have c2 : ∀ x : Wld w1, (convert 32 9 (.slice (some ⟨gy, 0, none⟩) (fMsg B).length (fMsg B).length)).run Tryd.prog (wOf x) = .ok (.string ⟨(fMsg B).toArray⟩) (wOf x) := fun x => conv_all (sy.later (wOf_below x))
        by_cases hq : A = B
        · subst hq
          have hqq : (A == A) = true := beq_self_eq_true A
          generalize fMsg A = xs at *
          go_upto_region 6 with fail
          refine wp_region_cls (by kernel_rfl) (by kernel_rfl) ?_
          repeat (first | go_big_quiet_skip | (go_big_quiet_want; first | (refine quiet_ms fA.sh _ rfl rfl p1.cls ?_; simp only [Act.put, List.setIfInBounds_toArray, List.set_cons_succ, List.set_cons_zero]; go_big_quiet_on) | (refine quiet_ms fB.sh _ rfl rfl p2.cls ?_; simp only [Act.put, List.setIfInBounds_toArray, List.set_cons_succ, List.set_cons_zero]; go_big_quiet_on) | (go_big_quiet_op; first | go_big_quiet_on | go_big_quiet_call ((first | (go_at_call 12; exact cls_of (messageK_is hqq _ _ _ fA.sh fB.sh (hA.later (wOf_below _)) (hAB.later (wOf_below _)) fA.len)) | (go_at_call 10; exact cls_of (wakes9_ok (L.later (wOf_below _)))))))))
          refine wpQuiet_nil ?_
          rintro w1 ⟨s1, e1⟩
          have hb1 := wOf_below s1
          rw [← e1] at hb1
          clear e1 s1
          replace L := L.later hb1
          replace hB := bgo hB hb1
          clear hb1
          go_wp2
          go_ret
          exact ⟨rfl, hB⟩
        · have hqq : (A == B) = false := by simpa using hq
          have hxy := bytes_ne (fun e => hq (fMsg_inj HO.out.1 HO.out.2 e))
          have HQ := hid_of' hq
          clear hq
          generalize fMsg A = xs at *
          generalize fMsg B = ys at *
          generalize hX : (⟨xs.toArray⟩ : ByteArray) = X at *
          generalize hY : (⟨ys.toArray⟩ : ByteArray) = Y at *
          have hd : (X.toList == Y.toList) = false := (Lib.bytes_beq_false_iff _ _).2 hxy
          clear hX hY
          go_upto_region 6 with fail
          refine wp_region_cls (by kernel_rfl) (by kernel_rfl) ?_
          repeat (first | go_big_quiet_skip | (go_big_quiet_want; first | (refine quiet_ms fA.sh _ rfl rfl p1.cls ?_; simp only [Act.put, List.setIfInBounds_toArray, List.set_cons_succ, List.set_cons_zero]; go_big_quiet_on) | (refine quiet_ms fB.sh _ rfl rfl p2.cls ?_; simp only [Act.put, List.setIfInBounds_toArray, List.set_cons_succ, List.set_cons_zero]; go_big_quiet_on) | (go_big_quiet_op; first | go_big_quiet_on | go_big_quiet_call ((first | (go_at_call 12; exact cls_of (messageK_is hqq _ _ _ fA.sh fB.sh (hA.later (wOf_below _)) (hAB.later (wOf_below _)) fA.len)) | (go_at_call 10; exact cls_of (wakes9_ok (L.later (wOf_below _)))))))))
          refine wpQuiet_nil ?_
          rintro w1 ⟨s1, e1⟩
          have hb1 := wOf_below s1
          rw [← e1] at hb1
          clear e1 s1
          replace L := L.later hb1
          replace hB := bgo hB hb1
          clear hb1
          go_wp2
          go_ret
          exact ⟨rfl, hB⟩
end Go.Proofs.YtildmcmjpmidgaaDoor
