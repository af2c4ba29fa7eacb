
/-
  XformApply.
-/
import Derived.Test.YtjalehlmldlooaaGreatDoorZap50
namespace Go.Proofs.YtjalehlmldlooaaGreatDoor
open Go.RowKit Go.Extern.Stop Go.Stop Go.Extern
set_option maxRecDepth 100000

set_option maxHeartbeats 8000000 in
theorem xformApply_all {ad : Nat → Addr} {w : World} {ub uo ui : Value} {bs : List El} {ops : List Xo} {ids : List Idn} (L : Laid ad w) (hb : SlE w ub bs) (hbin : ∀ e ∈ bs, e.In) (hbl : bs.length ≤ 9223372036854775807) (ho : SlO w uo ops) (hi : SlJ w ui ids) (hii : ∀ i ∈ ids, i.In) :
    Calls Tryz.prog 3 #[ub, uo, ui] w fun r w' => r = .returned (.bool true) ∧ Below w.heap.size w w' := by
  obtain ⟨a1, c1, rfl⟩ := ho.form
  obtain ⟨a2, c2, rfl⟩ := hi.form
  have HR7 := hid_of' (row7_ok hb hbin hbl)
  have HL := hid_of' L
  have HO := hid_of' ho
  have HI := hid_of' (And.intro hi hii)
  clear hb hbin L ho hi hii
  go_enter Tryz.func3, Tryz.ntmps3
  go_upto_region 2 with (go_at_call 4; refine HR7.out.mono ?_; clear HR7; rintro q w1 ⟨u1, l0, k0, rfl, ho1, hr1, hk0, hb1⟩)
  have HOf := hid_of' (of_mo ho1.sl (by have := hr1.len; omega) hr1.ok (by decide))
  have hx1 := XsAt.of_own ho1
  have hs1 := hb1.size
  unfold pv at HOf
  go_wp2_with (go_at_call 5; refine HOf.out.mono ?_; clear HOf; rintro q w2 ⟨mb, tb, kb, R, rfl, g1, g2, g3, hM2, hb2⟩)
  go_loopw [7, 10] (fun uu iv wr => ∃ (k : Nat) (l : List El), iv = .int .i64 (k : Int) ∧ k ≤ ops.length ∧ k ≤ 60 ∧ XsAt wr uu l ∧ Mo mb tb kb (1000000 + k * 3000) R l wr ∧ RowOk (2 + (k : Int)) l ∧ l.length ≤ 60 + k ∧ Below w.heap.size w wr) (fun _ iv _ => 60 - (intOf iv).toNat)
  case atStart => exact ⟨0, l0, rfl, Nat.zero_le _, by omega, hx1.later hb2, hM2, hr1.ok, by have := hr1.len; omega, bgo hb1 hb2⟩
  case round =>
    obtain ⟨k, l, rfl, hk, hk60, hX7, hM, hRo, hlen, hB⟩ := hrel
    obtain ⟨a7, c7, rfl⟩ := hX7.form
    by_cases q0 : k < ops.length
    · have hki : (k : Int) < (ops.length : Int) := by omega
      by_cases q1 : k < 60
      · have hk6 : (k : Int) < 60 := by omega
        obtain ⟨op, hop⟩ : ∃ op, ops[k]? = some op := ⟨_, List.getElem?_eq_getElem q0⟩
        rcases HO.out with ⟨h0, _⟩ | ⟨g, o_, c, hvv, hc⟩
        · exfalso; subst h0; simp at q0
        simp only [Value.slice.injEq] at hvv
        obtain ⟨rfl, _, rfl⟩ := hvv
        have hgw : g < w.heap.size := (hc k op hop).1
        have hce := (hc k op hop).later hB
        have hlts := hM.lts
        have hg1 : ¬ g = tb := by omega
        have hg2 : ¬ g = kb := by omega
        have hj1 : ¬ wr.heap.size = tb := by omega
        have hj2 : ¬ wr.heap.size = kb := by omega
        have rJ := row_new wr (idc 9 0 (k : Int)) 32
        have bJ := below_one wr (.cells (idc 9 0 (k : Int)) 32)
        clear hc
        go_upto_region 9 with fail
        change Code.wp _ _ _ _ (wr.alloc (.cells (idc 9 0 (k : Int)) 32))
        generalize wr.alloc (.cells (idc 9 0 (k : Int)) 32) = W9 at rJ bJ ⊢
        by_cases qi : k < ids.length
        · have hki2 : (k : Int) < (ids.length : Int) := by omega
          obtain ⟨ix, hixx⟩ : ∃ ix, ids[k]? = some ix := ⟨_, List.getElem?_eq_getElem qi⟩
          have hix : ix.In := HI.out.2 ix (List.mem_of_getElem? hixx)
          rcases HI.out.1 with ⟨h0, _⟩ | ⟨g9, o9, c9, hvv, hc9⟩
          · exfalso; subst h0; simp at qi
          simp only [Value.slice.injEq] at hvv
          obtain ⟨rfl, _, rfl⟩ := hvv
          have hcx := ((hc9 k ix hixx).later hB).later bJ
          clear hc9
          go_upto_region 11 with (first | (refine wpL_loadI rfl _ rfl rfl hcx ?_) | (refine wpL_storeI rfl _ _ rfl rfl rfl rJ ?_))
          simp only [Act.put, List.setIfInBounds_toArray, List.set_cons_succ, List.set_cons_zero]
          have hb0 := below_row bJ (g := wr.heap.size) (Nat.le_refl _) (idc ix.a ix.b ix.c)
          replace rJ := rJ.put (idc ix.a ix.b ix.c)
          generalize W9.setRow wr.heap.size (idc ix.a ix.b ix.c) = X0 at rJ hb0 ⊢
          clear hcx bJ
          have hM0 := hM.later hb0
          have hX0 := hX7.later hb0
          have hce0 := hce.later hb0
          have hB0 := bgo hB hb0
          have HA := hid_of' (fun (x : World) (hx : Below X0.heap.size X0 x) => refApply_all (hX0.later hx) hRo (by omega) op ix (by omega))
          have hu7 : ∀ k, (Value.slice a7 l.length c7).ownBlock = some k → k < X0.heap.size := hX0.lt
          have hsz0 := hb0.size
          refine wp_region_float (by kernel_rfl) (by kernel_rfl) (fun i v x => match i with
            | 0 => v = .slice a7 l.length c7
            | 1 => v = .slice (some ⟨g, o_, none⟩) ops.length c1
            | 2 => v = .int .i64 (k : Int)
            | 3 => v = .pointer (some ⟨g, o_ + k * 4, none⟩)
            | 4 => v = .agg (ov op)
            | 5 => v = .agg (idc ix.a ix.b ix.c)
            | 6 => ∃ vr vn, v = .tuple #[vr, vn] ∧ XsAt x vr (nxtL l op ix) ∧ NoS X0.heap.size (vdO l op ix) op vn x
            | 7 => ∃ vr vn, v = .tuple #[vr, vn] ∧ XsAt x vr (nxtL l op ix) ∧ NoS X0.heap.size (vdO l op ix) op vn x
            | 8 => XsAt x v (nxtL l op ix)
            | 9 => NoS X0.heap.size (vdO l op ix) op v x
            | 11 => XsAt x v (nxtL l op ix)
            | _ => True) (fun i => match i with | 10 => some (36, 3) | _ => none) (fun i => match i with | 12 => some (10, 9) | _ => none) ?_ ?_ ?_ ?_ ?_ ?_ ?_
          · intro kk f s h
            match kk, h with
            | 12, h => cases h; exact ⟨rfl, (by intro h; cases h), rfl, rfl, _, _, _, _, _, ⟨10, .data⟩, ⟨9, .data⟩, rfl, rfl, rfl, rfl, rfl, (by simp), rfl, rfl, (by simp), rfl, rfl⟩
            | 0, h | 1, h | 2, h | 3, h | 4, h | 5, h | 6, h | 7, h | 8, h | 9, h | 10, h | 11, h => cases h
            | m + 13, h => cases h
          · intro i t n h
            match i, h with
            | 10, h => rfl
            | 0, h | 1, h | 2, h | 3, h | 4, h | 5, h | 6, h | 7, h | 8, h | 9, h | 11, h | 12, h => cases h
            | m + 13, h => cases h
          · intro p q f s s' h1 h2
            have e1 : (p = 12 ∧ f = 10) := by
              match p, h1 with
              | 12, h => cases h; simp
              | 0, h | 1, h | 2, h | 3, h | 4, h | 5, h | 6, h | 7, h | 8, h | 9, h | 10, h | 11, h => cases h
              | m + 13, h => cases h
            have e2 : (q = 12 ∧ f = 10) := by
              match q, h2 with
              | 12, h => cases h; simp
              | 0, h | 1, h | 2, h | 3, h | 4, h | 5, h | 6, h | 7, h | 8, h | 9, h | 10, h | 11, h => cases h
              | m + 13, h => cases h
            omega
          · intro i o ho hA hK q x vals S hX hS hdep hoth
            have t7 : q.tmps[7]? = some (.slice a7 l.length c7) := by rw [hoth 7 (by kernel_rfl)]; rfl
            have t1 : q.tmps[1]? = some (.slice (some ⟨g, o_, none⟩) ops.length c1) := by rw [hoth 1 (by kernel_rfl)]; rfl
            have t10 : q.tmps[10]? = some (.int .i64 (k : Int)) := by rw [hoth 10 (by kernel_rfl)]; rfl
            have t11 : q.tmps[11]? = some (.pointer (some ⟨wr.heap.size, 0, none⟩)) := by rw [hoth 11 (by kernel_rfl)]; rfl
            match i, ho, hA, hK with
            | 0, ho, hA, hK =>
              simp only [List.getElem?_cons_zero, Option.some.injEq] at ho
              subst ho
              unfold Oper.wp
              simp [execOp, go_sem, t7]
              exact cameF _ rfl (Below.refl _ _) (fun _ _ => rfl)
            | 1, ho, hA, hK =>
              simp only [List.getElem?_cons_succ, List.getElem?_cons_zero, Option.some.injEq] at ho
              subst ho
              unfold Oper.wp
              simp [execOp, go_sem, t1]
              exact cameF _ rfl (Below.refl _ _) (fun _ _ => rfl)
            | 2, ho, hA, hK =>
              simp only [List.getElem?_cons_succ, List.getElem?_cons_zero, Option.some.injEq] at ho
              subst ho
              unfold Oper.wp
              simp [execOp, go_sem, t10]
              exact cameF _ rfl (Below.refl _ _) (fun _ _ => rfl)
            | 3, ho, hA, hK =>
              simp only [List.getElem?_cons_succ, List.getElem?_cons_zero, Option.some.injEq] at ho
              subst ho
              obtain ⟨u1, e1⟩ := hdep ⟨1, .data⟩ (by simp) rfl _ 51 rfl rfl
              rw [show vals 1 = .slice (some ⟨g, o_, none⟩) ops.length c1 from e1 rfl rfl x (KeptP.refl _ _)] at u1
              obtain ⟨u2, e2⟩ := hdep ⟨2, .data⟩ (by simp) rfl _ 52 rfl rfl
              rw [show vals 2 = .int .i64 (k : Int) from e2 rfl rfl x (KeptP.refl _ _)] at u2
              unfold Oper.wp
              simp [execOp, go_sem, u1, u2, hki]
              exact cameF _ rfl (Below.refl _ _) (fun _ _ => rfl)
            | 4, ho, hA, hK =>
              simp only [List.getElem?_cons_succ, List.getElem?_cons_zero, Option.some.injEq] at ho
              subst ho
              obtain ⟨u3, e3⟩ := hdep ⟨3, .data⟩ (by simp) rfl _ 53 rfl rfl
              rw [show vals 3 = .pointer (some ⟨g, o_ + k * 4, none⟩) from e3 rfl rfl x (KeptP.refl _ _)] at u3
              exact opw_loadO _ rfl (by simp [Act.eval, u3]) (hce0.later hX) (cameF _ rfl (Below.refl _ _) (fun _ _ => rfl))
            | 5, ho, hA, hK =>
              simp only [List.getElem?_cons_succ, List.getElem?_cons_zero, Option.some.injEq] at ho
              subst ho
              exact opw_loadI _ rfl (by simp [Act.eval, t11]) ((rJ.later hX).in) (cameF _ rfl (Below.refl _ _) (fun _ _ => rfl))
            | 6, ho, hA, hK =>
              simp only [List.getElem?_cons_succ, List.getElem?_cons_zero, Option.some.injEq] at ho
              subst ho
              obtain ⟨u0, e0⟩ := hdep ⟨0, .data⟩ (by simp) rfl _ 50 rfl rfl
              rw [show vals 0 = .slice a7 l.length c7 from e0 rfl rfl x (KeptP.refl _ _)] at u0
              obtain ⟨u4, e4⟩ := hdep ⟨4, .data⟩ (by simp) rfl _ 54 rfl rfl
              rw [show vals 4 = .agg (ov op) from e4 rfl rfl x (KeptP.refl _ _)] at u4
              obtain ⟨u5, e5⟩ := hdep ⟨5, .data⟩ (by simp) rfl _ 55 rfl rfl
              rw [show vals 5 = .agg (idc ix.a ix.b ix.c) from e5 rfl rfl x (KeptP.refl _ _)] at u5
              unfold Oper.wp
              simp [go_sem, u0, u4, u5]
              refine (HA.out x hX).mono ?_
              rintro r x1 ⟨vr, vn, rfl, hrf, hb1⟩
              exact cameF _ rfl hb1 (fun x'' hk => ⟨vr, vn, rfl, hrf.kept hk hX.size (fun s hs => (hS s hs).1) (fun s hs => (hS s hs).2) hu7⟩)
            | 7, ho, hA, hK =>
              simp only [List.getElem?_cons_succ, List.getElem?_cons_zero, Option.some.injEq] at ho
              subst ho
              obtain ⟨u6, e6⟩ := hdep ⟨6, .data⟩ (by simp) rfl _ 56 rfl rfl
              unfold Oper.wp
              simp [execOp, go_sem, u6]
              exact cameF _ rfl (Below.refl _ _) (fun x'' hk => e6 rfl rfl x'' hk)
            | 8, ho, hA, hK =>
              simp only [List.getElem?_cons_succ, List.getElem?_cons_zero, Option.some.injEq] at ho
              subst ho
              obtain ⟨u7, e7⟩ := hdep ⟨7, .data⟩ (by simp) rfl _ 49 rfl rfl
              obtain ⟨vr, vn, q1, q2, q3⟩ := e7 rfl rfl x (KeptP.refl _ _)
              rw [show vals (Edge.on ⟨7, .data⟩) = _ from q1] at u7
              unfold Oper.wp
              simp [execOp, go_sem, u7]
              exact cameF _ rfl (Below.refl _ _) (fun x'' hk => by obtain ⟨vr', vn', q4, q5, q6⟩ := e7 rfl rfl x'' hk; rw [show vals (Edge.on ⟨7, .data⟩) = _ from q1] at q4; cases q4; exact q5)
            | 9, ho, hA, hK =>
              simp only [List.getElem?_cons_succ, List.getElem?_cons_zero, Option.some.injEq] at ho
              subst ho
              obtain ⟨u7, e7⟩ := hdep ⟨7, .data⟩ (by simp) rfl _ 49 rfl rfl
              obtain ⟨vr, vn, q1, q2, q3⟩ := e7 rfl rfl x (KeptP.refl _ _)
              rw [show vals (Edge.on ⟨7, .data⟩) = _ from q1] at u7
              unfold Oper.wp
              simp [execOp, go_sem, u7]
              exact cameF _ rfl (Below.refl _ _) (fun x'' hk => by obtain ⟨vr', vn', q4, q5, q6⟩ := e7 rfl rfl x'' hk; rw [show vals (Edge.on ⟨7, .data⟩) = _ from q1] at q4; cases q4; exact q6)
            | 10, ho, hA, hK => cases hA
            | 11, ho, hA, hK =>
              simp only [List.getElem?_cons_succ, List.getElem?_cons_zero, Option.some.injEq] at ho
              subst ho
              obtain ⟨u8, e8⟩ := hdep ⟨8, .data⟩ (by simp) rfl _ 57 rfl rfl
              unfold Oper.wp
              simp [execOp, go_sem, u8]
              exact cameF _ rfl (Below.refl _ _) (fun x'' hk => e8 rfl rfl x'' hk)
            | 12, ho, hA, hK => cases hK
            | m + 13, ho, hA, hK => simp at ho
          · intro i o t n ho hA q x
            match i, ho, hA with
            | 10, ho, hA =>
              cases hA
              simp only [List.getElem?_cons_succ, List.getElem?_cons_zero, Option.some.injEq] at ho
              subst ho
              unfold Oper.wp
              simp [execOp, go_sem]
              exact ⟨_, rfl, rfl, rfl⟩
            | 0, ho, hA | 1, ho, hA | 2, ho, hA | 3, ho, hA | 4, ho, hA | 5, ho, hA | 6, ho, hA | 7, ho, hA | 8, ho, hA | 9, ho, hA | 11, ho, hA | 12, ho, hA => cases hA
            | m + 13, ho, hA => cases hA
          · intro i o of os_ f s n g' t df ds sv ho hK hA hf hs hdf hds q x cs0 sf ss hR hg hn
            match i, ho, hK with
            | 12, ho, hK =>
              cases hK
              cases hA
              simp only [List.getElem?_cons_succ, List.getElem?_cons_zero, Option.some.injEq] at ho hf hs
              subst ho hf hs
              cases hdf
              cases hds
              obtain ⟨z0, z1, z2, z3, z4, z5, z6, rfl⟩ := NoS.form hR
              exact wp_store_row _ _ _ rfl g' ((nov z0 z1 z2 z3 z4 z5 z6)) (by simp [Act.eval, sf]) (by simp [Act.eval, ss]) _ cs0 hg no_size (by rw [hn]; rfl) (by simp [nov, Value.oneCell']) ⟨undef, (nov z0 z1 z2 z3 z4 z5 z6), rfl, rfl, rfl, rfl⟩
            | 0, ho, hK | 1, ho, hK | 2, ho, hK | 3, ho, hK | 4, ho, hK | 5, ho, hK | 6, ho, hK | 7, ho, hK | 8, ho, hK | 9, ho, hK | 10, ho, hK | 11, ho, hK => cases hK
            | m + 13, ho, hK => cases hK
          · intro vals x hX hR hF
            have hx12 : XsAt x (vals 11) (nxtL l op ix) := hR 11 (by decide) rfl rfl
            have hn9 : NoS X0.heap.size (vdO l op ix) op (vals 9) x := hR 9 (by decide) rfl rfl
            obtain ⟨b13, cs13, q13, hb13, hrow, hcs, hag⟩ := hF 10 _ _ (by decide) rfl
            have q9 := hag 12 9 (by decide) rfl
            have r13 : RowAt b13 cs13 36 x := hrow
            rw [q9] at hn9
            clear hrow hag hR hF HA
            simp only [putAll, q13, q9, List.setIfInBounds_toArray, List.set_cons_succ, List.set_cons_zero]
            generalize vals 11 = v12 at hx12 ⊢
            have hceX := hce0.later hX
            have rJX := rJ.later hX
            have hMX := hM0.later hX
            have hBX := bgo hB0 hX
            have HP := hid_of' (fun (y : World) (hy : Below x.heap.size x y) => apply_all (HL.out.below (bgo hBX hy)) (hMX.later hy) (by omega) hRo (by omega) op ix hix (by omega))
            unfold pv at HP
            have HK := hid_of' (And.intro hRo (And.intro hX7 hM))
            clear hRo hX7 hM hM0 hX0 hce0 rJ hce
            go_upto_region 12 with fail
            refine wp_region_once 7 (by kernel_rfl) (fun _ => none) (by kernel_rfl) (by kernel_rfl) (by decide) (fun i v x => match i with
              | 0 => v = .pointer (some ⟨mb, 0, none⟩)
              | 1 => v = .slice (some ⟨g, o_, none⟩) ops.length c1
              | 2 => v = .int .i64 (k : Int)
              | 3 => v = .pointer (some ⟨g, o_ + k * 4, none⟩)
              | 4 => v = .agg (ov op)
              | 5 => v = .agg (idc ix.a ix.b ix.c)
              | 6 => ErS ad (vdO l op ix) op v x ∧ Mo mb tb kb (1000000 + k * 3000 + l.length + 1) R (nxtL l op ix) x
              | _ => True) (fun _ => false) (fun _ _ _ _ h => by cases h) 6 (by decide) (fun a b => K2 tb kb a b) (fun a b => K2 tb kb a b) (fun _ _ h hb => h.trans (K2.of hb)) (fun _ h => K2.of h) (fun _ _ h k => (K2.of h).trans k) (fun _ _ k => k.size) ?_ ?_ ?_ ?_
            · intro i v x x' hR hb
              match i, hR with
              | 0, h => exact h
              | 1, h => exact h
              | 2, h => exact h
              | 3, h => exact h
              | 4, h => exact h
              | 5, h => exact h
              | 6, h => exact ⟨h.1.later hb, h.2.later hb⟩
              | m + 7, h => exact h
            · intro i v x x' hne hR hb
              match i, hne, hR with
              | 0, hne, h => exact h
              | 1, hne, h => exact h
              | 2, hne, h => exact h
              | 3, hne, h => exact h
              | 4, hne, h => exact h
              | 5, hne, h => exact h
              | 6, hne, h => exact absurd rfl hne
              | m + 7, _, h => exact h
            · intro i o hi ho q x vals hX hC hdep hoth
              have t8 : q.tmps[8]? = some (.pointer (some ⟨mb, 0, none⟩)) := by rw [hoth 8 (by kernel_rfl)]; rfl
              have t1 : q.tmps[1]? = some (.slice (some ⟨g, o_, none⟩) ops.length c1) := by rw [hoth 1 (by kernel_rfl)]; rfl
              have t10 : q.tmps[10]? = some (.int .i64 (k : Int)) := by rw [hoth 10 (by kernel_rfl)]; rfl
              have t11 : q.tmps[11]? = some (.pointer (some ⟨wr.heap.size, 0, none⟩)) := by rw [hoth 11 (by kernel_rfl)]; rfl
              match i, hi, ho, hC with
              | 0, _, ho, hC =>
                simp only [List.getElem?_cons_zero, Option.some.injEq] at ho
                subst ho
                unfold Oper.wp
                simp [execOp, go_sem, t8]
                exact cameB _ rfl (by decide) (Below.refl _ _) rfl (fun h => absurd h (by decide))
              | 1, _, ho, hC =>
                simp only [List.getElem?_cons_succ, List.getElem?_cons_zero, Option.some.injEq] at ho
                subst ho
                unfold Oper.wp
                simp [execOp, go_sem, t1]
                exact cameB _ rfl (by decide) (Below.refl _ _) rfl (fun h => absurd h (by decide))
              | 2, _, ho, hC =>
                simp only [List.getElem?_cons_succ, List.getElem?_cons_zero, Option.some.injEq] at ho
                subst ho
                unfold Oper.wp
                simp [execOp, go_sem, t10]
                exact cameB _ rfl (by decide) (Below.refl _ _) rfl (fun h => absurd h (by decide))
              | 3, _, ho, hC =>
                simp only [List.getElem?_cons_succ, List.getElem?_cons_zero, Option.some.injEq] at ho
                subst ho
                obtain ⟨u1, e1⟩ := hdep ⟨1, .data⟩ (by simp) rfl _ 60 rfl rfl
                rw [show vals 1 = .slice (some ⟨g, o_, none⟩) ops.length c1 from e1] at u1
                obtain ⟨u2, e2⟩ := hdep ⟨2, .data⟩ (by simp) rfl _ 61 rfl rfl
                rw [show vals 2 = .int .i64 (k : Int) from e2] at u2
                unfold Oper.wp
                simp [execOp, go_sem, u1, u2, hki]
                exact cameB _ rfl (by decide) (Below.refl _ _) rfl (fun h => absurd h (by decide))
              | 4, _, ho, hC =>
                simp only [List.getElem?_cons_succ, List.getElem?_cons_zero, Option.some.injEq] at ho
                subst ho
                obtain ⟨u3, e3⟩ := hdep ⟨3, .data⟩ (by simp) rfl _ 62 rfl rfl
                rw [show vals 3 = .pointer (some ⟨g, o_ + k * 4, none⟩) from e3] at u3
                exact opw_loadO _ rfl (by simp [Act.eval, u3]) (hceX.k2 hX hg1 hg2) (cameB _ rfl (by decide) (Below.refl _ _) rfl (fun h => absurd h (by decide)))
              | 5, _, ho, hC =>
                simp only [List.getElem?_cons_succ, List.getElem?_cons_zero, Option.some.injEq] at ho
                subst ho
                exact opw_loadI _ rfl (by simp [Act.eval, t11]) (rJX.in.k2 hX hj1 hj2) (cameB _ rfl (by decide) (Below.refl _ _) rfl (fun h => absurd h (by decide)))
              | 6, _, ho, hC =>
                simp only [List.getElem?_cons_succ, List.getElem?_cons_zero, Option.some.injEq] at ho
                subst ho
                obtain ⟨u0, e0⟩ := hdep ⟨0, .data⟩ (by simp) rfl _ 59 rfl rfl
                rw [show vals 0 = .pointer (some ⟨mb, 0, none⟩) from e0] at u0
                obtain ⟨u4, e4⟩ := hdep ⟨4, .data⟩ (by simp) rfl _ 63 rfl rfl
                rw [show vals 4 = .agg (ov op) from e4] at u4
                obtain ⟨u5, e5⟩ := hdep ⟨5, .data⟩ (by simp) rfl _ 64 rfl rfl
                rw [show vals 5 = .agg (idc ix.a ix.b ix.c) from e5] at u5
                unfold Oper.wp
                simp [go_sem, u0, u4, u5]
                refine (HP.out x (hC rfl)).mono ?_
                rintro r x1 ⟨ve, rfl, i1, i2, i3⟩
                exact cameX _ rfl i3 ⟨i1, i2⟩ rfl
              | m + 7, hi, _, _ => exact absurd hi (by omega)
            · intro vals2 x9 hX9 hR9 _
              obtain ⟨hE9, hM9⟩ : ErS ad (vdO l op ix) op (vals2 6) x9 ∧ Mo mb tb kb (1000000 + k * 3000 + l.length + 1) R (nxtL l op ix) x9 := hR9 6 (by decide)
              clear hR9 HP
              obtain ⟨ve, hve⟩ : ∃ ve, vals2 6 = ve := ⟨_, rfl⟩
              rw [hve] at hE9
              simp only [List.take, List.drop, putAll, hve]
              simp only [List.setIfInBounds_toArray, List.set_cons_succ, List.set_cons_zero]
              have hn9 := hn9.k2 hX9 (by omega) (by omega)
              have hx12 := hMX.xs hx12 hX9
              have r13 := r13.k2 hX9 (by omega) (by omega)
              have hB9 : Below w.heap.size w x9 := K2.below hBX hX9 (by omega) (by omega) hBX.size
              have hno := nxt_ok (op := op) HK.out.1 (by omega) hix
              have HQ := hid_of' (refused_all (HL.out.below hB9) hE9 hn9)
              clear hceX rJX hMX hE9 hn9
              go_wp2_with (first | (refine wpL_loadNo rfl _ rfl rfl r13 hcs ?_) | (go_at_call 8; refine HQ.out.mono ?_; clear HQ; rintro q w10 ⟨rfl, hb10⟩; have HE := hid_of' (elements_ok (hM9.later hb10).mv (by have := hno.2; omega)); unfold pv at HE) | (go_at_call 10; refine HE.out.mono ?_; clear HE; rintro q w11 ⟨ve1, rfl, ho11, hb11⟩; have HQ2 := hid_of' (elements_eq ho11.sl ((hx12.later (bgo hb10 hb11)).sl) (by have := hno.2; omega))) | (go_at_call 9; refine HQ2.out.mono ?_; clear HQ2; rintro q w12 ⟨rfl, hb12⟩))
              go_roundw
              case rel =>
                have hbb := bgo hb10 (bgo hb11 hb12)
                refine ⟨k + 1, nxtL l op ix, by go_num, by omega, by omega, hx12.later hbb, (hM9.later hbb).wide (by omega), ?_, by have := hno.2; omega, bgo hB9 hbb⟩
                rw [show (2 : Int) + ((k + 1 : Nat) : Int) = 2 + (k : Int) + 1 by omega]
                exact hno.1
              case measure => simp [intOf]; omega
        · have hki2 : ¬ (k : Int) < (ids.length : Int) := by omega
          obtain ⟨ix, hixx⟩ : ∃ ix : Idn, ix = ⟨9, 0, (k : Int)⟩ := ⟨_, rfl⟩
          have hix : ix.In := by subst hixx; exact ⟨show In64 9 from in64_small (by omega) (by omega), show In64 0 from in64_small (by omega) (by omega), show In64 (k : Int) from in64_small (by omega) (by omega)⟩
          have rJ : RowAt wr.heap.size (idc ix.a ix.b ix.c) 32 W9 := by subst hixx; exact rJ
          go_upto_region 11 with fail
          have hb0 := bJ
          generalize W9 = X0 at rJ hb0 ⊢
          clear hixx bJ
          have hM0 := hM.later hb0
          have hX0 := hX7.later hb0
          have hce0 := hce.later hb0
          have hB0 := bgo hB hb0
          have HA := hid_of' (fun (x : World) (hx : Below X0.heap.size X0 x) => refApply_all (hX0.later hx) hRo (by omega) op ix (by omega))
          have hu7 : ∀ k, (Value.slice a7 l.length c7).ownBlock = some k → k < X0.heap.size := hX0.lt
          have hsz0 := hb0.size
          refine wp_region_float (by kernel_rfl) (by kernel_rfl) (fun i v x => match i with
            | 0 => v = .slice a7 l.length c7
            | 1 => v = .slice (some ⟨g, o_, none⟩) ops.length c1
            | 2 => v = .int .i64 (k : Int)
            | 3 => v = .pointer (some ⟨g, o_ + k * 4, none⟩)
            | 4 => v = .agg (ov op)
            | 5 => v = .agg (idc ix.a ix.b ix.c)
            | 6 => ∃ vr vn, v = .tuple #[vr, vn] ∧ XsAt x vr (nxtL l op ix) ∧ NoS X0.heap.size (vdO l op ix) op vn x
            | 7 => ∃ vr vn, v = .tuple #[vr, vn] ∧ XsAt x vr (nxtL l op ix) ∧ NoS X0.heap.size (vdO l op ix) op vn x
            | 8 => XsAt x v (nxtL l op ix)
            | 9 => NoS X0.heap.size (vdO l op ix) op v x
            | 11 => XsAt x v (nxtL l op ix)
            | _ => True) (fun i => match i with | 10 => some (36, 3) | _ => none) (fun i => match i with | 12 => some (10, 9) | _ => none) ?_ ?_ ?_ ?_ ?_ ?_ ?_
          · intro kk f s h
            match kk, h with
            | 12, h => cases h; exact ⟨rfl, (by intro h; cases h), rfl, rfl, _, _, _, _, _, ⟨10, .data⟩, ⟨9, .data⟩, rfl, rfl, rfl, rfl, rfl, (by simp), rfl, rfl, (by simp), rfl, rfl⟩
            | 0, h | 1, h | 2, h | 3, h | 4, h | 5, h | 6, h | 7, h | 8, h | 9, h | 10, h | 11, h => cases h
            | m + 13, h => cases h
          · intro i t n h
            match i, h with
            | 10, h => rfl
            | 0, h | 1, h | 2, h | 3, h | 4, h | 5, h | 6, h | 7, h | 8, h | 9, h | 11, h | 12, h => cases h
            | m + 13, h => cases h
          · intro p q f s s' h1 h2
            have e1 : (p = 12 ∧ f = 10) := by
              match p, h1 with
              | 12, h => cases h; simp
              | 0, h | 1, h | 2, h | 3, h | 4, h | 5, h | 6, h | 7, h | 8, h | 9, h | 10, h | 11, h => cases h
              | m + 13, h => cases h
            have e2 : (q = 12 ∧ f = 10) := by
              match q, h2 with
              | 12, h => cases h; simp
              | 0, h | 1, h | 2, h | 3, h | 4, h | 5, h | 6, h | 7, h | 8, h | 9, h | 10, h | 11, h => cases h
              | m + 13, h => cases h
            omega
          · intro i o ho hA hK q x vals S hX hS hdep hoth
            have t7 : q.tmps[7]? = some (.slice a7 l.length c7) := by rw [hoth 7 (by kernel_rfl)]; rfl
            have t1 : q.tmps[1]? = some (.slice (some ⟨g, o_, none⟩) ops.length c1) := by rw [hoth 1 (by kernel_rfl)]; rfl
            have t10 : q.tmps[10]? = some (.int .i64 (k : Int)) := by rw [hoth 10 (by kernel_rfl)]; rfl
            have t11 : q.tmps[11]? = some (.pointer (some ⟨wr.heap.size, 0, none⟩)) := by rw [hoth 11 (by kernel_rfl)]; rfl
            match i, ho, hA, hK with
            | 0, ho, hA, hK =>
              simp only [List.getElem?_cons_zero, Option.some.injEq] at ho
              subst ho
              unfold Oper.wp
              simp [execOp, go_sem, t7]
              exact cameF _ rfl (Below.refl _ _) (fun _ _ => rfl)
            | 1, ho, hA, hK =>
              simp only [List.getElem?_cons_succ, List.getElem?_cons_zero, Option.some.injEq] at ho
              subst ho
              unfold Oper.wp
              simp [execOp, go_sem, t1]
              exact cameF _ rfl (Below.refl _ _) (fun _ _ => rfl)
            | 2, ho, hA, hK =>
              simp only [List.getElem?_cons_succ, List.getElem?_cons_zero, Option.some.injEq] at ho
              subst ho
              unfold Oper.wp
              simp [execOp, go_sem, t10]
              exact cameF _ rfl (Below.refl _ _) (fun _ _ => rfl)
            | 3, ho, hA, hK =>
              simp only [List.getElem?_cons_succ, List.getElem?_cons_zero, Option.some.injEq] at ho
              subst ho
              obtain ⟨u1, e1⟩ := hdep ⟨1, .data⟩ (by simp) rfl _ 51 rfl rfl
              rw [show vals 1 = .slice (some ⟨g, o_, none⟩) ops.length c1 from e1 rfl rfl x (KeptP.refl _ _)] at u1
              obtain ⟨u2, e2⟩ := hdep ⟨2, .data⟩ (by simp) rfl _ 52 rfl rfl
              rw [show vals 2 = .int .i64 (k : Int) from e2 rfl rfl x (KeptP.refl _ _)] at u2
              unfold Oper.wp
              simp [execOp, go_sem, u1, u2, hki]
              exact cameF _ rfl (Below.refl _ _) (fun _ _ => rfl)
            | 4, ho, hA, hK =>
              simp only [List.getElem?_cons_succ, List.getElem?_cons_zero, Option.some.injEq] at ho
              subst ho
              obtain ⟨u3, e3⟩ := hdep ⟨3, .data⟩ (by simp) rfl _ 53 rfl rfl
              rw [show vals 3 = .pointer (some ⟨g, o_ + k * 4, none⟩) from e3 rfl rfl x (KeptP.refl _ _)] at u3
              exact opw_loadO _ rfl (by simp [Act.eval, u3]) (hce0.later hX) (cameF _ rfl (Below.refl _ _) (fun _ _ => rfl))
            | 5, ho, hA, hK =>
              simp only [List.getElem?_cons_succ, List.getElem?_cons_zero, Option.some.injEq] at ho
              subst ho
              exact opw_loadI _ rfl (by simp [Act.eval, t11]) ((rJ.later hX).in) (cameF _ rfl (Below.refl _ _) (fun _ _ => rfl))
            | 6, ho, hA, hK =>
              simp only [List.getElem?_cons_succ, List.getElem?_cons_zero, Option.some.injEq] at ho
              subst ho
              obtain ⟨u0, e0⟩ := hdep ⟨0, .data⟩ (by simp) rfl _ 50 rfl rfl
              rw [show vals 0 = .slice a7 l.length c7 from e0 rfl rfl x (KeptP.refl _ _)] at u0
              obtain ⟨u4, e4⟩ := hdep ⟨4, .data⟩ (by simp) rfl _ 54 rfl rfl
              rw [show vals 4 = .agg (ov op) from e4 rfl rfl x (KeptP.refl _ _)] at u4
              obtain ⟨u5, e5⟩ := hdep ⟨5, .data⟩ (by simp) rfl _ 55 rfl rfl
              rw [show vals 5 = .agg (idc ix.a ix.b ix.c) from e5 rfl rfl x (KeptP.refl _ _)] at u5
              unfold Oper.wp
              simp [go_sem, u0, u4, u5]
              refine (HA.out x hX).mono ?_
              rintro r x1 ⟨vr, vn, rfl, hrf, hb1⟩
              exact cameF _ rfl hb1 (fun x'' hk => ⟨vr, vn, rfl, hrf.kept hk hX.size (fun s hs => (hS s hs).1) (fun s hs => (hS s hs).2) hu7⟩)
            | 7, ho, hA, hK =>
              simp only [List.getElem?_cons_succ, List.getElem?_cons_zero, Option.some.injEq] at ho
              subst ho
              obtain ⟨u6, e6⟩ := hdep ⟨6, .data⟩ (by simp) rfl _ 56 rfl rfl
              unfold Oper.wp
              simp [execOp, go_sem, u6]
              exact cameF _ rfl (Below.refl _ _) (fun x'' hk => e6 rfl rfl x'' hk)
            | 8, ho, hA, hK =>
              simp only [List.getElem?_cons_succ, List.getElem?_cons_zero, Option.some.injEq] at ho
              subst ho
              obtain ⟨u7, e7⟩ := hdep ⟨7, .data⟩ (by simp) rfl _ 49 rfl rfl
              obtain ⟨vr, vn, q1, q2, q3⟩ := e7 rfl rfl x (KeptP.refl _ _)
              rw [show vals (Edge.on ⟨7, .data⟩) = _ from q1] at u7
              unfold Oper.wp
              simp [execOp, go_sem, u7]
              exact cameF _ rfl (Below.refl _ _) (fun x'' hk => by obtain ⟨vr', vn', q4, q5, q6⟩ := e7 rfl rfl x'' hk; rw [show vals (Edge.on ⟨7, .data⟩) = _ from q1] at q4; cases q4; exact q5)
            | 9, ho, hA, hK =>
              simp only [List.getElem?_cons_succ, List.getElem?_cons_zero, Option.some.injEq] at ho
              subst ho
              obtain ⟨u7, e7⟩ := hdep ⟨7, .data⟩ (by simp) rfl _ 49 rfl rfl
              obtain ⟨vr, vn, q1, q2, q3⟩ := e7 rfl rfl x (KeptP.refl _ _)
              rw [show vals (Edge.on ⟨7, .data⟩) = _ from q1] at u7
              unfold Oper.wp
              simp [execOp, go_sem, u7]
              exact cameF _ rfl (Below.refl _ _) (fun x'' hk => by obtain ⟨vr', vn', q4, q5, q6⟩ := e7 rfl rfl x'' hk; rw [show vals (Edge.on ⟨7, .data⟩) = _ from q1] at q4; cases q4; exact q6)
            | 10, ho, hA, hK => cases hA
            | 11, ho, hA, hK =>
              simp only [List.getElem?_cons_succ, List.getElem?_cons_zero, Option.some.injEq] at ho
              subst ho
              obtain ⟨u8, e8⟩ := hdep ⟨8, .data⟩ (by simp) rfl _ 57 rfl rfl
              unfold Oper.wp
              simp [execOp, go_sem, u8]
              exact cameF _ rfl (Below.refl _ _) (fun x'' hk => e8 rfl rfl x'' hk)
            | 12, ho, hA, hK => cases hK
            | m + 13, ho, hA, hK => simp at ho
          · intro i o t n ho hA q x
            match i, ho, hA with
            | 10, ho, hA =>
              cases hA
              simp only [List.getElem?_cons_succ, List.getElem?_cons_zero, Option.some.injEq] at ho
              subst ho
              unfold Oper.wp
              simp [execOp, go_sem]
              exact ⟨_, rfl, rfl, rfl⟩
            | 0, ho, hA | 1, ho, hA | 2, ho, hA | 3, ho, hA | 4, ho, hA | 5, ho, hA | 6, ho, hA | 7, ho, hA | 8, ho, hA | 9, ho, hA | 11, ho, hA | 12, ho, hA => cases hA
            | m + 13, ho, hA => cases hA
          · intro i o of os_ f s n g' t df ds sv ho hK hA hf hs hdf hds q x cs0 sf ss hR hg hn
            match i, ho, hK with
            | 12, ho, hK =>
              cases hK
              cases hA
              simp only [List.getElem?_cons_succ, List.getElem?_cons_zero, Option.some.injEq] at ho hf hs
              subst ho hf hs
              cases hdf
              cases hds
              obtain ⟨z0, z1, z2, z3, z4, z5, z6, rfl⟩ := NoS.form hR
              exact wp_store_row _ _ _ rfl g' ((nov z0 z1 z2 z3 z4 z5 z6)) (by simp [Act.eval, sf]) (by simp [Act.eval, ss]) _ cs0 hg no_size (by rw [hn]; rfl) (by simp [nov, Value.oneCell']) ⟨undef, (nov z0 z1 z2 z3 z4 z5 z6), rfl, rfl, rfl, rfl⟩
            | 0, ho, hK | 1, ho, hK | 2, ho, hK | 3, ho, hK | 4, ho, hK | 5, ho, hK | 6, ho, hK | 7, ho, hK | 8, ho, hK | 9, ho, hK | 10, ho, hK | 11, ho, hK => cases hK
            | m + 13, ho, hK => cases hK
          · intro vals x hX hR hF
            have hx12 : XsAt x (vals 11) (nxtL l op ix) := hR 11 (by decide) rfl rfl
            have hn9 : NoS X0.heap.size (vdO l op ix) op (vals 9) x := hR 9 (by decide) rfl rfl
            obtain ⟨b13, cs13, q13, hb13, hrow, hcs, hag⟩ := hF 10 _ _ (by decide) rfl
            have q9 := hag 12 9 (by decide) rfl
            have r13 : RowAt b13 cs13 36 x := hrow
            rw [q9] at hn9
            clear hrow hag hR hF HA
            simp only [putAll, q13, q9, List.setIfInBounds_toArray, List.set_cons_succ, List.set_cons_zero]
            generalize vals 11 = v12 at hx12 ⊢
            have hceX := hce0.later hX
            have rJX := rJ.later hX
            have hMX := hM0.later hX
            have hBX := bgo hB0 hX
            have HP := hid_of' (fun (y : World) (hy : Below x.heap.size x y) => apply_all (HL.out.below (bgo hBX hy)) (hMX.later hy) (by omega) hRo (by omega) op ix hix (by omega))
            unfold pv at HP
            have HK := hid_of' (And.intro hRo (And.intro hX7 hM))
            clear hRo hX7 hM hM0 hX0 hce0 rJ hce
            go_upto_region 12 with fail
            refine wp_region_once 7 (by kernel_rfl) (fun _ => none) (by kernel_rfl) (by kernel_rfl) (by decide) (fun i v x => match i with
              | 0 => v = .pointer (some ⟨mb, 0, none⟩)
              | 1 => v = .slice (some ⟨g, o_, none⟩) ops.length c1
              | 2 => v = .int .i64 (k : Int)
              | 3 => v = .pointer (some ⟨g, o_ + k * 4, none⟩)
              | 4 => v = .agg (ov op)
              | 5 => v = .agg (idc ix.a ix.b ix.c)
              | 6 => ErS ad (vdO l op ix) op v x ∧ Mo mb tb kb (1000000 + k * 3000 + l.length + 1) R (nxtL l op ix) x
              | _ => True) (fun _ => false) (fun _ _ _ _ h => by cases h) 6 (by decide) (fun a b => K2 tb kb a b) (fun a b => K2 tb kb a b) (fun _ _ h hb => h.trans (K2.of hb)) (fun _ h => K2.of h) (fun _ _ h k => (K2.of h).trans k) (fun _ _ k => k.size) ?_ ?_ ?_ ?_
            · intro i v x x' hR hb
              match i, hR with
              | 0, h => exact h
              | 1, h => exact h
              | 2, h => exact h
              | 3, h => exact h
              | 4, h => exact h
              | 5, h => exact h
              | 6, h => exact ⟨h.1.later hb, h.2.later hb⟩
              | m + 7, h => exact h
            · intro i v x x' hne hR hb
              match i, hne, hR with
              | 0, hne, h => exact h
              | 1, hne, h => exact h
              | 2, hne, h => exact h
              | 3, hne, h => exact h
              | 4, hne, h => exact h
              | 5, hne, h => exact h
              | 6, hne, h => exact absurd rfl hne
              | m + 7, _, h => exact h
            · intro i o hi ho q x vals hX hC hdep hoth
              have t8 : q.tmps[8]? = some (.pointer (some ⟨mb, 0, none⟩)) := by rw [hoth 8 (by kernel_rfl)]; rfl
              have t1 : q.tmps[1]? = some (.slice (some ⟨g, o_, none⟩) ops.length c1) := by rw [hoth 1 (by kernel_rfl)]; rfl
              have t10 : q.tmps[10]? = some (.int .i64 (k : Int)) := by rw [hoth 10 (by kernel_rfl)]; rfl
              have t11 : q.tmps[11]? = some (.pointer (some ⟨wr.heap.size, 0, none⟩)) := by rw [hoth 11 (by kernel_rfl)]; rfl
              match i, hi, ho, hC with
              | 0, _, ho, hC =>
                simp only [List.getElem?_cons_zero, Option.some.injEq] at ho
                subst ho
                unfold Oper.wp
                simp [execOp, go_sem, t8]
                exact cameB _ rfl (by decide) (Below.refl _ _) rfl (fun h => absurd h (by decide))
              | 1, _, ho, hC =>
                simp only [List.getElem?_cons_succ, List.getElem?_cons_zero, Option.some.injEq] at ho
                subst ho
                unfold Oper.wp
                simp [execOp, go_sem, t1]
                exact cameB _ rfl (by decide) (Below.refl _ _) rfl (fun h => absurd h (by decide))
              | 2, _, ho, hC =>
                simp only [List.getElem?_cons_succ, List.getElem?_cons_zero, Option.some.injEq] at ho
                subst ho
                unfold Oper.wp
                simp [execOp, go_sem, t10]
                exact cameB _ rfl (by decide) (Below.refl _ _) rfl (fun h => absurd h (by decide))
              | 3, _, ho, hC =>
                simp only [List.getElem?_cons_succ, List.getElem?_cons_zero, Option.some.injEq] at ho
                subst ho
                obtain ⟨u1, e1⟩ := hdep ⟨1, .data⟩ (by simp) rfl _ 60 rfl rfl
                rw [show vals 1 = .slice (some ⟨g, o_, none⟩) ops.length c1 from e1] at u1
                obtain ⟨u2, e2⟩ := hdep ⟨2, .data⟩ (by simp) rfl _ 61 rfl rfl
                rw [show vals 2 = .int .i64 (k : Int) from e2] at u2
                unfold Oper.wp
                simp [execOp, go_sem, u1, u2, hki]
                exact cameB _ rfl (by decide) (Below.refl _ _) rfl (fun h => absurd h (by decide))
              | 4, _, ho, hC =>
                simp only [List.getElem?_cons_succ, List.getElem?_cons_zero, Option.some.injEq] at ho
                subst ho
                obtain ⟨u3, e3⟩ := hdep ⟨3, .data⟩ (by simp) rfl _ 62 rfl rfl
                rw [show vals 3 = .pointer (some ⟨g, o_ + k * 4, none⟩) from e3] at u3
                exact opw_loadO _ rfl (by simp [Act.eval, u3]) (hceX.k2 hX hg1 hg2) (cameB _ rfl (by decide) (Below.refl _ _) rfl (fun h => absurd h (by decide)))
              | 5, _, ho, hC =>
                simp only [List.getElem?_cons_succ, List.getElem?_cons_zero, Option.some.injEq] at ho
                subst ho
                exact opw_loadI _ rfl (by simp [Act.eval, t11]) (rJX.in.k2 hX hj1 hj2) (cameB _ rfl (by decide) (Below.refl _ _) rfl (fun h => absurd h (by decide)))
              | 6, _, ho, hC =>
                simp only [List.getElem?_cons_succ, List.getElem?_cons_zero, Option.some.injEq] at ho
                subst ho
                obtain ⟨u0, e0⟩ := hdep ⟨0, .data⟩ (by simp) rfl _ 59 rfl rfl
                rw [show vals 0 = .pointer (some ⟨mb, 0, none⟩) from e0] at u0
                obtain ⟨u4, e4⟩ := hdep ⟨4, .data⟩ (by simp) rfl _ 63 rfl rfl
                rw [show vals 4 = .agg (ov op) from e4] at u4
                obtain ⟨u5, e5⟩ := hdep ⟨5, .data⟩ (by simp) rfl _ 64 rfl rfl
                rw [show vals 5 = .agg (idc ix.a ix.b ix.c) from e5] at u5
                unfold Oper.wp
                simp [go_sem, u0, u4, u5]
                refine (HP.out x (hC rfl)).mono ?_
                rintro r x1 ⟨ve, rfl, i1, i2, i3⟩
                exact cameX _ rfl i3 ⟨i1, i2⟩ rfl
              | m + 7, hi, _, _ => exact absurd hi (by omega)
            · intro vals2 x9 hX9 hR9 _
              obtain ⟨hE9, hM9⟩ : ErS ad (vdO l op ix) op (vals2 6) x9 ∧ Mo mb tb kb (1000000 + k * 3000 + l.length + 1) R (nxtL l op ix) x9 := hR9 6 (by decide)
              clear hR9 HP
              obtain ⟨ve, hve⟩ : ∃ ve, vals2 6 = ve := ⟨_, rfl⟩
              rw [hve] at hE9
              simp only [List.take, List.drop, putAll, hve]
              simp only [List.setIfInBounds_toArray, List.set_cons_succ, List.set_cons_zero]
              have hn9 := hn9.k2 hX9 (by omega) (by omega)
              have hx12 := hMX.xs hx12 hX9
              have r13 := r13.k2 hX9 (by omega) (by omega)
              have hB9 : Below w.heap.size w x9 := K2.below hBX hX9 (by omega) (by omega) hBX.size
              have hno := nxt_ok (op := op) HK.out.1 (by omega) hix
              have HQ := hid_of' (refused_all (HL.out.below hB9) hE9 hn9)
              clear hceX rJX hMX hE9 hn9
              go_wp2_with (first | (refine wpL_loadNo rfl _ rfl rfl r13 hcs ?_) | (go_at_call 8; refine HQ.out.mono ?_; clear HQ; rintro q w10 ⟨rfl, hb10⟩; have HE := hid_of' (elements_ok (hM9.later hb10).mv (by have := hno.2; omega)); unfold pv at HE) | (go_at_call 10; refine HE.out.mono ?_; clear HE; rintro q w11 ⟨ve1, rfl, ho11, hb11⟩; have HQ2 := hid_of' (elements_eq ho11.sl ((hx12.later (bgo hb10 hb11)).sl) (by have := hno.2; omega))) | (go_at_call 9; refine HQ2.out.mono ?_; clear HQ2; rintro q w12 ⟨rfl, hb12⟩))
              go_roundw
              case rel =>
                have hbb := bgo hb10 (bgo hb11 hb12)
                refine ⟨k + 1, nxtL l op ix, by go_num, by omega, by omega, hx12.later hbb, (hM9.later hbb).wide (by omega), ?_, by have := hno.2; omega, bgo hB9 hbb⟩
                rw [show (2 : Int) + ((k + 1 : Nat) : Int) = 2 + (k : Int) + 1 by omega]
                exact hno.1
              case measure => simp [intOf]; omega
      · have hk6 : ¬ (k : Int) < 60 := by omega
        have LB := HL.out.below hB
        have HN := hid_of' (apply_nil LB ⟨1, 2, 120, 0⟩ ⟨0, 0, 0⟩)
        have HS := hid_of' (fun x => say_any bXform bApply 2 1 x (by decide))
        unfold ov idc at HN
        clear hX7 hM hRo
        go_wp2_with (first | (go_at_call 7; refine HN.out.mono ?_; clear HN; rintro q w9 ⟨b9, rfl, hf9, hb9⟩) | (go_at_call 11; refine (HS.out _).mono ?_; clear HS; rintro q w10 ⟨g2, g3, rfl, k1, k2, k3, k4, hb10⟩; have HQ := hid_of' (show Calls Tryz.prog 8 #[.iface 97 (.pointer (some ⟨b9, 0, none⟩)), .agg #[.int .i64 1, .slice (some ⟨g3, 0, none⟩) 1 1, .slice (some ⟨g2, 0, none⟩) 1 1]] w10 _ from refused_some (k := 0) (LB.below (bgo hb9 hb10)) (hf9.later hb10) (by decide) k3 k4)) | (go_at_call 8; refine HQ.out.mono ?_; clear HQ; rintro q w11 ⟨rfl, hb11⟩) | (go_at_call 12; refine (wakes7_ok _).mono ?_; rintro q w12 ⟨rfl, hb12⟩))
        go_ret
        exact ⟨rfl, bgo hB (bgo hb9 (bgo hb10 (bgo hb11 hb12)))⟩
    · have hki : ¬ (k : Int) < (ops.length : Int) := by omega
      have LB := HL.out.below hB
      have HN := hid_of' (apply_nil LB ⟨1, 2, 120, 0⟩ ⟨0, 0, 0⟩)
      have HS := hid_of' (fun x => say_any bXform bApply 2 1 x (by decide))
      unfold ov idc at HN
      clear hX7 hM hRo
      go_wp2_with (first | (go_at_call 7; refine HN.out.mono ?_; clear HN; rintro q w9 ⟨b9, rfl, hf9, hb9⟩) | (go_at_call 11; refine (HS.out _).mono ?_; clear HS; rintro q w10 ⟨g2, g3, rfl, k1, k2, k3, k4, hb10⟩; have HQ := hid_of' (show Calls Tryz.prog 8 #[.iface 97 (.pointer (some ⟨b9, 0, none⟩)), .agg #[.int .i64 1, .slice (some ⟨g3, 0, none⟩) 1 1, .slice (some ⟨g2, 0, none⟩) 1 1]] w10 _ from refused_some (k := 0) (LB.below (bgo hb9 hb10)) (hf9.later hb10) (by decide) k3 k4)) | (go_at_call 8; refine HQ.out.mono ?_; clear HQ; rintro q w11 ⟨rfl, hb11⟩) | (go_at_call 12; refine (wakes7_ok _).mono ?_; rintro q w12 ⟨rfl, hb12⟩))
      go_ret
      exact ⟨rfl, bgo hB (bgo hb9 (bgo hb10 (bgo hb11 hb12)))⟩
end Go.Proofs.YtjalehlmldlooaaGreatDoor
