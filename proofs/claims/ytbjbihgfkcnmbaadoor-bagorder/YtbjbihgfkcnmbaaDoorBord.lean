
/-
  barrowlaw10.BagOrder.
-/
import Derived.Test.YtbjbihgfkcnmbaaDoorBord0
namespace Go.Proofs.YtbjbihgfkcnmbaaDoor
open Go.RowKit Go.Extern.Stop Go.Stop Go.Extern
set_option maxRecDepth 100000

theorem wpL_loadNo {ops : Array Oper} {rest : List Oper} {o : Oper} {A : Act} {w : World} {Q : Exit → Act → World → Prop} (hgd : o.guard = none) (x : Operand) (ho : o.op = .load 32 x) {b : Nat} (hx : A.eval x = .pointer (some ⟨b, 0, none⟩)) {cs : Array Value} (h : RowAt b cs 32 w) (hs : cs.size = 3) (k : wpList Tryd.prog ops Q rest (A.put o.dst (.agg cs)) w) : wpList Tryd.prog ops Q (o :: rest) A w :=
  wpList_plain hgd fun _ hK => by
    have hi : (Tryd.prog.info? 32).map (·.size) = some cs.size := by rw [hs]; exact no_size
    unfold Oper.wp execOp
    simp only [ho, hx, Instr.loadAt, Instr.sureAddr, Sem.run_bind, Sem.run_pure, Result.andThen_ok, run_loadVar_in h.in Tryd.underlying32 rfl hi]
    exact hK _ _ k
set_option maxHeartbeats 16000000 in
theorem bagOrder_all {ad : Nat → Addr} {W : World} (L : Laid ad W) {v : Value} {l : List Pl} (h : SlQ W v l) (hc : ∀ a n c, v = .slice a n c → n ≤ c) {x : Opb} (hx : x.Ok W) :
    Calls Tryd.prog 6 #[v, .agg (ocb x)] W fun e w' => e = .returned (.bool true) ∧ Below W.heap.size W w' := by
  obtain ⟨i0, hi0, hz0, hz1, hz2⟩ := info_parts info_p
  have HI := hid_of' (And.intro hi0 (And.intro hz0 (And.intro hz1 hz2)))
  clear hi0 hz0 hz1 hz2
  obtain ⟨a, c, rfl⟩ := h.form
  have hcap := hc _ _ _ rfl
  obtain ⟨ra, rc, hr⟩ := hx.raw.form
  obtain ⟨xd, xi, xj, rv, raw⟩ := x
  have hin : In64 xd ∧ In64 xi ∧ In64 xj := ⟨hx.d, hx.i, hx.j⟩
  simp only at hr
  subst hr
  have HLW := hid_of' L
  have HX := hid_of' hin
  have HW := hid_of' wakes10_ok
  have r0 : RowAt W.heap.size #[.int .i64 xd, .int .i64 xi, .int .i64 xj, .slice ra raw.length rc] 43 (W.alloc (.cells #[.int .i64 xd, .int .i64 xi, .int .i64 xj, .slice ra raw.length rc] 43)) := row_new W _ _
  have hb0 := below_one W (.cells #[.int .i64 xd, .int .i64 xi, .int .i64 xj, .slice ra raw.length rc] 43)
  have hs0 : (W.alloc (.cells #[.int .i64 xd, .int .i64 xi, .int .i64 xj, .slice ra raw.length rc] 43)).heap.size = W.heap.size + 1 := World.size_alloc _ _
  clear hc hx hin
  unfold ocb
  simp only
  go_enter Tryd.func6, Tryd.ntmps6
  go_upto_region 1 with fail
  generalize W.alloc (.cells #[.int .i64 xd, .int .i64 xi, .int .i64 xj, .slice ra raw.length rc] 43) = W1 at r0 hb0 hs0 ⊢
  have HB0 := hid_of' hb0
  by_cases hl : 40 < l.length
  · have hlI : (40 : Int) < (l.length : Int) := by omega
    have hc40 : (40 : Int) ≤ (c : Int) := by omega
    go_upto_region 3 with fail
    obtain ⟨N, hN⟩ : ∃ N : Nat, N = 40 := ⟨_, rfl⟩
    have hV : Value.slice a 40 c = .slice a N c := by rw [hN]
    rw [hV]
    obtain ⟨m, hm⟩ : ∃ m, l.take 40 = m := ⟨_, rfl⟩
    have hQ : SlQ W (.slice a N c) m := by rw [← hm, hN]; exact h.take (by omega)
    have hNm : m.length = N := by rw [← hm, List.length_take]; omega
    have hN40 : N ≤ 40 := by omega
    have hNc : N ≤ c := by omega
    have hQ1 := hQ.later hb0
    clear hV hm h hl hlI hc40 hN hcap
    have HL1 := hid_of' (L.below hb0)
    have HQ := hid_of' (And.intro hQ (And.intro hQ1 hNm))
    clear hQ hQ1 L
    rcases right_split m with hall | ⟨ib, qb, hib, hbad, hto⟩
    · have HLd := hid_of' (load_ok HQ.out.2.1 100 (by decide) (by decide) (by omega) hall)
      clear hall
      go_upto_region 4 with (go_at_call 15; refine HLd.out.mono ?_; rintro e w2 ⟨B, vb, rfl, hB1, hg1, hv1, hb2⟩; clear HLd)
      have H2 := hid_of' (And.intro hg1 (And.intro hv1 (And.intro hb2 (r0.later hb2))))
      clear hg1 hv1 hb2 r0
      by_cases hN0 : N = 0
      · have hm0 : m = [] := List.eq_nil_of_length_eq_zero (by omega)
        subst hN0
        have HLen := len_is H2.out.1
        rw [show ((ldG 100 m).l.length : Int) = 0 by rw [hm0]; rfl] at HLen
        have HLn := hid_of' HLen
        clear HLen hm0
        go_wp2_with (first | (go_at_call 13; refine HLn.out.mono ?_; rintro e w3 ⟨rfl, h0⟩; obtain rfl := h0.symm) | (go_at_call 11; refine (HW.out _).mono ?_; rintro e w3 ⟨rfl, hb3⟩))
        go_ret
        exact ⟨rfl, bgo (bgo HB0.out H2.out.2.2.1) hb3⟩
      · have hN1 : ¬ (N : Int) = 0 := by omega
        obtain ⟨qz, hqz⟩ : ∃ qz, m[0]? = some qz := ⟨_, List.getElem?_eq_getElem (by omega)⟩
        have hQm : SlQ W (.slice a m.length c) m := by rw [HQ.out.2.2]; exact HQ.out.1
        obtain ⟨g0, o0, _, ha, _, _, _⟩ := hQm.at hqz
        subst ha
        obtain ⟨ps, hps, hpin⟩ := hQm.ps (by omega)
        have hpl : ps.length = N := by rw [hps.1]; exact HQ.out.2.2
        have HPs := hid_of' (And.intro hps (And.intro hpl hpin))
        obtain ⟨ix, hi⟩ : ∃ ix, wiN xi N = ix := ⟨_, rfl⟩
        obtain ⟨jx, hj⟩ : ∃ jx, wiN xj N = jx := ⟨_, rfl⟩
        obtain ⟨dd, hd⟩ : ∃ dd, wiN xd 4 = dd := ⟨_, rfl⟩
        have hiN : ix < N := by rw [← hi]; exact wiN_lt (by omega)
        have hjN : jx < N := by rw [← hj]; exact wiN_lt (by omega)
        have hd4 : dd < 4 := by rw [← hd]; exact wiN_lt (by omega)
        have HWi : Hid (∀ w, Calls Tryd.prog 17 #[.int .i64 xi, .int .i64 (N : Int)] w fun r w' => r = .returned (.int .i64 (ix : Int)) ∧ Below w.heap.size w w') := fun w => (within_is xi N w (by omega) (by omega) HX.out.2.1).mono fun _ _ ⟨h1, h2⟩ => ⟨by rw [h1, hi], by rw [h2]; exact Below.refl _ _⟩
        have HWj : Hid (∀ w, Calls Tryd.prog 17 #[.int .i64 xj, .int .i64 (N : Int)] w fun r w' => r = .returned (.int .i64 (jx : Int)) ∧ Below w.heap.size w w') := fun w => (within_is xj N w (by omega) (by omega) HX.out.2.2).mono fun _ _ ⟨h1, h2⟩ => ⟨by rw [h1, hj], by rw [h2]; exact Below.refl _ _⟩
        have HWd0 : Hid (∀ w, Calls Tryd.prog 17 #[.int .i64 xd, .int .i64 4] w fun r w' => r = .returned (.int .i64 (dd : Int)) ∧ w' = w) := fun w => by have := within_is xd 4 w (by omega) (by omega) HX.out.1; rw [hd] at this; exact this
        obtain ⟨qi, hqi⟩ : ∃ q, m[ix]? = some q := ⟨_, List.getElem?_eq_getElem (by omega)⟩
        obtain ⟨qj, hqj⟩ : ∃ q, m[jx]? = some q := ⟨_, List.getElem?_eq_getElem (by omega)⟩
        obtain ⟨pi, hpi⟩ : ∃ p, ps[ix]? = some p := ⟨_, List.getElem?_eq_getElem (by omega)⟩
        obtain ⟨pj, hpj⟩ : ∃ p, ps[jx]? = some p := ⟨_, List.getElem?_eq_getElem (by omega)⟩
        have hiI : (ix : Int) < (N : Int) := by omega
        have hjI : (jx : Int) < (N : Int) := by omega
        clear hqz hQm hps hpin hpl hi hj hd
        go_upto_region 9 with fail
        refine wp_region_tail 12 (by kernel_rfl) (fun _ => none) (by kernel_rfl) (by kernel_rfl) (by decide) (fun i v x => match i with
          | 0 => v = .pointer (some ⟨W.heap.size, 1, none⟩)
          | 1 => v = .int .i64 xi
          | 2 => v = .slice (some ⟨g0, o0, none⟩) N c
          | 3 => v = .int .i64 (N : Int)
          | 4 => v = .int .i64 (ix : Int)
          | 5 => v = .pointer (some ⟨W.heap.size, 2, none⟩)
          | 6 => v = .int .i64 xj
          | 7 => v = .slice (some ⟨g0, o0, none⟩) N c
          | 8 => v = .int .i64 (N : Int)
          | 9 => v = .int .i64 (jx : Int)
          | 10 => v = .int .i64 (ix : Int)
          | 11 => v = .int .i64 (jx : Int)
          | _ => True) (fun _ => false) (fun _ _ _ _ h => by cases h) ?_ ?_ ?_
        · intro i v x x' hR hb
          match i, hR with
          | 0, h => exact h
          | 1, h => exact h
          | 2, h => exact h
          | 3, h => exact h
          | 4, h => exact h
          | 5, h => exact h
          | 6, h => exact h
          | 7, h => exact h
          | 8, h => exact h
          | 9, h => exact h
          | 10, h => exact h
          | 11, h => exact h
          | m + 12, h => exact h
        · intro i o hi ho q x vals hX hdep hoth
          have t3 : q.tmps[3]? = some (.pointer (some ⟨W.heap.size, 0, none⟩)) := by rw [hoth 3 (by kernel_rfl)]; rfl
          have t0 : q.tmps[0]? = some (.slice (some ⟨g0, o0, none⟩) N c) := by rw [hoth 0 (by kernel_rfl)]; rfl
          match i, hi, ho with
          | 0, _, ho =>
            simp only [List.getElem?_cons_zero, Option.some.injEq] at ho
            subst ho
            unfold Oper.wp
            simp [execOp, go_sem, t3]
            exact came _ rfl (Below.refl _ _) rfl (fun h => absurd h (by decide))
          | 1, _, ho =>
            simp only [List.getElem?_cons_succ, List.getElem?_cons_zero, Option.some.injEq] at ho
            subst ho
            obtain ⟨u0, e0⟩ := hdep ⟨0, .data⟩ (by simp) rfl _ 50 rfl rfl
            rw [show vals 0 = .pointer (some ⟨W.heap.size, 1, none⟩) from e0] at u0
            have cc : x.cell? ⟨W.heap.size, 1, none⟩ = some (.int .i64 xi) := (H2.out.2.2.2.later hX).cellIs 1 rfl
            unfold Oper.wp
            simp [execOp, go_sem, u0, cc]
            exact came _ rfl (Below.refl _ _) rfl (fun h => absurd h (by decide))
          | 2, _, ho =>
            simp only [List.getElem?_cons_succ, List.getElem?_cons_zero, Option.some.injEq] at ho
            subst ho
            unfold Oper.wp
            simp [execOp, go_sem, t0]
            exact came _ rfl (Below.refl _ _) rfl (fun h => absurd h (by decide))
          | 3, _, ho =>
            simp only [List.getElem?_cons_succ, List.getElem?_cons_zero, Option.some.injEq] at ho
            subst ho
            obtain ⟨u2, e2⟩ := hdep ⟨2, .data⟩ (by simp) rfl _ 52 rfl rfl
            rw [show vals 2 = .slice (some ⟨g0, o0, none⟩) N c from e2] at u2
            unfold Oper.wp
            simp [go_sem, u2]
            exact came _ rfl (Below.refl _ _) rfl (fun h => absurd h (by decide))
          | 4, _, ho =>
            simp only [List.getElem?_cons_succ, List.getElem?_cons_zero, Option.some.injEq] at ho
            subst ho
            obtain ⟨u1, e1⟩ := hdep ⟨1, .data⟩ (by simp) rfl _ 51 rfl rfl
            rw [show vals 1 = .int .i64 xi from e1] at u1
            obtain ⟨u3, e3⟩ := hdep ⟨3, .data⟩ (by simp) rfl _ 53 rfl rfl
            rw [show vals 3 = .int .i64 (N : Int) from e3] at u3
            unfold Oper.wp
            simp [go_sem, u1, u3]
            refine (HWi.out x).mono ?_
            rintro r x1 ⟨rfl, hb1⟩
            exact came _ rfl hb1 rfl (fun h => absurd h (by decide))
          | 5, _, ho =>
            simp only [List.getElem?_cons_succ, List.getElem?_cons_zero, Option.some.injEq] at ho
            subst ho
            unfold Oper.wp
            simp [execOp, go_sem, t3]
            exact came _ rfl (Below.refl _ _) rfl (fun h => absurd h (by decide))
          | 6, _, ho =>
            simp only [List.getElem?_cons_succ, List.getElem?_cons_zero, Option.some.injEq] at ho
            subst ho
            obtain ⟨u5, e5⟩ := hdep ⟨5, .data⟩ (by simp) rfl _ 55 rfl rfl
            rw [show vals 5 = .pointer (some ⟨W.heap.size, 2, none⟩) from e5] at u5
            have cc : x.cell? ⟨W.heap.size, 2, none⟩ = some (.int .i64 xj) := (H2.out.2.2.2.later hX).cellIs 2 rfl
            unfold Oper.wp
            simp [execOp, go_sem, u5, cc]
            exact came _ rfl (Below.refl _ _) rfl (fun h => absurd h (by decide))
          | 7, _, ho =>
            simp only [List.getElem?_cons_succ, List.getElem?_cons_zero, Option.some.injEq] at ho
            subst ho
            unfold Oper.wp
            simp [execOp, go_sem, t0]
            exact came _ rfl (Below.refl _ _) rfl (fun h => absurd h (by decide))
          | 8, _, ho =>
            simp only [List.getElem?_cons_succ, List.getElem?_cons_zero, Option.some.injEq] at ho
            subst ho
            obtain ⟨u7, e7⟩ := hdep ⟨7, .data⟩ (by simp) rfl _ 57 rfl rfl
            rw [show vals 7 = .slice (some ⟨g0, o0, none⟩) N c from e7] at u7
            unfold Oper.wp
            simp [go_sem, u7]
            exact came _ rfl (Below.refl _ _) rfl (fun h => absurd h (by decide))
          | 9, _, ho =>
            simp only [List.getElem?_cons_succ, List.getElem?_cons_zero, Option.some.injEq] at ho
            subst ho
            obtain ⟨u6, e6⟩ := hdep ⟨6, .data⟩ (by simp) rfl _ 56 rfl rfl
            rw [show vals 6 = .int .i64 xj from e6] at u6
            obtain ⟨u8, e8⟩ := hdep ⟨8, .data⟩ (by simp) rfl _ 58 rfl rfl
            rw [show vals 8 = .int .i64 (N : Int) from e8] at u8
            unfold Oper.wp
            simp [go_sem, u6, u8]
            refine (HWj.out x).mono ?_
            rintro r x1 ⟨rfl, hb1⟩
            exact came _ rfl hb1 rfl (fun h => absurd h (by decide))
          | 10, _, ho =>
            simp only [List.getElem?_cons_succ, List.getElem?_cons_zero, Option.some.injEq] at ho
            subst ho
            obtain ⟨u4, e4⟩ := hdep ⟨4, .data⟩ (by simp) rfl _ 54 rfl rfl
            rw [show vals 4 = .int .i64 (ix : Int) from e4] at u4
            unfold Oper.wp
            simp [execOp, go_sem, u4]
            exact came _ rfl (Below.refl _ _) rfl (fun h => absurd h (by decide))
          | 11, _, ho =>
            simp only [List.getElem?_cons_succ, List.getElem?_cons_zero, Option.some.injEq] at ho
            subst ho
            obtain ⟨u9, e9⟩ := hdep ⟨9, .data⟩ (by simp) rfl _ 59 rfl rfl
            rw [show vals 9 = .int .i64 (jx : Int) from e9] at u9
            unfold Oper.wp
            simp [execOp, go_sem, u9]
            exact came _ rfl (Below.refl _ _) rfl (fun h => absurd h (by decide))
          | m + 12, hi, _ => exact absurd hi (by omega)
        · intro vals w1 hB hR _
          have e10 : vals 10 = .int .i64 (ix : Int) := hR 10 (by decide)
          have e11 : vals 11 = .int .i64 (jx : Int) := hR 11 (by decide)
          clear hR
          simp only [List.drop, List.take, putAll, List.setIfInBounds_toArray, List.set_cons_succ, List.set_cons_zero, e10, e11]
          clear e10 e11 HWi HWj
          have low1 : Below W.heap.size W w1 := bgo (bgo HB0.out H2.out.2.2.1) hB
          have hbe := below_one w1 (.cells #[] 56)
          have HSo : Hid (So 4 (.slice (some ⟨g0, o0, none⟩) N c) N (pcells ps) (w1.alloc (.cells #[] 56))) := by
            have hso := so_rest HPs.out.2.2 0 c
            rw [Nat.zero_mul, Nat.add_zero, Nat.sub_zero, List.drop_zero, HPs.out.2.1] at hso
            exact hso.later (bgo low1 hbe)
          have HBa := hid_of' (And.intro hB low1)
          clear hB low1 hbe
          go_upto_region 11 with (at_builtin; refine wpL_app0 (P := Tryd.prog) rfl _ _ 45 rfl 56 i0 _ 4 48 Tryd.underlying45 HI.out.1 HI.out.2.1 HI.out.2.2.1 HI.out.2.2.2 rfl rfl rfl (row_new w1 _ _) HSo.out (pcells_one ps HPs.out.1.ones) (by unfold maxLen; omega) (by omega) ?_; intro u w4 hu1 hu2 hu3)
          obtain ⟨ua, cu, hu, hcu, _⟩ := hu1.form
          subst hu
          obtain ⟨G, hG⟩ := hu1.some (by omega)
          subst hG
          rw [World.size_alloc] at hu3
          obtain ⟨s1, hs1⟩ : ∃ s1, w1.heap.size = s1 := ⟨_, rfl⟩
          have hGs : s1 ≤ G := by have := hu3 G rfl; omega
          have hb14 := bgo (below_one w1 (.cells #[] 56)) hu2
          have hBs : B < s1 := by have := (H2.out.1.lies.later HBa.out.1).lt; omega
          have hvs : ∀ k, vb.ownBlock = some k → k < s1 ∧ W.heap.size < k := fun k hk => by
            have := (H2.out.1.row.later HBa.out.1).lt k hk
            have := H2.out.2.1 k hk
            omega
          have hBW : W.heap.size < B := by omega
          have hbg4 : BgAt B vb (ldG 100 m) (fun k => k < s1) w4 := ((H2.out.1.later HBa.out.1).bne.later hb14).mono (fun k hk _ => by have := hk.2.1; omega)
          have low4 := bgo HBa.out.2 hb14
          have r4 := (H2.out.2.2.2.later HBa.out.1).later hb14
          have d0 : w4.cell? ⟨W.heap.size, 0, none⟩ = some (.int .i64 xd) := r4.cellIs 0 rfl
          have H4 := hid_of' (And.intro hbg4 (And.intro hu1 (And.intro r4 (And.intro low4 hvs))))
          have HWd := hid_of' (HWd0.out w4)
          clear hu1 hu2 hu3 hb14 hvs hbg4 low4 r4 HBa HSo H2 HWd0 hs1
          rcases (show dd = 0 ∨ dd = 1 ∨ dd = 2 ∨ dd = 3 by omega) with rfl | rfl | rfl | rfl
          ·
            have HK := hid_of' (deliver_ok H4.out.1 (ix := ix) (q := qi) hqi)
            go_upto_region 17 with (first | (go_at_call 17; refine HWd.out.mono ?_; rintro e w2_ ⟨rfl, h0⟩; obtain rfl := h0.symm) | (go_at_call 19; refine HK.out.mono ?_; rintro e w5 ⟨p5, v5, rfl, hp5, hg5, ha5, hc5⟩; clear HK; have H5 := hid_of' (And.intro hp5 (And.intro hg5 (And.intro ha5 hc5))); have HP5 : p5.b.oneCell' = true := hp5.b.sl.one; clear hp5 hg5 ha5 hc5) | (refine wpL_stNewP (p := p5) rfl _ _ rfl rfl rfl rfl rfl rfl HP5 ?_; go_simp))
            have rp := row_new w5 (pcv p5) 56
            have hb6 := below_one w5 (.cells (pcv p5) 56)
            have hpr := H5.out.1.r.later hb6
            obtain ⟨g5, hg5⟩ : ∃ g5 : Bg, { (ldG 100 m) with arr := wrap64 ((ldG 100 m).arr + 1), l := (ldG 100 m).l.eraseIdx ix } = g5 := ⟨_, rfl⟩
            have hgl : g5.l = m.eraseIdx ix := by rw [← hg5]; rfl
            have hbg := H5.out.2.1
            rw [hg5] at hbg
            have hbg6 := hbg.later hb6
            have hv5 : ∀ k, v5.ownBlock = some k → ¬ k = G ∧ W.heap.size < k := fun k hk => by
              rcases H5.out.2.2.1 k hk with q | q
              · have := H4.out.2.2.2.2 k q; omega
              · have := H4.out.2.1.lt G rfl; omega
            have hC4 := H5.out.2.2.2
            have hRw := (H4.out.2.1.ch hC4 (fun k hk e => by have hkG : G = k := Option.some.inj hk; subst hkG; exact e.elim (fun e => by omega) (fun e => by have := H4.out.2.2.2.2 _ e; omega))).later hb6
            have low5 : Below W.heap.size W w5 := H4.out.2.2.2.1.trans (hC4.below (fun s hs e => by exact e.elim (fun e => by omega) (fun e => by have := H4.out.2.2.2.2 _ e; omega)) H4.out.2.2.2.1.size)
            have low6 := bgo low5 hb6
            clear d0 H4 H5 hbg hC4 low5 hg5 HWd
            generalize w5.alloc (.cells (pcv p5) 56) = w6 at rp hb6 hpr hbg6 hRw low6 ⊢
            have HL1_ : ∀ x, (∃ s : Wld w6, x = wOf s) → CsIn w5.heap.size 0 (pcv p5) x := rp.in.cls
            have HL2_ : ∀ x, (∃ s : Wld w6, x = wOf s) → CsIn g0 (o0 + ix * 4) (pcv pi) x := ((HPs.out.2.2 ix pi hpi).later low6).cls
            have HPQ := hid_of' (And.intro hpr ((HPs.out.1.2 ix pi qi hpi hqi).1.later low6))
            have H6 := hid_of' (And.intro hbg6 (And.intro hv5 (And.intro hRw (And.intro low6 hgl))))
            have hB := Below.refl w6.heap.size w6
            clear rp hb6 hpr hbg6 hv5 hRw low6 hgl
            refine wp_region_cls (by kernel_rfl) (by kernel_rfl) ?_
            repeat (first | go_big_quiet_skip | (go_big_quiet_want; first | (refine quiet_loadP _ rfl rfl HL1_ ?_; simp only [Act.put, List.setIfInBounds_toArray, List.set_cons_succ, List.set_cons_zero]; go_big_quiet_on) | (refine quiet_loadP _ rfl rfl HL2_ ?_; simp only [Act.put, List.setIfInBounds_toArray, List.set_cons_succ, List.set_cons_zero]; go_big_quiet_on) | (go_big_quiet_op; first | go_big_quiet_on | go_big_quiet_call ((go_at_call 20; exact cls_of (parcel_eq (HPQ.out.1.later (wOf_below _)) (HPQ.out.2.later (wOf_below _))))))))
            refine wpQuiet_nil ?_
            rintro w1 ⟨s1, e1⟩
            have hb1 := wOf_below s1
            rw [← e1] at hb1
            clear e1 s1
            replace hB := bgo hB hb1
            clear hb1
            have HG : Hid (BgAt B v5 g5 (fun k => k < s1) w1 ∧ (∀ k, v5.ownBlock = some k → ¬ k = G ∧ W.heap.size < k) ∧ Rw 56 4 (.slice (some ⟨G, 0, none⟩) N cu) N (pcells ps) w1 ∧ Below W.heap.size W w1 ∧ g5.l = m.eraseIdx ix) := ⟨H6.out.1.later hB, H6.out.2.1, H6.out.2.2.1.later hB, bgo H6.out.2.2.2.1 hB, H6.out.2.2.2.2⟩
            clear H6 hB HL1_ HL2_ HPQ
            go_upto_region 19 with fail
            have HR : Hid (Rw 56 4 (.slice (some ⟨G, 0, none⟩) ix cu) ix (pcells (ps.take ix)) w1 ∧ (∀ y ∈ pcells (ps.drop (ix + 1)), y.oneCell' = true) ∧ ix + (N - (ix + 1)) ≤ maxLen ∧ (ix + (N - (ix + 1))) * 48 ≤ 140737488355328) := ⟨HG.out.2.2.1.first (by omega) (by omega) (Nat.le_refl _), pcells_one _ (fun p hp => HPs.out.1.ones p (List.mem_of_mem_drop hp)), by unfold maxLen; omega, by omega⟩
            have HS : Hid (So 4 (.slice (if c = ix + 1 then some ⟨g0, o0, none⟩ else some ⟨g0, o0 + (ix + 1) * 4, none⟩) (N - (ix + 1)) (c - (ix + 1))) (N - (ix + 1)) (pcells (ps.drop (ix + 1))) w1) := by
              by_cases ha : c = ix + 1
              · rw [if_pos ha]
                exact ⟨by rw [pcells_len, List.length_drop, HPs.out.2.1], .inl ⟨by omega, _, _, by rw [show N - (ix + 1) = 0 by omega]⟩⟩
              · rw [if_neg ha]
                have := (so_rest HPs.out.2.2 (ix + 1) (c - (ix + 1))).later HG.out.2.2.2.1
                rw [HPs.out.2.1] at this
                exact this
            obtain ⟨zs, hzs⟩ : ∃ zs, ps.eraseIdx ix = zs := ⟨_, rfl⟩
            obtain ⟨M9, hM9⟩ : ∃ M9, N - 1 = M9 := ⟨_, rfl⟩
            have HE : Hid (∀ v' x', Rw 56 4 v' (ix + (N - (ix + 1))) (pcells (ps.take ix) ++ pcells (ps.drop (ix + 1))) x' → Rw 56 4 v' M9 (pcells zs) x') := fun v' x' hr => by
              rw [← pcells_app, ← List.eraseIdx_eq_take_drop_succ, hzs, show ix + (N - (ix + 1)) = M9 by omega] at hr
              exact hr
            have HZs := hid_of' (And.intro hzs hM9)
            have k1 : (ix : Int) ≤ (cu : Int) := by omega
            have k2 : (0 : Int) ≤ (ix : Int) := by omega
            have k3 : (ix : Int) + 1 ≤ (N : Int) := by omega
            have k4 : (N : Int) ≤ (c : Int) := by omega
            have k5 : 0 ≤ (ix : Int) + 1 := by omega
            have kw : IntKind.i64.wrap ((ix : Int) + 1) = (ix : Int) + 1 := by rw [IntKind.wrap_i64]; omega
            clear hzs hM9
            refine wp_region_onceN 8 (by kernel_rfl) (fun _ => none) (by kernel_rfl) (by kernel_rfl) (by decide) (fun i v x => match i with
              | 0 => v = .slice (some ⟨G, 0, none⟩) N cu
              | 1 => v = .int .i64 (ix : Int)
              | 2 => v = .slice (some ⟨G, 0, none⟩) ix cu
              | 3 => v = .slice (some ⟨g0, o0, none⟩) N c
              | 4 => v = .int .i64 (ix : Int)
              | 5 => v = .int .i64 ((ix : Int) + 1)
              | 6 => v = .slice (if c = ix + 1 then some ⟨g0, o0, none⟩ else some ⟨g0, o0 + (ix + 1) * 4, none⟩) (N - (ix + 1)) (c - (ix + 1))
              | 7 => Rw 56 4 v M9 (pcells zs) x ∧ At' w1 (.slice (some ⟨G, 0, none⟩) N cu) v
              | _ => True) (fun _ => false) (fun _ _ _ _ h => by cases h) 7 (by decide) (fun a b => World.grownBy a b (some G)) (fun a b => World.grownBy a b (some G)) (fun _ _ g h => grown_later g h) (fun _ h => grown_of h) (fun _ _ h g => grown_first h g) (fun _ _ g => g.size) ?_ ?_ ?_ ?_
            · intro i v x x' hR hb
              match i, hR with
              | 0, h => exact h
              | 1, h => exact h
              | 2, h => exact h
              | 3, h => exact h
              | 4, h => exact h
              | 5, h => exact h
              | 6, h => exact h
              | 7, h => exact ⟨h.1.later hb, h.2⟩
              | m + 8, h => exact h
            · intro i v x x' hne hR hb
              match i, hne, hR with
              | 0, hne, h => exact h
              | 1, hne, h => exact h
              | 2, hne, h => exact h
              | 3, hne, h => exact h
              | 4, hne, h => exact h
              | 5, hne, h => exact h
              | 6, hne, h => exact h
              | 7, hne, h => exact absurd rfl hne
              | m + 8, _, h => exact h
            · intro i o hi ho q x vals hX hC hdep hoth
              have t11 : q.tmps[11]? = some (.slice (some ⟨G, 0, none⟩) N cu) := by rw [hoth 11 (by kernel_rfl)]; rfl
              have t9 : q.tmps[9]? = some (.int .i64 (ix : Int)) := by rw [hoth 9 (by kernel_rfl)]; rfl
              have t0 : q.tmps[0]? = some (.slice (some ⟨g0, o0, none⟩) N c) := by rw [hoth 0 (by kernel_rfl)]; rfl
              match i, hi, ho, hC with
              | 0, _, ho, hC =>
                simp only [List.getElem?_cons_zero, Option.some.injEq] at ho
                subst ho
                unfold Oper.wp
                simp [execOp, go_sem, t11]
                exact cameB _ rfl (by decide) (Below.refl _ _) rfl (fun h => absurd h (by decide))
              | 1, _, ho, hC =>
                simp only [List.getElem?_cons_succ, List.getElem?_cons_zero, Option.some.injEq] at ho
                subst ho
                unfold Oper.wp
                simp [execOp, go_sem, t9]
                exact cameB _ rfl (by decide) (Below.refl _ _) rfl (fun h => absurd h (by decide))
              | 2, _, ho, hC =>
                simp only [List.getElem?_cons_succ, List.getElem?_cons_zero, Option.some.injEq] at ho
                subst ho
                obtain ⟨u0, e0⟩ := hdep ⟨0, .data⟩ (by simp) rfl _ 104 rfl rfl
                rw [show vals 0 = .slice (some ⟨G, 0, none⟩) N cu from e0] at u0
                obtain ⟨u1, e1⟩ := hdep ⟨1, .data⟩ (by simp) rfl _ 105 rfl rfl
                rw [show vals 1 = .int .i64 (ix : Int) from e1] at u1
                unfold Oper.wp
                simp [execOp, go_sem, u0, u1, k1, k2]
                exact cameB _ rfl (by decide) (Below.refl _ _) rfl (fun h => absurd h (by decide))
              | 3, _, ho, hC =>
                simp only [List.getElem?_cons_succ, List.getElem?_cons_zero, Option.some.injEq] at ho
                subst ho
                unfold Oper.wp
                simp [execOp, go_sem, t0]
                exact cameB _ rfl (by decide) (Below.refl _ _) rfl (fun h => absurd h (by decide))
              | 4, _, ho, hC =>
                simp only [List.getElem?_cons_succ, List.getElem?_cons_zero, Option.some.injEq] at ho
                subst ho
                unfold Oper.wp
                simp [execOp, go_sem, t9]
                exact cameB _ rfl (by decide) (Below.refl _ _) rfl (fun h => absurd h (by decide))
              | 5, _, ho, hC =>
                simp only [List.getElem?_cons_succ, List.getElem?_cons_zero, Option.some.injEq] at ho
                subst ho
                obtain ⟨u4, e4⟩ := hdep ⟨4, .data⟩ (by simp) rfl _ 108 rfl rfl
                rw [show vals 4 = .int .i64 (ix : Int) from e4] at u4
                unfold Oper.wp
                simp [execOp, go_sem, u4, kw]
                exact cameB _ rfl (by decide) (Below.refl _ _) rfl (fun h => absurd h (by decide))
              | 6, _, ho, hC =>
                simp only [List.getElem?_cons_succ, List.getElem?_cons_zero, Option.some.injEq] at ho
                subst ho
                obtain ⟨u3, e3⟩ := hdep ⟨3, .data⟩ (by simp) rfl _ 107 rfl rfl
                rw [show vals 3 = .slice (some ⟨g0, o0, none⟩) N c from e3] at u3
                obtain ⟨u5, e5⟩ := hdep ⟨5, .data⟩ (by simp) rfl _ 109 rfl rfl
                rw [show vals 5 = .int .i64 ((ix : Int) + 1) from e5] at u5
                unfold Oper.wp
                simp [execOp, go_sem, u3, u5, k3, k5]
                exact cameB _ rfl (by decide) (Below.refl _ _) rfl (fun h => absurd h (by decide))
              | 7, _, ho, hC =>
                simp only [List.getElem?_cons_succ, List.getElem?_cons_zero, Option.some.injEq] at ho
                subst ho
                obtain ⟨u2, e2⟩ := hdep ⟨2, .data⟩ (by simp) rfl _ 106 rfl rfl
                rw [show vals 2 = .slice (some ⟨G, 0, none⟩) ix cu from e2] at u2
                obtain ⟨u6, e6⟩ := hdep ⟨6, .data⟩ (by simp) rfl _ 110 rfl rfl
                rw [show vals 6 = .slice (if c = ix + 1 then some ⟨g0, o0, none⟩ else some ⟨g0, o0 + (ix + 1) * 4, none⟩) (N - (ix + 1)) (c - (ix + 1)) from e6] at u6
                have hb := hC (.inl rfl)
                refine opw_app (P := Tryd.prog) _ _ 45 rfl 56 i0 _ 4 48 Tryd.underlying45 HI.out.1 HI.out.2.1 HI.out.2.2.1 HI.out.2.2.2 rfl (by simp [Act.eval, u2]) (by simp [Act.eval, u6]) (HR.out.1.later hb) (So.later HS.out hb) HR.out.2.1 HR.out.2.2.1 HR.out.2.2.2 ?_
                intro v' x' q1 q2 q3
                exact cameX _ rfl q2 ⟨HE.out v' x' q1, fun k hk => (q3 k hk).elim (fun q => .inl q) (fun q => .inr (Nat.le_trans hb.size q))⟩ rfl
              | m + 8, hi, _, _ => exact absurd hi (by omega)
            · intro vals x hX hR _
              obtain ⟨q1, q2⟩ : Rw 56 4 (vals 7) M9 (pcells zs) x ∧ At' w1 (.slice (some ⟨G, 0, none⟩) N cu) (vals 7) := hR 7 (by decide)
              obtain ⟨xa, xc, e7, _, _⟩ := q1.form
              rw [e7] at q1 q2
              have gx := grown_ch hX
              have hBz : BgAt B v5 g5 (fun k => k < s1) x := HG.out.1.ch gx (fun e => by have := Option.some.inj e; omega) (fun k hk e => (HG.out.2.1 k hk).1 (Option.some.inj e).symm) (fun k hk e => by have := Option.some.inj e; omega)
              have low1 := HG.out.2.2.2.1
              have lowz : Below W.heap.size W x := low1.trans (gx.below (fun s hs e => by have := Option.some.inj e; omega) low1.size)
              have hgl := HG.out.2.2.2.2
              have hmN := HQ.out.2.2
              have hM := HZs.out.2
              have hll : (m.eraseIdx ix).length = M9 := by rw [List.length_eraseIdx_of_lt (by omega)]; omega
              have hWz : SlQ x (.slice xa M9 xc) g5.l := by
                rw [hgl]
                refine SlQ.of_rw (ps := zs) (by rw [hll]; exact q1) ?_
                rw [← HZs.out.1, List.eraseIdx_eq_take_drop_succ, List.eraseIdx_eq_take_drop_succ]
                exact ((HPs.out.1.take ix).app (HPs.out.1.drop (ix + 1))).later lowz
              have hlz : g5.l.length ≤ 1000000 := by rw [hgl, hll]; omega
              clear q1 q2 gx low1 hgl hll hR hX hmN hM
              simp only [List.drop, List.take, putAll, List.setIfInBounds_toArray, List.set_cons_succ, List.set_cons_zero, e7]
              clear e7 k1 k2 k3 k4 k5 kw HR HS HE HG
              have HAl := hid_of' (all_is hBz)
              have HZ := hid_of' (And.intro hWz (And.intro hlz lowz))
              clear hBz hWz hlz lowz
              go_wp2_with (first | (go_at_call 27; refine HAl.out.mono ?_; rintro e w8 ⟨u8, rfl, h81, h82, h83⟩; clear HAl; have H8 := hid_of' (And.intro h81 h83); clear h81 h82 h83; obtain ⟨ua8, uc8, rfl, _, _⟩ := H8.out.1.form) | (go_at_call 26; refine (parcels_eq H8.out.1.q (HZ.out.1.later H8.out.2) HZ.out.2.1).mono ?_; rintro e w9 ⟨rfl, hb9⟩) | (go_at_call 11; refine (HW.out _).mono ?_; rintro e w10 ⟨rfl, hb10⟩))
              go_ret
              exact ⟨rfl, bgo (bgo (bgo HZ.out.2.2 H8.out.2) hb9) hb10⟩
          ·
            have HK := hid_of' (drop_ok H4.out.1 (ix := ix) (q := qi) hqi)
            go_upto_region 23 with (first | (go_at_call 17; refine HWd.out.mono ?_; rintro e w2_ ⟨rfl, h0⟩; obtain rfl := h0.symm) | (go_at_call 21; refine HK.out.mono ?_; rintro e w1 ⟨v5, rfl, hg5, ha5, hc5⟩; clear HK; have H5 := hid_of' (And.intro hg5 (And.intro ha5 hc5)); clear hg5 ha5 hc5))
            obtain ⟨g5, hg5⟩ : ∃ g5 : Bg, { (ldG 100 m) with drp := wrap64 ((ldG 100 m).drp + 1), l := (ldG 100 m).l.eraseIdx ix } = g5 := ⟨_, rfl⟩
            have hgl : g5.l = m.eraseIdx ix := by rw [← hg5]; rfl
            have hbg := H5.out.1
            rw [hg5] at hbg
            have hv5 : ∀ k, v5.ownBlock = some k → ¬ k = G ∧ W.heap.size < k := fun k hk => by
              rcases H5.out.2.1 k hk with q | q
              · have := H4.out.2.2.2.2 k q; omega
              · have := H4.out.2.1.lt G rfl; omega
            have hC4 := H5.out.2.2
            have hRw := H4.out.2.1.ch hC4 (fun k hk e => by have hkG : G = k := Option.some.inj hk; subst hkG; exact e.elim (fun e => by omega) (fun e => by have := H4.out.2.2.2.2 _ e; omega))
            have low5 : Below W.heap.size W w1 := H4.out.2.2.2.1.trans (hC4.below (fun s hs e => by exact e.elim (fun e => by omega) (fun e => by have := H4.out.2.2.2.2 _ e; omega)) H4.out.2.2.2.1.size)
            have HG : Hid (BgAt B v5 g5 (fun k => k < s1) w1 ∧ (∀ k, v5.ownBlock = some k → ¬ k = G ∧ W.heap.size < k) ∧ Rw 56 4 (.slice (some ⟨G, 0, none⟩) N cu) N (pcells ps) w1 ∧ Below W.heap.size W w1 ∧ g5.l = m.eraseIdx ix) := ⟨hbg, hv5, hRw, low5, hgl⟩
            clear d0 H4 H5 hbg hC4 low5 hg5 HWd hv5 hRw hgl
            have HR : Hid (Rw 56 4 (.slice (some ⟨G, 0, none⟩) ix cu) ix (pcells (ps.take ix)) w1 ∧ (∀ y ∈ pcells (ps.drop (ix + 1)), y.oneCell' = true) ∧ ix + (N - (ix + 1)) ≤ maxLen ∧ (ix + (N - (ix + 1))) * 48 ≤ 140737488355328) := ⟨HG.out.2.2.1.first (by omega) (by omega) (Nat.le_refl _), pcells_one _ (fun p hp => HPs.out.1.ones p (List.mem_of_mem_drop hp)), by unfold maxLen; omega, by omega⟩
            have HS : Hid (So 4 (.slice (if c = ix + 1 then some ⟨g0, o0, none⟩ else some ⟨g0, o0 + (ix + 1) * 4, none⟩) (N - (ix + 1)) (c - (ix + 1))) (N - (ix + 1)) (pcells (ps.drop (ix + 1))) w1) := by
              by_cases ha : c = ix + 1
              · rw [if_pos ha]
                exact ⟨by rw [pcells_len, List.length_drop, HPs.out.2.1], .inl ⟨by omega, _, _, by rw [show N - (ix + 1) = 0 by omega]⟩⟩
              · rw [if_neg ha]
                have := (so_rest HPs.out.2.2 (ix + 1) (c - (ix + 1))).later HG.out.2.2.2.1
                rw [HPs.out.2.1] at this
                exact this
            obtain ⟨zs, hzs⟩ : ∃ zs, ps.eraseIdx ix = zs := ⟨_, rfl⟩
            obtain ⟨M9, hM9⟩ : ∃ M9, N - 1 = M9 := ⟨_, rfl⟩
            have HE : Hid (∀ v' x', Rw 56 4 v' (ix + (N - (ix + 1))) (pcells (ps.take ix) ++ pcells (ps.drop (ix + 1))) x' → Rw 56 4 v' M9 (pcells zs) x') := fun v' x' hr => by
              rw [← pcells_app, ← List.eraseIdx_eq_take_drop_succ, hzs, show ix + (N - (ix + 1)) = M9 by omega] at hr
              exact hr
            have HZs := hid_of' (And.intro hzs hM9)
            have k1 : (ix : Int) ≤ (cu : Int) := by omega
            have k2 : (0 : Int) ≤ (ix : Int) := by omega
            have k3 : (ix : Int) + 1 ≤ (N : Int) := by omega
            have k4 : (N : Int) ≤ (c : Int) := by omega
            have k5 : 0 ≤ (ix : Int) + 1 := by omega
            have kw : IntKind.i64.wrap ((ix : Int) + 1) = (ix : Int) + 1 := by rw [IntKind.wrap_i64]; omega
            clear hzs hM9
            refine wp_region_onceN 8 (by kernel_rfl) (fun _ => none) (by kernel_rfl) (by kernel_rfl) (by decide) (fun i v x => match i with
              | 0 => v = .slice (some ⟨G, 0, none⟩) N cu
              | 1 => v = .int .i64 (ix : Int)
              | 2 => v = .slice (some ⟨G, 0, none⟩) ix cu
              | 3 => v = .slice (some ⟨g0, o0, none⟩) N c
              | 4 => v = .int .i64 (ix : Int)
              | 5 => v = .int .i64 ((ix : Int) + 1)
              | 6 => v = .slice (if c = ix + 1 then some ⟨g0, o0, none⟩ else some ⟨g0, o0 + (ix + 1) * 4, none⟩) (N - (ix + 1)) (c - (ix + 1))
              | 7 => Rw 56 4 v M9 (pcells zs) x ∧ At' w1 (.slice (some ⟨G, 0, none⟩) N cu) v
              | _ => True) (fun _ => false) (fun _ _ _ _ h => by cases h) 7 (by decide) (fun a b => World.grownBy a b (some G)) (fun a b => World.grownBy a b (some G)) (fun _ _ g h => grown_later g h) (fun _ h => grown_of h) (fun _ _ h g => grown_first h g) (fun _ _ g => g.size) ?_ ?_ ?_ ?_
            · intro i v x x' hR hb
              match i, hR with
              | 0, h => exact h
              | 1, h => exact h
              | 2, h => exact h
              | 3, h => exact h
              | 4, h => exact h
              | 5, h => exact h
              | 6, h => exact h
              | 7, h => exact ⟨h.1.later hb, h.2⟩
              | m + 8, h => exact h
            · intro i v x x' hne hR hb
              match i, hne, hR with
              | 0, hne, h => exact h
              | 1, hne, h => exact h
              | 2, hne, h => exact h
              | 3, hne, h => exact h
              | 4, hne, h => exact h
              | 5, hne, h => exact h
              | 6, hne, h => exact h
              | 7, hne, h => exact absurd rfl hne
              | m + 8, _, h => exact h
            · intro i o hi ho q x vals hX hC hdep hoth
              have t11 : q.tmps[11]? = some (.slice (some ⟨G, 0, none⟩) N cu) := by rw [hoth 11 (by kernel_rfl)]; rfl
              have t9 : q.tmps[9]? = some (.int .i64 (ix : Int)) := by rw [hoth 9 (by kernel_rfl)]; rfl
              have t0 : q.tmps[0]? = some (.slice (some ⟨g0, o0, none⟩) N c) := by rw [hoth 0 (by kernel_rfl)]; rfl
              match i, hi, ho, hC with
              | 0, _, ho, hC =>
                simp only [List.getElem?_cons_zero, Option.some.injEq] at ho
                subst ho
                unfold Oper.wp
                simp [execOp, go_sem, t11]
                exact cameB _ rfl (by decide) (Below.refl _ _) rfl (fun h => absurd h (by decide))
              | 1, _, ho, hC =>
                simp only [List.getElem?_cons_succ, List.getElem?_cons_zero, Option.some.injEq] at ho
                subst ho
                unfold Oper.wp
                simp [execOp, go_sem, t9]
                exact cameB _ rfl (by decide) (Below.refl _ _) rfl (fun h => absurd h (by decide))
              | 2, _, ho, hC =>
                simp only [List.getElem?_cons_succ, List.getElem?_cons_zero, Option.some.injEq] at ho
                subst ho
                obtain ⟨u0, e0⟩ := hdep ⟨0, .data⟩ (by simp) rfl _ 118 rfl rfl
                rw [show vals 0 = .slice (some ⟨G, 0, none⟩) N cu from e0] at u0
                obtain ⟨u1, e1⟩ := hdep ⟨1, .data⟩ (by simp) rfl _ 119 rfl rfl
                rw [show vals 1 = .int .i64 (ix : Int) from e1] at u1
                unfold Oper.wp
                simp [execOp, go_sem, u0, u1, k1, k2]
                exact cameB _ rfl (by decide) (Below.refl _ _) rfl (fun h => absurd h (by decide))
              | 3, _, ho, hC =>
                simp only [List.getElem?_cons_succ, List.getElem?_cons_zero, Option.some.injEq] at ho
                subst ho
                unfold Oper.wp
                simp [execOp, go_sem, t0]
                exact cameB _ rfl (by decide) (Below.refl _ _) rfl (fun h => absurd h (by decide))
              | 4, _, ho, hC =>
                simp only [List.getElem?_cons_succ, List.getElem?_cons_zero, Option.some.injEq] at ho
                subst ho
                unfold Oper.wp
                simp [execOp, go_sem, t9]
                exact cameB _ rfl (by decide) (Below.refl _ _) rfl (fun h => absurd h (by decide))
              | 5, _, ho, hC =>
                simp only [List.getElem?_cons_succ, List.getElem?_cons_zero, Option.some.injEq] at ho
                subst ho
                obtain ⟨u4, e4⟩ := hdep ⟨4, .data⟩ (by simp) rfl _ 122 rfl rfl
                rw [show vals 4 = .int .i64 (ix : Int) from e4] at u4
                unfold Oper.wp
                simp [execOp, go_sem, u4, kw]
                exact cameB _ rfl (by decide) (Below.refl _ _) rfl (fun h => absurd h (by decide))
              | 6, _, ho, hC =>
                simp only [List.getElem?_cons_succ, List.getElem?_cons_zero, Option.some.injEq] at ho
                subst ho
                obtain ⟨u3, e3⟩ := hdep ⟨3, .data⟩ (by simp) rfl _ 121 rfl rfl
                rw [show vals 3 = .slice (some ⟨g0, o0, none⟩) N c from e3] at u3
                obtain ⟨u5, e5⟩ := hdep ⟨5, .data⟩ (by simp) rfl _ 123 rfl rfl
                rw [show vals 5 = .int .i64 ((ix : Int) + 1) from e5] at u5
                unfold Oper.wp
                simp [execOp, go_sem, u3, u5, k3, k5]
                exact cameB _ rfl (by decide) (Below.refl _ _) rfl (fun h => absurd h (by decide))
              | 7, _, ho, hC =>
                simp only [List.getElem?_cons_succ, List.getElem?_cons_zero, Option.some.injEq] at ho
                subst ho
                obtain ⟨u2, e2⟩ := hdep ⟨2, .data⟩ (by simp) rfl _ 120 rfl rfl
                rw [show vals 2 = .slice (some ⟨G, 0, none⟩) ix cu from e2] at u2
                obtain ⟨u6, e6⟩ := hdep ⟨6, .data⟩ (by simp) rfl _ 124 rfl rfl
                rw [show vals 6 = .slice (if c = ix + 1 then some ⟨g0, o0, none⟩ else some ⟨g0, o0 + (ix + 1) * 4, none⟩) (N - (ix + 1)) (c - (ix + 1)) from e6] at u6
                have hb := hC (.inl rfl)
                refine opw_app (P := Tryd.prog) _ _ 45 rfl 56 i0 _ 4 48 Tryd.underlying45 HI.out.1 HI.out.2.1 HI.out.2.2.1 HI.out.2.2.2 rfl (by simp [Act.eval, u2]) (by simp [Act.eval, u6]) (HR.out.1.later hb) (So.later HS.out hb) HR.out.2.1 HR.out.2.2.1 HR.out.2.2.2 ?_
                intro v' x' q1 q2 q3
                exact cameX _ rfl q2 ⟨HE.out v' x' q1, fun k hk => (q3 k hk).elim (fun q => .inl q) (fun q => .inr (Nat.le_trans hb.size q))⟩ rfl
              | m + 8, hi, _, _ => exact absurd hi (by omega)
            · intro vals x hX hR _
              obtain ⟨q1, q2⟩ : Rw 56 4 (vals 7) M9 (pcells zs) x ∧ At' w1 (.slice (some ⟨G, 0, none⟩) N cu) (vals 7) := hR 7 (by decide)
              obtain ⟨xa, xc, e7, _, _⟩ := q1.form
              rw [e7] at q1 q2
              have gx := grown_ch hX
              have hBz : BgAt B v5 g5 (fun k => k < s1) x := HG.out.1.ch gx (fun e => by have := Option.some.inj e; omega) (fun k hk e => (HG.out.2.1 k hk).1 (Option.some.inj e).symm) (fun k hk e => by have := Option.some.inj e; omega)
              have low1 := HG.out.2.2.2.1
              have lowz : Below W.heap.size W x := low1.trans (gx.below (fun s hs e => by have := Option.some.inj e; omega) low1.size)
              have hgl := HG.out.2.2.2.2
              have hmN := HQ.out.2.2
              have hM := HZs.out.2
              have hll : (m.eraseIdx ix).length = M9 := by rw [List.length_eraseIdx_of_lt (by omega)]; omega
              have hWz : SlQ x (.slice xa M9 xc) g5.l := by
                rw [hgl]
                refine SlQ.of_rw (ps := zs) (by rw [hll]; exact q1) ?_
                rw [← HZs.out.1, List.eraseIdx_eq_take_drop_succ, List.eraseIdx_eq_take_drop_succ]
                exact ((HPs.out.1.take ix).app (HPs.out.1.drop (ix + 1))).later lowz
              have hlz : g5.l.length ≤ 1000000 := by rw [hgl, hll]; omega
              clear q1 q2 gx low1 hgl hll hR hX hmN hM
              simp only [List.drop, List.take, putAll, List.setIfInBounds_toArray, List.set_cons_succ, List.set_cons_zero, e7]
              clear e7 k1 k2 k3 k4 k5 kw HR HS HE HG
              have HAl := hid_of' (all_is hBz)
              have HZ := hid_of' (And.intro hWz (And.intro hlz lowz))
              clear hBz hWz hlz lowz
              go_wp2_with (first | (go_at_call 27; refine HAl.out.mono ?_; rintro e w8 ⟨u8, rfl, h81, h82, h83⟩; clear HAl; have H8 := hid_of' (And.intro h81 h83); clear h81 h82 h83; obtain ⟨ua8, uc8, rfl, _, _⟩ := H8.out.1.form) | (go_at_call 26; refine (parcels_eq H8.out.1.q (HZ.out.1.later H8.out.2) HZ.out.2.1).mono ?_; rintro e w9 ⟨rfl, hb9⟩) | (go_at_call 11; refine (HW.out _).mono ?_; rintro e w10 ⟨rfl, hb10⟩))
              go_ret
              exact ⟨rfl, bgo (bgo (bgo HZ.out.2.2 H8.out.2) hb9) hb10⟩
          ·
            have HK := hid_of' (double_ok H4.out.1 (ix := ix) (q := qi) hqi (by show (m.length : Int) < 100; omega))
            go_upto_region 27 with (first | (go_at_call 17; refine HWd.out.mono ?_; rintro e w2_ ⟨rfl, h0⟩; obtain rfl := h0.symm) | (go_at_call 23; refine HK.out.mono ?_; rintro e w1 ⟨v5, rfl, hg5, ha5, hc5⟩; clear HK; have H5 := hid_of' (And.intro hg5 (And.intro ha5 hc5)); clear hg5 ha5 hc5))
            obtain ⟨g5, hg5⟩ : ∃ g5 : Bg, { (ldG 100 m) with dbl := wrap64 ((ldG 100 m).dbl + 1), l := (ldG 100 m).l ++ [qi] } = g5 := ⟨_, rfl⟩
            have hgl : g5.l = m ++ [qi] := by rw [← hg5]; rfl
            have hbg := H5.out.1
            rw [hg5] at hbg
            have hv5 : ∀ k, v5.ownBlock = some k → ¬ k = G ∧ W.heap.size < k := fun k hk => by
              rcases H5.out.2.1 k hk with q | q
              · have := H4.out.2.2.2.2 k q; omega
              · have := H4.out.2.1.lt G rfl; omega
            have hC4 := H5.out.2.2
            have hRw := H4.out.2.1.ch hC4 (fun k hk e => by have hkG : G = k := Option.some.inj hk; subst hkG; exact e.elim (fun e => by omega) (fun e => by have := H4.out.2.2.2.2 _ e; omega))
            have low5 : Below W.heap.size W w1 := H4.out.2.2.2.1.trans (hC4.below (fun s hs e => by exact e.elim (fun e => by omega) (fun e => by have := H4.out.2.2.2.2 _ e; omega)) H4.out.2.2.2.1.size)
            have HG : Hid (BgAt B v5 g5 (fun k => k < s1) w1 ∧ (∀ k, v5.ownBlock = some k → ¬ k = G ∧ W.heap.size < k) ∧ Rw 56 4 (.slice (some ⟨G, 0, none⟩) N cu) N (pcells ps) w1 ∧ Below W.heap.size W w1 ∧ g5.l = m ++ [qi]) := ⟨hbg, hv5, hRw, low5, hgl⟩
            have HPi : pi.b.oneCell' = true := (HPs.out.1.2 ix pi qi hpi hqi).1.b.one
            have HIn : Hid (CsIn g0 (o0 + ix * 4) (pcv pi) w1) := (HPs.out.2.2 ix pi hpi).later low5
            have hb6 := below_one w1 (.cells (pcv pi) 56)
            have HRw := hid_of' (And.intro (hRw.later hb6) (so_one (row_new w1 (pcv pi) 56).in))
            clear d0 H4 H5 hbg hC4 low5 hg5 HWd hv5 hRw hgl
            go_upto_region 28 with (first | (refine wpL_loadP (p := pi) rfl _ rfl rfl HIn.out ?_) | (refine wpL_one (p := pi) rfl _ rfl rfl HPi ?_) | (at_builtin; refine wpL_app (P := Tryd.prog) rfl _ _ 45 rfl 56 i0 _ 4 48 Tryd.underlying45 HI.out.1 HI.out.2.1 HI.out.2.2.1 HI.out.2.2.2 rfl rfl rfl HRw.out.1 HRw.out.2 (pcells_one [pi] (fun p' hp => by rw [List.mem_singleton] at hp; subst hp; exact HPi)) (by unfold maxLen; omega) (by omega) ?_; intro u7 x q1 q2 q3))
            obtain ⟨xa, xc, e7, _, _⟩ := q1.form
            subst e7
            have gx : Ch (fun k => some G = some k) (w1.alloc (.cells (pcv pi) 56)) x := grown_ch q2
            have hBz : BgAt B v5 g5 (fun k => k < s1) x := (HG.out.1.later hb6).ch gx (fun e => by have := Option.some.inj e; omega) (fun k hk e => (HG.out.2.1 k hk).1 (Option.some.inj e).symm) (fun k hk e => by have := Option.some.inj e; omega)
            have low1 := bgo HG.out.2.2.2.1 hb6
            have lowz : Below W.heap.size W x := low1.trans (gx.below (fun s hs e => by have := Option.some.inj e; omega) low1.size)
            have hgl := HG.out.2.2.2.2
            have hll : (m ++ [qi]).length = N + 1 := by rw [List.length_append, HQ.out.2.2]; rfl
            have hWz : SlQ x (.slice xa (N + 1) xc) g5.l := by
              rw [hgl]
              refine SlQ.of_rw (ps := ps ++ [pi]) (by rw [hll, pcells_app]; exact q1) ?_
              exact (HPs.out.1.app (PsR.one (HPs.out.1.2 ix pi qi hpi hqi).1 (HPs.out.1.2 ix pi qi hpi hqi).2)).later lowz
            have hlz : g5.l.length ≤ 1000000 := by rw [hgl, hll]; omega
            clear q1 q2 q3 gx low1 hgl hll HG HRw HIn hb6
            have HAl := hid_of' (all_is hBz)
            have HZ := hid_of' (And.intro hWz (And.intro hlz lowz))
            clear hBz hWz hlz lowz
            go_wp2_with (first | (go_at_call 27; refine HAl.out.mono ?_; rintro e w8 ⟨u8, rfl, h81, h82, h83⟩; clear HAl; have H8 := hid_of' (And.intro h81 h83); clear h81 h82 h83; obtain ⟨ua8, uc8, rfl, _, _⟩ := H8.out.1.form) | (go_at_call 26; refine (parcels_eq H8.out.1.q (HZ.out.1.later H8.out.2) HZ.out.2.1).mono ?_; rintro e w9 ⟨rfl, hb9⟩) | (go_at_call 11; refine (HW.out _).mono ?_; rintro e w10 ⟨rfl, hb10⟩))
            go_ret
            exact ⟨rfl, bgo (bgo (bgo HZ.out.2.2 H8.out.2) hb9) hb10⟩
          ·
            have HK := hid_of' (swap_ok H4.out.1 (ix := ix) (jx := jx) (qi := qi) (qj := qj) hqi hqj)
            go_upto_region 14 with (first | (go_at_call 17; refine HWd.out.mono ?_; rintro e w2_ ⟨rfl, h0⟩; obtain rfl := h0.symm) | (go_at_call 24; refine HK.out.mono ?_; rintro e w1 ⟨rfl, hg5, hc5⟩; clear HK; have H5 := hid_of' (And.intro hg5 hc5); clear hg5 hc5))
            obtain ⟨g5, hg5⟩ : ∃ g5 : Bg, { (ldG 100 m) with l := swpL (ldG 100 m).l ix jx qi qj } = g5 := ⟨_, rfl⟩
            have hgl : g5.l = swpL m ix jx qi qj := by rw [← hg5]; rfl
            have hbg := H5.out.1
            rw [hg5] at hbg
            have hv5 : ∀ k, vb.ownBlock = some k → ¬ k = G ∧ W.heap.size < k := fun k q => by have := H4.out.2.2.2.2 k q; omega
            have hC4 := H5.out.2
            have hRw := H4.out.2.1.ch hC4 (fun k hk e => by have hkG : G = k := Option.some.inj hk; subst hkG; exact e.elim (fun e => by omega) (fun e => by have := H4.out.2.2.2.2 _ e; omega))
            have low5 : Below W.heap.size W w1 := H4.out.2.2.2.1.trans (hC4.below (fun s hs e => by exact e.elim (fun e => by omega) (fun e => by have := H4.out.2.2.2.2 _ e; omega)) H4.out.2.2.2.1.size)
            have HG : Hid (BgAt B vb g5 (fun k => k < s1) w1 ∧ (∀ k, vb.ownBlock = some k → ¬ k = G ∧ W.heap.size < k) ∧ Rw 56 4 (.slice (some ⟨G, 0, none⟩) N cu) N (pcells ps) w1 ∧ Below W.heap.size W w1 ∧ g5.l = swpL m ix jx qi qj) := ⟨hbg, hv5, hRw, low5, hgl⟩
            have HPi : pi.b.oneCell' = true := (HPs.out.1.2 ix pi qi hpi hqi).1.b.one
            have HPj : pj.b.oneCell' = true := (HPs.out.1.2 jx pj qj hpj hqj).1.b.one
            have HLi : Hid (CsIn g0 (o0 + ix * 4) (pcv pi) w1) := (HPs.out.2.2 ix pi hpi).later low5
            have HLj : Hid (CsIn g0 (o0 + jx * 4) (pcv pj) w1) := (HPs.out.2.2 jx pj hpj).later low5
            clear d0 H4 H5 hbg hC4 low5 hg5 HWd hv5 hRw hgl
            refine wp_region_once 14 (by kernel_rfl) (fun _ => none) (by kernel_rfl) (by kernel_rfl) (by decide) (fun i v x => match i with
              | 0 => v = .slice (some ⟨G, 0, none⟩) N cu
              | 1 => v = .int .i64 (ix : Int)
              | 2 => v = .slice (some ⟨G, 0, none⟩) N cu
              | 3 => v = .int .i64 (jx : Int)
              | 4 => v = .slice (some ⟨g0, o0, none⟩) N c
              | 5 => v = .int .i64 (jx : Int)
              | 6 => v = .pointer (some ⟨g0, o0 + jx * 4, none⟩)
              | 7 => v = .agg (pcv pj)
              | 8 => v = .slice (some ⟨g0, o0, none⟩) N c
              | 9 => v = .int .i64 (ix : Int)
              | 10 => v = .pointer (some ⟨g0, o0 + ix * 4, none⟩)
              | 11 => v = .agg (pcv pi)
              | 12 => v = .pointer (some ⟨G, ix * 4, none⟩)
              | 13 => Rw 56 4 (.slice (some ⟨G, 0, none⟩) N cu) N (pcells (ps.set ix pj)) x
              | _ => True) (fun _ => false) (fun _ _ _ _ h => by cases h) 13 (by decide) (fun a b => World.grownBy a b (some G)) (fun a b => World.grownBy a b (some G)) (fun _ _ g h => grown_later g h) (fun _ h => grown_of h) (fun _ _ h g => grown_first h g) (fun _ _ g => g.size) ?_ ?_ ?_ ?_
            · intro i v x x' hR hb
              match i, hR with
              | 0, h => exact h
              | 1, h => exact h
              | 2, h => exact h
              | 3, h => exact h
              | 4, h => exact h
              | 5, h => exact h
              | 6, h => exact h
              | 7, h => exact h
              | 8, h => exact h
              | 9, h => exact h
              | 10, h => exact h
              | 11, h => exact h
              | 12, h => exact h
              | 13, h => exact h.later hb
              | m + 14, h => exact h
            · intro i v x x' hne hR hb
              match i, hne, hR with
              | 0, hne, h => exact h
              | 1, hne, h => exact h
              | 2, hne, h => exact h
              | 3, hne, h => exact h
              | 4, hne, h => exact h
              | 5, hne, h => exact h
              | 6, hne, h => exact h
              | 7, hne, h => exact h
              | 8, hne, h => exact h
              | 9, hne, h => exact h
              | 10, hne, h => exact h
              | 11, hne, h => exact h
              | 12, hne, h => exact h
              | 13, hne, h => exact absurd rfl hne
              | m + 14, _, h => exact h
            · intro i o hi ho q x vals hX hC hdep hoth
              have t11 : q.tmps[11]? = some (.slice (some ⟨G, 0, none⟩) N cu) := by rw [hoth 11 (by kernel_rfl)]; rfl
              have t9 : q.tmps[9]? = some (.int .i64 (ix : Int)) := by rw [hoth 9 (by kernel_rfl)]; rfl
              have t10 : q.tmps[10]? = some (.int .i64 (jx : Int)) := by rw [hoth 10 (by kernel_rfl)]; rfl
              have t0 : q.tmps[0]? = some (.slice (some ⟨g0, o0, none⟩) N c) := by rw [hoth 0 (by kernel_rfl)]; rfl
              match i, hi, ho, hC with
              | 0, _, ho, hC =>
                simp only [List.getElem?_cons_zero, Option.some.injEq] at ho
                subst ho
                unfold Oper.wp
                simp [execOp, go_sem, t11]
                exact cameB _ rfl (by decide) (Below.refl _ _) rfl (fun h => absurd h (by decide))
              | 1, _, ho, hC =>
                simp only [List.getElem?_cons_succ, List.getElem?_cons_zero, Option.some.injEq] at ho
                subst ho
                unfold Oper.wp
                simp [execOp, go_sem, t9]
                exact cameB _ rfl (by decide) (Below.refl _ _) rfl (fun h => absurd h (by decide))
              | 2, _, ho, hC =>
                simp only [List.getElem?_cons_succ, List.getElem?_cons_zero, Option.some.injEq] at ho
                subst ho
                unfold Oper.wp
                simp [execOp, go_sem, t11]
                exact cameB _ rfl (by decide) (Below.refl _ _) rfl (fun h => absurd h (by decide))
              | 3, _, ho, hC =>
                simp only [List.getElem?_cons_succ, List.getElem?_cons_zero, Option.some.injEq] at ho
                subst ho
                unfold Oper.wp
                simp [execOp, go_sem, t10]
                exact cameB _ rfl (by decide) (Below.refl _ _) rfl (fun h => absurd h (by decide))
              | 4, _, ho, hC =>
                simp only [List.getElem?_cons_succ, List.getElem?_cons_zero, Option.some.injEq] at ho
                subst ho
                unfold Oper.wp
                simp [execOp, go_sem, t0]
                exact cameB _ rfl (by decide) (Below.refl _ _) rfl (fun h => absurd h (by decide))
              | 5, _, ho, hC =>
                simp only [List.getElem?_cons_succ, List.getElem?_cons_zero, Option.some.injEq] at ho
                subst ho
                unfold Oper.wp
                simp [execOp, go_sem, t10]
                exact cameB _ rfl (by decide) (Below.refl _ _) rfl (fun h => absurd h (by decide))
              | 6, _, ho, hC =>
                simp only [List.getElem?_cons_succ, List.getElem?_cons_zero, Option.some.injEq] at ho
                subst ho
                obtain ⟨u4, e4⟩ := hdep ⟨4, .data⟩ (by simp) rfl _ 75 rfl rfl
                rw [show vals 4 = .slice (some ⟨g0, o0, none⟩) N c from e4] at u4
                obtain ⟨u5, e5⟩ := hdep ⟨5, .data⟩ (by simp) rfl _ 76 rfl rfl
                rw [show vals 5 = .int .i64 (jx : Int) from e5] at u5
                unfold Oper.wp
                simp [execOp, go_sem, u4, u5, hjI]
                exact cameB _ rfl (by decide) (Below.refl _ _) rfl (fun h => absurd h (by decide))
              | 7, _, ho, hC =>
                simp only [List.getElem?_cons_succ, List.getElem?_cons_zero, Option.some.injEq] at ho
                subst ho
                obtain ⟨u6, e6⟩ := hdep ⟨6, .data⟩ (by simp) rfl _ 77 rfl rfl
                rw [show vals 6 = .pointer (some ⟨g0, o0 + jx * 4, none⟩) from e6] at u6
                have hb := hC (.inr (by kernel_rfl))
                exact opw_loadP _ rfl (by simp [Act.eval, u6]) (HLj.out.later hb) (cameB _ rfl (by decide) (Below.refl _ _) rfl (fun h => absurd h (by decide)))
              | 8, _, ho, hC =>
                simp only [List.getElem?_cons_succ, List.getElem?_cons_zero, Option.some.injEq] at ho
                subst ho
                unfold Oper.wp
                simp [execOp, go_sem, t0]
                exact cameB _ rfl (by decide) (Below.refl _ _) rfl (fun h => absurd h (by decide))
              | 9, _, ho, hC =>
                simp only [List.getElem?_cons_succ, List.getElem?_cons_zero, Option.some.injEq] at ho
                subst ho
                unfold Oper.wp
                simp [execOp, go_sem, t9]
                exact cameB _ rfl (by decide) (Below.refl _ _) rfl (fun h => absurd h (by decide))
              | 10, _, ho, hC =>
                simp only [List.getElem?_cons_succ, List.getElem?_cons_zero, Option.some.injEq] at ho
                subst ho
                obtain ⟨u8, e8⟩ := hdep ⟨8, .data⟩ (by simp) rfl _ 79 rfl rfl
                rw [show vals 8 = .slice (some ⟨g0, o0, none⟩) N c from e8] at u8
                obtain ⟨u9, e9⟩ := hdep ⟨9, .data⟩ (by simp) rfl _ 80 rfl rfl
                rw [show vals 9 = .int .i64 (ix : Int) from e9] at u9
                unfold Oper.wp
                simp [execOp, go_sem, u8, u9, hiI]
                exact cameB _ rfl (by decide) (Below.refl _ _) rfl (fun h => absurd h (by decide))
              | 11, _, ho, hC =>
                simp only [List.getElem?_cons_succ, List.getElem?_cons_zero, Option.some.injEq] at ho
                subst ho
                obtain ⟨u10, e10⟩ := hdep ⟨10, .data⟩ (by simp) rfl _ 81 rfl rfl
                rw [show vals 10 = .pointer (some ⟨g0, o0 + ix * 4, none⟩) from e10] at u10
                have hb := hC (.inr (by kernel_rfl))
                exact opw_loadP _ rfl (by simp [Act.eval, u10]) (HLi.out.later hb) (cameB _ rfl (by decide) (Below.refl _ _) rfl (fun h => absurd h (by decide)))
              | 12, _, ho, hC =>
                simp only [List.getElem?_cons_succ, List.getElem?_cons_zero, Option.some.injEq] at ho
                subst ho
                obtain ⟨u0, e0⟩ := hdep ⟨0, .data⟩ (by simp) rfl _ 71 rfl rfl
                rw [show vals 0 = .slice (some ⟨G, 0, none⟩) N cu from e0] at u0
                obtain ⟨u1, e1⟩ := hdep ⟨1, .data⟩ (by simp) rfl _ 72 rfl rfl
                rw [show vals 1 = .int .i64 (ix : Int) from e1] at u1
                unfold Oper.wp
                simp [execOp, go_sem, u0, u1, hiI]
                exact cameB _ rfl (by decide) (Below.refl _ _) rfl (fun h => absurd h (by decide))
              | 13, _, ho, hC =>
                simp only [List.getElem?_cons_succ, List.getElem?_cons_zero, Option.some.injEq] at ho
                subst ho
                obtain ⟨u12, e12⟩ := hdep ⟨12, .data⟩ (by simp) rfl _ 83 rfl rfl
                rw [show vals 12 = .pointer (some ⟨G, ix * 4, none⟩) from e12] at u12
                obtain ⟨u7, e7⟩ := hdep ⟨7, .data⟩ (by simp) rfl _ 78 rfl rfl
                rw [show vals 7 = .agg (pcv pj) from e7] at u7
                have hb := hC (.inl rfl)
                refine opw_storeP (p := pj) _ _ rfl (by simp [Act.eval, u12]) (by simp [Act.eval, u7]) HPj ((HG.out.2.2.1.later hb).there hiN) ?_
                exact cameX _ rfl (grown_cells _ _ _ _) ((HG.out.2.2.1.later hb).put hiN pj) rfl
              | m + 14, hi, _, _ => exact absurd hi (by omega)
            · intro vals x hX hR _
              have e2 : vals 2 = .slice (some ⟨G, 0, none⟩) N cu := hR 2 (by decide)
              have e3 : vals 3 = .int .i64 (jx : Int) := hR 3 (by decide)
              have e11 : vals 11 = .agg (pcv pi) := hR 11 (by decide)
              have q1 : Rw 56 4 (.slice (some ⟨G, 0, none⟩) N cu) N (pcells (ps.set ix pj)) x := hR 13 (by decide)
              have gx := grown_ch hX
              have HY := hid_of' (And.intro q1 (And.intro (q1.there hjN) gx))
              clear q1 gx hR hX
              simp only [List.drop, List.take, putAll, List.setIfInBounds_toArray, List.set_cons_succ, List.set_cons_zero, e2, e3, e11]
              clear e2 e3 e11
              go_upto_region 28 with (refine wpL_storeP (p := pi) rfl _ _ rfl rfl rfl HPi HY.out.2.1 ?_; go_simp)
              have chz : Ch (fun k => some G = some k) w1 (x.setCells G (jx * 4) (pcv pi).toList) := Ch.cells (S := fun k => some G = some k) (.inl rfl) _ _ _ HY.out.2.2
              have q1 := HY.out.1.put hjN pi
              clear HY
              generalize x.setCells G (jx * 4) (pcv pi).toList = xz at chz q1 ⊢
              have hBz : BgAt B vb g5 (fun k => k < s1) xz := HG.out.1.ch chz (fun e => by have := Option.some.inj e; omega) (fun k hk e => (HG.out.2.1 k hk).1 (Option.some.inj e).symm) (fun k hk e => by have := Option.some.inj e; omega)
              have low1 := HG.out.2.2.2.1
              have lowz : Below W.heap.size W xz := low1.trans (chz.below (fun s hs e => by have := Option.some.inj e; omega) low1.size)
              have hgl := HG.out.2.2.2.2
              have hll : (swpL m ix jx qi qj).length = N := by unfold swpL; rw [List.length_set, List.length_set]; exact HQ.out.2.2
              have hWz : SlQ xz (.slice (some ⟨G, 0, none⟩) N cu) g5.l := by
                rw [hgl]
                refine SlQ.of_rw (ps := (ps.set ix pj).set jx pi) (by rw [hll]; exact q1) ?_
                unfold swpL
                exact ((HPs.out.1.set ix (HPs.out.1.2 jx pj qj hpj hqj).1 (HPs.out.1.2 jx pj qj hpj hqj).2).set jx (HPs.out.1.2 ix pi qi hpi hqi).1 (HPs.out.1.2 ix pi qi hpi hqi).2).later lowz
              have hlz : g5.l.length ≤ 1000000 := by rw [hgl, hll]; omega
              clear q1 chz low1 hgl hll HG HLi HLj
              have HAl := hid_of' (all_is hBz)
              have HZ := hid_of' (And.intro hWz (And.intro hlz lowz))
              clear hBz hWz hlz lowz
              go_wp2_with (first | (go_at_call 27; refine HAl.out.mono ?_; rintro e w8 ⟨u8, rfl, h81, h82, h83⟩; clear HAl; have H8 := hid_of' (And.intro h81 h83); clear h81 h82 h83; obtain ⟨ua8, uc8, rfl, _, _⟩ := H8.out.1.form) | (go_at_call 26; refine (parcels_eq H8.out.1.q (HZ.out.1.later H8.out.2) HZ.out.2.1).mono ?_; rintro e w9 ⟨rfl, hb9⟩) | (go_at_call 11; refine (HW.out _).mono ?_; rintro e w10 ⟨rfl, hb10⟩))
              go_ret
              exact ⟨rfl, bgo (bgo (bgo HZ.out.2.2 H8.out.2) hb9) hb10⟩
    · have HLd := hid_of' (load_bad HL1.out HQ.out.2.1 100 (by decide) (by decide) (by omega) ib qb hib hbad hto)
      have HBd := hid_of' (And.intro hib (And.intro hbad hto))
      clear hib hbad hto r0
      go_upto_region 4 with (go_at_call 15; refine HLd.out.mono ?_; rintro e w2 ⟨u, rfl, he2, hb2⟩; clear HLd; obtain ⟨eb, rfl, he2⟩ := he2)
      have H2 := hid_of' (And.intro he2 hb2)
      have HRf := hid_of' (refLoad_any (HQ.out.2.1.later hb2) 100 (by decide) (by decide) (by omega))
      clear he2 hb2
      go_upto_region 6 with (first | (go_at_call 16; refine HRf.out.mono ?_; rintro e w3 ⟨⟨bv, nv, rfl, hr3⟩, hb3⟩; clear HRf; (have hr3 := hr3.resolve_left (fun hh => by have := hh.1 ib qb (List.getElem?_eq_some_iff.1 HBd.out.1).1 HBd.out.1; rw [HBd.out.2.1] at this; cases this)); obtain ⟨i3, q3, hi3, hq3, ht3, rfl, gn, gn', rfl, hn1, hn2, hn3, hn4⟩ := hr3; have HN3 := hid_of' (And.intro (right_same HBd.out.1 HBd.out.2.1 HBd.out.2.2 hi3 hq3 ht3) (And.intro hn1 (And.intro hn2 (And.intro hn3 (And.intro hn4 hb3))))); clear hi3 hq3 ht3 hn1 hn2 hn3 hn4 hb3) | (refine wpL_storeNo rfl _ _ rfl rfl (code := ((5 : Nat) : Int) + 1) (a := some ⟨gn', 0, none⟩) (n := 1) (c := 1) (a' := some ⟨gn, 0, none⟩) (n' := 1) (c' := 1) rfl (row_new w3 _ _) ?_))
      have rN := (row_new w3 #[.int .i64 0, .slice none 0 0, .slice none 0 0] 32).put (nov (((5 : Nat) : Int) + 1) (some ⟨gn', 0, none⟩) 1 1 (some ⟨gn, 0, none⟩) 1 1)
      have hbN := below_row (below_one w3 (.cells #[.int .i64 0, .slice none 0 0, .slice none 0 0] 32)) (Nat.le_refl _) (nov (((5 : Nat) : Int) + 1) (some ⟨gn', 0, none⟩) 1 1 (some ⟨gn, 0, none⟩) 1 1)
      generalize (w3.alloc (.cells #[.int .i64 0, .slice none 0 0, .slice none 0 0] 32)).setRow w3.heap.size (nov (((5 : Nat) : Int) + 1) (some ⟨gn', 0, none⟩) 1 1 (some ⟨gn, 0, none⟩) 1 1) = w4 at rN hbN ⊢
      have hEr : ErrR ad (W.heap.size + 1) (some (bLoad, (ib : Int), 5)) (.iface 96 (.pointer (some ⟨eb, 0, none⟩))) w4 := ⟨eb, rfl, by have := H2.out.1.1; omega, H2.out.1.2.1, RowAt.later H2.out.1.2.2 (bgo HN3.out.2.2.2.2.2 hbN)⟩
      have hNo : NoR w2.heap.size (some (bLoad, (ib : Int), 5)) (.agg (nov (((5 : Nat) : Int) + 1) (some ⟨gn', 0, none⟩) 1 1 (some ⟨gn, 0, none⟩) 1 1)) w4 := by
        rw [HN3.out.1]
        exact ⟨gn, gn', rfl, HN3.out.2.1, HN3.out.2.2.1, HN3.out.2.2.2.1.later hbN, HN3.out.2.2.2.2.1.later hbN⟩
      have hb4 := bgo (bgo (bgo HB0.out H2.out.2) HN3.out.2.2.2.2.2) hbN
      have HRe := hid_of' (refused_is (HLW.out.below hb4) hEr hNo)
      have HRN := hid_of' rN
      have HB4 := hid_of' hb4
      clear rN hbN hEr hNo hb4
      go_wp2_with (first | (refine wpL_loadNo rfl _ rfl rfl HRN.out rfl ?_) | (go_at_call 10; refine HRe.out.mono ?_; rintro e w5 ⟨rfl, hb5⟩; clear HRe) | (go_at_call 11; refine (HW.out _).mono ?_; rintro e w6 ⟨rfl, hb6⟩))
      go_ret
      exact ⟨rfl, bgo (bgo HB4.out hb5) hb6⟩
  · have hlI : ¬ (40 : Int) < (l.length : Int) := by omega
    go_upto_region 3 with fail
    obtain ⟨N, hN⟩ : ∃ N : Nat, l.length = N := ⟨_, rfl⟩
    obtain ⟨m, hm⟩ : ∃ m, l = m := ⟨_, rfl⟩
    subst hm
    have hQ : SlQ W (.slice a N c) l := by rw [← hN]; exact h
    rw [hN]
    have hNm : l.length = N := hN
    have hN40 : N ≤ 40 := by omega
    have hNc : N ≤ c := by omega
    have hQ1 := hQ.later hb0
    clear h hl hlI hN hcap
    generalize l = m at hQ hQ1 hNm
    have HL1 := hid_of' (L.below hb0)
    have HQ := hid_of' (And.intro hQ (And.intro hQ1 hNm))
    clear hQ hQ1 L
    rcases right_split m with hall | ⟨ib, qb, hib, hbad, hto⟩
    · have HLd := hid_of' (load_ok HQ.out.2.1 100 (by decide) (by decide) (by omega) hall)
      clear hall
      go_upto_region 4 with (go_at_call 15; refine HLd.out.mono ?_; rintro e w2 ⟨B, vb, rfl, hB1, hg1, hv1, hb2⟩; clear HLd)
      have H2 := hid_of' (And.intro hg1 (And.intro hv1 (And.intro hb2 (r0.later hb2))))
      clear hg1 hv1 hb2 r0
      by_cases hN0 : N = 0
      · have hm0 : m = [] := List.eq_nil_of_length_eq_zero (by omega)
        subst hN0
        have HLen := len_is H2.out.1
        rw [show ((ldG 100 m).l.length : Int) = 0 by rw [hm0]; rfl] at HLen
        have HLn := hid_of' HLen
        clear HLen hm0
        go_wp2_with (first | (go_at_call 13; refine HLn.out.mono ?_; rintro e w3 ⟨rfl, h0⟩; obtain rfl := h0.symm) | (go_at_call 11; refine (HW.out _).mono ?_; rintro e w3 ⟨rfl, hb3⟩))
        go_ret
        exact ⟨rfl, bgo (bgo HB0.out H2.out.2.2.1) hb3⟩
      · have hN1 : ¬ (N : Int) = 0 := by omega
        obtain ⟨qz, hqz⟩ : ∃ qz, m[0]? = some qz := ⟨_, List.getElem?_eq_getElem (by omega)⟩
        have hQm : SlQ W (.slice a m.length c) m := by rw [HQ.out.2.2]; exact HQ.out.1
        obtain ⟨g0, o0, _, ha, _, _, _⟩ := hQm.at hqz
        subst ha
        obtain ⟨ps, hps, hpin⟩ := hQm.ps (by omega)
        have hpl : ps.length = N := by rw [hps.1]; exact HQ.out.2.2
        have HPs := hid_of' (And.intro hps (And.intro hpl hpin))
        obtain ⟨ix, hi⟩ : ∃ ix, wiN xi N = ix := ⟨_, rfl⟩
        obtain ⟨jx, hj⟩ : ∃ jx, wiN xj N = jx := ⟨_, rfl⟩
        obtain ⟨dd, hd⟩ : ∃ dd, wiN xd 4 = dd := ⟨_, rfl⟩
        have hiN : ix < N := by rw [← hi]; exact wiN_lt (by omega)
        have hjN : jx < N := by rw [← hj]; exact wiN_lt (by omega)
        have hd4 : dd < 4 := by rw [← hd]; exact wiN_lt (by omega)
        have HWi : Hid (∀ w, Calls Tryd.prog 17 #[.int .i64 xi, .int .i64 (N : Int)] w fun r w' => r = .returned (.int .i64 (ix : Int)) ∧ Below w.heap.size w w') := fun w => (within_is xi N w (by omega) (by omega) HX.out.2.1).mono fun _ _ ⟨h1, h2⟩ => ⟨by rw [h1, hi], by rw [h2]; exact Below.refl _ _⟩
        have HWj : Hid (∀ w, Calls Tryd.prog 17 #[.int .i64 xj, .int .i64 (N : Int)] w fun r w' => r = .returned (.int .i64 (jx : Int)) ∧ Below w.heap.size w w') := fun w => (within_is xj N w (by omega) (by omega) HX.out.2.2).mono fun _ _ ⟨h1, h2⟩ => ⟨by rw [h1, hj], by rw [h2]; exact Below.refl _ _⟩
        have HWd0 : Hid (∀ w, Calls Tryd.prog 17 #[.int .i64 xd, .int .i64 4] w fun r w' => r = .returned (.int .i64 (dd : Int)) ∧ w' = w) := fun w => by have := within_is xd 4 w (by omega) (by omega) HX.out.1; rw [hd] at this; exact this
        obtain ⟨qi, hqi⟩ : ∃ q, m[ix]? = some q := ⟨_, List.getElem?_eq_getElem (by omega)⟩
        obtain ⟨qj, hqj⟩ : ∃ q, m[jx]? = some q := ⟨_, List.getElem?_eq_getElem (by omega)⟩
        obtain ⟨pi, hpi⟩ : ∃ p, ps[ix]? = some p := ⟨_, List.getElem?_eq_getElem (by omega)⟩
        obtain ⟨pj, hpj⟩ : ∃ p, ps[jx]? = some p := ⟨_, List.getElem?_eq_getElem (by omega)⟩
        have hiI : (ix : Int) < (N : Int) := by omega
        have hjI : (jx : Int) < (N : Int) := by omega
        clear hqz hQm hps hpin hpl hi hj hd
        go_upto_region 9 with fail
        refine wp_region_tail 12 (by kernel_rfl) (fun _ => none) (by kernel_rfl) (by kernel_rfl) (by decide) (fun i v x => match i with
          | 0 => v = .pointer (some ⟨W.heap.size, 1, none⟩)
          | 1 => v = .int .i64 xi
          | 2 => v = .slice (some ⟨g0, o0, none⟩) N c
          | 3 => v = .int .i64 (N : Int)
          | 4 => v = .int .i64 (ix : Int)
          | 5 => v = .pointer (some ⟨W.heap.size, 2, none⟩)
          | 6 => v = .int .i64 xj
          | 7 => v = .slice (some ⟨g0, o0, none⟩) N c
          | 8 => v = .int .i64 (N : Int)
          | 9 => v = .int .i64 (jx : Int)
          | 10 => v = .int .i64 (ix : Int)
          | 11 => v = .int .i64 (jx : Int)
          | _ => True) (fun _ => false) (fun _ _ _ _ h => by cases h) ?_ ?_ ?_
        · intro i v x x' hR hb
          match i, hR with
          | 0, h => exact h
          | 1, h => exact h
          | 2, h => exact h
          | 3, h => exact h
          | 4, h => exact h
          | 5, h => exact h
          | 6, h => exact h
          | 7, h => exact h
          | 8, h => exact h
          | 9, h => exact h
          | 10, h => exact h
          | 11, h => exact h
          | m + 12, h => exact h
        · intro i o hi ho q x vals hX hdep hoth
          have t3 : q.tmps[3]? = some (.pointer (some ⟨W.heap.size, 0, none⟩)) := by rw [hoth 3 (by kernel_rfl)]; rfl
          have t0 : q.tmps[0]? = some (.slice (some ⟨g0, o0, none⟩) N c) := by rw [hoth 0 (by kernel_rfl)]; rfl
          match i, hi, ho with
          | 0, _, ho =>
            simp only [List.getElem?_cons_zero, Option.some.injEq] at ho
            subst ho
            unfold Oper.wp
            simp [execOp, go_sem, t3]
            exact came _ rfl (Below.refl _ _) rfl (fun h => absurd h (by decide))
          | 1, _, ho =>
            simp only [List.getElem?_cons_succ, List.getElem?_cons_zero, Option.some.injEq] at ho
            subst ho
            obtain ⟨u0, e0⟩ := hdep ⟨0, .data⟩ (by simp) rfl _ 50 rfl rfl
            rw [show vals 0 = .pointer (some ⟨W.heap.size, 1, none⟩) from e0] at u0
            have cc : x.cell? ⟨W.heap.size, 1, none⟩ = some (.int .i64 xi) := (H2.out.2.2.2.later hX).cellIs 1 rfl
            unfold Oper.wp
            simp [execOp, go_sem, u0, cc]
            exact came _ rfl (Below.refl _ _) rfl (fun h => absurd h (by decide))
          | 2, _, ho =>
            simp only [List.getElem?_cons_succ, List.getElem?_cons_zero, Option.some.injEq] at ho
            subst ho
            unfold Oper.wp
            simp [execOp, go_sem, t0]
            exact came _ rfl (Below.refl _ _) rfl (fun h => absurd h (by decide))
          | 3, _, ho =>
            simp only [List.getElem?_cons_succ, List.getElem?_cons_zero, Option.some.injEq] at ho
            subst ho
            obtain ⟨u2, e2⟩ := hdep ⟨2, .data⟩ (by simp) rfl _ 52 rfl rfl
            rw [show vals 2 = .slice (some ⟨g0, o0, none⟩) N c from e2] at u2
            unfold Oper.wp
            simp [go_sem, u2]
            exact came _ rfl (Below.refl _ _) rfl (fun h => absurd h (by decide))
          | 4, _, ho =>
            simp only [List.getElem?_cons_succ, List.getElem?_cons_zero, Option.some.injEq] at ho
            subst ho
            obtain ⟨u1, e1⟩ := hdep ⟨1, .data⟩ (by simp) rfl _ 51 rfl rfl
            rw [show vals 1 = .int .i64 xi from e1] at u1
            obtain ⟨u3, e3⟩ := hdep ⟨3, .data⟩ (by simp) rfl _ 53 rfl rfl
            rw [show vals 3 = .int .i64 (N : Int) from e3] at u3
            unfold Oper.wp
            simp [go_sem, u1, u3]
            refine (HWi.out x).mono ?_
            rintro r x1 ⟨rfl, hb1⟩
            exact came _ rfl hb1 rfl (fun h => absurd h (by decide))
          | 5, _, ho =>
            simp only [List.getElem?_cons_succ, List.getElem?_cons_zero, Option.some.injEq] at ho
            subst ho
            unfold Oper.wp
            simp [execOp, go_sem, t3]
            exact came _ rfl (Below.refl _ _) rfl (fun h => absurd h (by decide))
          | 6, _, ho =>
            simp only [List.getElem?_cons_succ, List.getElem?_cons_zero, Option.some.injEq] at ho
            subst ho
            obtain ⟨u5, e5⟩ := hdep ⟨5, .data⟩ (by simp) rfl _ 55 rfl rfl
            rw [show vals 5 = .pointer (some ⟨W.heap.size, 2, none⟩) from e5] at u5
            have cc : x.cell? ⟨W.heap.size, 2, none⟩ = some (.int .i64 xj) := (H2.out.2.2.2.later hX).cellIs 2 rfl
            unfold Oper.wp
            simp [execOp, go_sem, u5, cc]
            exact came _ rfl (Below.refl _ _) rfl (fun h => absurd h (by decide))
          | 7, _, ho =>
            simp only [List.getElem?_cons_succ, List.getElem?_cons_zero, Option.some.injEq] at ho
            subst ho
            unfold Oper.wp
            simp [execOp, go_sem, t0]
            exact came _ rfl (Below.refl _ _) rfl (fun h => absurd h (by decide))
          | 8, _, ho =>
            simp only [List.getElem?_cons_succ, List.getElem?_cons_zero, Option.some.injEq] at ho
            subst ho
            obtain ⟨u7, e7⟩ := hdep ⟨7, .data⟩ (by simp) rfl _ 57 rfl rfl
            rw [show vals 7 = .slice (some ⟨g0, o0, none⟩) N c from e7] at u7
            unfold Oper.wp
            simp [go_sem, u7]
            exact came _ rfl (Below.refl _ _) rfl (fun h => absurd h (by decide))
          | 9, _, ho =>
            simp only [List.getElem?_cons_succ, List.getElem?_cons_zero, Option.some.injEq] at ho
            subst ho
            obtain ⟨u6, e6⟩ := hdep ⟨6, .data⟩ (by simp) rfl _ 56 rfl rfl
            rw [show vals 6 = .int .i64 xj from e6] at u6
            obtain ⟨u8, e8⟩ := hdep ⟨8, .data⟩ (by simp) rfl _ 58 rfl rfl
            rw [show vals 8 = .int .i64 (N : Int) from e8] at u8
            unfold Oper.wp
            simp [go_sem, u6, u8]
            refine (HWj.out x).mono ?_
            rintro r x1 ⟨rfl, hb1⟩
            exact came _ rfl hb1 rfl (fun h => absurd h (by decide))
          | 10, _, ho =>
            simp only [List.getElem?_cons_succ, List.getElem?_cons_zero, Option.some.injEq] at ho
            subst ho
            obtain ⟨u4, e4⟩ := hdep ⟨4, .data⟩ (by simp) rfl _ 54 rfl rfl
            rw [show vals 4 = .int .i64 (ix : Int) from e4] at u4
            unfold Oper.wp
            simp [execOp, go_sem, u4]
            exact came _ rfl (Below.refl _ _) rfl (fun h => absurd h (by decide))
          | 11, _, ho =>
            simp only [List.getElem?_cons_succ, List.getElem?_cons_zero, Option.some.injEq] at ho
            subst ho
            obtain ⟨u9, e9⟩ := hdep ⟨9, .data⟩ (by simp) rfl _ 59 rfl rfl
            rw [show vals 9 = .int .i64 (jx : Int) from e9] at u9
            unfold Oper.wp
            simp [execOp, go_sem, u9]
            exact came _ rfl (Below.refl _ _) rfl (fun h => absurd h (by decide))
          | m + 12, hi, _ => exact absurd hi (by omega)
        · intro vals w1 hB hR _
          have e10 : vals 10 = .int .i64 (ix : Int) := hR 10 (by decide)
          have e11 : vals 11 = .int .i64 (jx : Int) := hR 11 (by decide)
          clear hR
          simp only [List.drop, List.take, putAll, List.setIfInBounds_toArray, List.set_cons_succ, List.set_cons_zero, e10, e11]
          clear e10 e11 HWi HWj
          have low1 : Below W.heap.size W w1 := bgo (bgo HB0.out H2.out.2.2.1) hB
          have hbe := below_one w1 (.cells #[] 56)
          have HSo : Hid (So 4 (.slice (some ⟨g0, o0, none⟩) N c) N (pcells ps) (w1.alloc (.cells #[] 56))) := by
            have hso := so_rest HPs.out.2.2 0 c
            rw [Nat.zero_mul, Nat.add_zero, Nat.sub_zero, List.drop_zero, HPs.out.2.1] at hso
            exact hso.later (bgo low1 hbe)
          have HBa := hid_of' (And.intro hB low1)
          clear hB low1 hbe
          go_upto_region 11 with (at_builtin; refine wpL_app0 (P := Tryd.prog) rfl _ _ 45 rfl 56 i0 _ 4 48 Tryd.underlying45 HI.out.1 HI.out.2.1 HI.out.2.2.1 HI.out.2.2.2 rfl rfl rfl (row_new w1 _ _) HSo.out (pcells_one ps HPs.out.1.ones) (by unfold maxLen; omega) (by omega) ?_; intro u w4 hu1 hu2 hu3)
          obtain ⟨ua, cu, hu, hcu, _⟩ := hu1.form
          subst hu
          obtain ⟨G, hG⟩ := hu1.some (by omega)
          subst hG
          rw [World.size_alloc] at hu3
          obtain ⟨s1, hs1⟩ : ∃ s1, w1.heap.size = s1 := ⟨_, rfl⟩
          have hGs : s1 ≤ G := by have := hu3 G rfl; omega
          have hb14 := bgo (below_one w1 (.cells #[] 56)) hu2
          have hBs : B < s1 := by have := (H2.out.1.lies.later HBa.out.1).lt; omega
          have hvs : ∀ k, vb.ownBlock = some k → k < s1 ∧ W.heap.size < k := fun k hk => by
            have := (H2.out.1.row.later HBa.out.1).lt k hk
            have := H2.out.2.1 k hk
            omega
          have hBW : W.heap.size < B := by omega
          have hbg4 : BgAt B vb (ldG 100 m) (fun k => k < s1) w4 := ((H2.out.1.later HBa.out.1).bne.later hb14).mono (fun k hk _ => by have := hk.2.1; omega)
          have low4 := bgo HBa.out.2 hb14
          have r4 := (H2.out.2.2.2.later HBa.out.1).later hb14
          have d0 : w4.cell? ⟨W.heap.size, 0, none⟩ = some (.int .i64 xd) := r4.cellIs 0 rfl
          have H4 := hid_of' (And.intro hbg4 (And.intro hu1 (And.intro r4 (And.intro low4 hvs))))
          have HWd := hid_of' (HWd0.out w4)
          clear hu1 hu2 hu3 hb14 hvs hbg4 low4 r4 HBa HSo H2 HWd0 hs1
          rcases (show dd = 0 ∨ dd = 1 ∨ dd = 2 ∨ dd = 3 by omega) with rfl | rfl | rfl | rfl
          ·
            have HK := hid_of' (deliver_ok H4.out.1 (ix := ix) (q := qi) hqi)
            go_upto_region 17 with (first | (go_at_call 17; refine HWd.out.mono ?_; rintro e w2_ ⟨rfl, h0⟩; obtain rfl := h0.symm) | (go_at_call 19; refine HK.out.mono ?_; rintro e w5 ⟨p5, v5, rfl, hp5, hg5, ha5, hc5⟩; clear HK; have H5 := hid_of' (And.intro hp5 (And.intro hg5 (And.intro ha5 hc5))); have HP5 : p5.b.oneCell' = true := hp5.b.sl.one; clear hp5 hg5 ha5 hc5) | (refine wpL_stNewP (p := p5) rfl _ _ rfl rfl rfl rfl rfl rfl HP5 ?_; go_simp))
            have rp := row_new w5 (pcv p5) 56
            have hb6 := below_one w5 (.cells (pcv p5) 56)
            have hpr := H5.out.1.r.later hb6
            obtain ⟨g5, hg5⟩ : ∃ g5 : Bg, { (ldG 100 m) with arr := wrap64 ((ldG 100 m).arr + 1), l := (ldG 100 m).l.eraseIdx ix } = g5 := ⟨_, rfl⟩
            have hgl : g5.l = m.eraseIdx ix := by rw [← hg5]; rfl
            have hbg := H5.out.2.1
            rw [hg5] at hbg
            have hbg6 := hbg.later hb6
            have hv5 : ∀ k, v5.ownBlock = some k → ¬ k = G ∧ W.heap.size < k := fun k hk => by
              rcases H5.out.2.2.1 k hk with q | q
              · have := H4.out.2.2.2.2 k q; omega
              · have := H4.out.2.1.lt G rfl; omega
            have hC4 := H5.out.2.2.2
            have hRw := (H4.out.2.1.ch hC4 (fun k hk e => by have hkG : G = k := Option.some.inj hk; subst hkG; exact e.elim (fun e => by omega) (fun e => by have := H4.out.2.2.2.2 _ e; omega))).later hb6
            have low5 : Below W.heap.size W w5 := H4.out.2.2.2.1.trans (hC4.below (fun s hs e => by exact e.elim (fun e => by omega) (fun e => by have := H4.out.2.2.2.2 _ e; omega)) H4.out.2.2.2.1.size)
            have low6 := bgo low5 hb6
            clear d0 H4 H5 hbg hC4 low5 hg5 HWd
            generalize w5.alloc (.cells (pcv p5) 56) = w6 at rp hb6 hpr hbg6 hRw low6 ⊢
            have HL1_ : ∀ x, (∃ s : Wld w6, x = wOf s) → CsIn w5.heap.size 0 (pcv p5) x := rp.in.cls
            have HL2_ : ∀ x, (∃ s : Wld w6, x = wOf s) → CsIn g0 (o0 + ix * 4) (pcv pi) x := ((HPs.out.2.2 ix pi hpi).later low6).cls
            have HPQ := hid_of' (And.intro hpr ((HPs.out.1.2 ix pi qi hpi hqi).1.later low6))
            have H6 := hid_of' (And.intro hbg6 (And.intro hv5 (And.intro hRw (And.intro low6 hgl))))
            have hB := Below.refl w6.heap.size w6
            clear rp hb6 hpr hbg6 hv5 hRw low6 hgl
            refine wp_region_cls (by kernel_rfl) (by kernel_rfl) ?_
            repeat (first | go_big_quiet_skip | (go_big_quiet_want; first | (refine quiet_loadP _ rfl rfl HL1_ ?_; simp only [Act.put, List.setIfInBounds_toArray, List.set_cons_succ, List.set_cons_zero]; go_big_quiet_on) | (refine quiet_loadP _ rfl rfl HL2_ ?_; simp only [Act.put, List.setIfInBounds_toArray, List.set_cons_succ, List.set_cons_zero]; go_big_quiet_on) | (go_big_quiet_op; first | go_big_quiet_on | go_big_quiet_call ((go_at_call 20; exact cls_of (parcel_eq (HPQ.out.1.later (wOf_below _)) (HPQ.out.2.later (wOf_below _))))))))
            refine wpQuiet_nil ?_
            rintro w1 ⟨s1, e1⟩
            have hb1 := wOf_below s1
            rw [← e1] at hb1
            clear e1 s1
            replace hB := bgo hB hb1
            clear hb1
            have HG : Hid (BgAt B v5 g5 (fun k => k < s1) w1 ∧ (∀ k, v5.ownBlock = some k → ¬ k = G ∧ W.heap.size < k) ∧ Rw 56 4 (.slice (some ⟨G, 0, none⟩) N cu) N (pcells ps) w1 ∧ Below W.heap.size W w1 ∧ g5.l = m.eraseIdx ix) := ⟨H6.out.1.later hB, H6.out.2.1, H6.out.2.2.1.later hB, bgo H6.out.2.2.2.1 hB, H6.out.2.2.2.2⟩
            clear H6 hB HL1_ HL2_ HPQ
            go_upto_region 19 with fail
            have HR : Hid (Rw 56 4 (.slice (some ⟨G, 0, none⟩) ix cu) ix (pcells (ps.take ix)) w1 ∧ (∀ y ∈ pcells (ps.drop (ix + 1)), y.oneCell' = true) ∧ ix + (N - (ix + 1)) ≤ maxLen ∧ (ix + (N - (ix + 1))) * 48 ≤ 140737488355328) := ⟨HG.out.2.2.1.first (by omega) (by omega) (Nat.le_refl _), pcells_one _ (fun p hp => HPs.out.1.ones p (List.mem_of_mem_drop hp)), by unfold maxLen; omega, by omega⟩
            have HS : Hid (So 4 (.slice (if c = ix + 1 then some ⟨g0, o0, none⟩ else some ⟨g0, o0 + (ix + 1) * 4, none⟩) (N - (ix + 1)) (c - (ix + 1))) (N - (ix + 1)) (pcells (ps.drop (ix + 1))) w1) := by
              by_cases ha : c = ix + 1
              · rw [if_pos ha]
                exact ⟨by rw [pcells_len, List.length_drop, HPs.out.2.1], .inl ⟨by omega, _, _, by rw [show N - (ix + 1) = 0 by omega]⟩⟩
              · rw [if_neg ha]
                have := (so_rest HPs.out.2.2 (ix + 1) (c - (ix + 1))).later HG.out.2.2.2.1
                rw [HPs.out.2.1] at this
                exact this
            obtain ⟨zs, hzs⟩ : ∃ zs, ps.eraseIdx ix = zs := ⟨_, rfl⟩
            obtain ⟨M9, hM9⟩ : ∃ M9, N - 1 = M9 := ⟨_, rfl⟩
            have HE : Hid (∀ v' x', Rw 56 4 v' (ix + (N - (ix + 1))) (pcells (ps.take ix) ++ pcells (ps.drop (ix + 1))) x' → Rw 56 4 v' M9 (pcells zs) x') := fun v' x' hr => by
              rw [← pcells_app, ← List.eraseIdx_eq_take_drop_succ, hzs, show ix + (N - (ix + 1)) = M9 by omega] at hr
              exact hr
            have HZs := hid_of' (And.intro hzs hM9)
            have k1 : (ix : Int) ≤ (cu : Int) := by omega
            have k2 : (0 : Int) ≤ (ix : Int) := by omega
            have k3 : (ix : Int) + 1 ≤ (N : Int) := by omega
            have k4 : (N : Int) ≤ (c : Int) := by omega
            have k5 : 0 ≤ (ix : Int) + 1 := by omega
            have kw : IntKind.i64.wrap ((ix : Int) + 1) = (ix : Int) + 1 := by rw [IntKind.wrap_i64]; omega
            clear hzs hM9
            refine wp_region_onceN 8 (by kernel_rfl) (fun _ => none) (by kernel_rfl) (by kernel_rfl) (by decide) (fun i v x => match i with
              | 0 => v = .slice (some ⟨G, 0, none⟩) N cu
              | 1 => v = .int .i64 (ix : Int)
              | 2 => v = .slice (some ⟨G, 0, none⟩) ix cu
              | 3 => v = .slice (some ⟨g0, o0, none⟩) N c
              | 4 => v = .int .i64 (ix : Int)
              | 5 => v = .int .i64 ((ix : Int) + 1)
              | 6 => v = .slice (if c = ix + 1 then some ⟨g0, o0, none⟩ else some ⟨g0, o0 + (ix + 1) * 4, none⟩) (N - (ix + 1)) (c - (ix + 1))
              | 7 => Rw 56 4 v M9 (pcells zs) x ∧ At' w1 (.slice (some ⟨G, 0, none⟩) N cu) v
              | _ => True) (fun _ => false) (fun _ _ _ _ h => by cases h) 7 (by decide) (fun a b => World.grownBy a b (some G)) (fun a b => World.grownBy a b (some G)) (fun _ _ g h => grown_later g h) (fun _ h => grown_of h) (fun _ _ h g => grown_first h g) (fun _ _ g => g.size) ?_ ?_ ?_ ?_
            · intro i v x x' hR hb
              match i, hR with
              | 0, h => exact h
              | 1, h => exact h
              | 2, h => exact h
              | 3, h => exact h
              | 4, h => exact h
              | 5, h => exact h
              | 6, h => exact h
              | 7, h => exact ⟨h.1.later hb, h.2⟩
              | m + 8, h => exact h
            · intro i v x x' hne hR hb
              match i, hne, hR with
              | 0, hne, h => exact h
              | 1, hne, h => exact h
              | 2, hne, h => exact h
              | 3, hne, h => exact h
              | 4, hne, h => exact h
              | 5, hne, h => exact h
              | 6, hne, h => exact h
              | 7, hne, h => exact absurd rfl hne
              | m + 8, _, h => exact h
            · intro i o hi ho q x vals hX hC hdep hoth
              have t11 : q.tmps[11]? = some (.slice (some ⟨G, 0, none⟩) N cu) := by rw [hoth 11 (by kernel_rfl)]; rfl
              have t9 : q.tmps[9]? = some (.int .i64 (ix : Int)) := by rw [hoth 9 (by kernel_rfl)]; rfl
              have t0 : q.tmps[0]? = some (.slice (some ⟨g0, o0, none⟩) N c) := by rw [hoth 0 (by kernel_rfl)]; rfl
              match i, hi, ho, hC with
              | 0, _, ho, hC =>
                simp only [List.getElem?_cons_zero, Option.some.injEq] at ho
                subst ho
                unfold Oper.wp
                simp [execOp, go_sem, t11]
                exact cameB _ rfl (by decide) (Below.refl _ _) rfl (fun h => absurd h (by decide))
              | 1, _, ho, hC =>
                simp only [List.getElem?_cons_succ, List.getElem?_cons_zero, Option.some.injEq] at ho
                subst ho
                unfold Oper.wp
                simp [execOp, go_sem, t9]
                exact cameB _ rfl (by decide) (Below.refl _ _) rfl (fun h => absurd h (by decide))
              | 2, _, ho, hC =>
                simp only [List.getElem?_cons_succ, List.getElem?_cons_zero, Option.some.injEq] at ho
                subst ho
                obtain ⟨u0, e0⟩ := hdep ⟨0, .data⟩ (by simp) rfl _ 104 rfl rfl
                rw [show vals 0 = .slice (some ⟨G, 0, none⟩) N cu from e0] at u0
                obtain ⟨u1, e1⟩ := hdep ⟨1, .data⟩ (by simp) rfl _ 105 rfl rfl
                rw [show vals 1 = .int .i64 (ix : Int) from e1] at u1
                unfold Oper.wp
                simp [execOp, go_sem, u0, u1, k1, k2]
                exact cameB _ rfl (by decide) (Below.refl _ _) rfl (fun h => absurd h (by decide))
              | 3, _, ho, hC =>
                simp only [List.getElem?_cons_succ, List.getElem?_cons_zero, Option.some.injEq] at ho
                subst ho
                unfold Oper.wp
                simp [execOp, go_sem, t0]
                exact cameB _ rfl (by decide) (Below.refl _ _) rfl (fun h => absurd h (by decide))
              | 4, _, ho, hC =>
                simp only [List.getElem?_cons_succ, List.getElem?_cons_zero, Option.some.injEq] at ho
                subst ho
                unfold Oper.wp
                simp [execOp, go_sem, t9]
                exact cameB _ rfl (by decide) (Below.refl _ _) rfl (fun h => absurd h (by decide))
              | 5, _, ho, hC =>
                simp only [List.getElem?_cons_succ, List.getElem?_cons_zero, Option.some.injEq] at ho
                subst ho
                obtain ⟨u4, e4⟩ := hdep ⟨4, .data⟩ (by simp) rfl _ 108 rfl rfl
                rw [show vals 4 = .int .i64 (ix : Int) from e4] at u4
                unfold Oper.wp
                simp [execOp, go_sem, u4, kw]
                exact cameB _ rfl (by decide) (Below.refl _ _) rfl (fun h => absurd h (by decide))
              | 6, _, ho, hC =>
                simp only [List.getElem?_cons_succ, List.getElem?_cons_zero, Option.some.injEq] at ho
                subst ho
                obtain ⟨u3, e3⟩ := hdep ⟨3, .data⟩ (by simp) rfl _ 107 rfl rfl
                rw [show vals 3 = .slice (some ⟨g0, o0, none⟩) N c from e3] at u3
                obtain ⟨u5, e5⟩ := hdep ⟨5, .data⟩ (by simp) rfl _ 109 rfl rfl
                rw [show vals 5 = .int .i64 ((ix : Int) + 1) from e5] at u5
                unfold Oper.wp
                simp [execOp, go_sem, u3, u5, k3, k5]
                exact cameB _ rfl (by decide) (Below.refl _ _) rfl (fun h => absurd h (by decide))
              | 7, _, ho, hC =>
                simp only [List.getElem?_cons_succ, List.getElem?_cons_zero, Option.some.injEq] at ho
                subst ho
                obtain ⟨u2, e2⟩ := hdep ⟨2, .data⟩ (by simp) rfl _ 106 rfl rfl
                rw [show vals 2 = .slice (some ⟨G, 0, none⟩) ix cu from e2] at u2
                obtain ⟨u6, e6⟩ := hdep ⟨6, .data⟩ (by simp) rfl _ 110 rfl rfl
                rw [show vals 6 = .slice (if c = ix + 1 then some ⟨g0, o0, none⟩ else some ⟨g0, o0 + (ix + 1) * 4, none⟩) (N - (ix + 1)) (c - (ix + 1)) from e6] at u6
                have hb := hC (.inl rfl)
                refine opw_app (P := Tryd.prog) _ _ 45 rfl 56 i0 _ 4 48 Tryd.underlying45 HI.out.1 HI.out.2.1 HI.out.2.2.1 HI.out.2.2.2 rfl (by simp [Act.eval, u2]) (by simp [Act.eval, u6]) (HR.out.1.later hb) (So.later HS.out hb) HR.out.2.1 HR.out.2.2.1 HR.out.2.2.2 ?_
                intro v' x' q1 q2 q3
                exact cameX _ rfl q2 ⟨HE.out v' x' q1, fun k hk => (q3 k hk).elim (fun q => .inl q) (fun q => .inr (Nat.le_trans hb.size q))⟩ rfl
              | m + 8, hi, _, _ => exact absurd hi (by omega)
            · intro vals x hX hR _
              obtain ⟨q1, q2⟩ : Rw 56 4 (vals 7) M9 (pcells zs) x ∧ At' w1 (.slice (some ⟨G, 0, none⟩) N cu) (vals 7) := hR 7 (by decide)
              obtain ⟨xa, xc, e7, _, _⟩ := q1.form
              rw [e7] at q1 q2
              have gx := grown_ch hX
              have hBz : BgAt B v5 g5 (fun k => k < s1) x := HG.out.1.ch gx (fun e => by have := Option.some.inj e; omega) (fun k hk e => (HG.out.2.1 k hk).1 (Option.some.inj e).symm) (fun k hk e => by have := Option.some.inj e; omega)
              have low1 := HG.out.2.2.2.1
              have lowz : Below W.heap.size W x := low1.trans (gx.below (fun s hs e => by have := Option.some.inj e; omega) low1.size)
              have hgl := HG.out.2.2.2.2
              have hmN := HQ.out.2.2
              have hM := HZs.out.2
              have hll : (m.eraseIdx ix).length = M9 := by rw [List.length_eraseIdx_of_lt (by omega)]; omega
              have hWz : SlQ x (.slice xa M9 xc) g5.l := by
                rw [hgl]
                refine SlQ.of_rw (ps := zs) (by rw [hll]; exact q1) ?_
                rw [← HZs.out.1, List.eraseIdx_eq_take_drop_succ, List.eraseIdx_eq_take_drop_succ]
                exact ((HPs.out.1.take ix).app (HPs.out.1.drop (ix + 1))).later lowz
              have hlz : g5.l.length ≤ 1000000 := by rw [hgl, hll]; omega
              clear q1 q2 gx low1 hgl hll hR hX hmN hM
              simp only [List.drop, List.take, putAll, List.setIfInBounds_toArray, List.set_cons_succ, List.set_cons_zero, e7]
              clear e7 k1 k2 k3 k4 k5 kw HR HS HE HG
              have HAl := hid_of' (all_is hBz)
              have HZ := hid_of' (And.intro hWz (And.intro hlz lowz))
              clear hBz hWz hlz lowz
              go_wp2_with (first | (go_at_call 27; refine HAl.out.mono ?_; rintro e w8 ⟨u8, rfl, h81, h82, h83⟩; clear HAl; have H8 := hid_of' (And.intro h81 h83); clear h81 h82 h83; obtain ⟨ua8, uc8, rfl, _, _⟩ := H8.out.1.form) | (go_at_call 26; refine (parcels_eq H8.out.1.q (HZ.out.1.later H8.out.2) HZ.out.2.1).mono ?_; rintro e w9 ⟨rfl, hb9⟩) | (go_at_call 11; refine (HW.out _).mono ?_; rintro e w10 ⟨rfl, hb10⟩))
              go_ret
              exact ⟨rfl, bgo (bgo (bgo HZ.out.2.2 H8.out.2) hb9) hb10⟩
          ·
            have HK := hid_of' (drop_ok H4.out.1 (ix := ix) (q := qi) hqi)
            go_upto_region 23 with (first | (go_at_call 17; refine HWd.out.mono ?_; rintro e w2_ ⟨rfl, h0⟩; obtain rfl := h0.symm) | (go_at_call 21; refine HK.out.mono ?_; rintro e w1 ⟨v5, rfl, hg5, ha5, hc5⟩; clear HK; have H5 := hid_of' (And.intro hg5 (And.intro ha5 hc5)); clear hg5 ha5 hc5))
            obtain ⟨g5, hg5⟩ : ∃ g5 : Bg, { (ldG 100 m) with drp := wrap64 ((ldG 100 m).drp + 1), l := (ldG 100 m).l.eraseIdx ix } = g5 := ⟨_, rfl⟩
            have hgl : g5.l = m.eraseIdx ix := by rw [← hg5]; rfl
            have hbg := H5.out.1
            rw [hg5] at hbg
            have hv5 : ∀ k, v5.ownBlock = some k → ¬ k = G ∧ W.heap.size < k := fun k hk => by
              rcases H5.out.2.1 k hk with q | q
              · have := H4.out.2.2.2.2 k q; omega
              · have := H4.out.2.1.lt G rfl; omega
            have hC4 := H5.out.2.2
            have hRw := H4.out.2.1.ch hC4 (fun k hk e => by have hkG : G = k := Option.some.inj hk; subst hkG; exact e.elim (fun e => by omega) (fun e => by have := H4.out.2.2.2.2 _ e; omega))
            have low5 : Below W.heap.size W w1 := H4.out.2.2.2.1.trans (hC4.below (fun s hs e => by exact e.elim (fun e => by omega) (fun e => by have := H4.out.2.2.2.2 _ e; omega)) H4.out.2.2.2.1.size)
            have HG : Hid (BgAt B v5 g5 (fun k => k < s1) w1 ∧ (∀ k, v5.ownBlock = some k → ¬ k = G ∧ W.heap.size < k) ∧ Rw 56 4 (.slice (some ⟨G, 0, none⟩) N cu) N (pcells ps) w1 ∧ Below W.heap.size W w1 ∧ g5.l = m.eraseIdx ix) := ⟨hbg, hv5, hRw, low5, hgl⟩
            clear d0 H4 H5 hbg hC4 low5 hg5 HWd hv5 hRw hgl
            have HR : Hid (Rw 56 4 (.slice (some ⟨G, 0, none⟩) ix cu) ix (pcells (ps.take ix)) w1 ∧ (∀ y ∈ pcells (ps.drop (ix + 1)), y.oneCell' = true) ∧ ix + (N - (ix + 1)) ≤ maxLen ∧ (ix + (N - (ix + 1))) * 48 ≤ 140737488355328) := ⟨HG.out.2.2.1.first (by omega) (by omega) (Nat.le_refl _), pcells_one _ (fun p hp => HPs.out.1.ones p (List.mem_of_mem_drop hp)), by unfold maxLen; omega, by omega⟩
            have HS : Hid (So 4 (.slice (if c = ix + 1 then some ⟨g0, o0, none⟩ else some ⟨g0, o0 + (ix + 1) * 4, none⟩) (N - (ix + 1)) (c - (ix + 1))) (N - (ix + 1)) (pcells (ps.drop (ix + 1))) w1) := by
              by_cases ha : c = ix + 1
              · rw [if_pos ha]
                exact ⟨by rw [pcells_len, List.length_drop, HPs.out.2.1], .inl ⟨by omega, _, _, by rw [show N - (ix + 1) = 0 by omega]⟩⟩
              · rw [if_neg ha]
                have := (so_rest HPs.out.2.2 (ix + 1) (c - (ix + 1))).later HG.out.2.2.2.1
                rw [HPs.out.2.1] at this
                exact this
            obtain ⟨zs, hzs⟩ : ∃ zs, ps.eraseIdx ix = zs := ⟨_, rfl⟩
            obtain ⟨M9, hM9⟩ : ∃ M9, N - 1 = M9 := ⟨_, rfl⟩
            have HE : Hid (∀ v' x', Rw 56 4 v' (ix + (N - (ix + 1))) (pcells (ps.take ix) ++ pcells (ps.drop (ix + 1))) x' → Rw 56 4 v' M9 (pcells zs) x') := fun v' x' hr => by
              rw [← pcells_app, ← List.eraseIdx_eq_take_drop_succ, hzs, show ix + (N - (ix + 1)) = M9 by omega] at hr
              exact hr
            have HZs := hid_of' (And.intro hzs hM9)
            have k1 : (ix : Int) ≤ (cu : Int) := by omega
            have k2 : (0 : Int) ≤ (ix : Int) := by omega
            have k3 : (ix : Int) + 1 ≤ (N : Int) := by omega
            have k4 : (N : Int) ≤ (c : Int) := by omega
            have k5 : 0 ≤ (ix : Int) + 1 := by omega
            have kw : IntKind.i64.wrap ((ix : Int) + 1) = (ix : Int) + 1 := by rw [IntKind.wrap_i64]; omega
            clear hzs hM9
            refine wp_region_onceN 8 (by kernel_rfl) (fun _ => none) (by kernel_rfl) (by kernel_rfl) (by decide) (fun i v x => match i with
              | 0 => v = .slice (some ⟨G, 0, none⟩) N cu
              | 1 => v = .int .i64 (ix : Int)
              | 2 => v = .slice (some ⟨G, 0, none⟩) ix cu
              | 3 => v = .slice (some ⟨g0, o0, none⟩) N c
              | 4 => v = .int .i64 (ix : Int)
              | 5 => v = .int .i64 ((ix : Int) + 1)
              | 6 => v = .slice (if c = ix + 1 then some ⟨g0, o0, none⟩ else some ⟨g0, o0 + (ix + 1) * 4, none⟩) (N - (ix + 1)) (c - (ix + 1))
              | 7 => Rw 56 4 v M9 (pcells zs) x ∧ At' w1 (.slice (some ⟨G, 0, none⟩) N cu) v
              | _ => True) (fun _ => false) (fun _ _ _ _ h => by cases h) 7 (by decide) (fun a b => World.grownBy a b (some G)) (fun a b => World.grownBy a b (some G)) (fun _ _ g h => grown_later g h) (fun _ h => grown_of h) (fun _ _ h g => grown_first h g) (fun _ _ g => g.size) ?_ ?_ ?_ ?_
            · intro i v x x' hR hb
              match i, hR with
              | 0, h => exact h
              | 1, h => exact h
              | 2, h => exact h
              | 3, h => exact h
              | 4, h => exact h
              | 5, h => exact h
              | 6, h => exact h
              | 7, h => exact ⟨h.1.later hb, h.2⟩
              | m + 8, h => exact h
            · intro i v x x' hne hR hb
              match i, hne, hR with
              | 0, hne, h => exact h
              | 1, hne, h => exact h
              | 2, hne, h => exact h
              | 3, hne, h => exact h
              | 4, hne, h => exact h
              | 5, hne, h => exact h
              | 6, hne, h => exact h
              | 7, hne, h => exact absurd rfl hne
              | m + 8, _, h => exact h
            · intro i o hi ho q x vals hX hC hdep hoth
              have t11 : q.tmps[11]? = some (.slice (some ⟨G, 0, none⟩) N cu) := by rw [hoth 11 (by kernel_rfl)]; rfl
              have t9 : q.tmps[9]? = some (.int .i64 (ix : Int)) := by rw [hoth 9 (by kernel_rfl)]; rfl
              have t0 : q.tmps[0]? = some (.slice (some ⟨g0, o0, none⟩) N c) := by rw [hoth 0 (by kernel_rfl)]; rfl
              match i, hi, ho, hC with
              | 0, _, ho, hC =>
                simp only [List.getElem?_cons_zero, Option.some.injEq] at ho
                subst ho
                unfold Oper.wp
                simp [execOp, go_sem, t11]
                exact cameB _ rfl (by decide) (Below.refl _ _) rfl (fun h => absurd h (by decide))
              | 1, _, ho, hC =>
                simp only [List.getElem?_cons_succ, List.getElem?_cons_zero, Option.some.injEq] at ho
                subst ho
                unfold Oper.wp
                simp [execOp, go_sem, t9]
                exact cameB _ rfl (by decide) (Below.refl _ _) rfl (fun h => absurd h (by decide))
              | 2, _, ho, hC =>
                simp only [List.getElem?_cons_succ, List.getElem?_cons_zero, Option.some.injEq] at ho
                subst ho
                obtain ⟨u0, e0⟩ := hdep ⟨0, .data⟩ (by simp) rfl _ 118 rfl rfl
                rw [show vals 0 = .slice (some ⟨G, 0, none⟩) N cu from e0] at u0
                obtain ⟨u1, e1⟩ := hdep ⟨1, .data⟩ (by simp) rfl _ 119 rfl rfl
                rw [show vals 1 = .int .i64 (ix : Int) from e1] at u1
                unfold Oper.wp
                simp [execOp, go_sem, u0, u1, k1, k2]
                exact cameB _ rfl (by decide) (Below.refl _ _) rfl (fun h => absurd h (by decide))
              | 3, _, ho, hC =>
                simp only [List.getElem?_cons_succ, List.getElem?_cons_zero, Option.some.injEq] at ho
                subst ho
                unfold Oper.wp
                simp [execOp, go_sem, t0]
                exact cameB _ rfl (by decide) (Below.refl _ _) rfl (fun h => absurd h (by decide))
              | 4, _, ho, hC =>
                simp only [List.getElem?_cons_succ, List.getElem?_cons_zero, Option.some.injEq] at ho
                subst ho
                unfold Oper.wp
                simp [execOp, go_sem, t9]
                exact cameB _ rfl (by decide) (Below.refl _ _) rfl (fun h => absurd h (by decide))
              | 5, _, ho, hC =>
                simp only [List.getElem?_cons_succ, List.getElem?_cons_zero, Option.some.injEq] at ho
                subst ho
                obtain ⟨u4, e4⟩ := hdep ⟨4, .data⟩ (by simp) rfl _ 122 rfl rfl
                rw [show vals 4 = .int .i64 (ix : Int) from e4] at u4
                unfold Oper.wp
                simp [execOp, go_sem, u4, kw]
                exact cameB _ rfl (by decide) (Below.refl _ _) rfl (fun h => absurd h (by decide))
              | 6, _, ho, hC =>
                simp only [List.getElem?_cons_succ, List.getElem?_cons_zero, Option.some.injEq] at ho
                subst ho
                obtain ⟨u3, e3⟩ := hdep ⟨3, .data⟩ (by simp) rfl _ 121 rfl rfl
                rw [show vals 3 = .slice (some ⟨g0, o0, none⟩) N c from e3] at u3
                obtain ⟨u5, e5⟩ := hdep ⟨5, .data⟩ (by simp) rfl _ 123 rfl rfl
                rw [show vals 5 = .int .i64 ((ix : Int) + 1) from e5] at u5
                unfold Oper.wp
                simp [execOp, go_sem, u3, u5, k3, k5]
                exact cameB _ rfl (by decide) (Below.refl _ _) rfl (fun h => absurd h (by decide))
              | 7, _, ho, hC =>
                simp only [List.getElem?_cons_succ, List.getElem?_cons_zero, Option.some.injEq] at ho
                subst ho
                obtain ⟨u2, e2⟩ := hdep ⟨2, .data⟩ (by simp) rfl _ 120 rfl rfl
                rw [show vals 2 = .slice (some ⟨G, 0, none⟩) ix cu from e2] at u2
                obtain ⟨u6, e6⟩ := hdep ⟨6, .data⟩ (by simp) rfl _ 124 rfl rfl
                rw [show vals 6 = .slice (if c = ix + 1 then some ⟨g0, o0, none⟩ else some ⟨g0, o0 + (ix + 1) * 4, none⟩) (N - (ix + 1)) (c - (ix + 1)) from e6] at u6
                have hb := hC (.inl rfl)
                refine opw_app (P := Tryd.prog) _ _ 45 rfl 56 i0 _ 4 48 Tryd.underlying45 HI.out.1 HI.out.2.1 HI.out.2.2.1 HI.out.2.2.2 rfl (by simp [Act.eval, u2]) (by simp [Act.eval, u6]) (HR.out.1.later hb) (So.later HS.out hb) HR.out.2.1 HR.out.2.2.1 HR.out.2.2.2 ?_
                intro v' x' q1 q2 q3
                exact cameX _ rfl q2 ⟨HE.out v' x' q1, fun k hk => (q3 k hk).elim (fun q => .inl q) (fun q => .inr (Nat.le_trans hb.size q))⟩ rfl
              | m + 8, hi, _, _ => exact absurd hi (by omega)
            · intro vals x hX hR _
              obtain ⟨q1, q2⟩ : Rw 56 4 (vals 7) M9 (pcells zs) x ∧ At' w1 (.slice (some ⟨G, 0, none⟩) N cu) (vals 7) := hR 7 (by decide)
              obtain ⟨xa, xc, e7, _, _⟩ := q1.form
              rw [e7] at q1 q2
              have gx := grown_ch hX
              have hBz : BgAt B v5 g5 (fun k => k < s1) x := HG.out.1.ch gx (fun e => by have := Option.some.inj e; omega) (fun k hk e => (HG.out.2.1 k hk).1 (Option.some.inj e).symm) (fun k hk e => by have := Option.some.inj e; omega)
              have low1 := HG.out.2.2.2.1
              have lowz : Below W.heap.size W x := low1.trans (gx.below (fun s hs e => by have := Option.some.inj e; omega) low1.size)
              have hgl := HG.out.2.2.2.2
              have hmN := HQ.out.2.2
              have hM := HZs.out.2
              have hll : (m.eraseIdx ix).length = M9 := by rw [List.length_eraseIdx_of_lt (by omega)]; omega
              have hWz : SlQ x (.slice xa M9 xc) g5.l := by
                rw [hgl]
                refine SlQ.of_rw (ps := zs) (by rw [hll]; exact q1) ?_
                rw [← HZs.out.1, List.eraseIdx_eq_take_drop_succ, List.eraseIdx_eq_take_drop_succ]
                exact ((HPs.out.1.take ix).app (HPs.out.1.drop (ix + 1))).later lowz
              have hlz : g5.l.length ≤ 1000000 := by rw [hgl, hll]; omega
              clear q1 q2 gx low1 hgl hll hR hX hmN hM
              simp only [List.drop, List.take, putAll, List.setIfInBounds_toArray, List.set_cons_succ, List.set_cons_zero, e7]
              clear e7 k1 k2 k3 k4 k5 kw HR HS HE HG
              have HAl := hid_of' (all_is hBz)
              have HZ := hid_of' (And.intro hWz (And.intro hlz lowz))
              clear hBz hWz hlz lowz
              go_wp2_with (first | (go_at_call 27; refine HAl.out.mono ?_; rintro e w8 ⟨u8, rfl, h81, h82, h83⟩; clear HAl; have H8 := hid_of' (And.intro h81 h83); clear h81 h82 h83; obtain ⟨ua8, uc8, rfl, _, _⟩ := H8.out.1.form) | (go_at_call 26; refine (parcels_eq H8.out.1.q (HZ.out.1.later H8.out.2) HZ.out.2.1).mono ?_; rintro e w9 ⟨rfl, hb9⟩) | (go_at_call 11; refine (HW.out _).mono ?_; rintro e w10 ⟨rfl, hb10⟩))
              go_ret
              exact ⟨rfl, bgo (bgo (bgo HZ.out.2.2 H8.out.2) hb9) hb10⟩
          ·
            have HK := hid_of' (double_ok H4.out.1 (ix := ix) (q := qi) hqi (by show (m.length : Int) < 100; omega))
            go_upto_region 27 with (first | (go_at_call 17; refine HWd.out.mono ?_; rintro e w2_ ⟨rfl, h0⟩; obtain rfl := h0.symm) | (go_at_call 23; refine HK.out.mono ?_; rintro e w1 ⟨v5, rfl, hg5, ha5, hc5⟩; clear HK; have H5 := hid_of' (And.intro hg5 (And.intro ha5 hc5)); clear hg5 ha5 hc5))
            obtain ⟨g5, hg5⟩ : ∃ g5 : Bg, { (ldG 100 m) with dbl := wrap64 ((ldG 100 m).dbl + 1), l := (ldG 100 m).l ++ [qi] } = g5 := ⟨_, rfl⟩
            have hgl : g5.l = m ++ [qi] := by rw [← hg5]; rfl
            have hbg := H5.out.1
            rw [hg5] at hbg
            have hv5 : ∀ k, v5.ownBlock = some k → ¬ k = G ∧ W.heap.size < k := fun k hk => by
              rcases H5.out.2.1 k hk with q | q
              · have := H4.out.2.2.2.2 k q; omega
              · have := H4.out.2.1.lt G rfl; omega
            have hC4 := H5.out.2.2
            have hRw := H4.out.2.1.ch hC4 (fun k hk e => by have hkG : G = k := Option.some.inj hk; subst hkG; exact e.elim (fun e => by omega) (fun e => by have := H4.out.2.2.2.2 _ e; omega))
            have low5 : Below W.heap.size W w1 := H4.out.2.2.2.1.trans (hC4.below (fun s hs e => by exact e.elim (fun e => by omega) (fun e => by have := H4.out.2.2.2.2 _ e; omega)) H4.out.2.2.2.1.size)
            have HG : Hid (BgAt B v5 g5 (fun k => k < s1) w1 ∧ (∀ k, v5.ownBlock = some k → ¬ k = G ∧ W.heap.size < k) ∧ Rw 56 4 (.slice (some ⟨G, 0, none⟩) N cu) N (pcells ps) w1 ∧ Below W.heap.size W w1 ∧ g5.l = m ++ [qi]) := ⟨hbg, hv5, hRw, low5, hgl⟩
            have HPi : pi.b.oneCell' = true := (HPs.out.1.2 ix pi qi hpi hqi).1.b.one
            have HIn : Hid (CsIn g0 (o0 + ix * 4) (pcv pi) w1) := (HPs.out.2.2 ix pi hpi).later low5
            have hb6 := below_one w1 (.cells (pcv pi) 56)
            have HRw := hid_of' (And.intro (hRw.later hb6) (so_one (row_new w1 (pcv pi) 56).in))
            clear d0 H4 H5 hbg hC4 low5 hg5 HWd hv5 hRw hgl
            go_upto_region 28 with (first | (refine wpL_loadP (p := pi) rfl _ rfl rfl HIn.out ?_) | (refine wpL_one (p := pi) rfl _ rfl rfl HPi ?_) | (at_builtin; refine wpL_app (P := Tryd.prog) rfl _ _ 45 rfl 56 i0 _ 4 48 Tryd.underlying45 HI.out.1 HI.out.2.1 HI.out.2.2.1 HI.out.2.2.2 rfl rfl rfl HRw.out.1 HRw.out.2 (pcells_one [pi] (fun p' hp => by rw [List.mem_singleton] at hp; subst hp; exact HPi)) (by unfold maxLen; omega) (by omega) ?_; intro u7 x q1 q2 q3))
            obtain ⟨xa, xc, e7, _, _⟩ := q1.form
            subst e7
            have gx : Ch (fun k => some G = some k) (w1.alloc (.cells (pcv pi) 56)) x := grown_ch q2
            have hBz : BgAt B v5 g5 (fun k => k < s1) x := (HG.out.1.later hb6).ch gx (fun e => by have := Option.some.inj e; omega) (fun k hk e => (HG.out.2.1 k hk).1 (Option.some.inj e).symm) (fun k hk e => by have := Option.some.inj e; omega)
            have low1 := bgo HG.out.2.2.2.1 hb6
            have lowz : Below W.heap.size W x := low1.trans (gx.below (fun s hs e => by have := Option.some.inj e; omega) low1.size)
            have hgl := HG.out.2.2.2.2
            have hll : (m ++ [qi]).length = N + 1 := by rw [List.length_append, HQ.out.2.2]; rfl
            have hWz : SlQ x (.slice xa (N + 1) xc) g5.l := by
              rw [hgl]
              refine SlQ.of_rw (ps := ps ++ [pi]) (by rw [hll, pcells_app]; exact q1) ?_
              exact (HPs.out.1.app (PsR.one (HPs.out.1.2 ix pi qi hpi hqi).1 (HPs.out.1.2 ix pi qi hpi hqi).2)).later lowz
            have hlz : g5.l.length ≤ 1000000 := by rw [hgl, hll]; omega
            clear q1 q2 q3 gx low1 hgl hll HG HRw HIn hb6
            have HAl := hid_of' (all_is hBz)
            have HZ := hid_of' (And.intro hWz (And.intro hlz lowz))
            clear hBz hWz hlz lowz
            go_wp2_with (first | (go_at_call 27; refine HAl.out.mono ?_; rintro e w8 ⟨u8, rfl, h81, h82, h83⟩; clear HAl; have H8 := hid_of' (And.intro h81 h83); clear h81 h82 h83; obtain ⟨ua8, uc8, rfl, _, _⟩ := H8.out.1.form) | (go_at_call 26; refine (parcels_eq H8.out.1.q (HZ.out.1.later H8.out.2) HZ.out.2.1).mono ?_; rintro e w9 ⟨rfl, hb9⟩) | (go_at_call 11; refine (HW.out _).mono ?_; rintro e w10 ⟨rfl, hb10⟩))
            go_ret
            exact ⟨rfl, bgo (bgo (bgo HZ.out.2.2 H8.out.2) hb9) hb10⟩
          ·
            have HK := hid_of' (swap_ok H4.out.1 (ix := ix) (jx := jx) (qi := qi) (qj := qj) hqi hqj)
            go_upto_region 14 with (first | (go_at_call 17; refine HWd.out.mono ?_; rintro e w2_ ⟨rfl, h0⟩; obtain rfl := h0.symm) | (go_at_call 24; refine HK.out.mono ?_; rintro e w1 ⟨rfl, hg5, hc5⟩; clear HK; have H5 := hid_of' (And.intro hg5 hc5); clear hg5 hc5))
            obtain ⟨g5, hg5⟩ : ∃ g5 : Bg, { (ldG 100 m) with l := swpL (ldG 100 m).l ix jx qi qj } = g5 := ⟨_, rfl⟩
            have hgl : g5.l = swpL m ix jx qi qj := by rw [← hg5]; rfl
            have hbg := H5.out.1
            rw [hg5] at hbg
            have hv5 : ∀ k, vb.ownBlock = some k → ¬ k = G ∧ W.heap.size < k := fun k q => by have := H4.out.2.2.2.2 k q; omega
            have hC4 := H5.out.2
            have hRw := H4.out.2.1.ch hC4 (fun k hk e => by have hkG : G = k := Option.some.inj hk; subst hkG; exact e.elim (fun e => by omega) (fun e => by have := H4.out.2.2.2.2 _ e; omega))
            have low5 : Below W.heap.size W w1 := H4.out.2.2.2.1.trans (hC4.below (fun s hs e => by exact e.elim (fun e => by omega) (fun e => by have := H4.out.2.2.2.2 _ e; omega)) H4.out.2.2.2.1.size)
            have HG : Hid (BgAt B vb g5 (fun k => k < s1) w1 ∧ (∀ k, vb.ownBlock = some k → ¬ k = G ∧ W.heap.size < k) ∧ Rw 56 4 (.slice (some ⟨G, 0, none⟩) N cu) N (pcells ps) w1 ∧ Below W.heap.size W w1 ∧ g5.l = swpL m ix jx qi qj) := ⟨hbg, hv5, hRw, low5, hgl⟩
            have HPi : pi.b.oneCell' = true := (HPs.out.1.2 ix pi qi hpi hqi).1.b.one
            have HPj : pj.b.oneCell' = true := (HPs.out.1.2 jx pj qj hpj hqj).1.b.one
            have HLi : Hid (CsIn g0 (o0 + ix * 4) (pcv pi) w1) := (HPs.out.2.2 ix pi hpi).later low5
            have HLj : Hid (CsIn g0 (o0 + jx * 4) (pcv pj) w1) := (HPs.out.2.2 jx pj hpj).later low5
            clear d0 H4 H5 hbg hC4 low5 hg5 HWd hv5 hRw hgl
            refine wp_region_once 14 (by kernel_rfl) (fun _ => none) (by kernel_rfl) (by kernel_rfl) (by decide) (fun i v x => match i with
              | 0 => v = .slice (some ⟨G, 0, none⟩) N cu
              | 1 => v = .int .i64 (ix : Int)
              | 2 => v = .slice (some ⟨G, 0, none⟩) N cu
              | 3 => v = .int .i64 (jx : Int)
              | 4 => v = .slice (some ⟨g0, o0, none⟩) N c
              | 5 => v = .int .i64 (jx : Int)
              | 6 => v = .pointer (some ⟨g0, o0 + jx * 4, none⟩)
              | 7 => v = .agg (pcv pj)
              | 8 => v = .slice (some ⟨g0, o0, none⟩) N c
              | 9 => v = .int .i64 (ix : Int)
              | 10 => v = .pointer (some ⟨g0, o0 + ix * 4, none⟩)
              | 11 => v = .agg (pcv pi)
              | 12 => v = .pointer (some ⟨G, ix * 4, none⟩)
              | 13 => Rw 56 4 (.slice (some ⟨G, 0, none⟩) N cu) N (pcells (ps.set ix pj)) x
              | _ => True) (fun _ => false) (fun _ _ _ _ h => by cases h) 13 (by decide) (fun a b => World.grownBy a b (some G)) (fun a b => World.grownBy a b (some G)) (fun _ _ g h => grown_later g h) (fun _ h => grown_of h) (fun _ _ h g => grown_first h g) (fun _ _ g => g.size) ?_ ?_ ?_ ?_
            · intro i v x x' hR hb
              match i, hR with
              | 0, h => exact h
              | 1, h => exact h
              | 2, h => exact h
              | 3, h => exact h
              | 4, h => exact h
              | 5, h => exact h
              | 6, h => exact h
              | 7, h => exact h
              | 8, h => exact h
              | 9, h => exact h
              | 10, h => exact h
              | 11, h => exact h
              | 12, h => exact h
              | 13, h => exact h.later hb
              | m + 14, h => exact h
            · intro i v x x' hne hR hb
              match i, hne, hR with
              | 0, hne, h => exact h
              | 1, hne, h => exact h
              | 2, hne, h => exact h
              | 3, hne, h => exact h
              | 4, hne, h => exact h
              | 5, hne, h => exact h
              | 6, hne, h => exact h
              | 7, hne, h => exact h
              | 8, hne, h => exact h
              | 9, hne, h => exact h
              | 10, hne, h => exact h
              | 11, hne, h => exact h
              | 12, hne, h => exact h
              | 13, hne, h => exact absurd rfl hne
              | m + 14, _, h => exact h
            · intro i o hi ho q x vals hX hC hdep hoth
              have t11 : q.tmps[11]? = some (.slice (some ⟨G, 0, none⟩) N cu) := by rw [hoth 11 (by kernel_rfl)]; rfl
              have t9 : q.tmps[9]? = some (.int .i64 (ix : Int)) := by rw [hoth 9 (by kernel_rfl)]; rfl
              have t10 : q.tmps[10]? = some (.int .i64 (jx : Int)) := by rw [hoth 10 (by kernel_rfl)]; rfl
              have t0 : q.tmps[0]? = some (.slice (some ⟨g0, o0, none⟩) N c) := by rw [hoth 0 (by kernel_rfl)]; rfl
              match i, hi, ho, hC with
              | 0, _, ho, hC =>
                simp only [List.getElem?_cons_zero, Option.some.injEq] at ho
                subst ho
                unfold Oper.wp
                simp [execOp, go_sem, t11]
                exact cameB _ rfl (by decide) (Below.refl _ _) rfl (fun h => absurd h (by decide))
              | 1, _, ho, hC =>
                simp only [List.getElem?_cons_succ, List.getElem?_cons_zero, Option.some.injEq] at ho
                subst ho
                unfold Oper.wp
                simp [execOp, go_sem, t9]
                exact cameB _ rfl (by decide) (Below.refl _ _) rfl (fun h => absurd h (by decide))
              | 2, _, ho, hC =>
                simp only [List.getElem?_cons_succ, List.getElem?_cons_zero, Option.some.injEq] at ho
                subst ho
                unfold Oper.wp
                simp [execOp, go_sem, t11]
                exact cameB _ rfl (by decide) (Below.refl _ _) rfl (fun h => absurd h (by decide))
              | 3, _, ho, hC =>
                simp only [List.getElem?_cons_succ, List.getElem?_cons_zero, Option.some.injEq] at ho
                subst ho
                unfold Oper.wp
                simp [execOp, go_sem, t10]
                exact cameB _ rfl (by decide) (Below.refl _ _) rfl (fun h => absurd h (by decide))
              | 4, _, ho, hC =>
                simp only [List.getElem?_cons_succ, List.getElem?_cons_zero, Option.some.injEq] at ho
                subst ho
                unfold Oper.wp
                simp [execOp, go_sem, t0]
                exact cameB _ rfl (by decide) (Below.refl _ _) rfl (fun h => absurd h (by decide))
              | 5, _, ho, hC =>
                simp only [List.getElem?_cons_succ, List.getElem?_cons_zero, Option.some.injEq] at ho
                subst ho
                unfold Oper.wp
                simp [execOp, go_sem, t10]
                exact cameB _ rfl (by decide) (Below.refl _ _) rfl (fun h => absurd h (by decide))
              | 6, _, ho, hC =>
                simp only [List.getElem?_cons_succ, List.getElem?_cons_zero, Option.some.injEq] at ho
                subst ho
                obtain ⟨u4, e4⟩ := hdep ⟨4, .data⟩ (by simp) rfl _ 75 rfl rfl
                rw [show vals 4 = .slice (some ⟨g0, o0, none⟩) N c from e4] at u4
                obtain ⟨u5, e5⟩ := hdep ⟨5, .data⟩ (by simp) rfl _ 76 rfl rfl
                rw [show vals 5 = .int .i64 (jx : Int) from e5] at u5
                unfold Oper.wp
                simp [execOp, go_sem, u4, u5, hjI]
                exact cameB _ rfl (by decide) (Below.refl _ _) rfl (fun h => absurd h (by decide))
              | 7, _, ho, hC =>
                simp only [List.getElem?_cons_succ, List.getElem?_cons_zero, Option.some.injEq] at ho
                subst ho
                obtain ⟨u6, e6⟩ := hdep ⟨6, .data⟩ (by simp) rfl _ 77 rfl rfl
                rw [show vals 6 = .pointer (some ⟨g0, o0 + jx * 4, none⟩) from e6] at u6
                have hb := hC (.inr (by kernel_rfl))
                exact opw_loadP _ rfl (by simp [Act.eval, u6]) (HLj.out.later hb) (cameB _ rfl (by decide) (Below.refl _ _) rfl (fun h => absurd h (by decide)))
              | 8, _, ho, hC =>
                simp only [List.getElem?_cons_succ, List.getElem?_cons_zero, Option.some.injEq] at ho
                subst ho
                unfold Oper.wp
                simp [execOp, go_sem, t0]
                exact cameB _ rfl (by decide) (Below.refl _ _) rfl (fun h => absurd h (by decide))
              | 9, _, ho, hC =>
                simp only [List.getElem?_cons_succ, List.getElem?_cons_zero, Option.some.injEq] at ho
                subst ho
                unfold Oper.wp
                simp [execOp, go_sem, t9]
                exact cameB _ rfl (by decide) (Below.refl _ _) rfl (fun h => absurd h (by decide))
              | 10, _, ho, hC =>
                simp only [List.getElem?_cons_succ, List.getElem?_cons_zero, Option.some.injEq] at ho
                subst ho
                obtain ⟨u8, e8⟩ := hdep ⟨8, .data⟩ (by simp) rfl _ 79 rfl rfl
                rw [show vals 8 = .slice (some ⟨g0, o0, none⟩) N c from e8] at u8
                obtain ⟨u9, e9⟩ := hdep ⟨9, .data⟩ (by simp) rfl _ 80 rfl rfl
                rw [show vals 9 = .int .i64 (ix : Int) from e9] at u9
                unfold Oper.wp
                simp [execOp, go_sem, u8, u9, hiI]
                exact cameB _ rfl (by decide) (Below.refl _ _) rfl (fun h => absurd h (by decide))
              | 11, _, ho, hC =>
                simp only [List.getElem?_cons_succ, List.getElem?_cons_zero, Option.some.injEq] at ho
                subst ho
                obtain ⟨u10, e10⟩ := hdep ⟨10, .data⟩ (by simp) rfl _ 81 rfl rfl
                rw [show vals 10 = .pointer (some ⟨g0, o0 + ix * 4, none⟩) from e10] at u10
                have hb := hC (.inr (by kernel_rfl))
                exact opw_loadP _ rfl (by simp [Act.eval, u10]) (HLi.out.later hb) (cameB _ rfl (by decide) (Below.refl _ _) rfl (fun h => absurd h (by decide)))
              | 12, _, ho, hC =>
                simp only [List.getElem?_cons_succ, List.getElem?_cons_zero, Option.some.injEq] at ho
                subst ho
                obtain ⟨u0, e0⟩ := hdep ⟨0, .data⟩ (by simp) rfl _ 71 rfl rfl
                rw [show vals 0 = .slice (some ⟨G, 0, none⟩) N cu from e0] at u0
                obtain ⟨u1, e1⟩ := hdep ⟨1, .data⟩ (by simp) rfl _ 72 rfl rfl
                rw [show vals 1 = .int .i64 (ix : Int) from e1] at u1
                unfold Oper.wp
                simp [execOp, go_sem, u0, u1, hiI]
                exact cameB _ rfl (by decide) (Below.refl _ _) rfl (fun h => absurd h (by decide))
              | 13, _, ho, hC =>
                simp only [List.getElem?_cons_succ, List.getElem?_cons_zero, Option.some.injEq] at ho
                subst ho
                obtain ⟨u12, e12⟩ := hdep ⟨12, .data⟩ (by simp) rfl _ 83 rfl rfl
                rw [show vals 12 = .pointer (some ⟨G, ix * 4, none⟩) from e12] at u12
                obtain ⟨u7, e7⟩ := hdep ⟨7, .data⟩ (by simp) rfl _ 78 rfl rfl
                rw [show vals 7 = .agg (pcv pj) from e7] at u7
                have hb := hC (.inl rfl)
                refine opw_storeP (p := pj) _ _ rfl (by simp [Act.eval, u12]) (by simp [Act.eval, u7]) HPj ((HG.out.2.2.1.later hb).there hiN) ?_
                exact cameX _ rfl (grown_cells _ _ _ _) ((HG.out.2.2.1.later hb).put hiN pj) rfl
              | m + 14, hi, _, _ => exact absurd hi (by omega)
            · intro vals x hX hR _
              have e2 : vals 2 = .slice (some ⟨G, 0, none⟩) N cu := hR 2 (by decide)
              have e3 : vals 3 = .int .i64 (jx : Int) := hR 3 (by decide)
              have e11 : vals 11 = .agg (pcv pi) := hR 11 (by decide)
              have q1 : Rw 56 4 (.slice (some ⟨G, 0, none⟩) N cu) N (pcells (ps.set ix pj)) x := hR 13 (by decide)
              have gx := grown_ch hX
              have HY := hid_of' (And.intro q1 (And.intro (q1.there hjN) gx))
              clear q1 gx hR hX
              simp only [List.drop, List.take, putAll, List.setIfInBounds_toArray, List.set_cons_succ, List.set_cons_zero, e2, e3, e11]
              clear e2 e3 e11
              go_upto_region 28 with (refine wpL_storeP (p := pi) rfl _ _ rfl rfl rfl HPi HY.out.2.1 ?_; go_simp)
              have chz : Ch (fun k => some G = some k) w1 (x.setCells G (jx * 4) (pcv pi).toList) := Ch.cells (S := fun k => some G = some k) (.inl rfl) _ _ _ HY.out.2.2
              have q1 := HY.out.1.put hjN pi
              clear HY
              generalize x.setCells G (jx * 4) (pcv pi).toList = xz at chz q1 ⊢
              have hBz : BgAt B vb g5 (fun k => k < s1) xz := HG.out.1.ch chz (fun e => by have := Option.some.inj e; omega) (fun k hk e => (HG.out.2.1 k hk).1 (Option.some.inj e).symm) (fun k hk e => by have := Option.some.inj e; omega)
              have low1 := HG.out.2.2.2.1
              have lowz : Below W.heap.size W xz := low1.trans (chz.below (fun s hs e => by have := Option.some.inj e; omega) low1.size)
              have hgl := HG.out.2.2.2.2
              have hll : (swpL m ix jx qi qj).length = N := by unfold swpL; rw [List.length_set, List.length_set]; exact HQ.out.2.2
              have hWz : SlQ xz (.slice (some ⟨G, 0, none⟩) N cu) g5.l := by
                rw [hgl]
                refine SlQ.of_rw (ps := (ps.set ix pj).set jx pi) (by rw [hll]; exact q1) ?_
                unfold swpL
                exact ((HPs.out.1.set ix (HPs.out.1.2 jx pj qj hpj hqj).1 (HPs.out.1.2 jx pj qj hpj hqj).2).set jx (HPs.out.1.2 ix pi qi hpi hqi).1 (HPs.out.1.2 ix pi qi hpi hqi).2).later lowz
              have hlz : g5.l.length ≤ 1000000 := by rw [hgl, hll]; omega
              clear q1 chz low1 hgl hll HG HLi HLj
              have HAl := hid_of' (all_is hBz)
              have HZ := hid_of' (And.intro hWz (And.intro hlz lowz))
              clear hBz hWz hlz lowz
              go_wp2_with (first | (go_at_call 27; refine HAl.out.mono ?_; rintro e w8 ⟨u8, rfl, h81, h82, h83⟩; clear HAl; have H8 := hid_of' (And.intro h81 h83); clear h81 h82 h83; obtain ⟨ua8, uc8, rfl, _, _⟩ := H8.out.1.form) | (go_at_call 26; refine (parcels_eq H8.out.1.q (HZ.out.1.later H8.out.2) HZ.out.2.1).mono ?_; rintro e w9 ⟨rfl, hb9⟩) | (go_at_call 11; refine (HW.out _).mono ?_; rintro e w10 ⟨rfl, hb10⟩))
              go_ret
              exact ⟨rfl, bgo (bgo (bgo HZ.out.2.2 H8.out.2) hb9) hb10⟩
    · have HLd := hid_of' (load_bad HL1.out HQ.out.2.1 100 (by decide) (by decide) (by omega) ib qb hib hbad hto)
      have HBd := hid_of' (And.intro hib (And.intro hbad hto))
      clear hib hbad hto r0
      go_upto_region 4 with (go_at_call 15; refine HLd.out.mono ?_; rintro e w2 ⟨u, rfl, he2, hb2⟩; clear HLd; obtain ⟨eb, rfl, he2⟩ := he2)
      have H2 := hid_of' (And.intro he2 hb2)
      have HRf := hid_of' (refLoad_any (HQ.out.2.1.later hb2) 100 (by decide) (by decide) (by omega))
      clear he2 hb2
      go_upto_region 6 with (first | (go_at_call 16; refine HRf.out.mono ?_; rintro e w3 ⟨⟨bv, nv, rfl, hr3⟩, hb3⟩; clear HRf; (have hr3 := hr3.resolve_left (fun hh => by have := hh.1 ib qb (List.getElem?_eq_some_iff.1 HBd.out.1).1 HBd.out.1; rw [HBd.out.2.1] at this; cases this)); obtain ⟨i3, q3, hi3, hq3, ht3, rfl, gn, gn', rfl, hn1, hn2, hn3, hn4⟩ := hr3; have HN3 := hid_of' (And.intro (right_same HBd.out.1 HBd.out.2.1 HBd.out.2.2 hi3 hq3 ht3) (And.intro hn1 (And.intro hn2 (And.intro hn3 (And.intro hn4 hb3))))); clear hi3 hq3 ht3 hn1 hn2 hn3 hn4 hb3) | (refine wpL_storeNo rfl _ _ rfl rfl (code := ((5 : Nat) : Int) + 1) (a := some ⟨gn', 0, none⟩) (n := 1) (c := 1) (a' := some ⟨gn, 0, none⟩) (n' := 1) (c' := 1) rfl (row_new w3 _ _) ?_))
      have rN := (row_new w3 #[.int .i64 0, .slice none 0 0, .slice none 0 0] 32).put (nov (((5 : Nat) : Int) + 1) (some ⟨gn', 0, none⟩) 1 1 (some ⟨gn, 0, none⟩) 1 1)
      have hbN := below_row (below_one w3 (.cells #[.int .i64 0, .slice none 0 0, .slice none 0 0] 32)) (Nat.le_refl _) (nov (((5 : Nat) : Int) + 1) (some ⟨gn', 0, none⟩) 1 1 (some ⟨gn, 0, none⟩) 1 1)
      generalize (w3.alloc (.cells #[.int .i64 0, .slice none 0 0, .slice none 0 0] 32)).setRow w3.heap.size (nov (((5 : Nat) : Int) + 1) (some ⟨gn', 0, none⟩) 1 1 (some ⟨gn, 0, none⟩) 1 1) = w4 at rN hbN ⊢
      have hEr : ErrR ad (W.heap.size + 1) (some (bLoad, (ib : Int), 5)) (.iface 96 (.pointer (some ⟨eb, 0, none⟩))) w4 := ⟨eb, rfl, by have := H2.out.1.1; omega, H2.out.1.2.1, RowAt.later H2.out.1.2.2 (bgo HN3.out.2.2.2.2.2 hbN)⟩
      have hNo : NoR w2.heap.size (some (bLoad, (ib : Int), 5)) (.agg (nov (((5 : Nat) : Int) + 1) (some ⟨gn', 0, none⟩) 1 1 (some ⟨gn, 0, none⟩) 1 1)) w4 := by
        rw [HN3.out.1]
        exact ⟨gn, gn', rfl, HN3.out.2.1, HN3.out.2.2.1, HN3.out.2.2.2.1.later hbN, HN3.out.2.2.2.2.1.later hbN⟩
      have hb4 := bgo (bgo (bgo HB0.out H2.out.2) HN3.out.2.2.2.2.2) hbN
      have HRe := hid_of' (refused_is (HLW.out.below hb4) hEr hNo)
      have HRN := hid_of' rN
      have HB4 := hid_of' hb4
      clear rN hbN hEr hNo hb4
      go_wp2_with (first | (refine wpL_loadNo rfl _ rfl rfl HRN.out rfl ?_) | (go_at_call 10; refine HRe.out.mono ?_; rintro e w5 ⟨rfl, hb5⟩; clear HRe) | (go_at_call 11; refine (HW.out _).mono ?_; rintro e w6 ⟨rfl, hb6⟩))
      go_ret
      exact ⟨rfl, bgo (bgo HB4.out hb5) hb6⟩
end Go.Proofs.YtbjbihgfkcnmbaaDoor
