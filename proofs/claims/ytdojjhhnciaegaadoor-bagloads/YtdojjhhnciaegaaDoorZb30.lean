
/-
  The document's side: Look, Clear.
-/
import Derived.Test.YtdojjhhnciaegaaDoorZb29
namespace Go.Proofs.YtdojjhhnciaegaaDoor
open Go.RowKit Go.Extern.Stop Go.Stop Go.Extern
set_option maxRecDepth 100000

theorem opw_loadNo {o : Oper} {A : Act} {w : World} {K : Act → World → Prop} {Q : Exit → Act → World → Prop} (x : Operand) (ho : o.op = .load 32 x) {b : Nat} (hx : A.eval x = .pointer (some ⟨b, 0, none⟩)) {cs : Array Value} (h : RowAt b cs 32 w) (hs : cs.size = 3) (k : K (A.put o.dst (.agg cs)) w) : o.wp Tryd.prog A w K Q := by
  have hi : (Tryd.prog.info? 32).map (·.size) = some cs.size := by rw [hs]; exact no_size
  unfold Oper.wp execOp
  simp only [ho, hx, Instr.loadAt, Instr.sureAddr, Sem.run_bind, Sem.run_pure, Result.andThen_ok, run_loadVar_in h.in Tryd.underlying32 rfl hi]
  exact k
theorem grown_row (w : World) (g : Nat) (cs : Array Value) : w.grownBy (w.setRow g cs) (some g) := by
  have c := Ch.row (S := fun k => some g = some k) (Ch.refl _ w) (.inl rfl) cs
  exact ⟨c.os, c.tape, c.output, c.size, fun k hk hn => c.block k hk (fun e => hn e.symm)⟩
theorem results_cn {fn : Func} {p q : Tmp} {tmps : Array Value} {w : World} {g g' : Nat} {e : Pc} {cs : Array Value} (h : fn.results = #[.cell p 65, .cell q 32]) (hp : tmps.getD p undef = .pointer (some ⟨g, 0, none⟩)) (hg : RowAt g (pcv e) 65 w) (hq : tmps.getD q undef = .pointer (some ⟨g', 0, none⟩)) (hg' : RowAt g' cs 32 w) (hs : cs.size = 3) :
    (results fn tmps).run Tryd.prog w = .ok (.tuple #[.agg (pcv e), .agg cs]) w := by
  have hp' : tmps[p]?.getD undef = .pointer (some ⟨g, 0, none⟩) := by simpa using hp
  have hq' : tmps[q]?.getD undef = .pointer (some ⟨g', 0, none⟩) := by simpa using hq
  have hi : (Tryd.prog.info? 32).map (·.size) = some cs.size := by rw [hs]; exact no_size
  simp [results, h, hp', hq', asAddr, run_loadVar_row w g _ _ _ _ _ hg Tryd.underlying65 rfl (p_size e), run_loadVar_row w g' _ _ _ _ _ hg' Tryd.underlying32 rfl hi]
theorem RgAt.later {B : Nat} {v : Value} {g : Bg} {K : Nat → Prop} {w w' : World} (h : RgAt B v g K w) (hb : Below w.heap.size w w') : RgAt B v g K w' := ⟨h.lies.later hb, h.row.later hb, h.most1, h.room⟩
set_option maxHeartbeats 4000000 in
theorem refLook_in {B : Nat} {v : Value} {g : Bg} {K : Nat → Prop} {w : World} (h : RgAt B v g K w) {n : Nat} {q : Pl} (hq : g.l[n]? = some q) :
    Calls Tryd.prog 37 #[.pointer (some ⟨B, 0, none⟩), .int .i64 (n : Int)] w fun e w' => ∃ p, e = .returned (.tuple #[.agg (pcv p), nov0]) ∧ PcIs K p q w' ∧ Below w.heap.size w w' := by
  obtain ⟨g9, c9, p, hv, _, _, hin, hpq, _⟩ := h.row.at hq
  subst hv
  have hn := (List.getElem?_eq_some_iff.1 hq).1
  have hnI : (n : Int) < (g.l.length : Int) := by omega
  have HP1 : p.b.oneCell' = true := hpq.b.sl.one
  have r4 := (row_new w (pcv pc0) 65).later (below_one _ (.cells #[.int .i64 0, .slice none 0 0, .slice none 0 0] 32))
  have r5 := row_new2 w (.cells (pcv pc0) 65) #[.int .i64 0, .slice none 0 0, .slice none 0 0] 32
  have hb2 := below_two w (.cells (pcv pc0) 65) (.cells #[.int .i64 0, .slice none 0 0, .slice none 0 0] 32)
  go_enter Tryd.func37, Tryd.ntmps37
  go_upto_region 1 with fail
  generalize hw2 : ((w.alloc (.cells (pcv pc0) 65)).alloc (.cells #[.int .i64 0, .slice none 0 0, .slice none 0 0] 32)) = w2 at r4 r5 hb2
  rw [show ((w.alloc (.cells #[.int .i64 0, .int .i64 0, .int .i64 0, .slice none 0 0] 65)).alloc (.cells #[.int .i64 0, .slice none 0 0, .slice none 0 0] 32)) = w2 from hw2]
  clear hw2
  have HIs := hid_of' (refIs_in (h.later hb2) bLook hn)
  have H := hid_of' (And.intro h (And.intro hin (And.intro hpq (And.intro r4 (And.intro r5 hb2)))))
  clear h hin hpq r4 r5 hb2 hq
  go_upto_region 2 with (first | (go_at_call 62; refine HIs.out.mono ?_; rintro e w3 ⟨rfl, hb3⟩; clear HIs; unfold nov0) | (refine wpL_storeNo rfl _ _ rfl rfl (code := 0) (a := none) (n := 0) (c := 0) (a' := none) (n' := 0) (c' := 0) rfl (row_new w3 _ _) ?_))
  have r6 := (row_new w3 #[.int .i64 0, .slice none 0 0, .slice none 0 0] 32).put (nov 0 none 0 0 none 0 0)
  have hb4 := below_row (below_one w3 (.cells #[.int .i64 0, .slice none 0 0, .slice none 0 0] 32)) (Nat.le_refl _) (nov 0 none 0 0 none 0 0)
  generalize (w3.alloc (.cells #[.int .i64 0, .slice none 0 0, .slice none 0 0] 32)).setRow w3.heap.size (nov 0 none 0 0 none 0 0) = w4 at r6 hb4 ⊢
  have hb24 := bgo hb3 hb4
  have hbw4 := bgo H.out.2.2.2.2.2 hb24
  have c6 : w4.cell? ⟨w3.heap.size, 0, none⟩ = some (.int .i64 0) := r6.cellIs 0 rfl
  obtain ⟨b6, hb6⟩ : ∃ b6, w3.heap.size = b6 := ⟨_, rfl⟩
  obtain ⟨b4, hb4'⟩ : ∃ b4, w.heap.size = b4 := ⟨_, rfl⟩
  have r4' := H.out.2.2.2.1.later hb24
  have r5' := H.out.2.2.2.2.1.later hb24
  rw [hb6] at r6 c6 ⊢
  rw [hb4'] at r4' r5' ⊢
  have hlB := H.out.1.lies.lt
  have hs2 := H.out.2.2.2.2.1.lt
  have hs3 := hb3.size
  have hB4 : ¬ some b4 = some B := fun e => by have := Option.some.inj e; omega
  have hB64 : ¬ some b4 = some b6 := fun e => by have := Option.some.inj e; omega
  have H4 := hid_of' (And.intro (H.out.1.lies.later hbw4) (And.intro (H.out.2.1.later hbw4) (And.intro r6 (And.intro r4' (And.intro r5' (And.intro ((H.out.2.2.1.later hbw4).mono (K' := fun k => K k ∧ k < w4.heap.size) (fun k hk hl => ⟨hk, hl⟩)) hbw4))))))
  have HP4 : Hid (PcIs (fun k => K k ∧ k < b4) p q w4) := by
    have := (H.out.2.2.1.mono (K' := fun k => K k ∧ k < b4) (fun k hk hl => ⟨hk, by omega⟩)).later hbw4
    exact this
  clear r6 hb24 hbw4 hb3 hb4 H r4' r5'
  go_upto_region 4 with fail
  clear c6
  refine wp_region_once 9 (by kernel_rfl) (fun _ => none) (by kernel_rfl) (by kernel_rfl) (by decide) (fun i v x => match i with
    | 0 => v = .pointer (some ⟨B, 0, none⟩)
    | 1 => v = .pointer (some ⟨B, 0, none⟩)
    | 2 => v = .pointer (some ⟨B, 2, none⟩)
    | 3 => v = .slice (some ⟨g9, 0, none⟩) g.l.length c9
    | 4 => v = .int .i64 (n : Int)
    | 5 => v = .pointer (some ⟨g9, n * 4, none⟩)
    | 6 => v = .agg (pcv p)
    | 7 => v = .agg (nov 0 none 0 0 none 0 0)
    | 8 => RowAt b4 (pcv p) 65 x
    | _ => True) (fun _ => false) (fun _ _ _ _ h => by cases h) 8 (by decide) (fun a b => World.grownBy a b (some b4)) (fun a b => World.grownBy a b (some b4)) (fun _ _ g h => grown_later g h) (fun _ h => grown_of h) (fun _ _ h g => grown_first h g) (fun _ _ g => g.size) ?_ ?_ ?_ ?_
  · intro i v x x' hR hb
    match i, hR with
    | 0, h => exact h
    | 1, h => exact h
    | 2, h => exact h
    | 3, h => exact h
    | 4, h => exact h
    | 5, h => exact h
    | 6, h => exact h
    | 7, h => exact h
    | 8, h => exact h.later hb
    | m + 9, h => exact h
  · intro i v x x' hne hR hb
    match i, hne, hR with
    | 0, hne, h => exact h
    | 1, hne, h => exact h
    | 2, hne, h => exact h
    | 3, hne, h => exact h
    | 4, hne, h => exact h
    | 5, hne, h => exact h
    | 6, hne, h => exact h
    | 7, hne, h => exact h
    | 8, hne, h => exact absurd rfl hne
    | m + 9, _, h => exact h
  · intro i o hi ho q x vals hX hC hdep hoth
    have t0 : q.tmps[0]? = some (.pointer (some ⟨B, 0, none⟩)) := by rw [hoth 0 (by kernel_rfl)]; rfl
    have t1 : q.tmps[1]? = some (.int .i64 (n : Int)) := by rw [hoth 1 (by kernel_rfl)]; rfl
    have t6 : q.tmps[6]? = some (.pointer (some ⟨b6, 0, none⟩)) := by rw [hoth 6 (by kernel_rfl)]; rfl
    have t4 : q.tmps[4]? = some (.pointer (some ⟨b4, 0, none⟩)) := by rw [hoth 4 (by kernel_rfl)]; rfl
    match i, hi, ho, hC with
    | 0, _, ho, hC =>
      simp only [List.getElem?_cons_zero, Option.some.injEq] at ho
      subst ho
      unfold Oper.wp
      simp [execOp, go_sem, t0]
      exact cameB _ rfl (by decide) (Below.refl _ _) rfl (fun h => absurd h (by decide))
    | 1, _, ho, hC =>
      simp only [List.getElem?_cons_succ, List.getElem?_cons_zero, Option.some.injEq] at ho
      subst ho
      obtain ⟨u0, e0⟩ := hdep ⟨0, .data⟩ (by simp) rfl _ 15 rfl rfl
      rw [show vals 0 = .pointer (some ⟨B, 0, none⟩) from e0] at u0
      unfold Oper.wp
      simp [execOp, go_sem, u0]
      exact cameB _ rfl (by decide) (Below.refl _ _) rfl (fun h => absurd h (by decide))
    | 2, _, ho, hC =>
      simp only [List.getElem?_cons_succ, List.getElem?_cons_zero, Option.some.injEq] at ho
      subst ho
      obtain ⟨u1, e1⟩ := hdep ⟨1, .data⟩ (by simp) rfl _ 16 rfl rfl
      rw [show vals 1 = .pointer (some ⟨B, 0, none⟩) from e1] at u1
      unfold Oper.wp
      simp [execOp, go_sem, u1]
      exact cameB _ rfl (by decide) (Below.refl _ _) rfl (fun h => absurd h (by decide))
    | 3, _, ho, hC =>
      simp only [List.getElem?_cons_succ, List.getElem?_cons_zero, Option.some.injEq] at ho
      subst ho
      obtain ⟨u2, e2⟩ := hdep ⟨2, .data⟩ (by simp) rfl _ 17 rfl rfl
      rw [show vals 2 = .pointer (some ⟨B, 2, none⟩) from e2] at u2
      have cc : x.cell? ⟨B, 2, none⟩ = some (.slice (some ⟨g9, 0, none⟩) g.l.length c9) := (RowAt.grow H4.out.1 hX hB4).cellIs 2 rfl
      unfold Oper.wp
      simp [execOp, go_sem, u2, cc]
      exact cameB _ rfl (by decide) (Below.refl _ _) rfl (fun h => absurd h (by decide))
    | 4, _, ho, hC =>
      simp only [List.getElem?_cons_succ, List.getElem?_cons_zero, Option.some.injEq] at ho
      subst ho
      unfold Oper.wp
      simp [execOp, go_sem, t1]
      exact cameB _ rfl (by decide) (Below.refl _ _) rfl (fun h => absurd h (by decide))
    | 5, _, ho, hC =>
      simp only [List.getElem?_cons_succ, List.getElem?_cons_zero, Option.some.injEq] at ho
      subst ho
      obtain ⟨u3, e3⟩ := hdep ⟨3, .data⟩ (by simp) rfl _ 18 rfl rfl
      rw [show vals 3 = .slice (some ⟨g9, 0, none⟩) g.l.length c9 from e3] at u3
      obtain ⟨u4, e4⟩ := hdep ⟨4, .data⟩ (by simp) rfl _ 19 rfl rfl
      rw [show vals 4 = .int .i64 (n : Int) from e4] at u4
      unfold Oper.wp
      simp [execOp, go_sem, u3, u4, hnI]
      exact cameB _ rfl (by decide) (Below.refl _ _) rfl (fun h => absurd h (by decide))
    | 6, _, ho, hC =>
      simp only [List.getElem?_cons_succ, List.getElem?_cons_zero, Option.some.injEq] at ho
      subst ho
      obtain ⟨u5, e5⟩ := hdep ⟨5, .data⟩ (by simp) rfl _ 20 rfl rfl
      rw [show vals 5 = .pointer (some ⟨g9, n * 4, none⟩) from e5] at u5
      have hb := hC (.inr (by kernel_rfl))
      exact opw_loadP _ rfl (by simp [Act.eval, u5]) (H4.out.2.1.later hb) (cameB _ rfl (by decide) (Below.refl _ _) rfl (fun h => absurd h (by decide)))
    | 7, _, ho, hC =>
      simp only [List.getElem?_cons_succ, List.getElem?_cons_zero, Option.some.injEq] at ho
      subst ho
      exact opw_loadNo _ rfl (by simp [Act.eval, t6]) (RowAt.grow H4.out.2.2.1 hX hB64) rfl (cameB _ rfl (by decide) (Below.refl _ _) rfl (fun h => absurd h (by decide)))
    | 8, _, ho, hC =>
      simp only [List.getElem?_cons_succ, List.getElem?_cons_zero, Option.some.injEq] at ho
      subst ho
      obtain ⟨u6, e6⟩ := hdep ⟨6, .data⟩ (by simp) rfl _ 21 rfl rfl
      rw [show vals 6 = .agg (pcv p) from e6] at u6
      have hb := hC (.inl rfl)
      have r4x := H4.out.2.2.2.1.later hb
      refine wp_store_row _ _ _ rfl b4 (pcv p) (by simp [Act.eval, t4]) (by simp [Act.eval, u6]) _ _ r4x (p_size p) rfl (pcv_one p HP1) ?_
      exact cameX _ rfl (grown_row _ _ _) (r4x.put _) rfl
    | m + 9, hi, _, _ => exact absurd hi (by omega)
  · intro vals x hX hR _
    have e7 : vals 7 = .agg (nov 0 none 0 0 none 0 0) := hR 7 (by decide)
    have x4 : RowAt b4 (pcv p) 65 x := hR 8 (by decide)
    have gx := grown_ch hX
    have x5 := RowAt.grow H4.out.2.2.2.2.1 hX (fun e => by have := Option.some.inj e; omega)
    have hpx := HP4.out.ch gx (fun k hk e => by have := Option.some.inj e; have := hk.2; omega)
    have hbw := H4.out.2.2.2.2.2.2
    have hbx : Below w.heap.size w x := hbw.trans (gx.below (fun s hs e => by have := Option.some.inj e; omega) hbw.size)
    have HX := hid_of' (And.intro x4 (And.intro x5 (And.intro hpx hbx)))
    clear x4 x5 hpx hbx hR hX gx hbw
    simp only [List.drop, List.take, putAll, List.setIfInBounds_toArray, List.set_cons_succ, List.set_cons_zero, e7]
    clear e7
    go_wp2_with (refine wpL_storeNo rfl _ _ rfl rfl (code := 0) (a := none) (n := 0) (c := 0) (a' := none) (n' := 0) (c' := 0) rfl HX.out.2.1 ?_)
    refine bodyPost_ret (v := .tuple #[.agg (pcv p), nov0]) (results_cn (fn := Tryd.f37) (p := 4) (q := 5) (g := b4) (g' := b4 + 1) rfl rfl (HX.out.1.other _ _ (by omega)) rfl (HX.out.2.1.put _) rfl) rfl ⟨p, rfl, ?_, below_row HX.out.2.2.2 (by omega) _⟩
    exact (HX.out.2.2.1.ch (Ch.row (S := fun s => s = b4 + 1) (Ch.refl _ _) (.inl rfl) _) (fun k hk e => by have := hk.2; omega)).mono (fun k hk _ => hk.1)
set_option maxHeartbeats 1000000 in
theorem refClear_is {B : Nat} {v : Value} {g : Bg} {K : Nat → Prop} {w : World} (h : RgAt B v g K w) (h0 : 0 ≤ g.most) :
    Calls Tryd.prog 42 #[.pointer (some ⟨B, 0, none⟩)] w fun e w' => (∃ z, e = .returned z) ∧ RgAt B (.slice none 0 0) (clrG g) K w' ∧ Ch (fun k => k = B) w w' := by
  obtain ⟨a9, c9, rfl⟩ := h.slice
  have H := hid_of' h
  clear h
  go_enter Tryd.func42, Tryd.ntmps42
  have kw : IntKind.i64.wrap (g.drp + (g.l.length : Int)) = wrap64 (g.drp + (g.l.length : Int)) := by rw [IntKind.wrap_i64, wrap64]
  go_upto_region 0 with fail
  refine wp_region_tail 11 (by kernel_rfl) (fun _ => none) (by kernel_rfl) (by kernel_rfl) (by decide) (fun i v x => match i with
    | 0 => v = .pointer (some ⟨B, 0, none⟩)
    | 1 => v = .pointer (some ⟨B, 0, none⟩)
    | 2 => v = .pointer (some ⟨B, 0, none⟩)
    | 3 => v = .pointer (some ⟨B, 5, none⟩)
    | 4 => v = .int .i64 g.drp
    | 5 => v = .pointer (some ⟨B, 0, none⟩)
    | 6 => v = .pointer (some ⟨B, 0, none⟩)
    | 7 => v = .pointer (some ⟨B, 2, none⟩)
    | 8 => v = .slice a9 g.l.length c9
    | 9 => v = .int .i64 (g.l.length : Int)
    | 10 => v = .int .i64 (wrap64 (g.drp + (g.l.length : Int)))
    | _ => True) (fun _ => false) (fun _ _ _ _ h => by cases h) ?_ ?_ ?_
  · intro i v x x' hR hb
    match i, hR with
    | 0, h => exact h
    | 1, h => exact h
    | 2, h => exact h
    | 3, h => exact h
    | 4, h => exact h
    | 5, h => exact h
    | 6, h => exact h
    | 7, h => exact h
    | 8, h => exact h
    | 9, h => exact h
    | 10, h => exact h
    | m + 11, h => exact h
  · intro i o hi ho q x vals hX hdep hoth
    have t0 : q.tmps[0]? = some (.pointer (some ⟨B, 0, none⟩)) := by rw [hoth 0 (by kernel_rfl)]; rfl
    match i, hi, ho with
    | 0, _, ho =>
      simp only [List.getElem?_cons_zero, Option.some.injEq] at ho
      subst ho
      unfold Oper.wp
      simp [execOp, go_sem, t0]
      exact came _ rfl (Below.refl _ _) rfl (fun h => absurd h (by decide))
    | 1, _, ho =>
      simp only [List.getElem?_cons_succ, List.getElem?_cons_zero, Option.some.injEq] at ho
      subst ho
      unfold Oper.wp
      simp [execOp, go_sem, t0]
      exact came _ rfl (Below.refl _ _) rfl (fun h => absurd h (by decide))
    | 2, _, ho =>
      simp only [List.getElem?_cons_succ, List.getElem?_cons_zero, Option.some.injEq] at ho
      subst ho
      obtain ⟨u1, e1⟩ := hdep ⟨1, .data⟩ (by simp) rfl _ 3 rfl rfl
      rw [show vals 1 = .pointer (some ⟨B, 0, none⟩) from e1] at u1
      unfold Oper.wp
      simp [execOp, go_sem, u1]
      exact came _ rfl (Below.refl _ _) rfl (fun h => absurd h (by decide))
    | 3, _, ho =>
      simp only [List.getElem?_cons_succ, List.getElem?_cons_zero, Option.some.injEq] at ho
      subst ho
      obtain ⟨u2, e2⟩ := hdep ⟨2, .data⟩ (by simp) rfl _ 4 rfl rfl
      rw [show vals 2 = .pointer (some ⟨B, 0, none⟩) from e2] at u2
      unfold Oper.wp
      simp [execOp, go_sem, u2]
      exact came _ rfl (Below.refl _ _) rfl (fun h => absurd h (by decide))
    | 4, _, ho =>
      simp only [List.getElem?_cons_succ, List.getElem?_cons_zero, Option.some.injEq] at ho
      subst ho
      obtain ⟨u3, e3⟩ := hdep ⟨3, .data⟩ (by simp) rfl _ 5 rfl rfl
      rw [show vals 3 = .pointer (some ⟨B, 5, none⟩) from e3] at u3
      have cc : x.cell? ⟨B, 5, none⟩ = some (.int .i64 g.drp) := (H.out.lies.later hX).cellIs 5 rfl
      unfold Oper.wp
      simp [execOp, go_sem, u3, cc]
      exact came _ rfl (Below.refl _ _) rfl (fun h => absurd h (by decide))
    | 5, _, ho =>
      simp only [List.getElem?_cons_succ, List.getElem?_cons_zero, Option.some.injEq] at ho
      subst ho
      unfold Oper.wp
      simp [execOp, go_sem, t0]
      exact came _ rfl (Below.refl _ _) rfl (fun h => absurd h (by decide))
    | 6, _, ho =>
      simp only [List.getElem?_cons_succ, List.getElem?_cons_zero, Option.some.injEq] at ho
      subst ho
      obtain ⟨u5, e5⟩ := hdep ⟨5, .data⟩ (by simp) rfl _ 7 rfl rfl
      rw [show vals 5 = .pointer (some ⟨B, 0, none⟩) from e5] at u5
      unfold Oper.wp
      simp [execOp, go_sem, u5]
      exact came _ rfl (Below.refl _ _) rfl (fun h => absurd h (by decide))
    | 7, _, ho =>
      simp only [List.getElem?_cons_succ, List.getElem?_cons_zero, Option.some.injEq] at ho
      subst ho
      obtain ⟨u6, e6⟩ := hdep ⟨6, .data⟩ (by simp) rfl _ 8 rfl rfl
      rw [show vals 6 = .pointer (some ⟨B, 0, none⟩) from e6] at u6
      unfold Oper.wp
      simp [execOp, go_sem, u6]
      exact came _ rfl (Below.refl _ _) rfl (fun h => absurd h (by decide))
    | 8, _, ho =>
      simp only [List.getElem?_cons_succ, List.getElem?_cons_zero, Option.some.injEq] at ho
      subst ho
      obtain ⟨u7, e7⟩ := hdep ⟨7, .data⟩ (by simp) rfl _ 9 rfl rfl
      rw [show vals 7 = .pointer (some ⟨B, 2, none⟩) from e7] at u7
      have cc : x.cell? ⟨B, 2, none⟩ = some (.slice a9 g.l.length c9) := (H.out.lies.later hX).cellIs 2 rfl
      unfold Oper.wp
      simp [execOp, go_sem, u7, cc]
      exact came _ rfl (Below.refl _ _) rfl (fun h => absurd h (by decide))
    | 9, _, ho =>
      simp only [List.getElem?_cons_succ, List.getElem?_cons_zero, Option.some.injEq] at ho
      subst ho
      obtain ⟨u8, e8⟩ := hdep ⟨8, .data⟩ (by simp) rfl _ 10 rfl rfl
      rw [show vals 8 = .slice a9 g.l.length c9 from e8] at u8
      unfold Oper.wp
      simp [go_sem, u8]
      exact came _ rfl (Below.refl _ _) rfl (fun h => absurd h (by decide))
    | 10, _, ho =>
      simp only [List.getElem?_cons_succ, List.getElem?_cons_zero, Option.some.injEq] at ho
      subst ho
      obtain ⟨u4, e4⟩ := hdep ⟨4, .data⟩ (by simp) rfl _ 6 rfl rfl
      rw [show vals 4 = .int .i64 g.drp from e4] at u4
      obtain ⟨u9, e9⟩ := hdep ⟨9, .data⟩ (by simp) rfl _ 11 rfl rfl
      rw [show vals 9 = .int .i64 (g.l.length : Int) from e9] at u9
      unfold Oper.wp
      simp [execOp, go_sem, u4, u9, kw]
      exact came _ rfl (Below.refl _ _) rfl (fun h => absurd h (by decide))
    | m + 11, hi, _ => exact absurd hi (by omega)
  · intro vals x hX hR _
    have e0 : vals 0 = .pointer (some ⟨B, 0, none⟩) := hR 0 (by decide)
    have e10 : vals 10 = .int .i64 (wrap64 (g.drp + (g.l.length : Int))) := hR 10 (by decide)
    have r1 := H.out.lies.later hX
    have c5 := r1.cellIs 5 rfl
    have f5 := r1.froz 5
    have r2 := r1.setc 5 (.int .i64 (wrap64 (g.drp + (g.l.length : Int))))
    have ch2 : Ch (fun k => k = B) w (x.setCell ⟨B, 5, none⟩ (.int .i64 (wrap64 (g.drp + (g.l.length : Int))))) := Ch.set (S := fun k => k = B) (p := ⟨B, 5, none⟩) (Ch.of hX) (.inl rfl) _
    have H2 := hid_of' (And.intro r2 ch2)
    clear r2 ch2 r1 hR hX
    simp only [List.drop, List.take, putAll, List.setIfInBounds_toArray, List.set_cons_succ, List.set_cons_zero, e0, e10]
    clear e0 e10
    go_upto_region 1 with fail
    clear c5 f5
    generalize x.setCell ⟨B, 5, none⟩ (.int .i64 (wrap64 (g.drp + (g.l.length : Int)))) = x2 at H2 ⊢
    have c2 := H2.out.1.cellIs 2 rfl
    have f2 := H2.out.1.froz 2
    go_wp2
    go_end0
    refine ⟨⟨_, rfl⟩, ⟨?_, PRow.nil _ _, H.out.most1, ?_⟩, Ch.set (S := fun k => k = B) (p := ⟨B, 2, none⟩) H2.out.2 (.inl rfl) _⟩
    · exact H2.out.1.setc 2 (.slice none 0 0)
    · exact h0
end Go.Proofs.YtdojjhhnciaegaaDoor
