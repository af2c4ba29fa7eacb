
/-
  Package bag: Clear, Swap, allOwn, All.
-/
import Derived.Test.YtdojjhhnciaegaaDoorZb20
namespace Go.Proofs.YtdojjhhnciaegaaDoor
open Go.RowKit Go.Extern.Stop Go.Stop Go.Extern
set_option maxRecDepth 100000

/-- Behind Clear. -/
def clrG (g : Bg) : Bg := { g with drp := wrap64 (g.drp + (g.l.length : Int)), l := [] }
set_option maxHeartbeats 1000000 in
theorem clear_is {B : Nat} {v : Value} {g : Bg} {K : Nat → Prop} {w : World} (h : BgAt B v g K w) :
    Calls Tryd.prog 41 #[.pointer (some ⟨B, 0, none⟩)] w fun e w' => (∃ z, e = .returned z) ∧ BgAt B (.slice none 0 0) (clrG g) K w' ∧ Ch (Bch B v) w w' := by
  obtain ⟨a9, c9, rfl⟩ := h.slice
  have H := hid_of' h
  clear h
  go_enter Tryd.func41, Tryd.ntmps41
  have kw : IntKind.i64.wrap (g.drp + (g.l.length : Int)) = wrap64 (g.drp + (g.l.length : Int)) := by rw [IntKind.wrap_i64, wrap64]
  go_upto_region 0 with fail
  refine wp_region_tail 10 (by kernel_rfl) (fun _ => none) (by kernel_rfl) (by kernel_rfl) (by decide) (fun i v x => match i with
    | 0 => v = .pointer (some ⟨B, 0, none⟩)
    | 1 => v = .pointer (some ⟨B, 0, none⟩)
    | 2 => v = .pointer (some ⟨B, 5, none⟩)
    | 3 => v = .int .i64 g.drp
    | 4 => v = .pointer (some ⟨B, 0, none⟩)
    | 5 => v = .pointer (some ⟨B, 0, none⟩)
    | 6 => v = .pointer (some ⟨B, 1, none⟩)
    | 7 => v = .slice a9 g.l.length c9
    | 8 => v = .int .i64 (g.l.length : Int)
    | 9 => v = .int .i64 (wrap64 (g.drp + (g.l.length : Int)))
    | _ => True) (fun _ => false) (fun _ _ _ _ h => by cases h) ?_ ?_ ?_
  · intro i v x x' hR hb
    match i, hR with
    | 0, h => exact h
    | 1, h => exact h
    | 2, h => exact h
    | 3, h => exact h
    | 4, h => exact h
    | 5, h => exact h
    | 6, h => exact h
    | 7, h => exact h
    | 8, h => exact h
    | 9, h => exact h
    | m + 10, h => exact h
  · intro i o hi ho q x vals hX hdep hoth
    have t0 : q.tmps[0]? = some (.pointer (some ⟨B, 0, none⟩)) := by rw [hoth 0 (by kernel_rfl)]; rfl
    match i, hi, ho with
    | 0, _, ho =>
      simp only [List.getElem?_cons_zero, Option.some.injEq] at ho
      subst ho
      unfold Oper.wp
      simp [execOp, go_sem, t0]
      exact came _ rfl (Below.refl _ _) rfl (fun h => absurd h (by decide))
    | 1, _, ho =>
      simp only [List.getElem?_cons_succ, List.getElem?_cons_zero, Option.some.injEq] at ho
      subst ho
      obtain ⟨u0, e0⟩ := hdep ⟨0, .data⟩ (by simp) rfl _ 2 rfl rfl
      rw [show vals 0 = .pointer (some ⟨B, 0, none⟩) from e0] at u0
      unfold Oper.wp
      simp [execOp, go_sem, u0]
      exact came _ rfl (Below.refl _ _) rfl (fun h => absurd h (by decide))
    | 2, _, ho =>
      simp only [List.getElem?_cons_succ, List.getElem?_cons_zero, Option.some.injEq] at ho
      subst ho
      obtain ⟨u1, e1⟩ := hdep ⟨1, .data⟩ (by simp) rfl _ 3 rfl rfl
      rw [show vals 1 = .pointer (some ⟨B, 0, none⟩) from e1] at u1
      unfold Oper.wp
      simp [execOp, go_sem, u1]
      exact came _ rfl (Below.refl _ _) rfl (fun h => absurd h (by decide))
    | 3, _, ho =>
      simp only [List.getElem?_cons_succ, List.getElem?_cons_zero, Option.some.injEq] at ho
      subst ho
      obtain ⟨u2, e2⟩ := hdep ⟨2, .data⟩ (by simp) rfl _ 4 rfl rfl
      rw [show vals 2 = .pointer (some ⟨B, 5, none⟩) from e2] at u2
      have cc : x.cell? ⟨B, 5, none⟩ = some (.int .i64 g.drp) := (H.out.lies.later hX).cellIs 5 rfl
      unfold Oper.wp
      simp [execOp, go_sem, u2, cc]
      exact came _ rfl (Below.refl _ _) rfl (fun h => absurd h (by decide))
    | 4, _, ho =>
      simp only [List.getElem?_cons_succ, List.getElem?_cons_zero, Option.some.injEq] at ho
      subst ho
      unfold Oper.wp
      simp [execOp, go_sem, t0]
      exact came _ rfl (Below.refl _ _) rfl (fun h => absurd h (by decide))
    | 5, _, ho =>
      simp only [List.getElem?_cons_succ, List.getElem?_cons_zero, Option.some.injEq] at ho
      subst ho
      obtain ⟨u4, e4⟩ := hdep ⟨4, .data⟩ (by simp) rfl _ 6 rfl rfl
      rw [show vals 4 = .pointer (some ⟨B, 0, none⟩) from e4] at u4
      unfold Oper.wp
      simp [execOp, go_sem, u4]
      exact came _ rfl (Below.refl _ _) rfl (fun h => absurd h (by decide))
    | 6, _, ho =>
      simp only [List.getElem?_cons_succ, List.getElem?_cons_zero, Option.some.injEq] at ho
      subst ho
      obtain ⟨u5, e5⟩ := hdep ⟨5, .data⟩ (by simp) rfl _ 7 rfl rfl
      rw [show vals 5 = .pointer (some ⟨B, 0, none⟩) from e5] at u5
      unfold Oper.wp
      simp [execOp, go_sem, u5]
      exact came _ rfl (Below.refl _ _) rfl (fun h => absurd h (by decide))
    | 7, _, ho =>
      simp only [List.getElem?_cons_succ, List.getElem?_cons_zero, Option.some.injEq] at ho
      subst ho
      obtain ⟨u6, e6⟩ := hdep ⟨6, .data⟩ (by simp) rfl _ 8 rfl rfl
      rw [show vals 6 = .pointer (some ⟨B, 1, none⟩) from e6] at u6
      have cc : x.cell? ⟨B, 1, none⟩ = some (.slice a9 g.l.length c9) := (H.out.lies.later hX).cellIs 1 rfl
      unfold Oper.wp
      simp [execOp, go_sem, u6, cc]
      exact came _ rfl (Below.refl _ _) rfl (fun h => absurd h (by decide))
    | 8, _, ho =>
      simp only [List.getElem?_cons_succ, List.getElem?_cons_zero, Option.some.injEq] at ho
      subst ho
      obtain ⟨u7, e7⟩ := hdep ⟨7, .data⟩ (by simp) rfl _ 9 rfl rfl
      rw [show vals 7 = .slice a9 g.l.length c9 from e7] at u7
      unfold Oper.wp
      simp [go_sem, u7]
      exact came _ rfl (Below.refl _ _) rfl (fun h => absurd h (by decide))
    | 9, _, ho =>
      simp only [List.getElem?_cons_succ, List.getElem?_cons_zero, Option.some.injEq] at ho
      subst ho
      obtain ⟨u3, e3⟩ := hdep ⟨3, .data⟩ (by simp) rfl _ 5 rfl rfl
      rw [show vals 3 = .int .i64 g.drp from e3] at u3
      obtain ⟨u8, e8⟩ := hdep ⟨8, .data⟩ (by simp) rfl _ 10 rfl rfl
      rw [show vals 8 = .int .i64 (g.l.length : Int) from e8] at u8
      unfold Oper.wp
      simp [execOp, go_sem, u3, u8, kw]
      exact came _ rfl (Below.refl _ _) rfl (fun h => absurd h (by decide))
    | m + 10, hi, _ => exact absurd hi (by omega)
  · intro vals x hX hR _
    have e0 : vals 0 = .pointer (some ⟨B, 0, none⟩) := hR 0 (by decide)
    have e9 : vals 9 = .int .i64 (wrap64 (g.drp + (g.l.length : Int))) := hR 9 (by decide)
    have r1 := H.out.lies.later hX
    have c5 := r1.cellIs 5 rfl
    have f5 := r1.froz 5
    have r2 := r1.setc 5 (.int .i64 (wrap64 (g.drp + (g.l.length : Int))))
    have c1 := r2.cellIs 1 rfl
    have f1 := r2.froz 1
    have r3 := r2.setc 1 (.slice none 0 0)
    have ch : Ch (Bch B (.slice a9 g.l.length c9)) w ((x.setCell ⟨B, 5, none⟩ (.int .i64 (wrap64 (g.drp + (g.l.length : Int))))).setCell ⟨B, 1, none⟩ (.slice none 0 0)) := ((Ch.of hX).set (p := ⟨B, 5, none⟩) (.inl (.inl rfl)) _).set (p := ⟨B, 1, none⟩) (.inl (.inl rfl)) _
    have HY := hid_of' (And.intro r3 ch)
    clear r1 r2 r3 ch hR hX
    simp only [List.drop, List.take, putAll, List.setIfInBounds_toArray, List.set_cons_succ, List.set_cons_zero, e0, e9]
    clear e0 e9
    go_wp2
    go_end0
    exact ⟨⟨_, rfl⟩, ⟨HY.out.1, PRow.nil _ _, H.out.most0, H.out.most1, H.out.most0⟩, HY.out.2⟩

theorem Rw.there {n c g : Nat} {ps : List Pc} {w : World} (h : Rw 65 4 (.slice (some ⟨g, 0, none⟩) n c) n (pcells ps) w) {i : Nat} (hi : i < n) : w.there g (i * 4) 4 := fun j hj => by
  rcases h.2 with ⟨q, _⟩ | ⟨g', cap, cur, q, hg, h1, h2, h3, h4⟩
  · cases q
  · cases q
    refine ⟨?_, Lib.frozen_of_heap hg _⟩
    rw [cell_of_row w g _ cur _ (0, 0) hg, Array.getElem?_eq_getElem (by omega)]
    rfl
theorem Rw.room {n c g : Nat} {ps : List Pc} {w : World} (h : Rw 65 4 (.slice (some ⟨g, 0, none⟩) n c) n (pcells ps) w) (hi : n < c) : w.there g (n * 4) 4 := fun j hj => by
  rcases h.2 with ⟨q, _⟩ | ⟨g', cap, cur, q, hg, h1, h2, h3, h4⟩
  · cases q
  · cases q
    refine ⟨?_, Lib.frozen_of_heap hg _⟩
    rw [cell_of_row w g _ cur _ (0, 0) hg, Array.getElem?_eq_getElem (by omega)]
    rfl
theorem grown_cells (w : World) (g o_ : Nat) (vs : List Value) : w.grownBy (w.setCells g o_ vs) (some g) := by
  have c := Ch.cells (S := fun k => some g = some k) (a := w) (g := g) (.inl rfl) vs o_ w (Ch.refl _ w)
  exact ⟨c.os, c.tape, c.output, c.size, fun k hk hn => c.block k hk (fun e => hn e.symm)⟩
theorem opw_storeP {K : Act → World → Prop} {o : Oper} {A : Act} {w : World} {Q : Exit → Act → World → Prop} (x y : Operand) (ho : o.op = .store 65 x y) {g off : Nat} (hx : A.eval x = .pointer (some ⟨g, off, none⟩)) {p : Pc} (hy : A.eval y = .agg (pcv p)) (hp : p.b.oneCell' = true) (ht : w.there g off 4)
    (k : K (A.put o.dst undef) (w.setCells g off (pcv p).toList)) : o.wp Tryd.prog A w K Q :=
  wp_store_mid _ x y ho g off (pcv p) hx hy ht (p_size p) (pcv_one p hp) k
theorem wpL_idx0 {ops : Array Oper} {rest : List Oper} {o : Oper} {A : Act} {w : World} {Q : Exit → Act → World → Prop} (hgd : o.guard = none) (x y : Operand) (ho : o.op = .index 113 x y) {a b : Int} (hx : A.eval x = .agg #[.int .i64 a, .int .i64 b]) (hy : A.eval y = .int .i64 0)
    (k : wpList Tryd.prog ops Q rest (A.put o.dst (.int .i64 a)) w) : wpList Tryd.prog ops Q (o :: rest) A w :=
  wpList_plain hgd fun _ hK => by
    have hr : (Instr.index 113 (.agg #[.int .i64 a, .int .i64 b]) (.int .i64 0)).run Tryd.prog w = .ok (.int .i64 a) w := by kernel_rfl
    unfold Oper.wp execOp
    simp only [ho, hx, hy, Sem.run_bind, hr, Result.andThen_ok]
    exact hK _ _ k
theorem wpL_idx1 {ops : Array Oper} {rest : List Oper} {o : Oper} {A : Act} {w : World} {Q : Exit → Act → World → Prop} (hgd : o.guard = none) (x y : Operand) (ho : o.op = .index 113 x y) {a b : Int} (hx : A.eval x = .agg #[.int .i64 a, .int .i64 b]) (hy : A.eval y = .int .i64 1)
    (k : wpList Tryd.prog ops Q rest (A.put o.dst (.int .i64 b)) w) : wpList Tryd.prog ops Q (o :: rest) A w :=
  wpList_plain hgd fun _ hK => by
    have hr : (Instr.index 113 (.agg #[.int .i64 a, .int .i64 b]) (.int .i64 1)).run Tryd.prog w = .ok (.int .i64 b) w := by kernel_rfl
    unfold Oper.wp execOp
    simp only [ho, hx, hy, Sem.run_bind, hr, Result.andThen_ok]
    exact hK _ _ k
/-- Behind Swap. -/
def swpL (l : List Pl) (i j : Nat) (a b : Pl) : List Pl := (l.set i b).set j a
set_option maxHeartbeats 4000000 in
theorem swap_ok {B : Nat} {v : Value} {g : Bg} {K : Nat → Prop} {w : World} (h : BgAt B v g K w) {ix jx : Nat} {qi qj : Pl} (hi : g.l[ix]? = some qi) (hj : g.l[jx]? = some qj) :
    Calls Tryd.prog 34 #[.pointer (some ⟨B, 0, none⟩), .int .i64 (ix : Int), .int .i64 (jx : Int)] w fun e w' => e = .returned .nilIface ∧ BgAt B v { g with l := swpL g.l ix jx qi qj } K w' ∧ Ch (Bch B v) w w' := by
  have hil := (List.getElem?_eq_some_iff.1 hi).1
  have hjl := (List.getElem?_eq_some_iff.1 hj).1
  have HP := hid_of' (And.intro (isPlace_yes h ix hil) (isPlace_yes h jx hjl))
  have hb := h.bne
  obtain ⟨g9, c9, p9, hv9, _, _, _, _, _⟩ := hb.row.at hi
  subst hv9
  obtain ⟨ps, hrw, hps⟩ := hb.row
  obtain ⟨pi, hpi, hpqi⟩ := hps.at hi
  obtain ⟨pj, hpj, hpqj⟩ := hps.at hj
  have hBR : ¬ some g9 = some B := fun e => hb.ne B e rfl
  have hgl : g9 < w.heap.size := hb.row.lt g9 rfl
  have rB := h.lies
  have HLi : Hid (CsIn g9 (ix * 4) (pcv pi) w) := ⟨hgl, fun j u hu => by
    have := hrw.cells _ _ (pcells_at ps ix pi hpi j u hu)
    rwa [Nat.zero_add] at this⟩
  have HLj : Hid (CsIn g9 (jx * 4) (pcv pj) w) := ⟨hgl, fun j u hu => by
    have := hrw.cells _ _ (pcells_at ps jx pj hpj j u hu)
    rwa [Nat.zero_add] at this⟩
  have HPi : pi.b.oneCell' = true := hpqi.b.sl.one
  have HPj : pj.b.oneCell' = true := hpqj.b.sl.one
  have HR := hid_of' hrw
  have H := hid_of' (And.intro h (And.intro hps (And.intro hpqi hpqj)))
  have hki : (ix : Int) < (g.l.length : Int) := by omega
  have hkj : (jx : Int) < (g.l.length : Int) := by omega
  clear hb hrw hps hpi hpj hpqi hpqj h hi hj
  go_enter Tryd.func34, Tryd.ntmps34
  go_wp2
  go_loopw [12] (fun kv wr => ∃ k : Nat, kv = .int .i64 (k : Int) ∧ k ≤ 2 ∧ wr = w) (fun kv _ => 2 - (intOf kv).toNat)
  case atStart => exact ⟨0, rfl, by decide, rfl⟩
  case round =>
    obtain ⟨k, rfl, hk, h0⟩ := hrel
    obtain rfl := h0.symm
    match k, hk with
    | 0, _ =>
      go_wp2_with (first | (refine wpL_idx0 rfl _ _ rfl rfl rfl ?_) | (go_at_call 59; (with_reducible refine HP.out.1.mono ?_); rintro e w1 ⟨rfl, h0⟩; obtain rfl := h0.symm))
      go_roundw
      case rel => exact ⟨1, rfl, by decide, trivial⟩
      case measure => simp [intOf]
    | 1, _ =>
      go_wp2_with (first | (refine wpL_idx1 rfl _ _ rfl rfl rfl ?_) | (go_at_call 59; (with_reducible refine HP.out.2.mono ?_); rintro e w1 ⟨rfl, h0⟩; obtain rfl := h0.symm))
      go_roundw
      case rel => exact ⟨2, rfl, by decide, trivial⟩
      case measure => simp [intOf]
    | 2, _ =>
      go_upto_region 7 with fail
      refine wp_region_once 26 (by kernel_rfl) (fun _ => none) (by kernel_rfl) (by kernel_rfl) (by decide) (fun i v x => match i with
        | 0 => v = .pointer (some ⟨B, 0, none⟩)
        | 1 => v = .pointer (some ⟨B, 0, none⟩)
        | 2 => v = .pointer (some ⟨B, 1, none⟩)
        | 3 => v = .slice (some ⟨g9, 0, none⟩) g.l.length c9
        | 4 => v = .int .i64 (ix : Int)
        | 5 => v = .pointer (some ⟨B, 0, none⟩)
        | 6 => v = .pointer (some ⟨B, 0, none⟩)
        | 7 => v = .pointer (some ⟨B, 1, none⟩)
        | 8 => v = .slice (some ⟨g9, 0, none⟩) g.l.length c9
        | 9 => v = .int .i64 (jx : Int)
        | 10 => v = .pointer (some ⟨B, 0, none⟩)
        | 11 => v = .pointer (some ⟨B, 0, none⟩)
        | 12 => v = .pointer (some ⟨B, 1, none⟩)
        | 13 => v = .slice (some ⟨g9, 0, none⟩) g.l.length c9
        | 14 => v = .int .i64 (jx : Int)
        | 15 => v = .pointer (some ⟨g9, jx * 4, none⟩)
        | 16 => v = .agg (pcv pj)
        | 17 => v = .pointer (some ⟨B, 0, none⟩)
        | 18 => v = .pointer (some ⟨B, 0, none⟩)
        | 19 => v = .pointer (some ⟨B, 1, none⟩)
        | 20 => v = .slice (some ⟨g9, 0, none⟩) g.l.length c9
        | 21 => v = .int .i64 (ix : Int)
        | 22 => v = .pointer (some ⟨g9, ix * 4, none⟩)
        | 23 => v = .agg (pcv pi)
        | 24 => v = .pointer (some ⟨g9, ix * 4, none⟩)
        | 25 => Rw 65 4 (.slice (some ⟨g9, 0, none⟩) g.l.length c9) g.l.length (pcells (ps.set ix pj)) x
        | _ => True) (fun _ => false) (fun _ _ _ _ h => by cases h) 25 (by decide) (fun a b => World.grownBy a b (some g9)) (fun a b => World.grownBy a b (some g9)) (fun _ _ g h => grown_later g h) (fun _ h => grown_of h) (fun _ _ h g => grown_first h g) (fun _ _ g => g.size) ?_ ?_ ?_ ?_
      · intro i v x x' hR hb
        match i, hR with
        | 0, h => exact h
        | 1, h => exact h
        | 2, h => exact h
        | 3, h => exact h
        | 4, h => exact h
        | 5, h => exact h
        | 6, h => exact h
        | 7, h => exact h
        | 8, h => exact h
        | 9, h => exact h
        | 10, h => exact h
        | 11, h => exact h
        | 12, h => exact h
        | 13, h => exact h
        | 14, h => exact h
        | 15, h => exact h
        | 16, h => exact h
        | 17, h => exact h
        | 18, h => exact h
        | 19, h => exact h
        | 20, h => exact h
        | 21, h => exact h
        | 22, h => exact h
        | 23, h => exact h
        | 24, h => exact h
        | 25, h => exact h.later hb
        | m + 26, h => exact h
      · intro i v x x' hne hR hb
        match i, hne, hR with
        | 0, hne, h => exact h
        | 1, hne, h => exact h
        | 2, hne, h => exact h
        | 3, hne, h => exact h
        | 4, hne, h => exact h
        | 5, hne, h => exact h
        | 6, hne, h => exact h
        | 7, hne, h => exact h
        | 8, hne, h => exact h
        | 9, hne, h => exact h
        | 10, hne, h => exact h
        | 11, hne, h => exact h
        | 12, hne, h => exact h
        | 13, hne, h => exact h
        | 14, hne, h => exact h
        | 15, hne, h => exact h
        | 16, hne, h => exact h
        | 17, hne, h => exact h
        | 18, hne, h => exact h
        | 19, hne, h => exact h
        | 20, hne, h => exact h
        | 21, hne, h => exact h
        | 22, hne, h => exact h
        | 23, hne, h => exact h
        | 24, hne, h => exact h
        | 25, hne, h => exact absurd rfl hne
        | m + 26, _, h => exact h
      · intro i o hi ho q x vals hX hC hdep hoth
        have t0 : q.tmps[0]? = some (.pointer (some ⟨B, 0, none⟩)) := by rw [hoth 0 (by kernel_rfl)]; rfl
        have t1 : q.tmps[1]? = some (.int .i64 (ix : Int)) := by rw [hoth 1 (by kernel_rfl)]; rfl
        have t2 : q.tmps[2]? = some (.int .i64 (jx : Int)) := by rw [hoth 2 (by kernel_rfl)]; rfl
        match i, hi, ho, hC with
        | 0, _, ho, hC =>
          simp only [List.getElem?_cons_zero, Option.some.injEq] at ho
          subst ho
          unfold Oper.wp
          simp [execOp, go_sem, t0]
          exact cameB _ rfl (by decide) (Below.refl _ _) rfl (fun h => absurd h (by decide))
        | 1, _, ho, hC =>
          simp only [List.getElem?_cons_succ, List.getElem?_cons_zero, Option.some.injEq] at ho
          subst ho
          obtain ⟨u0, e0⟩ := hdep ⟨0, .data⟩ (by simp) rfl _ 23 rfl rfl
          rw [show vals 0 = .pointer (some ⟨B, 0, none⟩) from e0] at u0
          unfold Oper.wp
          simp [execOp, go_sem, u0]
          exact cameB _ rfl (by decide) (Below.refl _ _) rfl (fun h => absurd h (by decide))
        | 2, _, ho, hC =>
          simp only [List.getElem?_cons_succ, List.getElem?_cons_zero, Option.some.injEq] at ho
          subst ho
          obtain ⟨u1, e1⟩ := hdep ⟨1, .data⟩ (by simp) rfl _ 24 rfl rfl
          rw [show vals 1 = .pointer (some ⟨B, 0, none⟩) from e1] at u1
          unfold Oper.wp
          simp [execOp, go_sem, u1]
          exact cameB _ rfl (by decide) (Below.refl _ _) rfl (fun h => absurd h (by decide))
        | 3, _, ho, hC =>
          simp only [List.getElem?_cons_succ, List.getElem?_cons_zero, Option.some.injEq] at ho
          subst ho
          obtain ⟨u2, e2⟩ := hdep ⟨2, .data⟩ (by simp) rfl _ 25 rfl rfl
          rw [show vals 2 = .pointer (some ⟨B, 1, none⟩) from e2] at u2
          have cc : x.cell? ⟨B, 1, none⟩ = some (.slice (some ⟨g9, 0, none⟩) g.l.length c9) := (RowAt.grow rB hX hBR).cellIs 1 rfl
          unfold Oper.wp
          simp [execOp, go_sem, u2, cc]
          exact cameB _ rfl (by decide) (Below.refl _ _) rfl (fun h => absurd h (by decide))
        | 4, _, ho, hC =>
          simp only [List.getElem?_cons_succ, List.getElem?_cons_zero, Option.some.injEq] at ho
          subst ho
          unfold Oper.wp
          simp [execOp, go_sem, t1]
          exact cameB _ rfl (by decide) (Below.refl _ _) rfl (fun h => absurd h (by decide))
        | 5, _, ho, hC =>
          simp only [List.getElem?_cons_succ, List.getElem?_cons_zero, Option.some.injEq] at ho
          subst ho
          unfold Oper.wp
          simp [execOp, go_sem, t0]
          exact cameB _ rfl (by decide) (Below.refl _ _) rfl (fun h => absurd h (by decide))
        | 6, _, ho, hC =>
          simp only [List.getElem?_cons_succ, List.getElem?_cons_zero, Option.some.injEq] at ho
          subst ho
          obtain ⟨u5, e5⟩ := hdep ⟨5, .data⟩ (by simp) rfl _ 28 rfl rfl
          rw [show vals 5 = .pointer (some ⟨B, 0, none⟩) from e5] at u5
          unfold Oper.wp
          simp [execOp, go_sem, u5]
          exact cameB _ rfl (by decide) (Below.refl _ _) rfl (fun h => absurd h (by decide))
        | 7, _, ho, hC =>
          simp only [List.getElem?_cons_succ, List.getElem?_cons_zero, Option.some.injEq] at ho
          subst ho
          obtain ⟨u6, e6⟩ := hdep ⟨6, .data⟩ (by simp) rfl _ 29 rfl rfl
          rw [show vals 6 = .pointer (some ⟨B, 0, none⟩) from e6] at u6
          unfold Oper.wp
          simp [execOp, go_sem, u6]
          exact cameB _ rfl (by decide) (Below.refl _ _) rfl (fun h => absurd h (by decide))
        | 8, _, ho, hC =>
          simp only [List.getElem?_cons_succ, List.getElem?_cons_zero, Option.some.injEq] at ho
          subst ho
          obtain ⟨u7, e7⟩ := hdep ⟨7, .data⟩ (by simp) rfl _ 30 rfl rfl
          rw [show vals 7 = .pointer (some ⟨B, 1, none⟩) from e7] at u7
          have cc : x.cell? ⟨B, 1, none⟩ = some (.slice (some ⟨g9, 0, none⟩) g.l.length c9) := (RowAt.grow rB hX hBR).cellIs 1 rfl
          unfold Oper.wp
          simp [execOp, go_sem, u7, cc]
          exact cameB _ rfl (by decide) (Below.refl _ _) rfl (fun h => absurd h (by decide))
        | 9, _, ho, hC =>
          simp only [List.getElem?_cons_succ, List.getElem?_cons_zero, Option.some.injEq] at ho
          subst ho
          unfold Oper.wp
          simp [execOp, go_sem, t2]
          exact cameB _ rfl (by decide) (Below.refl _ _) rfl (fun h => absurd h (by decide))
        | 10, _, ho, hC =>
          simp only [List.getElem?_cons_succ, List.getElem?_cons_zero, Option.some.injEq] at ho
          subst ho
          unfold Oper.wp
          simp [execOp, go_sem, t0]
          exact cameB _ rfl (by decide) (Below.refl _ _) rfl (fun h => absurd h (by decide))
        | 11, _, ho, hC =>
          simp only [List.getElem?_cons_succ, List.getElem?_cons_zero, Option.some.injEq] at ho
          subst ho
          obtain ⟨u10, e10⟩ := hdep ⟨10, .data⟩ (by simp) rfl _ 33 rfl rfl
          rw [show vals 10 = .pointer (some ⟨B, 0, none⟩) from e10] at u10
          unfold Oper.wp
          simp [execOp, go_sem, u10]
          exact cameB _ rfl (by decide) (Below.refl _ _) rfl (fun h => absurd h (by decide))
        | 12, _, ho, hC =>
          simp only [List.getElem?_cons_succ, List.getElem?_cons_zero, Option.some.injEq] at ho
          subst ho
          obtain ⟨u11, e11⟩ := hdep ⟨11, .data⟩ (by simp) rfl _ 34 rfl rfl
          rw [show vals 11 = .pointer (some ⟨B, 0, none⟩) from e11] at u11
          unfold Oper.wp
          simp [execOp, go_sem, u11]
          exact cameB _ rfl (by decide) (Below.refl _ _) rfl (fun h => absurd h (by decide))
        | 13, _, ho, hC =>
          simp only [List.getElem?_cons_succ, List.getElem?_cons_zero, Option.some.injEq] at ho
          subst ho
          obtain ⟨u12, e12⟩ := hdep ⟨12, .data⟩ (by simp) rfl _ 35 rfl rfl
          rw [show vals 12 = .pointer (some ⟨B, 1, none⟩) from e12] at u12
          have cc : x.cell? ⟨B, 1, none⟩ = some (.slice (some ⟨g9, 0, none⟩) g.l.length c9) := (RowAt.grow rB hX hBR).cellIs 1 rfl
          unfold Oper.wp
          simp [execOp, go_sem, u12, cc]
          exact cameB _ rfl (by decide) (Below.refl _ _) rfl (fun h => absurd h (by decide))
        | 14, _, ho, hC =>
          simp only [List.getElem?_cons_succ, List.getElem?_cons_zero, Option.some.injEq] at ho
          subst ho
          unfold Oper.wp
          simp [execOp, go_sem, t2]
          exact cameB _ rfl (by decide) (Below.refl _ _) rfl (fun h => absurd h (by decide))
        | 15, _, ho, hC =>
          simp only [List.getElem?_cons_succ, List.getElem?_cons_zero, Option.some.injEq] at ho
          subst ho
          obtain ⟨u13, e13⟩ := hdep ⟨13, .data⟩ (by simp) rfl _ 36 rfl rfl
          rw [show vals 13 = .slice (some ⟨g9, 0, none⟩) g.l.length c9 from e13] at u13
          obtain ⟨u14, e14⟩ := hdep ⟨14, .data⟩ (by simp) rfl _ 37 rfl rfl
          rw [show vals 14 = .int .i64 (jx : Int) from e14] at u14
          unfold Oper.wp
          simp [execOp, go_sem, u13, u14, hkj]
          exact cameB _ rfl (by decide) (Below.refl _ _) rfl (fun h => absurd h (by decide))
        | 16, _, ho, hC =>
          simp only [List.getElem?_cons_succ, List.getElem?_cons_zero, Option.some.injEq] at ho
          subst ho
          obtain ⟨u15, e15⟩ := hdep ⟨15, .data⟩ (by simp) rfl _ 38 rfl rfl
          rw [show vals 15 = .pointer (some ⟨g9, jx * 4, none⟩) from e15] at u15
          have hb := hC (.inr (by kernel_rfl))
          exact opw_loadP _ rfl (by simp [Act.eval, u15]) (HLj.out.later hb) (cameB _ rfl (by decide) (Below.refl _ _) rfl (fun h => absurd h (by decide)))
        | 17, _, ho, hC =>
          simp only [List.getElem?_cons_succ, List.getElem?_cons_zero, Option.some.injEq] at ho
          subst ho
          unfold Oper.wp
          simp [execOp, go_sem, t0]
          exact cameB _ rfl (by decide) (Below.refl _ _) rfl (fun h => absurd h (by decide))
        | 18, _, ho, hC =>
          simp only [List.getElem?_cons_succ, List.getElem?_cons_zero, Option.some.injEq] at ho
          subst ho
          obtain ⟨u17, e17⟩ := hdep ⟨17, .data⟩ (by simp) rfl _ 40 rfl rfl
          rw [show vals 17 = .pointer (some ⟨B, 0, none⟩) from e17] at u17
          unfold Oper.wp
          simp [execOp, go_sem, u17]
          exact cameB _ rfl (by decide) (Below.refl _ _) rfl (fun h => absurd h (by decide))
        | 19, _, ho, hC =>
          simp only [List.getElem?_cons_succ, List.getElem?_cons_zero, Option.some.injEq] at ho
          subst ho
          obtain ⟨u18, e18⟩ := hdep ⟨18, .data⟩ (by simp) rfl _ 41 rfl rfl
          rw [show vals 18 = .pointer (some ⟨B, 0, none⟩) from e18] at u18
          unfold Oper.wp
          simp [execOp, go_sem, u18]
          exact cameB _ rfl (by decide) (Below.refl _ _) rfl (fun h => absurd h (by decide))
        | 20, _, ho, hC =>
          simp only [List.getElem?_cons_succ, List.getElem?_cons_zero, Option.some.injEq] at ho
          subst ho
          obtain ⟨u19, e19⟩ := hdep ⟨19, .data⟩ (by simp) rfl _ 42 rfl rfl
          rw [show vals 19 = .pointer (some ⟨B, 1, none⟩) from e19] at u19
          have cc : x.cell? ⟨B, 1, none⟩ = some (.slice (some ⟨g9, 0, none⟩) g.l.length c9) := (RowAt.grow rB hX hBR).cellIs 1 rfl
          unfold Oper.wp
          simp [execOp, go_sem, u19, cc]
          exact cameB _ rfl (by decide) (Below.refl _ _) rfl (fun h => absurd h (by decide))
        | 21, _, ho, hC =>
          simp only [List.getElem?_cons_succ, List.getElem?_cons_zero, Option.some.injEq] at ho
          subst ho
          unfold Oper.wp
          simp [execOp, go_sem, t1]
          exact cameB _ rfl (by decide) (Below.refl _ _) rfl (fun h => absurd h (by decide))
        | 22, _, ho, hC =>
          simp only [List.getElem?_cons_succ, List.getElem?_cons_zero, Option.some.injEq] at ho
          subst ho
          obtain ⟨u20, e20⟩ := hdep ⟨20, .data⟩ (by simp) rfl _ 43 rfl rfl
          rw [show vals 20 = .slice (some ⟨g9, 0, none⟩) g.l.length c9 from e20] at u20
          obtain ⟨u21, e21⟩ := hdep ⟨21, .data⟩ (by simp) rfl _ 44 rfl rfl
          rw [show vals 21 = .int .i64 (ix : Int) from e21] at u21
          unfold Oper.wp
          simp [execOp, go_sem, u20, u21, hki]
          exact cameB _ rfl (by decide) (Below.refl _ _) rfl (fun h => absurd h (by decide))
        | 23, _, ho, hC =>
          simp only [List.getElem?_cons_succ, List.getElem?_cons_zero, Option.some.injEq] at ho
          subst ho
          obtain ⟨u22, e22⟩ := hdep ⟨22, .data⟩ (by simp) rfl _ 45 rfl rfl
          rw [show vals 22 = .pointer (some ⟨g9, ix * 4, none⟩) from e22] at u22
          have hb := hC (.inr (by kernel_rfl))
          exact opw_loadP _ rfl (by simp [Act.eval, u22]) (HLi.out.later hb) (cameB _ rfl (by decide) (Below.refl _ _) rfl (fun h => absurd h (by decide)))
        | 24, _, ho, hC =>
          simp only [List.getElem?_cons_succ, List.getElem?_cons_zero, Option.some.injEq] at ho
          subst ho
          obtain ⟨u3, e3⟩ := hdep ⟨3, .data⟩ (by simp) rfl _ 26 rfl rfl
          rw [show vals 3 = .slice (some ⟨g9, 0, none⟩) g.l.length c9 from e3] at u3
          obtain ⟨u4, e4⟩ := hdep ⟨4, .data⟩ (by simp) rfl _ 27 rfl rfl
          rw [show vals 4 = .int .i64 (ix : Int) from e4] at u4
          unfold Oper.wp
          simp [execOp, go_sem, u3, u4, hki]
          exact cameB _ rfl (by decide) (Below.refl _ _) rfl (fun h => absurd h (by decide))
        | 25, _, ho, hC =>
          simp only [List.getElem?_cons_succ, List.getElem?_cons_zero, Option.some.injEq] at ho
          subst ho
          obtain ⟨u24, e24⟩ := hdep ⟨24, .data⟩ (by simp) rfl _ 47 rfl rfl
          rw [show vals 24 = .pointer (some ⟨g9, ix * 4, none⟩) from e24] at u24
          obtain ⟨u16, e16⟩ := hdep ⟨16, .data⟩ (by simp) rfl _ 39 rfl rfl
          rw [show vals 16 = .agg (pcv pj) from e16] at u16
          have hb := hC (.inl rfl)
          refine opw_storeP (p := pj) _ _ rfl (by simp [Act.eval, u24]) (by simp [Act.eval, u16]) HPj ((HR.out.later hb).there hil) ?_
          exact cameX _ rfl (grown_cells _ _ _ _) ((HR.out.later hb).put hil pj) rfl
        | m + 26, hi, _, _ => exact absurd hi (by omega)
      · intro vals x hX hR _
        have e3 : vals 8 = .slice (some ⟨g9, 0, none⟩) g.l.length c9 := hR 8 (by decide)
        have e9 : vals 9 = .int .i64 (jx : Int) := hR 9 (by decide)
        have e23 : vals 23 = .agg (pcv pi) := hR 23 (by decide)
        have q1 : Rw 65 4 (.slice (some ⟨g9, 0, none⟩) g.l.length c9) g.l.length (pcells (ps.set ix pj)) x := hR 25 (by decide)
        have hx := RowAt.grow rB hX hBR
        have HY := hid_of' (And.intro hx (And.intro q1 (And.intro (q1.there hjl) (Ch.of (S := Bch B (.slice (some ⟨g9, 0, none⟩) g.l.length c9)) (Below.refl _ _) |>.grown hX (fun k hk => .inl (.inr hk))))))
        clear q1 hx hR hX
        simp only [List.drop, List.take, putAll, List.setIfInBounds_toArray, List.set_cons_succ, List.set_cons_zero, e3, e9, e23]
        clear e3 e9 e23
        go_wp2_with (refine wpL_storeP (p := pi) rfl _ _ rfl rfl rfl HPi HY.out.2.2.1 ?_; go_simp)
        go_ret
        have chz : Ch (Bch B (.slice (some ⟨g9, 0, none⟩) g.l.length c9)) w (x.setCells g9 (jx * 4) (pcv pi).toList) := Ch.cells (.inl (.inr rfl)) _ _ _ HY.out.2.2.2
        have hKn : ∀ k, (K k ∧ k < w.heap.size ∧ ¬ k = B ∧ ∀ i, Value.ownBlock (.slice (some ⟨g9, 0, none⟩) g.l.length c9) = some i → ¬ k = i) → ¬ Bch B (.slice (some ⟨g9, 0, none⟩) g.l.length c9) k := fun k hk hS => by
          rcases hS with hS | hS
          · exact hk.2.2.1 hS
          · exact hk.2.2.2 k hS rfl
        refine ⟨rfl, ⟨?_, ⟨(ps.set ix pj).set jx pi, ?_, ?_⟩, H.out.1.most0, H.out.1.most1, ?_⟩, chz⟩
        · exact (grown_ch (grown_cells x g9 (jx * 4) (pcv pi).toList)).heap HY.out.1 hBR
        · rw [show (swpL g.l ix jx qi qj).length = g.l.length by simp [swpL]]
          exact HY.out.2.1.put hjl pi
        · exact (((H.out.2.1.set ix H.out.2.2.2).set jx H.out.2.2.1).ch chz hKn).mono (fun k hk _ => hk.1)
        · show ((swpL g.l ix jx qi qj).length : Int) ≤ g.most
          rw [show (swpL g.l ix jx qi qj).length = g.l.length by simp [swpL]]
          exact H.out.1.room
end Go.Proofs.YtdojjhhnciaegaaDoor
