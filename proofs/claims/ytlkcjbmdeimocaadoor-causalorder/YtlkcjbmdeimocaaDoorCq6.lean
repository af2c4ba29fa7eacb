
/-
  Package causal: a queue's deliver.
-/
import Derived.Test.YtlkcjbmdeimocaaDoorCq5
namespace Go.Proofs.YtlkcjbmdeimocaaDoor
open Go.RowKit Go.Maps Go.MapKept
set_option maxRecDepth 100000

/-- What lies under a name. -/
def LkV (kb : Nat) (a b : Int) (ws : List Nat) (u : Value) (X : World) : Prop := kb < X.heap.size ∧ OwnI u ws X ∧ Sole kb a b u X ∧ ∀ k, u.ownBlock = some k → RowsOf kb X k
theorem LkV.later {kb : Nat} {a b : Int} {ws : List Nat} {u : Value} {X X' : World} (h : LkV kb a b ws u X) (hb : Below X.heap.size X X') : LkV kb a b ws u X' :=
  ⟨Nat.lt_of_lt_of_le h.1 hb.size, h.2.1.later hb, fun es cl hm => h.2.2.1 es cl ((hb.block kb h.1).symm.trans hm), fun k hk => (h.2.2.2 k hk).same (hb.block kb h.1).symm⟩
theorem LkV.look {kb n base : Nat} {g : Int → Int → List Nat} {w : World} (h : GpAt kb n base g w) {a b : Int} {ws : List Nat} (ha : fitsI a) (hb : fitsI b) (hn : n ≤ maxLen) (hg : g a b = ws) :
    ∃ v, (Instr.lookup 84 (.map (some kb)) (.agg (nmc a b)) false).run Tryd.prog w = .ok v w ∧ LkV kb a b ws v w := by
  obtain ⟨v, h1, h2, h3, h4⟩ := h.look ha hb hn
  rw [hg] at h2
  exact ⟨v, h1, h.lt, h2, h3, h4⟩
theorem wpL_delG {ops : Array Oper} {rest : List Oper} {o : Oper} {A : Act} {w : World} {Q : Exit → Act → World → Prop} (hgd : o.guard = none) (m x : Operand) (ho : o.op = .call { callee := .builtin .delete, args := #[m, x], argTypes := #[84, 92] }) {kb n base : Nat} {g : Int → Int → List Nat} {r k : Int} {v : Value} (hm : A.eval m = .map (some kb)) (hx : A.eval x = .agg (nmc r k)) (h : GpAt kb n base g w) (hr : fitsI r) (hk : fitsI k) (hn : n ≤ maxLen) (hv : Sole kb r k v w)
    (kk : ∀ w', GpAt kb n base (delG g r k) w' → Ch (fun j => j = kb) w w' → (∀ j, RowsOf kb w' j → RowsOf kb w j) → (∀ j, v.ownBlock = some j → ¬ RowsOf kb w' j) → wpList Tryd.prog ops Q rest (A.put o.dst (.tuple #[])) w') : wpList Tryd.prog ops Q (o :: rest) A w := by
  refine wpList_plain hgd fun _ hK => ?_
  obtain ⟨w', hrun, h1, h2, h3, h4⟩ := h.del hr hk hn o.type hv
  unfold Oper.wp execOp
  simp only [ho, resolve, invoke, builtin, Sem.run_bind, Sem.run_pure, Result.andThen_ok, List.map_toArray, List.map_cons, List.map_nil, hm, hx, hrun]
  exact hK _ _ (kk w' h1 h2 h3 h4)
/-- What deliver leaves. -/
structure DlQ (q : Nat) (v : Value) (h' : List Int) (kb n base : Nat) (L : List Ac) (w w' : World) (f' : List Nat) (g' : Int → Int → List Nat) : Prop where
  at_ : QAt q v h' kb f' w'
  map : GpAt kb n base g' w'
  qi : QI L h' (fun _ => True) f' g'
  ch : Ch (qS kb q w) w w'
  rows : ∀ k, RowsOf kb w' k → RowsOf kb w k ∨ w.heap.size ≤ k

set_option maxHeartbeats 8000000 in
theorem deliver_ok {q kb n base : Nat} {v : Value} {h : List Int} {f : List Nat} {g : Int → Int → List Nat} {w : World} {L : List Ac} (hq : QAt q v h kb f w) (hm : GpAt kb n base g w) (qi : QI L h (fun _ => True) f g) (hv : SlC w v L) (hfit : AFit L) (hL : L.length ≤ 1000) (hh : Ck h) {i0 : Nat} {x : Ac} (hx : L[i0]? = some x) (hrd : rdyC h x = true) (hn : n + L.length < 1000000) (hbase : base ≤ w.heap.size) (hsl : ∀ a n' k', v = .slice (some a) n' k' → 0 < L.length → a.block < base ∧ a.block ≠ kb ∧ a.block ≠ q) :
    Calls Tryd.prog 48 #[.pointer (some ⟨q, 0, none⟩), .agg (acv x)] w fun e w' => (∃ z, e = .returned z) ∧ ∃ f' g', DlQ q v (adv h x) kb (n + L.length) base L w w' f' g' := by
  obtain ⟨a9, c9, rfl⟩ := hv.form
  have HSL := hid_of' hsl
  clear hsl
  obtain ⟨r, hrr, hrt, hr8, _⟩ := rdy_at hrd
  have hxf := hfit.at hx
  have hQD := qi.deliver hh.1 hrd
  have hCk := adv_ck hh hrd hxf
  have hadv := adv_num hrd
  rw [hrt] at hadv hQD
  rw [hrr] at hQD
  have hb0 := below_one w (.cells (acv x) 48)
  have hd0 := box1 w x
  obtain ⟨num, hnum⟩ : ∃ num, x.num = num := ⟨_, rfl⟩
  have hc4 := acv_num x
  have hc3 := acv_rep x
  have hfn : fitsI num := by rw [← hnum]; exact hxf.2
  rw [hnum] at hc4 hadv hQD
  rw [hrr] at hc3
  obtain ⟨ws, hws⟩ : ∃ ws, g (r : Int) num = ws := ⟨_, rfl⟩
  rw [hws] at hQD
  have hwn : ws.Nodup := by rw [← hws]; exact qi.gnd _ _
  have hwl : ∀ j ∈ ws, j < L.length := fun j hj => by rw [← hws] at hj; exact (qi.gin _ _ j hj).2
  have hwlen : ws.length ≤ L.length := by rw [← hws]; exact qi.len _ _
  have HNM : Hid (∀ X : World, Calls Tryd.prog 54 #[.agg (acv x)] X fun e w' => e = .returned (.agg (nmc (r : Int) num)) ∧ Below X.heap.size X w') := hid_of' fun X => by rw [← hrr, ← hnum]; exact nameOf_is x X
  have HWS := hid_of' hws
  have HC4 := hid_of' hc4
  have HHL := hid_of' hCk.1
  have HFR : Hid (fitsI (r : Int) ∧ fitsI num) := hid_of' ⟨by unfold fitsI; omega, hfn⟩
  have HML : Hid (n ≤ maxLen) := hid_of' (by unfold maxLen; omega)
  have HQD := hid_of' (And.intro hQD (And.intro hwn (And.intro hwl (And.intro hwlen (And.intro hCk (And.intro qi.fl hadv))))))
  have H0 := hid_of' (And.intro hq (And.intro hm (And.intro hv (And.intro hbase qi))))
  have H2 := hid_of' (And.intro (hq.later hb0) hd0)
  have HB0 := hid_of' hb0
  have c3 := hd0.cellIs 3 hc3
  have hri : (r : Int) < 8 := by omega
  have HM2 := hid_of' (hm.later hb0)
  clear hq hm qi hv hQD hadv hb0 hd0 hc3 hc4 hws hwn hwl hwlen hbase hCk hfn hnum hrr hrd hx
  go_enter Tryd.func48, Tryd.ntmps48
  go_upto_region 2 with fail
  clear c3
  obtain ⟨db, hdb⟩ : ∃ db, w.heap.size = db := ⟨_, rfl⟩
  generalize w.alloc (.cells (acv x) 48) = w2 at H2 HB0 HM2 ⊢
  rw [hdb] at H2 ⊢
  refine wp_region_tail 6 (by kernel_rfl) (fun _ => none) (by kernel_rfl) (by kernel_rfl) (by decide) (fun ii u X => match ii with
    | 0 => u = .pointer (some ⟨q, 0, none⟩)
    | 1 => u = .int .i64 (r : Int)
    | 2 => u = .pointer (some ⟨db, 4, none⟩)
    | 3 => u = .int .i64 num
    | 4 => u = .pointer (some ⟨q, 0, none⟩)
    | 5 => u = .pointer (some ⟨q, 1, none⟩)
    | _ => True) (fun _ => false) (fun _ _ _ _ h => by cases h) ?_ ?_ ?_
  · intro ii u X X' hR hb
    match ii, hR with
    | 0, h => exact h
    | 1, h => exact h
    | 2, h => exact h
    | 3, h => exact h
    | 4, h => exact h
    | 5, h => exact h
    | m + 6, h => exact h
  · intro ii o hi ho qq X vals hX hdep hoth
    have t0 : qq.tmps[0]? = some (.pointer (some ⟨q, 0, none⟩)) := by rw [hoth 0 (by kernel_rfl)]; rfl
    have t3 : qq.tmps[3]? = some (.pointer (some ⟨db, 0, none⟩)) := by rw [hoth 3 (by kernel_rfl)]; rfl
    have t4 : qq.tmps[4]? = some (.int .i64 (r : Int)) := by rw [hoth 4 (by kernel_rfl)]; rfl
    match ii, hi, ho with
    | 0, _, ho =>
      simp only [List.getElem?_cons_zero, Option.some.injEq] at ho
      subst ho
      unfold Oper.wp
      simp [execOp, go_sem, t0]
      exact came _ rfl (Below.refl _ _) rfl (fun h => absurd h (by decide))
    | 1, _, ho =>
      simp only [List.getElem?_cons_succ, List.getElem?_cons_zero, Option.some.injEq] at ho
      subst ho
      unfold Oper.wp
      simp [execOp, go_sem, t4]
      exact came _ rfl (Below.refl _ _) rfl (fun h => absurd h (by decide))
    | 2, _, ho =>
      simp only [List.getElem?_cons_succ, List.getElem?_cons_zero, Option.some.injEq] at ho
      subst ho
      unfold Oper.wp
      simp [execOp, go_sem, t3]
      exact came _ rfl (Below.refl _ _) rfl (fun h => absurd h (by decide))
    | 3, _, ho =>
      simp only [List.getElem?_cons_succ, List.getElem?_cons_zero, Option.some.injEq] at ho
      subst ho
      obtain ⟨u2, e2⟩ := hdep ⟨2, .data⟩ (by simp) rfl _ 13 rfl rfl
      rw [show vals 2 = .pointer (some ⟨db, 4, none⟩) from e2] at u2
      have cc : X.cell? ⟨db, 4, none⟩ = some (.int .i64 num) := (RowAt.later H2.out.2 hX).cellIs 4 HC4.out
      unfold Oper.wp
      simp [execOp, go_sem, u2, cc]
      exact came _ rfl (Below.refl _ _) rfl (fun h => absurd h (by decide))
    | 4, _, ho =>
      simp only [List.getElem?_cons_succ, List.getElem?_cons_zero, Option.some.injEq] at ho
      subst ho
      obtain ⟨u0, e0⟩ := hdep ⟨0, .data⟩ (by simp) rfl _ 11 rfl rfl
      rw [show vals 0 = .pointer (some ⟨q, 0, none⟩) from e0] at u0
      unfold Oper.wp
      simp [execOp, go_sem, u0]
      exact came _ rfl (Below.refl _ _) rfl (fun h => absurd h (by decide))
    | 5, _, ho =>
      simp only [List.getElem?_cons_succ, List.getElem?_cons_zero, Option.some.injEq] at ho
      subst ho
      obtain ⟨u4, e4⟩ := hdep ⟨4, .data⟩ (by simp) rfl _ 15 rfl rfl
      rw [show vals 4 = .pointer (some ⟨q, 0, none⟩) from e4] at u4
      unfold Oper.wp
      simp [execOp, go_sem, u4]
      exact came _ rfl (Below.refl _ _) rfl (fun h => absurd h (by decide))
    | m + 6, hi, _ => exact absurd hi (by omega)
  · intro vals X hX hR _
    have e1 : vals 1 = .int .i64 (r : Int) := hR 1 (by decide)
    have e3 : vals 3 = .int .i64 num := hR 3 (by decide)
    have e5 : vals 5 = .pointer (some ⟨q, 1, none⟩) := hR 5 (by decide)
    have hq2 := RowAt.later H2.out.1 hX
    have c2 := hq2.cellIs (1 + r) (qcv_have hh.1 hr8)
    have f2 := hq2.froz (1 + r)
    have s2 := ch_cell (w := X) (b := q) (k := 1 + r) (.int .i64 num)
    have p2 := hq2.setc (1 + r) (.int .i64 num)
    rw [qcv_setH hh.1 hr8] at p2
    have hdq : ¬ db = q := by have := H0.out.1.lt; omega
    have H3 := hid_of' (And.intro p2 (And.intro ((RowAt.later H2.out.2 hX).ch s2 hdq) (And.intro s2 hX)))
    clear hR hX hq2 s2 p2
    simp only [List.drop, List.take, putAll, List.setIfInBounds_toArray, List.set_cons_succ, List.set_cons_zero, e1, e3, e5]
    clear e1 e3 e5
    go_upto_region 3 with fail
    clear c2 f2
    have HX2 := hid_of' (And.intro H3.out.2.2.1 H3.out.2.2.2)
    obtain ⟨h', hh'⟩ : ∃ h', h.set r num = h' := ⟨_, rfl⟩
    rw [hh'] at H3 HQD
    have hl8 : h'.length = 8 := by rw [← hh', List.length_set]; exact hh.1
    generalize X.setCell ⟨q, 1 + r, none⟩ (.int .i64 num) = w3 at H3 HX2 ⊢
    refine wp_region_tail 9 (by kernel_rfl) (fun _ => none) (by kernel_rfl) (by kernel_rfl) (by decide) (fun ii u X => match ii with
      | 0 => u = .pointer (some ⟨q, 0, none⟩)
      | 1 => u = .int .i64 (r : Int)
      | 2 => u = .pointer (some ⟨q, 0, none⟩)
      | 3 => u = .pointer (some ⟨q, 0, none⟩)
      | 4 => u = .pointer (some ⟨q, 0, none⟩)
      | 5 => u = .slice a9 L.length c9
      | 6 => u = .int .i64 (L.length : Int)
      | 7 => u = .pointer (some ⟨q, 0, none⟩)
      | 8 => u = .pointer (some ⟨q, 10, none⟩)
      | _ => True) (fun _ => false) (fun _ _ _ _ h => by cases h) ?_ ?_ ?_
    · intro ii u X X' hR hb
      match ii, hR with
      | 0, h => exact h
      | 1, h => exact h
      | 2, h => exact h
      | 3, h => exact h
      | 4, h => exact h
      | 5, h => exact h
      | 6, h => exact h
      | 7, h => exact h
      | 8, h => exact h
      | m + 9, h => exact h
    · intro ii o hi ho qq X vals hX hdep hoth
      have t0 : qq.tmps[0]? = some (.pointer (some ⟨q, 0, none⟩)) := by rw [hoth 0 (by kernel_rfl)]; rfl
      have t4 : qq.tmps[4]? = some (.int .i64 (r : Int)) := by rw [hoth 4 (by kernel_rfl)]; rfl
      match ii, hi, ho with
      | 0, _, ho =>
        simp only [List.getElem?_cons_zero, Option.some.injEq] at ho
        subst ho
        unfold Oper.wp
        simp [execOp, go_sem, t0]
        exact came _ rfl (Below.refl _ _) rfl (fun h => absurd h (by decide))
      | 1, _, ho =>
        simp only [List.getElem?_cons_succ, List.getElem?_cons_zero, Option.some.injEq] at ho
        subst ho
        unfold Oper.wp
        simp [execOp, go_sem, t4]
        exact came _ rfl (Below.refl _ _) rfl (fun h => absurd h (by decide))
      | 2, _, ho =>
        simp only [List.getElem?_cons_succ, List.getElem?_cons_zero, Option.some.injEq] at ho
        subst ho
        unfold Oper.wp
        simp [execOp, go_sem, t0]
        exact came _ rfl (Below.refl _ _) rfl (fun h => absurd h (by decide))
      | 3, _, ho =>
        simp only [List.getElem?_cons_succ, List.getElem?_cons_zero, Option.some.injEq] at ho
        subst ho
        obtain ⟨u2, e2⟩ := hdep ⟨2, .data⟩ (by simp) rfl _ 20 rfl rfl
        rw [show vals 2 = .pointer (some ⟨q, 0, none⟩) from e2] at u2
        unfold Oper.wp
        simp [execOp, go_sem, u2]
        exact came _ rfl (Below.refl _ _) rfl (fun h => absurd h (by decide))
      | 4, _, ho =>
        simp only [List.getElem?_cons_succ, List.getElem?_cons_zero, Option.some.injEq] at ho
        subst ho
        obtain ⟨u3, e3⟩ := hdep ⟨3, .data⟩ (by simp) rfl _ 21 rfl rfl
        rw [show vals 3 = .pointer (some ⟨q, 0, none⟩) from e3] at u3
        unfold Oper.wp
        simp [execOp, go_sem, u3]
        exact came _ rfl (Below.refl _ _) rfl (fun h => absurd h (by decide))
      | 5, _, ho =>
        simp only [List.getElem?_cons_succ, List.getElem?_cons_zero, Option.some.injEq] at ho
        subst ho
        obtain ⟨u4, e4⟩ := hdep ⟨4, .data⟩ (by simp) rfl _ 22 rfl rfl
        rw [show vals 4 = .pointer (some ⟨q, 0, none⟩) from e4] at u4
        have cc : X.cell? ⟨q, 0, none⟩ = some (.slice a9 L.length c9) := (RowAt.later H3.out.1 hX).cellIs 0 (qcv_list _ _ _ _)
        unfold Oper.wp
        simp [execOp, go_sem, u4, cc]
        exact came _ rfl (Below.refl _ _) rfl (fun h => absurd h (by decide))
      | 6, _, ho =>
        simp only [List.getElem?_cons_succ, List.getElem?_cons_zero, Option.some.injEq] at ho
        subst ho
        obtain ⟨u5, e5⟩ := hdep ⟨5, .data⟩ (by simp) rfl _ 23 rfl rfl
        rw [show vals 5 = .slice a9 L.length c9 from e5] at u5
        unfold Oper.wp
        simp [go_sem, u5]
        exact came _ rfl (Below.refl _ _) rfl (fun h => absurd h (by decide))
      | 7, _, ho =>
        simp only [List.getElem?_cons_succ, List.getElem?_cons_zero, Option.some.injEq] at ho
        subst ho
        obtain ⟨u0, e0⟩ := hdep ⟨0, .data⟩ (by simp) rfl _ 18 rfl rfl
        rw [show vals 0 = .pointer (some ⟨q, 0, none⟩) from e0] at u0
        unfold Oper.wp
        simp [execOp, go_sem, u0]
        exact came _ rfl (Below.refl _ _) rfl (fun h => absurd h (by decide))
      | 8, _, ho =>
        simp only [List.getElem?_cons_succ, List.getElem?_cons_zero, Option.some.injEq] at ho
        subst ho
        obtain ⟨u7, e7⟩ := hdep ⟨7, .data⟩ (by simp) rfl _ 25 rfl rfl
        rw [show vals 7 = .pointer (some ⟨q, 0, none⟩) from e7] at u7
        unfold Oper.wp
        simp [execOp, go_sem, u7]
        exact came _ rfl (Below.refl _ _) rfl (fun h => absurd h (by decide))
      | m + 9, hi, _ => exact absurd hi (by omega)
    · intro vals Y hY hR _
      have e1 : vals 1 = .int .i64 (r : Int) := hR 1 (by decide)
      have e6 : vals 6 = .int .i64 (L.length : Int) := hR 6 (by decide)
      have e8 : vals 8 = .pointer (some ⟨q, 10, none⟩) := hR 8 (by decide)
      have hq3 := RowAt.later H3.out.1 hY
      have c4 := hq3.cellIs (10 + r) (qcv_first hl8 HQD.out.2.2.2.2.2.1 hr8)
      have f4 := hq3.froz (10 + r)
      have s4 := ch_cell (w := Y) (b := q) (k := 10 + r) (.int .i64 (L.length : Int))
      have p4 := hq3.setc (10 + r) (.int .i64 (L.length : Int))
      rw [qcv_setF hl8] at p4
      have hcY : Ch (fun j => j = q) w2 (Y.setCell ⟨q, 10 + r, none⟩ (.int .i64 (L.length : Int))) := (((Ch.of HX2.out.2).trans HX2.out.1).later hY).trans s4
      have hne := HM2.out.neQ H2.out.1
      have hmY := HM2.out.ch hcY (fun e => hne.1 e.symm) (fun k hk => (hne.2 k hk).1)
      have H4 := hid_of' (And.intro p4 (And.intro ((RowAt.later H3.out.2.1 hY).ch s4 hdq) hmY))
      have HCY := hid_of' hcY
      clear hR hY hq3 s4 p4 hcY hmY hne
      simp only [List.drop, List.take, putAll, List.setIfInBounds_toArray, List.set_cons_succ, List.set_cons_zero, e1, e6, e8]
      clear e1 e6 e8
      go_upto_region 4 with fail
      clear c4 f4
      generalize Y.setCell ⟨q, 10 + r, none⟩ (.int .i64 (L.length : Int)) = w4 at H4 HCY ⊢
      refine wp_region_tail 7 (by kernel_rfl) (fun _ => none) (by kernel_rfl) (by kernel_rfl) (by decide) (fun ii u X => match ii with
        | 0 => u = .pointer (some ⟨q, 0, none⟩)
        | 1 => u = .pointer (some ⟨q, 0, none⟩)
        | 2 => u = .pointer (some ⟨q, 9, none⟩)
        | 3 => u = .map (some kb)
        | 4 => u = .agg (acv x)
        | 5 => u = .agg (nmc (r : Int) num)
        | 6 => LkV kb (r : Int) num ws u X
        | _ => True) (fun _ => false) (fun _ _ _ _ h => by cases h) ?_ ?_ ?_
      · intro ii u X X' hR hb
        match ii, hR with
        | 0, h => exact h
        | 1, h => exact h
        | 2, h => exact h
        | 3, h => exact h
        | 4, h => exact h
        | 5, h => exact h
        | 6, h => exact LkV.later h hb
        | m + 7, h => exact h
      · intro ii o hi ho qq X vals hX hdep hoth
        have t0 : qq.tmps[0]? = some (.pointer (some ⟨q, 0, none⟩)) := by rw [hoth 0 (by kernel_rfl)]; rfl
        have t3 : qq.tmps[3]? = some (.pointer (some ⟨db, 0, none⟩)) := by rw [hoth 3 (by kernel_rfl)]; rfl
        match ii, hi, ho with
        | 0, _, ho =>
          simp only [List.getElem?_cons_zero, Option.some.injEq] at ho
          subst ho
          unfold Oper.wp
          simp [execOp, go_sem, t0]
          exact came _ rfl (Below.refl _ _) rfl (fun h => absurd h (by decide))
        | 1, _, ho =>
          simp only [List.getElem?_cons_succ, List.getElem?_cons_zero, Option.some.injEq] at ho
          subst ho
          obtain ⟨u0, e0⟩ := hdep ⟨0, .data⟩ (by simp) rfl _ 28 rfl rfl
          rw [show vals 0 = .pointer (some ⟨q, 0, none⟩) from e0] at u0
          unfold Oper.wp
          simp [execOp, go_sem, u0]
          exact came _ rfl (Below.refl _ _) rfl (fun h => absurd h (by decide))
        | 2, _, ho =>
          simp only [List.getElem?_cons_succ, List.getElem?_cons_zero, Option.some.injEq] at ho
          subst ho
          obtain ⟨u1, e1⟩ := hdep ⟨1, .data⟩ (by simp) rfl _ 29 rfl rfl
          rw [show vals 1 = .pointer (some ⟨q, 0, none⟩) from e1] at u1
          unfold Oper.wp
          simp [execOp, go_sem, u1]
          exact came _ rfl (Below.refl _ _) rfl (fun h => absurd h (by decide))
        | 3, _, ho =>
          simp only [List.getElem?_cons_succ, List.getElem?_cons_zero, Option.some.injEq] at ho
          subst ho
          obtain ⟨u2, e2⟩ := hdep ⟨2, .data⟩ (by simp) rfl _ 30 rfl rfl
          rw [show vals 2 = .pointer (some ⟨q, 9, none⟩) from e2] at u2
          have cc : X.cell? ⟨q, 9, none⟩ = some (.map (some kb)) := (RowAt.later H4.out.1 hX).cellIs 9 (qcv_map hl8)
          unfold Oper.wp
          simp [execOp, go_sem, u2, cc]
          exact came _ rfl (Below.refl _ _) rfl (fun h => absurd h (by decide))
        | 4, _, ho =>
          simp only [List.getElem?_cons_succ, List.getElem?_cons_zero, Option.some.injEq] at ho
          subst ho
          exact opw_loadA _ rfl (by simp [Act.eval, t3]) hxf (RowAt.later H4.out.2.1 hX).in (came _ rfl (Below.refl _ _) rfl (fun h => absurd h (by decide)))
        | 5, _, ho =>
          simp only [List.getElem?_cons_succ, List.getElem?_cons_zero, Option.some.injEq] at ho
          subst ho
          obtain ⟨u4, e4⟩ := hdep ⟨4, .data⟩ (by simp) rfl _ 32 rfl rfl
          rw [show vals 4 = .agg (acv x) from e4] at u4
          unfold Oper.wp
          simp [go_sem, u4]
          refine (HNM.out X).mono ?_
          rintro r x1 ⟨rfl, hb1⟩
          exact came _ rfl hb1 rfl (fun h => absurd h (by decide))
        | 6, _, ho =>
          simp only [List.getElem?_cons_succ, List.getElem?_cons_zero, Option.some.injEq] at ho
          subst ho
          obtain ⟨u3, e3⟩ := hdep ⟨3, .data⟩ (by simp) rfl _ 31 rfl rfl
          rw [show vals 3 = .map (some kb) from e3] at u3
          obtain ⟨u5, e5⟩ := hdep ⟨5, .data⟩ (by simp) rfl _ 33 rfl rfl
          rw [show vals 5 = .agg (nmc (r : Int) num) from e5] at u5
          obtain ⟨v5, hrun, hv5⟩ := LkV.look (GpAt.later H4.out.2.2 hX) HFR.out.1 HFR.out.2 HML.out HWS.out
          unfold Oper.wp
          simp [execOp, go_sem, u3, u5, hrun, Result.andThen]
          exact came _ rfl (Below.refl _ _) hv5 (fun h => absurd h (by decide))
        | m + 7, hi, _ => exact absurd hi (by omega)
      · intro vals Z hZ hR _
        have e6 : LkV kb (r : Int) num ws (vals 6) Z := hR 6 (by decide)
        obtain ⟨u6, hu6⟩ : ∃ u6, vals 6 = u6 := ⟨_, rfl⟩
        rw [hu6] at e6
        obtain ⟨ua, uc, huf, _⟩ := Rw.form e6.2.1
        subst huf
        have H5 := hid_of' (And.intro (RowAt.later H4.out.1 hZ) (And.intro (RowAt.later H4.out.2.1 hZ) (And.intro (GpAt.later H4.out.2.2 hZ) e6)))
        have HZ := hid_of' (HCY.out.later hZ)
        clear hR hZ e6
        simp only [List.drop, List.take, putAll, List.setIfInBounds_toArray, List.set_cons_succ, List.set_cons_zero, hu6]
        clear hu6
        go_upto_region 5 with fail
        refine wp_region_tail 6 (by kernel_rfl) (fun _ => none) (by kernel_rfl) (by kernel_rfl) (by decide) (fun ii u X => match ii with
          | 0 => u = .pointer (some ⟨q, 0, none⟩)
          | 1 => u = .pointer (some ⟨q, 0, none⟩)
          | 2 => u = .pointer (some ⟨q, 9, none⟩)
          | 3 => u = .map (some kb)
          | 4 => u = .agg (acv x)
          | 5 => u = .agg (nmc (r : Int) num)
          | _ => True) (fun _ => false) (fun _ _ _ _ h => by cases h) ?_ ?_ ?_
        · intro ii u X X' hR hb
          match ii, hR with
          | 0, h => exact h
          | 1, h => exact h
          | 2, h => exact h
          | 3, h => exact h
          | 4, h => exact h
          | 5, h => exact h
          | m + 6, h => exact h
        · intro ii o hi ho qq X vals hX hdep hoth
          have t0 : qq.tmps[0]? = some (.pointer (some ⟨q, 0, none⟩)) := by rw [hoth 0 (by kernel_rfl)]; rfl
          have t3 : qq.tmps[3]? = some (.pointer (some ⟨db, 0, none⟩)) := by rw [hoth 3 (by kernel_rfl)]; rfl
          match ii, hi, ho with
          | 0, _, ho =>
            simp only [List.getElem?_cons_zero, Option.some.injEq] at ho
            subst ho
            unfold Oper.wp
            simp [execOp, go_sem, t0]
            exact came _ rfl (Below.refl _ _) rfl (fun h => absurd h (by decide))
          | 1, _, ho =>
            simp only [List.getElem?_cons_succ, List.getElem?_cons_zero, Option.some.injEq] at ho
            subst ho
            obtain ⟨u0, e0⟩ := hdep ⟨0, .data⟩ (by simp) rfl _ 35 rfl rfl
            rw [show vals 0 = .pointer (some ⟨q, 0, none⟩) from e0] at u0
            unfold Oper.wp
            simp [execOp, go_sem, u0]
            exact came _ rfl (Below.refl _ _) rfl (fun h => absurd h (by decide))
          | 2, _, ho =>
            simp only [List.getElem?_cons_succ, List.getElem?_cons_zero, Option.some.injEq] at ho
            subst ho
            obtain ⟨u1, e1⟩ := hdep ⟨1, .data⟩ (by simp) rfl _ 36 rfl rfl
            rw [show vals 1 = .pointer (some ⟨q, 0, none⟩) from e1] at u1
            unfold Oper.wp
            simp [execOp, go_sem, u1]
            exact came _ rfl (Below.refl _ _) rfl (fun h => absurd h (by decide))
          | 3, _, ho =>
            simp only [List.getElem?_cons_succ, List.getElem?_cons_zero, Option.some.injEq] at ho
            subst ho
            obtain ⟨u2, e2⟩ := hdep ⟨2, .data⟩ (by simp) rfl _ 37 rfl rfl
            rw [show vals 2 = .pointer (some ⟨q, 9, none⟩) from e2] at u2
            have cc : X.cell? ⟨q, 9, none⟩ = some (.map (some kb)) := (RowAt.later H5.out.1 hX).cellIs 9 (qcv_map hl8)
            unfold Oper.wp
            simp [execOp, go_sem, u2, cc]
            exact came _ rfl (Below.refl _ _) rfl (fun h => absurd h (by decide))
          | 4, _, ho =>
            simp only [List.getElem?_cons_succ, List.getElem?_cons_zero, Option.some.injEq] at ho
            subst ho
            exact opw_loadA _ rfl (by simp [Act.eval, t3]) hxf (RowAt.later H5.out.2.1 hX).in (came _ rfl (Below.refl _ _) rfl (fun h => absurd h (by decide)))
          | 5, _, ho =>
            simp only [List.getElem?_cons_succ, List.getElem?_cons_zero, Option.some.injEq] at ho
            subst ho
            obtain ⟨u4, e4⟩ := hdep ⟨4, .data⟩ (by simp) rfl _ 39 rfl rfl
            rw [show vals 4 = .agg (acv x) from e4] at u4
            unfold Oper.wp
            simp [go_sem, u4]
            refine (HNM.out X).mono ?_
            rintro r x1 ⟨rfl, hb1⟩
            exact came _ rfl hb1 rfl (fun h => absurd h (by decide))
          | m + 6, hi, _ => exact absurd hi (by omega)
        · intro vals V hV hR _
          have e3 : vals 3 = .map (some kb) := hR 3 (by decide)
          have e5 : vals 5 = .agg (nmc (r : Int) num) := hR 5 (by decide)
          have hmV := GpAt.later H5.out.2.2.1 hV
          have hlV := LkV.later H5.out.2.2.2 hV
          have hqV := RowAt.later H5.out.1 hV
          have HV := hid_of' (And.intro (HZ.out.later hV) (And.intro hqV (And.intro hlV hmV)))
          clear hR hV
          simp only [List.drop, List.take, putAll, List.setIfInBounds_toArray, List.set_cons_succ, List.set_cons_zero, e3, e5]
          clear e3 e5
          go_upto_region 6 with (refine wpL_delG rfl _ _ rfl rfl rfl hmV HFR.out.1 HFR.out.2 HML.out hlV.2.2.1 ?_; intro w6 d1 d2 d3 d4)
          have hne := HV.out.2.2.2.neQ HV.out.2.1
          have hu : ∀ j, (Value.slice ua ws.length uc).ownBlock = some j → ¬ j = kb ∧ ¬ j = q := fun j hj => ⟨(hne.2 j (HV.out.2.2.1.2.2.2 j hj)).2, (hne.2 j (HV.out.2.2.1.2.2.2 j hj)).1⟩
          have hc6 : Ch (qS kb q w) w w6 := (Ch.of HB0.out).go ((HV.out.1.mono (S' := fun j => j = kb ∨ j = q) (fun s e => .inl (.inr e))).trans (d2.mono (fun s e => .inl (.inl e)))) (fun s e => e.elim (fun e => .inl (.inl e)) (fun e => .inl (.inr (.inl e))))
          have hr6 : ∀ k, RowsOf kb w6 k → RowsOf kb w k ∨ w.heap.size ≤ k := fun k hk => .inl (RowsOf.same (HB0.out.block kb H0.out.2.1.lt) (RowsOf.same (HV.out.1.block kb HM2.out.lt (fun e => hne.1 e.symm)) (d3 k hk)))
          have HS := hid_of' (And.intro (hqV.ch d2 hne.1) (And.intro d1 (And.intro hc6 (And.intro hr6 (And.intro (hlV.2.1.ch d2 (fun j hj => (hu j hj).1)) (And.intro d4 hu))))))
          clear hmV hlV hqV d1 d2 d3 d4 hne hc6 hr6 hu
          have hwz : ws.length ≤ 1000 := by have := HQD.out.2.2.2.1; omega
          go_wp2
          go_loopw [43] (fun i wr => ∃ (k : Nat) (f1 : List Nat) (g1 : Int → Int → List Nat), i = .int .i64 (k : Int) ∧ k ≤ ws.length ∧ QAt q (.slice a9 L.length c9) h' kb f1 wr ∧ GpAt kb (n + k) base g1 wr ∧ QI L h' (fun j => ¬ j ∈ ws.drop k) f1 g1 ∧ Ch (qS kb q w) w wr ∧ (∀ k, RowsOf kb wr k → RowsOf kb w k ∨ w.heap.size ≤ k) ∧ OwnI (.slice ua ws.length uc) ws wr ∧ ∀ j, (Value.slice ua ws.length uc).ownBlock = some j → ¬ RowsOf kb wr j) (fun i _ => ws.length - (intOf i).toNat)
          case atStart => exact ⟨0, _, _, rfl, by omega, HS.out.1, HS.out.2.1, by have := HQD.out.1; rw [HQD.out.2.2.2.2.2.2] at this; simpa using this, HS.out.2.2.1, HS.out.2.2.2.1, HS.out.2.2.2.2.1, HS.out.2.2.2.2.2.1⟩
          case round =>
            rename World => wr
            obtain ⟨k, f1, g1, rfl, hk, hqa, hga, qi, hc, hrow, hown, hnr⟩ := hrel
            by_cases hlt : k < ws.length
            · have hki : (k : Int) < (ws.length : Int) := by omega
              obtain ⟨j, hj⟩ : ∃ j, ws[k]? = some j := ⟨_, List.getElem?_eq_getElem hlt⟩
              have hjL := HQD.out.2.2.1 j (List.mem_of_getElem? hj)
              obtain ⟨y, hy⟩ : ∃ y, L[j]? = some y := ⟨_, List.getElem?_eq_getElem hjL⟩
              obtain ⟨gu, ou, hua⟩ : ∃ gu ou, ua = some ⟨gu, ou, none⟩ := by
                rcases hown.2 with ⟨e, e0⟩ | ⟨gu, cap, cur, e, _⟩
                · omega
                · cases e; exact ⟨gu, 0, rfl⟩
              subst hua
              have cu : wr.cell? ⟨gu, ou + k, none⟩ = some (.int .i64 (j : Int)) := Rw.cells hown k _ (by rw [List.getElem?_map, hj]; rfl)
              have hcw : SlC wr (.slice a9 L.length c9) L := H0.out.2.2.1.ch0 hc (fun a n' k' e hp => by
                have hbl : a.block < base ∧ a.block ≠ kb ∧ a.block ≠ q := HSL.out a n' k' e hp
                rintro (e1 | e1 | e1)
                · exact hbl.2.1 e1
                · exact hbl.2.2 e1
                · have := (H0.out.2.1.rows e1).1; omega)
              have HP := hid_of' (put_any hqa hga hcw hfit hL (by rw [← HQD.out.2.2.2.2.2.2]; exact HQD.out.2.2.2.2.1) qi.fl hy (by have := HQD.out.2.2.2.1; omega) (Nat.le_trans H0.out.2.2.2.1 hc.size) (fun a b => Nat.le_trans (qi.len a b) hL) (fun r hr => Nat.le_trans (qi.fle r hr) (by omega)))
              have HR := hid_of' (And.intro hqa (And.intro hga (And.intro qi (And.intro hc (And.intro hrow (And.intro hown (And.intro hnr (And.intro hj hy))))))))
              clear hqa hga qi hc hrow hown hnr hj hy hcw
              go_upto_region 10 with (go_at_call 63; refine HP.out.mono ?_; rintro e w7 ⟨⟨z, rfl⟩, f', g', hpq⟩; clear HP)
              have HY := hid_of' hpq
              clear hpq cu
              go_wp2
              go_roundw
              case rel =>
                obtain ⟨p1, p2, p3, p4, p5⟩ := HY.out
                obtain ⟨t1, t2, t3, t4, t5, t6, t7, t8, t9⟩ := HR.out
                have hdr : ws.drop k = j :: ws.drop (k + 1) := by
                  have hkl := (List.getElem?_eq_some_iff.1 t8).1
                  rw [show j = ws[k] from (Option.some.inj ((List.getElem?_eq_getElem hkl).symm.trans t8)).symm, List.getElem_cons_drop hkl]
                have hnd : ¬ j ∈ ws.drop (k + 1) := by
                  have := (List.drop_sublist k ws).nodup HQD.out.2.1
                  rw [hdr, List.nodup_cons] at this
                  exact this.1
                have hnq := t2.neQ t1
                refine ⟨k + 1, f', g', by go_num, by omega, p2, p3, (t3.put t9 (by rw [hdr]; simp) p1).congr (fun i => ?_), t4.go p4 (fun s e => ?_), fun s e => ?_, t6.ch p4 (fun s hs e => ?_), fun s hs e => ?_⟩
                · rw [hdr, List.mem_cons]
                  constructor
                  · rintro (e | rfl)
                    · exact fun q => e (.inr q)
                    · exact hnd
                  · intro e
                    by_cases e2 : i = j
                    · exact .inr e2
                    · exact .inl (fun q => q.elim e2 e)
                · rcases e with e | e | e
                  · exact .inl (.inl e)
                  · exact .inl (.inr (.inl e))
                  · exact (t5 s e).imp (fun q => .inr (.inr q)) id
                · rcases p5 s e with e | e
                  · exact t5 s e
                  · exact .inr (Nat.le_trans t4.size e)
                · rcases e with e | e | e
                  · exact (HS.out.2.2.2.2.2.2 s hs).1 e
                  · exact (HS.out.2.2.2.2.2.2 s hs).2 e
                  · exact t7 s hs e
                · rcases p5 s e with e | e
                  · exact t7 s hs e
                  · have := t6.lt s hs; omega
              case measure => simp [intOf]; omega
            · have hki : ¬ (k : Int) < (ws.length : Int) := by omega
              have HR := hid_of' (And.intro hqa (And.intro hga (And.intro qi (And.intro hc hrow))))
              clear hqa hga qi hc hrow hown hnr
              go_wp2
              go_end0
              obtain ⟨t1, t2, t3, t4, t5⟩ := HR.out
              have ha := HQD.out.2.2.2.2.2.2
              refine ⟨⟨_, rfl⟩, f1, g1, ⟨by rw [ha]; exact t1, t2.mono (by have := HQD.out.2.2.2.1; omega), ?_, t4, t5⟩⟩
              rw [ha]
              refine t3.congr (fun i => ⟨fun _ => trivial, fun _ => ?_⟩)
              rw [List.drop_of_length_le (by omega)]
              simp
end Go.Proofs.YtlkcjbmdeimocaaDoor
