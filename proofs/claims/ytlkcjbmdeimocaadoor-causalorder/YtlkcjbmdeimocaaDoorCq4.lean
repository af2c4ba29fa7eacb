
/-
  Package causal: a queue's put, of what is not waiting.
-/
import Derived.Test.YtlkcjbmdeimocaaDoorCq3
import Derived.Test.YtlkcjbmdeimocaaDoorCa14
namespace Go.Proofs.YtlkcjbmdeimocaaDoor
open Go.RowKit Go.Maps Go.MapKept
set_option maxRecDepth 100000

set_option maxHeartbeats 4000000 in
theorem put_idle {q kb n base : Nat} {v : Value} {h : List Int} {f : List Nat} {g : Int → Int → List Nat} {w : World} {L : List Ac} (hq : QAt q v h kb f w) (hm : GpAt kb n base g w) (hv : SlC w v L) (hfit : AFit L) (hL : L.length ≤ 1000) (hh : Ck h) (_hf8 : f.length = 8) {i : Nat} {x : Ac} (hx : L[i]? = some x) (_hn : n < 1000000) (hbase : base ≤ w.heap.size) (hall : ∀ r : Nat, r < 8 → en x.ck r ≤ en h r) (hrd : rdyC h x = false) :
    Calls Tryd.prog 63 #[.pointer (some ⟨q, 0, none⟩), .int .i64 (i : Int)] w fun e w' => (∃ z, e = .returned z) ∧ ∃ f' g', PutQ q v h kb n base x i f g w w' f' g' := by
  have hil : i < L.length := (List.getElem?_eq_some_iff.1 hx).1
  have hii : (i : Int) < (L.length : Int) := by omega
  obtain ⟨g0, o0, c9, hve, _⟩ := hv.pos (by omega)
  have hxf := hfit.at hx
  have hin := (by rw [hve] at hv; exact hv : SlC w (.slice (some ⟨g0, o0, none⟩) L.length c9) L).in hfit hx
  subst hve
  have c0 : w.cell? ⟨q, 0, none⟩ = some (.slice (some ⟨g0, o0, none⟩) L.length c9) := hq.cellIs 0 (qcv_list _ _ _ _)
  have hsz0 := hq.lt
  have H := hid_of' (And.intro hq (And.intro hm hbase))
  clear hq hm hv hfit hx hbase
  go_enter Tryd.func63, Tryd.ntmps63
  go_upto_region 1 with (first | (refine wpL_loadA rfl _ rfl rfl hxf hin ?_) | (refine wpL_storeAr (p := x) (q := ac0) rfl _ _ rfl rfl rfl hxf ac0_fit (row_new w (acv ac0) _) ?_))
  clear c0 hin
  obtain ⟨hb1, hb2⟩ := boxed_act w (x := x)
  rw [show (Obj.cells #[Value.int .i64 0, .int .i64 0, .int .i32 0, .int .i64 0, .int .i64 0, .int .i64 0, .int .i64 0, .int .i64 0, .int .i64 0, .int .i64 0, .int .i64 0, .int .i64 0, .int .i64 0] 48) = Obj.cells (acv ac0) 48 from rfl]
  obtain ⟨xb, hxb⟩ : ∃ xb, w.heap.size = xb := ⟨_, rfl⟩
  generalize (w.alloc (.cells (acv ac0) 48)).setRow w.heap.size (acv x) = W1 at hb1 hb2 ⊢
  rw [hxb] at hb1 ⊢
  have hckx : CsIn xb 5 (cv x.ck) W1 := hb1.in.sub 5 (fun j u hu => acv_ck x j u hu)
  have HK := hid_of' (lacking_none (H.out.1.later hb2) hh.1 hxf.1 hall)
  go_upto_region 2 with (first | (refine wpL_loadCkQ rfl _ rfl rfl hxf.1.1 hckx ?_) | (go_at_call 70; refine HK.out.mono ?_; rintro e w3 ⟨rfl, hb3⟩; clear HK) | (refine wpL_storeNm (a := 0) (b := 0) (c := 0) (d := 0) rfl _ _ rfl rfl rfl (row_new w3 (nmc 0 0) _) ?_))
  rw [show (Obj.cells #[Value.int .i64 0, .int .i64 0] 92) = Obj.cells (nmc 0 0) 92 from rfl]
  have hnb : RowAt w3.heap.size (nmc 0 0) 92 ((w3.alloc (.cells (nmc 0 0) 92)).setRow w3.heap.size (nmc 0 0)) := (row_new w3 (nmc 0 0) _).put _
  have hb4 : Below w3.heap.size w3 ((w3.alloc (.cells (nmc 0 0) 92)).setRow w3.heap.size (nmc 0 0)) := below_row (below_one w3 _) (Nat.le_refl _) _
  generalize (w3.alloc (.cells (nmc 0 0) 92)).setRow w3.heap.size (nmc 0 0) = w2 at hnb hb4 ⊢
  obtain ⟨nb, hnbe⟩ : ∃ nb, w3.heap.size = nb := ⟨_, rfl⟩
  rw [hnbe] at hnb ⊢
  have hbw := bgo (bgo hb2 hb3) hb4
  have hqq := H.out.1.later hbw
  have hbx := hb1.later (bgo hb3 hb4)
  have hckq : CsIn q 1 (cv h) w2 := hqq.in.sub 1 (fun j u hu => qcv_ck hh.1 j u hu)
  have HW := hid_of' hbw
  clear hb1 hb2 hb3 hb4 hckx hnb hbw
  have hB := Below.refl w2.heap.size w2
  go_upto_region 4 with fail
  refine wp_region_cls (by kernel_rfl) (by kernel_rfl) ?_
  repeat (first | go_big_quiet_skip | (go_big_quiet_want; first | (refine quiet_ckIn _ rfl rfl hh.1 hckq.cls ?_; simp only [Act.put, List.setIfInBounds_toArray, List.set_cons_succ, List.set_cons_zero]; go_big_quiet_on) | (refine quiet_act _ rfl rfl hxf hbx.in.cls ?_; simp only [Act.put, List.setIfInBounds_toArray, List.set_cons_succ, List.set_cons_zero]; go_big_quiet_on) | (go_big_quiet_op; first | go_big_quiet_on | go_big_quiet_call ((go_at_call 52; exact cls_of (ready_is hrd _ hh.1 hxf))))))
  refine wpQuiet_nil ?_
  rintro w1 ⟨s1, e1⟩
  have hb1 := wOf_below s1
  rw [← e1] at hb1
  clear e1 s1
  replace hqq := hqq.later hb1
  replace hbx := hbx.later hb1
  replace hB := bgo hB hb1
  clear hb1
  go_wp2
  go_end0
  have hb9 := bgo HW.out hB
  exact ⟨⟨_, rfl⟩, f, g, ⟨.inr ⟨hall, rfl, .inr ⟨hrd, rfl⟩⟩, H.out.1.later hb9, (H.out.2.1.later hb9).mono (by omega), Ch.of hb9, fun k hk => .inl (hk.same (hb9.block kb H.out.2.1.lt))⟩⟩
set_option maxHeartbeats 4000000 in
theorem put_ready {q kb n base : Nat} {v : Value} {h : List Int} {f : List Nat} {g : Int → Int → List Nat} {w : World} {L : List Ac} (hq : QAt q v h kb f w) (hm : GpAt kb n base g w) (hv : SlC w v L) (hfit : AFit L) (hL : L.length ≤ 1000) (hh : Ck h) (hf8 : f.length = 8) {i : Nat} {x : Ac} (hx : L[i]? = some x) (_hn : n < 1000000) (hbase : base ≤ w.heap.size) (hall : ∀ r : Nat, r < 8 → en x.ck r ≤ en h r) (hrd : rdyC h x = true) (_hfb : ∀ r, r < 8 → fn f r ≤ 1000000) :
    Calls Tryd.prog 63 #[.pointer (some ⟨q, 0, none⟩), .int .i64 (i : Int)] w fun e w' => (∃ z, e = .returned z) ∧ ∃ f' g', PutQ q v h kb n base x i f g w w' f' g' := by
  obtain ⟨r, hrep, hrt, hr8, _⟩ := rdy_at hrd
  have hil : i < L.length := (List.getElem?_eq_some_iff.1 hx).1
  have hii : (i : Int) < (L.length : Int) := by omega
  obtain ⟨g0, o0, c9, hve, _⟩ := hv.pos (by omega)
  have hxf := hfit.at hx
  have hin := (by rw [hve] at hv; exact hv : SlC w (.slice (some ⟨g0, o0, none⟩) L.length c9) L).in hfit hx
  subst hve
  have c0 : w.cell? ⟨q, 0, none⟩ = some (.slice (some ⟨g0, o0, none⟩) L.length c9) := hq.cellIs 0 (qcv_list _ _ _ _)
  have hsz0 := hq.lt
  have H := hid_of' (And.intro hq (And.intro hm hbase))
  clear hq hm hv hfit hx hbase
  go_enter Tryd.func63, Tryd.ntmps63
  go_upto_region 1 with (first | (refine wpL_loadA rfl _ rfl rfl hxf hin ?_) | (refine wpL_storeAr (p := x) (q := ac0) rfl _ _ rfl rfl rfl hxf ac0_fit (row_new w (acv ac0) _) ?_))
  clear c0 hin
  obtain ⟨hb1, hb2⟩ := boxed_act w (x := x)
  rw [show (Obj.cells #[Value.int .i64 0, .int .i64 0, .int .i32 0, .int .i64 0, .int .i64 0, .int .i64 0, .int .i64 0, .int .i64 0, .int .i64 0, .int .i64 0, .int .i64 0, .int .i64 0, .int .i64 0] 48) = Obj.cells (acv ac0) 48 from rfl]
  obtain ⟨xb, hxb⟩ : ∃ xb, w.heap.size = xb := ⟨_, rfl⟩
  generalize (w.alloc (.cells (acv ac0) 48)).setRow w.heap.size (acv x) = W1 at hb1 hb2 ⊢
  rw [hxb] at hb1 ⊢
  have hckx : CsIn xb 5 (cv x.ck) W1 := hb1.in.sub 5 (fun j u hu => acv_ck x j u hu)
  have HK := hid_of' (lacking_none (H.out.1.later hb2) hh.1 hxf.1 hall)
  go_upto_region 2 with (first | (refine wpL_loadCkQ rfl _ rfl rfl hxf.1.1 hckx ?_) | (go_at_call 70; refine HK.out.mono ?_; rintro e w3 ⟨rfl, hb3⟩; clear HK) | (refine wpL_storeNm (a := 0) (b := 0) (c := 0) (d := 0) rfl _ _ rfl rfl rfl (row_new w3 (nmc 0 0) _) ?_))
  rw [show (Obj.cells #[Value.int .i64 0, .int .i64 0] 92) = Obj.cells (nmc 0 0) 92 from rfl]
  have hnb : RowAt w3.heap.size (nmc 0 0) 92 ((w3.alloc (.cells (nmc 0 0) 92)).setRow w3.heap.size (nmc 0 0)) := (row_new w3 (nmc 0 0) _).put _
  have hb4 : Below w3.heap.size w3 ((w3.alloc (.cells (nmc 0 0) 92)).setRow w3.heap.size (nmc 0 0)) := below_row (below_one w3 _) (Nat.le_refl _) _
  generalize (w3.alloc (.cells (nmc 0 0) 92)).setRow w3.heap.size (nmc 0 0) = w2 at hnb hb4 ⊢
  obtain ⟨nb, hnbe⟩ : ∃ nb, w3.heap.size = nb := ⟨_, rfl⟩
  rw [hnbe] at hnb ⊢
  have hbw := bgo (bgo hb2 hb3) hb4
  have hqq := H.out.1.later hbw
  have hbx := hb1.later (bgo hb3 hb4)
  have hckq : CsIn q 1 (cv h) w2 := hqq.in.sub 1 (fun j u hu => qcv_ck hh.1 j u hu)
  have HW := hid_of' hbw
  clear hb1 hb2 hb3 hb4 hckx hnb hbw
  have hB := Below.refl w2.heap.size w2
  go_upto_region 4 with fail
  refine wp_region_cls (by kernel_rfl) (by kernel_rfl) ?_
  repeat (first | go_big_quiet_skip | (go_big_quiet_want; first | (refine quiet_ckIn _ rfl rfl hh.1 hckq.cls ?_; simp only [Act.put, List.setIfInBounds_toArray, List.set_cons_succ, List.set_cons_zero]; go_big_quiet_on) | (refine quiet_act _ rfl rfl hxf hbx.in.cls ?_; simp only [Act.put, List.setIfInBounds_toArray, List.set_cons_succ, List.set_cons_zero]; go_big_quiet_on) | (go_big_quiet_op; first | go_big_quiet_on | go_big_quiet_call ((go_at_call 52; exact cls_of (ready_is hrd _ hh.1 hxf))))))
  refine wpQuiet_nil ?_
  rintro w1 ⟨s1, e1⟩
  have hb1 := wOf_below s1
  rw [← e1] at hb1
  clear e1 s1
  replace hqq := hqq.later hb1
  replace hbx := hbx.later hb1
  replace hB := bgo hB hb1
  clear hb1
  have c3 : w1.cell? ⟨xb, 3, none⟩ = some (.int .i64 (r : Int)) := by rw [← hrep]; exact hbx.cellIs 3 (acv_rep x)
  have hb9 := bgo HW.out hB
  have HW9 := hid_of' hb9
  obtain ⟨y, hy⟩ : ∃ y, fn f r = y := ⟨_, rfl⟩
  have hcy := qcv_first (v := .slice (some ⟨g0, o0, none⟩) L.length c9) (h := h) (kb := kb) hh.1 hf8 hr8
  rw [hy] at hcy
  have H6 := hid_of' hqq
  have HY := hid_of' hcy
  have HYY := hid_of' hy
  have hri : (r : Int) < 8 := by omega
  have hmn : min (y : Int) (i : Int) = ((min y i : Nat) : Int) := by omega
  clear hB hb9 hqq hbx hckq hcy hy
  go_upto_region 6 with fail
  clear c3
  refine wp_region_tail 12 (by kernel_rfl) (fun _ => none) (by kernel_rfl) (by kernel_rfl) (by decide) (fun ii u X => match ii with
    | 0 => u = .pointer (some ⟨q, 0, none⟩)
    | 1 => u = .int .i64 (r : Int)
    | 2 => u = .pointer (some ⟨q, 0, none⟩)
    | 3 => u = .int .i64 (r : Int)
    | 4 => u = .pointer (some ⟨q, 0, none⟩)
    | 5 => u = .pointer (some ⟨q, 10, none⟩)
    | 6 => u = .pointer (some ⟨q, 10 + r, none⟩)
    | 7 => u = .int .i64 (y : Int)
    | 8 => u = .int .i64 (i : Int)
    | 9 => u = .int .i64 ((min y i : Nat) : Int)
    | 10 => u = .pointer (some ⟨q, 0, none⟩)
    | 11 => u = .pointer (some ⟨q, 10, none⟩)
    | _ => True) (fun _ => false) (fun _ _ _ _ h => by cases h) ?_ ?_ ?_
  · intro ii u X X' hR hb
    match ii, hR with
    | 0, h => exact h
    | 1, h => exact h
    | 2, h => exact h
    | 3, h => exact h
    | 4, h => exact h
    | 5, h => exact h
    | 6, h => exact h
    | 7, h => exact h
    | 8, h => exact h
    | 9, h => exact h
    | 10, h => exact h
    | 11, h => exact h
    | m + 12, h => exact h
  · intro ii o hi ho qq X vals hX hdep hoth
    have t0 : qq.tmps[0]? = some (.pointer (some ⟨q, 0, none⟩)) := by rw [hoth 0 (by kernel_rfl)]; rfl
    have t1 : qq.tmps[1]? = some (.int .i64 (i : Int)) := by rw [hoth 1 (by kernel_rfl)]; rfl
    have t7 : qq.tmps[7]? = some (.int .i64 (r : Int)) := by rw [hoth 7 (by kernel_rfl)]; rfl
    match ii, hi, ho with
    | 0, _, ho =>
      simp only [List.getElem?_cons_zero, Option.some.injEq] at ho
      subst ho
      unfold Oper.wp
      simp [execOp, go_sem, t0]
      exact came _ rfl (Below.refl _ _) rfl (fun h => absurd h (by decide))
    | 1, _, ho =>
      simp only [List.getElem?_cons_succ, List.getElem?_cons_zero, Option.some.injEq] at ho
      subst ho
      unfold Oper.wp
      simp [execOp, go_sem, t7]
      exact came _ rfl (Below.refl _ _) rfl (fun h => absurd h (by decide))
    | 2, _, ho =>
      simp only [List.getElem?_cons_succ, List.getElem?_cons_zero, Option.some.injEq] at ho
      subst ho
      unfold Oper.wp
      simp [execOp, go_sem, t0]
      exact came _ rfl (Below.refl _ _) rfl (fun h => absurd h (by decide))
    | 3, _, ho =>
      simp only [List.getElem?_cons_succ, List.getElem?_cons_zero, Option.some.injEq] at ho
      subst ho
      unfold Oper.wp
      simp [execOp, go_sem, t7]
      exact came _ rfl (Below.refl _ _) rfl (fun h => absurd h (by decide))
    | 4, _, ho =>
      simp only [List.getElem?_cons_succ, List.getElem?_cons_zero, Option.some.injEq] at ho
      subst ho
      obtain ⟨u2, e2⟩ := hdep ⟨2, .data⟩ (by simp) rfl _ 45 rfl rfl
      rw [show vals 2 = .pointer (some ⟨q, 0, none⟩) from e2] at u2
      unfold Oper.wp
      simp [execOp, go_sem, u2]
      exact came _ rfl (Below.refl _ _) rfl (fun h => absurd h (by decide))
    | 5, _, ho =>
      simp only [List.getElem?_cons_succ, List.getElem?_cons_zero, Option.some.injEq] at ho
      subst ho
      obtain ⟨u4, e4⟩ := hdep ⟨4, .data⟩ (by simp) rfl _ 47 rfl rfl
      rw [show vals 4 = .pointer (some ⟨q, 0, none⟩) from e4] at u4
      unfold Oper.wp
      simp [execOp, go_sem, u4]
      exact came _ rfl (Below.refl _ _) rfl (fun h => absurd h (by decide))
    | 6, _, ho =>
      simp only [List.getElem?_cons_succ, List.getElem?_cons_zero, Option.some.injEq] at ho
      subst ho
      obtain ⟨u5, e5⟩ := hdep ⟨5, .data⟩ (by simp) rfl _ 48 rfl rfl
      rw [show vals 5 = .pointer (some ⟨q, 10, none⟩) from e5] at u5
      obtain ⟨u3, e3⟩ := hdep ⟨3, .data⟩ (by simp) rfl _ 46 rfl rfl
      rw [show vals 3 = .int .i64 (r : Int) from e3] at u3
      unfold Oper.wp
      simp [execOp, go_sem, u5, u3, hri]
      exact came _ rfl (Below.refl _ _) rfl (fun h => absurd h (by decide))
    | 7, _, ho =>
      simp only [List.getElem?_cons_succ, List.getElem?_cons_zero, Option.some.injEq] at ho
      subst ho
      obtain ⟨u6, e6⟩ := hdep ⟨6, .data⟩ (by simp) rfl _ 49 rfl rfl
      rw [show vals 6 = .pointer (some ⟨q, 10 + r, none⟩) from e6] at u6
      have cc : X.cell? ⟨q, 10 + r, none⟩ = some (.int .i64 (y : Int)) := (H6.out.later hX).cellIs (10 + r) HY.out
      unfold Oper.wp
      simp [execOp, go_sem, u6, cc]
      exact came _ rfl (Below.refl _ _) rfl (fun h => absurd h (by decide))
    | 8, _, ho =>
      simp only [List.getElem?_cons_succ, List.getElem?_cons_zero, Option.some.injEq] at ho
      subst ho
      unfold Oper.wp
      simp [execOp, go_sem, t1]
      exact came _ rfl (Below.refl _ _) rfl (fun h => absurd h (by decide))
    | 9, _, ho =>
      simp only [List.getElem?_cons_succ, List.getElem?_cons_zero, Option.some.injEq] at ho
      subst ho
      obtain ⟨u7, e7⟩ := hdep ⟨7, .data⟩ (by simp) rfl _ 50 rfl rfl
      rw [show vals 7 = .int .i64 (y : Int) from e7] at u7
      obtain ⟨u8, e8⟩ := hdep ⟨8, .data⟩ (by simp) rfl _ 51 rfl rfl
      rw [show vals 8 = .int .i64 (i : Int) from e8] at u8
      unfold Oper.wp
      simp [go_sem, u7, u8, hmn]
      exact came _ rfl (Below.refl _ _) rfl (fun h => absurd h (by decide))
    | 10, _, ho =>
      simp only [List.getElem?_cons_succ, List.getElem?_cons_zero, Option.some.injEq] at ho
      subst ho
      obtain ⟨u0, e0⟩ := hdep ⟨0, .data⟩ (by simp) rfl _ 43 rfl rfl
      rw [show vals 0 = .pointer (some ⟨q, 0, none⟩) from e0] at u0
      unfold Oper.wp
      simp [execOp, go_sem, u0]
      exact came _ rfl (Below.refl _ _) rfl (fun h => absurd h (by decide))
    | 11, _, ho =>
      simp only [List.getElem?_cons_succ, List.getElem?_cons_zero, Option.some.injEq] at ho
      subst ho
      obtain ⟨u10, e10⟩ := hdep ⟨10, .data⟩ (by simp) rfl _ 53 rfl rfl
      rw [show vals 10 = .pointer (some ⟨q, 0, none⟩) from e10] at u10
      unfold Oper.wp
      simp [execOp, go_sem, u10]
      exact came _ rfl (Below.refl _ _) rfl (fun h => absurd h (by decide))
    | m + 12, hi, _ => exact absurd hi (by omega)
  · intro vals X hX hR _
    have e1 : vals 1 = .int .i64 (r : Int) := hR 1 (by decide)
    have e9 : vals 9 = .int .i64 ((min y i : Nat) : Int) := hR 9 (by decide)
    have e11 : vals 11 = .pointer (some ⟨q, 10, none⟩) := hR 11 (by decide)
    have hq7 := H6.out.later hX
    have c7 := hq7.cellIs (10 + r) HY.out
    have f7 := hq7.froz (10 + r)
    have hb7 := bgo HW9.out hX
    have s7 := ch_cell (w := X) (b := q) (k := 10 + r) (.int .i64 ((min y i : Nat) : Int))
    have r7 := hq7.setc (10 + r) (.int .i64 ((min y i : Nat) : Int))
    rw [qcv_setF hh.1] at r7
    have HZ := hid_of' (And.intro r7 (And.intro s7 hb7))
    clear hR hX hq7 hb7 s7 r7
    simp only [List.drop, List.take, putAll, List.setIfInBounds_toArray, List.set_cons_succ, List.set_cons_zero, e1, e9, e11]
    clear e1 e9 e11
    go_wp2
    go_end0
    obtain ⟨z1, z2, z3⟩ := HZ.out
    have hne := H.out.2.1.neQ H.out.1
    have hc9 : Ch (fun j => j = q) w (X.setCell ⟨q, 10 + r, none⟩ (.int .i64 ((min y i : Nat) : Int))) := (Ch.of z3).trans z2
    refine ⟨⟨_, rfl⟩, _, g, ⟨.inr ⟨hall, rfl, .inl ⟨hrd, rfl⟩⟩, ?_, ((H.out.2.1.ch hc9 (fun e => hne.1 e.symm) (fun k hk => (hne.2 k hk).1))).mono (by omega), hc9.mono (fun s e => .inl (.inr (.inl e))), fun k hk => .inl (H.out.2.1.back hc9 (fun e => hne.1 e.symm) hk)⟩⟩
    rw [hrt, HYY.out]
    exact z1
theorem put_any {q kb n base : Nat} {v : Value} {h : List Int} {f : List Nat} {g : Int → Int → List Nat} {w : World} {L : List Ac} (hq : QAt q v h kb f w) (hm : GpAt kb n base g w) (hv : SlC w v L) (hfit : AFit L) (hL : L.length ≤ 1000) (hh : Ck h) (hf8 : f.length = 8) {i : Nat} {x : Ac} (hx : L[i]? = some x) (hn : n < 1000000) (hbase : base ≤ w.heap.size) (hz : ∀ a b, (g a b).length ≤ 1000) (hfb : ∀ r, r < 8 → fn f r ≤ 1000000) :
    Calls Tryd.prog 63 #[.pointer (some ⟨q, 0, none⟩), .int .i64 (i : Int)] w fun e w' => (∃ z, e = .returned z) ∧ ∃ f' g', PutQ q v h kb n base x i f g w w' f' g' := by
  by_cases hall : ∀ r : Nat, r < 8 → en x.ck r ≤ en h r
  · cases hrd : rdyC h x
    · exact put_idle hq hm hv hfit hL hh hf8 hx hn hbase hall hrd
    · exact put_ready hq hm hv hfit hL hh hf8 hx hn hbase hall hrd hfb
  · exact put_wait hq hm hv hfit hL hh hf8 hx hn hbase hall hz
end Go.Proofs.YtlkcjbmdeimocaaDoor
