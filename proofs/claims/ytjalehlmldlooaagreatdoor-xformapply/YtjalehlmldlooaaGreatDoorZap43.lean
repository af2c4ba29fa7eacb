
/-
  Right, Valid and Inverse, of the program and of the document: barrowlaw07.XformRight.
-/
import Derived.Test.YtjalehlmldlooaaGreatDoorZap42
namespace Go.Proofs.YtjalehlmldlooaaGreatDoor
open Go.RowKit
set_option maxRecDepth 100000

set_option maxHeartbeats 1000000 in
theorem refRight7_any (o : Xo) (w : World) : Calls Tryz.prog 20 #[.agg (ov o)] w fun r w' => r = .returned (.bool (rightO o)) ∧ Below w.heap.size w w' := by
  have HV := hid_of' (refRight_any o.c)
  unfold ov rightO
  by_cases h0 : o.r < 0
  · rw [show (decide (0 ≤ o.r) && decide (o.r < 8) && (if o.k = 1 then rightC o.c else if o.k = 3 then decide (o.c = 0) else if o.k = 2 then decide (o.c = 0) else false)) = false by simp; omega]
    go_enter Tryz.func20, Tryz.ntmps20
    go_wp2
    go_ret
    exact ⟨rfl, below_one w _⟩
  · by_cases h1 : 7 < o.r
    · rw [show (decide (0 ≤ o.r) && decide (o.r < 8) && (if o.k = 1 then rightC o.c else if o.k = 3 then decide (o.c = 0) else if o.k = 2 then decide (o.c = 0) else false)) = false by simp; omega]
      go_enter Tryz.func20, Tryz.ntmps20
      go_wp2
      go_ret
      exact ⟨rfl, below_one w _⟩
    · rw [show (decide (0 ≤ o.r) && decide (o.r < 8)) = true by simp; omega, Bool.true_and]
      by_cases k1 : o.k = 1
      · rw [if_pos k1]
        go_enter Tryz.func20, Tryz.ntmps20
        go_wp2_with (go_at_call 13; refine (HV.out _).mono ?_; rintro r w2 ⟨rfl, hw⟩; obtain rfl := hw.symm)
        go_ret
        exact ⟨rfl, below_one w _⟩
      · have e1 := ne_beq k1
        rw [if_neg k1]
        by_cases k3 : o.k = 3
        · have e2 : (o.k == 2) = false := ne_beq (by omega)
          rw [if_pos k3]
          go_enter Tryz.func20, Tryz.ntmps20
          go_wp2
          go_ret
          exact ⟨rfl, below_one w _⟩
        · have e3 := ne_beq k3
          rw [if_neg k3]
          by_cases k2 : o.k = 2
          · rw [if_pos k2]
            go_enter Tryz.func20, Tryz.ntmps20
            go_wp2
            go_ret
            exact ⟨rfl, below_one w _⟩
          · have e2 := ne_beq k2
            rw [if_neg k2]
            go_enter Tryz.func20, Tryz.ntmps20
            go_wp2
            go_ret
            exact ⟨rfl, below_one w _⟩
theorem refRight7_is {o : Xo} {v : Bool} (h : rightO o = v) (w : World) : Calls Tryz.prog 20 #[.agg (ov o)] w fun r w' => r = .returned (.bool v) ∧ Below w.heap.size w w' := h ▸ refRight7_any o w

set_option maxHeartbeats 1000000 in
theorem refValid7_any (o : Xo) (n : Int) (w : World) : Calls Tryz.prog 21 #[.agg (ov o), .int .i64 n] w fun r w' => r = .returned (.bool (validO o n)) ∧ Below w.heap.size w w' := by
  have r0 := row_new w (ov o) 40
  have hB := below_one w (.cells (ov o) 40)
  have d1 : ∀ s : Wld (w.alloc (.cells (ov o) 40)), (wOf s).cell? ⟨w.heap.size, 1, none⟩ = some (.int .i64 o.p) := fun s => r0.cls 1 _ rfl s
  unfold validO
  cases hr : rightO o with
  | false =>
    rw [show (false && decide (0 ≤ o.p) && (decide (o.p < n) || decide (o.p = n) && decide (o.k = 1))) = false by simp]
    go_enter Tryz.func21, Tryz.ntmps21
    go_upto_region 1 with fail
    refine wp_region_cls0 ?_
    repeat (first | go_big_quiet_skip | (go_big_quiet_want; first | (refine quiet_load_in _ _ rfl rfl r0.in.cls Tryz.underlying40 rfl (o_size o) ?_; simp only [Act.put, List.setIfInBounds_toArray, List.set_cons_succ, List.set_cons_zero]; go_big_quiet_on) | (go_big_quiet_op; first | go_big_quiet_on | go_big_quiet_call ((go_at_call 20; exact cls_of (refRight7_is hr _))))))
    refine wpQuiet_nil ?_
    rintro w1 ⟨s1, e1⟩
    have hb1 := wOf_below s1
    rw [← e1] at hb1
    clear e1 s1
    replace r0 := r0.later hb1
    replace hB := bgo hB hb1
    clear hb1
    have c0 : w1.cell? ⟨w.heap.size, 0, none⟩ = some (.int .i64 o.k) := r0.cell 0
    have c1 : w1.cell? ⟨w.heap.size, 1, none⟩ = some (.int .i64 o.p) := r0.cell 1
    go_wp2
    go_ret
    exact ⟨rfl, hB⟩
  | true =>
    by_cases h0 : o.p < 0
    · rw [show (true && decide (0 ≤ o.p) && (decide (o.p < n) || decide (o.p = n) && decide (o.k = 1))) = false by simp; omega]
      go_enter Tryz.func21, Tryz.ntmps21
      go_upto_region 1 with fail
      refine wp_region_cls0 ?_
      repeat (first | go_big_quiet_skip | (go_big_quiet_want; first | (refine quiet_load_in _ _ rfl rfl r0.in.cls Tryz.underlying40 rfl (o_size o) ?_; simp only [Act.put, List.setIfInBounds_toArray, List.set_cons_succ, List.set_cons_zero]; go_big_quiet_on) | (go_big_quiet_op; first | go_big_quiet_on | go_big_quiet_call ((go_at_call 20; exact cls_of (refRight7_is hr _))))))
      refine wpQuiet_nil ?_
      rintro w1 ⟨s1, e1⟩
      have hb1 := wOf_below s1
      rw [← e1] at hb1
      clear e1 s1
      replace r0 := r0.later hb1
      replace hB := bgo hB hb1
      clear hb1
      have c0 : w1.cell? ⟨w.heap.size, 0, none⟩ = some (.int .i64 o.k) := r0.cell 0
      have c1 : w1.cell? ⟨w.heap.size, 1, none⟩ = some (.int .i64 o.p) := r0.cell 1
      go_wp2
      go_ret
      exact ⟨rfl, hB⟩
    · rw [show (true && decide (0 ≤ o.p) && (decide (o.p < n) || decide (o.p = n) && decide (o.k = 1))) = (decide (o.p < n) || decide (o.p = n) && decide (o.k = 1)) by simp; omega]
      by_cases k1 : o.k = 1
      · rw [show (decide (o.p < n) || decide (o.p = n) && decide (o.k = 1)) = decide (o.p ≤ n) by rw [show decide (o.k = 1) = true by simp [k1], Bool.and_true, ← Bool.decide_or, decide_eq_decide]; omega]
        go_enter Tryz.func21, Tryz.ntmps21
        go_upto_region 1 with fail
        refine wp_region_cls0 ?_
        repeat (first | go_big_quiet_skip | (go_big_quiet_want; first | (refine quiet_load_in _ _ rfl rfl r0.in.cls Tryz.underlying40 rfl (o_size o) ?_; simp only [Act.put, List.setIfInBounds_toArray, List.set_cons_succ, List.set_cons_zero]; go_big_quiet_on) | (go_big_quiet_op; first | go_big_quiet_on | go_big_quiet_call ((go_at_call 20; exact cls_of (refRight7_is hr _))))))
        refine wpQuiet_nil ?_
        rintro w1 ⟨s1, e1⟩
        have hb1 := wOf_below s1
        rw [← e1] at hb1
        clear e1 s1
        replace r0 := r0.later hb1
        replace hB := bgo hB hb1
        clear hb1
        have c0 : w1.cell? ⟨w.heap.size, 0, none⟩ = some (.int .i64 o.k) := r0.cell 0
        have c1 : w1.cell? ⟨w.heap.size, 1, none⟩ = some (.int .i64 o.p) := r0.cell 1
        go_wp2
        go_ret
        exact ⟨rfl, hB⟩
      · have e1 := ne_beq k1
        rw [show (decide (o.p < n) || decide (o.p = n) && decide (o.k = 1)) = decide (o.p < n) by simp [k1]]
        go_enter Tryz.func21, Tryz.ntmps21
        go_upto_region 1 with fail
        refine wp_region_cls0 ?_
        repeat (first | go_big_quiet_skip | (go_big_quiet_want; first | (refine quiet_load_in _ _ rfl rfl r0.in.cls Tryz.underlying40 rfl (o_size o) ?_; simp only [Act.put, List.setIfInBounds_toArray, List.set_cons_succ, List.set_cons_zero]; go_big_quiet_on) | (go_big_quiet_op; first | go_big_quiet_on | go_big_quiet_call ((go_at_call 20; exact cls_of (refRight7_is hr _))))))
        refine wpQuiet_nil ?_
        rintro w1 ⟨s1, e1⟩
        have hb1 := wOf_below s1
        rw [← e1] at hb1
        clear e1 s1
        replace r0 := r0.later hb1
        replace hB := bgo hB hb1
        clear hb1
        have c0 : w1.cell? ⟨w.heap.size, 0, none⟩ = some (.int .i64 o.k) := r0.cell 0
        have c1 : w1.cell? ⟨w.heap.size, 1, none⟩ = some (.int .i64 o.p) := r0.cell 1
        go_wp2
        go_ret
        exact ⟨rfl, hB⟩

/-- What undoes an operation. -/
def invO (o : Xo) : Xo × Bool := if o.k = 1 then (⟨2, o.p, 0, o.r⟩, true) else if o.k = 3 then (⟨2, o.p, 0, o.r⟩, true) else if o.k = 2 then (⟨3, o.p, 0, o.r⟩, true) else (⟨0, 0, 0, 0⟩, false)
theorem results_o2 {fn : Func} {p u : Tmp} {tmps : Array Value} {w : World} {g : Nat} {e : Xo} (h : fn.results = #[.cell p 40, .tmp u]) (hp : tmps.getD p undef = .pointer (some ⟨g, 0, none⟩)) (hg : RowAt g (ov e) 40 w) :
    (results fn tmps).run Tryz.prog w = .ok (.tuple #[.agg (ov e), tmps.getD u undef]) w := by
  have hp' : tmps[p]?.getD undef = .pointer (some ⟨g, 0, none⟩) := by simpa using hp
  simp [results, h, hp', asAddr, run_loadVar_row w g _ _ _ _ _ hg Tryz.underlying40 rfl (o_size e)]
end Go.Proofs.YtjalehlmldlooaaGreatDoor
