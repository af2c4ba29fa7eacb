
/-
  xform.T: an operation as it must be behind another one. xform.Right, Valid, refusal of nothing. xform.do: what a valid operation does to a model. xform.Apply, of a valid operation.
-/
import Derived.Test.YtjalehlmldlooaaGreatDoorZap25
import Derived.Test.YtjalehlmldlooaaGreatDoorZap11
import Derived.Test.YtjalehlmldlooaaGreatDoorZap26
namespace Go.Proofs.YtjalehlmldlooaaGreatDoor
open Go.RowKit
set_option maxRecDepth 100000

/-- An operation's cells. -/
def ov (o : Xo) : Array Value := #[.int .i64 o.k, .int .i64 o.p, .int .i32 o.c, .int .i64 o.r]
theorem o_size (o : Xo) : (Tryz.prog.info? 40).map (·.size) = some (ov o).size := (by kernel_rfl : (Tryz.prog.info? 40).map (·.size) = some 4)
theorem ne_beq {a b : Int} (h : ¬ a = b) : (a == b) = false := by rw [beq_eq_false_iff_ne]; exact h
section
variable {ops : Array Oper} {rest : List Oper} {o : Oper} {A : Act} {w : World} {Q : Exit → Act → World → Prop}
theorem wpL_loadO (hgd : o.guard = none) (x : Operand) (ho : o.op = .load 40 x) {b off : Nat} (hx : A.eval x = .pointer (some ⟨b, off, none⟩)) {e : Xo} (h : CsIn b off (ov e) w)
    (k : wpList Tryz.prog ops Q rest (A.put o.dst (.agg (ov e))) w) : wpList Tryz.prog ops Q (o :: rest) A w :=
  wpList_plain hgd fun _ hK => by
    unfold Oper.wp execOp
    simp only [ho, hx, Instr.loadAt, Instr.sureAddr, Sem.run_bind, Sem.run_pure, Result.andThen_ok, run_loadVar_in h Tryz.underlying40 rfl (o_size e)]
    exact hK _ _ k
theorem opw_loadO {K : Act → World → Prop} (x : Operand) (ho : o.op = .load 40 x) {b off : Nat} (hx : A.eval x = .pointer (some ⟨b, off, none⟩)) {e : Xo} (h : CsIn b off (ov e) w)
    (k : K (A.put o.dst (.agg (ov e))) w) : o.wp Tryz.prog A w K Q := by
  unfold Oper.wp execOp
  simp only [ho, hx, Instr.loadAt, Instr.sureAddr, Sem.run_bind, Sem.run_pure, Result.andThen_ok, run_loadVar_in h Tryz.underlying40 rfl (o_size e)]
  exact k
theorem wpL_storeO (hgd : o.guard = none) (x y : Operand) (ho : o.op = .store 40 x y) {g : Nat} (hx : A.eval x = .pointer (some ⟨g, 0, none⟩)) {e : Xo} (hy : A.eval y = .agg (ov e)) {c0 c1 c2 c3 : Value} (h : RowAt g #[c0, c1, c2, c3] 40 w)
    (k : wpList Tryz.prog ops Q rest (A.put o.dst undef) (w.setRow g (ov e))) : wpList Tryz.prog ops Q (o :: rest) A w :=
  wpList_store_row hgd _ x y ho g (ov e) hx hy _ _ h (o_size e) rfl (by simp [ov, Value.oneCell']) k
end
theorem results_o {fn : Func} {p : Tmp} {tmps : Array Value} {w : World} {g : Nat} {e : Xo} (h : fn.results = #[.cell p 40]) (hp : tmps.getD p undef = .pointer (some ⟨g, 0, none⟩)) (hg : RowAt g (ov e) 40 w) :
    (results fn tmps).run Tryz.prog w = .ok (.agg (ov e)) w := by
  have hp' : tmps[p]?.getD undef = .pointer (some ⟨g, 0, none⟩) := by simpa using hp
  simp [results, h, hp', asAddr, run_loadVar_row w g _ _ _ _ _ hg Tryz.underlying40 rfl (o_size e)]

set_option maxHeartbeats 1000000 in
theorem isPushed_any (a b : Xo) (w : World) : Calls Tryz.prog 59 #[.agg (ov a), .agg (ov b)] w fun r w' => r = .returned (.bool (pushB a b)) ∧ Below w.heap.size w w' := by
  unfold ov pushB
  by_cases h1 : a.k = 1
  · rw [if_pos h1]
    by_cases h2 : b.p < a.p
    · rw [show (decide (b.p < a.p) || (decide (b.p = a.p) && decide (b.r ≤ a.r))) = true by simp [h2]]
      go_enter Tryz.func59, Tryz.ntmps59
      go_wp2
      go_ret
      exact ⟨rfl, below_two w _ _⟩
    · by_cases h3 : b.p = a.p
      · have e1 : (b.p == a.p) = true := by simp [h3]
        rw [show (decide (b.p < a.p) || (decide (b.p = a.p) && decide (b.r ≤ a.r))) = decide (b.r ≤ a.r) by simp [h3]]
        replace h3 := hid_of' h3
        go_enter Tryz.func59, Tryz.ntmps59
        go_wp2
        go_ret
        exact ⟨rfl, below_two w _ _⟩
      · have e1 := ne_beq h3
        rw [show (decide (b.p < a.p) || (decide (b.p = a.p) && decide (b.r ≤ a.r))) = false by simp [h3]; omega]
        go_enter Tryz.func59, Tryz.ntmps59
        go_wp2
        go_ret
        exact ⟨rfl, below_two w _ _⟩
  · have e1 := ne_beq h1
    rw [if_neg h1]
    by_cases h2 : a.k = 3
    · rw [if_pos h2]
      go_enter Tryz.func59, Tryz.ntmps59
      go_wp2
      go_ret
      exact ⟨rfl, below_two w _ _⟩
    · have e2 := ne_beq h2
      rw [if_neg h2]
      by_cases h3 : a.k = 2
      · rw [if_pos h3]
        go_enter Tryz.func59, Tryz.ntmps59
        go_wp2
        go_ret
        exact ⟨rfl, below_two w _ _⟩
      · have e3 := ne_beq h3
        rw [if_neg h3]
        go_enter Tryz.func59, Tryz.ntmps59
        go_wp2
        go_ret
        exact ⟨rfl, below_two w _ _⟩
theorem isPushed_is {a b : Xo} {v : Bool} (h : pushB a b = v) (w : World) : Calls Tryz.prog 59 #[.agg (ov a), .agg (ov b)] w fun r w' => r = .returned (.bool v) ∧ Below w.heap.size w w' := h ▸ isPushed_any a b w
theorem row_setO {w : World} {g : Nat} {a : Xo} (h : RowAt g (ov a) 40 w) (p : Int) : RowAt g (ov ⟨a.k, p, a.c, a.r⟩) 40 (w.setCell ⟨g, 1, none⟩ (.int .i64 p)) := heap_setCell_at h 1 _
theorem below_setO {n : Nat} {a w : World} (h : Below n a w) {g : Nat} (hg : n ≤ g) (i : Nat) (v : Value) : Below n a (w.setCell ⟨g, i, none⟩ v) := h.setCell (p := ⟨g, i, none⟩) hg v

set_option maxHeartbeats 2000000 in
theorem tX_any (a b : Xo) (w : World) (hp : -9223372036854775808 ≤ a.p) : Calls Tryz.prog 37 #[.agg (ov a), .agg (ov b)] w fun r w' => r = .returned (.agg (ov (tO a b))) ∧ Below w.heap.size w w' := by
  have r0 : RowAt w.heap.size (ov a) 40 (((w.alloc (.cells (ov a) 40)).alloc (.cells (ov b) 40)).alloc (.cells #[.int .i64 0, .int .i64 0, .int .i32 0, .int .i64 0] 40)) := (row_new w _ _).later (below_two _ _ _)
  have r1 : RowAt (w.heap.size + 1) (ov b) 40 (((w.alloc (.cells (ov a) 40)).alloc (.cells (ov b) 40)).alloc (.cells #[.int .i64 0, .int .i64 0, .int .i32 0, .int .i64 0] 40)) := (row_new2 w _ _ _).later (below_one _ _)
  have r2 : RowAt (w.heap.size + 1 + 1) #[.int .i64 0, .int .i64 0, .int .i32 0, .int .i64 0] 40 _ := row_new3 w (.cells (ov a) 40) (.cells (ov b) 40) #[.int .i64 0, .int .i64 0, .int .i32 0, .int .i64 0] 40
  have hB := below_three w (.cells (ov a) 40) (.cells (ov b) 40) (.cells #[.int .i64 0, .int .i64 0, .int .i32 0, .int .i64 0] 40)
  go_enter Tryz.func37, Tryz.ntmps37
  go_upto_region 1 with fail
  generalize ((w.alloc (.cells (ov a) 40)).alloc (.cells (ov b) 40)).alloc (.cells #[.int .i64 0, .int .i64 0, .int .i32 0, .int .i64 0] 40) = W at r0 r1 r2 hB ⊢
  have d0 : ∀ s : Wld W, (wOf s).cell? ⟨w.heap.size + 1, 0, none⟩ = some (.int .i64 b.k) := fun s => r1.cls 0 _ rfl s
  have d1 : ∀ s : Wld W, (wOf s).cell? ⟨w.heap.size, 1, none⟩ = some (.int .i64 a.p) := fun s => r0.cls 1 _ rfl s
  by_cases h1 : b.k = 1
  · have hk : (b.k == 1) = true := by simp [h1]
    cases h2 : pushB a b with
    | false =>
      have ht : Hid (tO a b = a) := by show _ = _; unfold tO; rw [if_neg (by rw [h2]; simp)]
      refine wp_region_cls0 ?_
      repeat (first | go_big_quiet_skip | (go_big_quiet_want; first | (refine quiet_load_in _ _ rfl rfl r0.in.cls Tryz.underlying40 rfl (o_size a) ?_; simp only [Act.put, List.setIfInBounds_toArray, List.set_cons_succ, List.set_cons_zero]; go_big_quiet_on) | (refine quiet_load_in _ _ rfl rfl r1.in.cls Tryz.underlying40 rfl (o_size b) ?_; simp only [Act.put, List.setIfInBounds_toArray, List.set_cons_succ, List.set_cons_zero]; go_big_quiet_on) | (go_big_quiet_op; first | go_big_quiet_on | go_big_quiet_call ((go_at_call 59; exact cls_of (isPushed_is h2 _))))))
      refine wpQuiet_nil ?_
      rintro w1 ⟨s1, e1⟩
      have hb1 := wOf_below s1
      rw [← e1] at hb1
      clear e1 s1
      replace r0 := r0.later hb1
      replace r2 := r2.later hb1
      replace hB := bgo hB hb1
      clear hb1
      go_wp2_with (first | (refine wpL_loadO rfl _ rfl rfl r0.in ?_) | (refine wpL_storeO rfl _ _ rfl rfl rfl r2 ?_))
      exact bodyPost_ret (v := .agg (ov a)) (results_o (fn := Tryz.f37) (p := 4) rfl rfl (r2.put _)) rfl ⟨by rw [ht.out], below_row hB (by omega) _⟩
    | true =>
      by_cases h3 : a.p < 9223372036854775807
      · have ht : Hid (tO a b = a.up) := by show _ = _; unfold tO; rw [if_pos ⟨h1, h2, h3⟩]
        refine wp_region_cls0 ?_
        repeat (first | go_big_quiet_skip | (go_big_quiet_want; first | (refine quiet_load_in _ _ rfl rfl r0.in.cls Tryz.underlying40 rfl (o_size a) ?_; simp only [Act.put, List.setIfInBounds_toArray, List.set_cons_succ, List.set_cons_zero]; go_big_quiet_on) | (refine quiet_load_in _ _ rfl rfl r1.in.cls Tryz.underlying40 rfl (o_size b) ?_; simp only [Act.put, List.setIfInBounds_toArray, List.set_cons_succ, List.set_cons_zero]; go_big_quiet_on) | (go_big_quiet_op; first | go_big_quiet_on | go_big_quiet_call ((go_at_call 59; exact cls_of (isPushed_is h2 _))))))
        refine wpQuiet_nil ?_
        rintro w1 ⟨s1, e1⟩
        have hb1 := wOf_below s1
        rw [← e1] at hb1
        clear e1 s1
        replace r0 := r0.later hb1
        replace r2 := r2.later hb1
        replace hB := bgo hB hb1
        clear hb1
        have e1 : w1.cell? ⟨w.heap.size, 1, none⟩ = some (.int .i64 a.p) := r0.cell 1
        have ef : w1.frozen? ⟨w.heap.size, 1, none⟩ = false := Lib.frozen_of_heap r0 1
        have r3 := row_setO r0 (a.p + 1)
        have r4 : RowAt (w.heap.size + 1 + 1) #[.int .i64 0, .int .i64 0, .int .i32 0, .int .i64 0] 40 (w1.setCell ⟨w.heap.size, 1, none⟩ (.int .i64 (a.p + 1))) := r2.otherP _ _ (by show ¬ _ = w.heap.size; omega)
        go_wp2_with (first | (refine wpL_loadO rfl _ rfl rfl r3.in ?_) | (refine wpL_storeO rfl _ _ rfl rfl rfl r4 ?_))
        exact bodyPost_ret (v := .agg (ov a.up)) (results_o (fn := Tryz.f37) (p := 4) rfl rfl (r4.put (ov a.up))) rfl ⟨by rw [ht.out], below_row (below_setO hB (Nat.le_refl _) _ _) (by omega) _⟩
      · have ht : Hid (tO a b = a) := by show _ = _; unfold tO; rw [if_neg (fun q => h3 q.2.2)]
        refine wp_region_cls0 ?_
        repeat (first | go_big_quiet_skip | (go_big_quiet_want; first | (refine quiet_load_in _ _ rfl rfl r0.in.cls Tryz.underlying40 rfl (o_size a) ?_; simp only [Act.put, List.setIfInBounds_toArray, List.set_cons_succ, List.set_cons_zero]; go_big_quiet_on) | (refine quiet_load_in _ _ rfl rfl r1.in.cls Tryz.underlying40 rfl (o_size b) ?_; simp only [Act.put, List.setIfInBounds_toArray, List.set_cons_succ, List.set_cons_zero]; go_big_quiet_on) | (go_big_quiet_op; first | go_big_quiet_on | go_big_quiet_call ((go_at_call 59; exact cls_of (isPushed_is h2 _))))))
        refine wpQuiet_nil ?_
        rintro w1 ⟨s1, e1⟩
        have hb1 := wOf_below s1
        rw [← e1] at hb1
        clear e1 s1
        replace r0 := r0.later hb1
        replace r2 := r2.later hb1
        replace hB := bgo hB hb1
        clear hb1
        go_wp2_with (first | (refine wpL_loadO rfl _ rfl rfl r0.in ?_) | (refine wpL_storeO rfl _ _ rfl rfl rfl r2 ?_))
        exact bodyPost_ret (v := .agg (ov a)) (results_o (fn := Tryz.f37) (p := 4) rfl rfl (r2.put _)) rfl ⟨by rw [ht.out], below_row hB (by omega) _⟩
  · have hk := ne_beq h1
    have ht := hid_of' (tO_other (a := a) h1)
    refine wp_region_cls0 ?_
    repeat (first | go_big_quiet_skip | (go_big_quiet_want; first | (refine quiet_load_in _ _ rfl rfl r0.in.cls Tryz.underlying40 rfl (o_size a) ?_; simp only [Act.put, List.setIfInBounds_toArray, List.set_cons_succ, List.set_cons_zero]; go_big_quiet_on) | (go_big_quiet_op; first | go_big_quiet_on | go_big_quiet_call ((fail)))))
    refine wpQuiet_nil ?_
    rintro w1 ⟨s1, e1⟩
    have hb1 := wOf_below s1
    rw [← e1] at hb1
    clear e1 s1
    replace r0 := r0.later hb1
    replace r2 := r2.later hb1
    replace hB := bgo hB hb1
    clear hb1
    go_wp2_with (first | (refine wpL_loadO rfl _ rfl rfl r0.in ?_) | (refine wpL_storeO rfl _ _ rfl rfl rfl r2 ?_))
    exact bodyPost_ret (v := .agg (ov a)) (results_o (fn := Tryz.f37) (p := 4) rfl rfl (r2.put _)) rfl ⟨by rw [ht.out], below_row hB (by omega) _⟩
end Go.Proofs.YtjalehlmldlooaaGreatDoor
namespace Go.Proofs.YtjalehlmldlooaaGreatDoor
open Go.RowKit
set_option maxRecDepth 100000

set_option maxHeartbeats 1000000 in
theorem rightX_any (o : Xo) (w : World) : Calls Tryz.prog 25 #[.agg (ov o)] w fun r w' => r = .returned (.bool (rightO o)) ∧ Below w.heap.size w w' := by
  have HV := hid_of' (validRune_any o.c)
  unfold ov rightO
  by_cases h0 : o.r < 0
  · rw [show (decide (0 ≤ o.r) && decide (o.r < 8) && (if o.k = 1 then rightC o.c else if o.k = 3 then decide (o.c = 0) else if o.k = 2 then decide (o.c = 0) else false)) = false by simp; omega]
    go_enter Tryz.func25, Tryz.ntmps25
    go_wp2
    go_ret
    exact ⟨rfl, below_one w _⟩
  · by_cases h1 : 8 ≤ o.r
    · rw [show (decide (0 ≤ o.r) && decide (o.r < 8) && (if o.k = 1 then rightC o.c else if o.k = 3 then decide (o.c = 0) else if o.k = 2 then decide (o.c = 0) else false)) = false by simp; omega]
      go_enter Tryz.func25, Tryz.ntmps25
      go_wp2
      go_ret
      exact ⟨rfl, below_one w _⟩
    · rw [show (decide (0 ≤ o.r) && decide (o.r < 8)) = true by simp; omega, Bool.true_and]
      by_cases k1 : o.k = 1
      · rw [if_pos k1]
        go_enter Tryz.func25, Tryz.ntmps25
        go_wp2_with (go_at_call 39; refine (HV.out _).mono ?_; rintro r w2 ⟨rfl, hw⟩; obtain rfl := hw.symm)
        go_ret
        exact ⟨rfl, below_one w _⟩
      · have e1 := ne_beq k1
        rw [if_neg k1]
        by_cases k3 : o.k = 3
        · rw [if_pos k3]
          go_enter Tryz.func25, Tryz.ntmps25
          go_wp2
          go_ret
          exact ⟨rfl, below_one w _⟩
        · have e3 := ne_beq k3
          rw [if_neg k3]
          by_cases k2 : o.k = 2
          · rw [if_pos k2]
            go_enter Tryz.func25, Tryz.ntmps25
            go_wp2
            go_ret
            exact ⟨rfl, below_one w _⟩
          · have e2 := ne_beq k2
            rw [if_neg k2]
            go_enter Tryz.func25, Tryz.ntmps25
            go_wp2
            go_ret
            exact ⟨rfl, below_one w _⟩
theorem rightX_is {o : Xo} {v : Bool} (h : rightO o = v) (w : World) : Calls Tryz.prog 25 #[.agg (ov o)] w fun r w' => r = .returned (.bool v) ∧ Below w.heap.size w w' := h ▸ rightX_any o w

set_option maxHeartbeats 1000000 in
theorem validX_any (o : Xo) (n : Int) (w : World) : Calls Tryz.prog 27 #[.agg (ov o), .int .i64 n] w fun r w' => r = .returned (.bool (validO o n)) ∧ Below w.heap.size w w' := by
  have r0 := row_new w (ov o) 40
  have hB := below_one w (.cells (ov o) 40)
  have d1 : ∀ s : Wld (w.alloc (.cells (ov o) 40)), (wOf s).cell? ⟨w.heap.size, 1, none⟩ = some (.int .i64 o.p) := fun s => r0.cls 1 _ rfl s
  unfold validO
  cases hr : rightO o with
  | false =>
    rw [show (false && decide (0 ≤ o.p) && (decide (o.p < n) || decide (o.p = n) && decide (o.k = 1))) = false by simp]
    go_enter Tryz.func27, Tryz.ntmps27
    go_upto_region 1 with fail
    refine wp_region_cls0 ?_
    repeat (first | go_big_quiet_skip | (go_big_quiet_want; first | (refine quiet_load_in _ _ rfl rfl r0.in.cls Tryz.underlying40 rfl (o_size o) ?_; simp only [Act.put, List.setIfInBounds_toArray, List.set_cons_succ, List.set_cons_zero]; go_big_quiet_on) | (go_big_quiet_op; first | go_big_quiet_on | go_big_quiet_call ((go_at_call 25; exact cls_of (rightX_is hr _))))))
    refine wpQuiet_nil ?_
    rintro w1 ⟨s1, e1⟩
    have hb1 := wOf_below s1
    rw [← e1] at hb1
    clear e1 s1
    replace r0 := r0.later hb1
    replace hB := bgo hB hb1
    clear hb1
    have c0 : w1.cell? ⟨w.heap.size, 0, none⟩ = some (.int .i64 o.k) := r0.cell 0
    have c1 : w1.cell? ⟨w.heap.size, 1, none⟩ = some (.int .i64 o.p) := r0.cell 1
    go_wp2
    go_ret
    exact ⟨rfl, hB⟩
  | true =>
    by_cases h0 : o.p < 0
    · rw [show (true && decide (0 ≤ o.p) && (decide (o.p < n) || decide (o.p = n) && decide (o.k = 1))) = false by simp; omega]
      go_enter Tryz.func27, Tryz.ntmps27
      go_upto_region 1 with fail
      refine wp_region_cls0 ?_
      repeat (first | go_big_quiet_skip | (go_big_quiet_want; first | (refine quiet_load_in _ _ rfl rfl r0.in.cls Tryz.underlying40 rfl (o_size o) ?_; simp only [Act.put, List.setIfInBounds_toArray, List.set_cons_succ, List.set_cons_zero]; go_big_quiet_on) | (go_big_quiet_op; first | go_big_quiet_on | go_big_quiet_call ((go_at_call 25; exact cls_of (rightX_is hr _))))))
      refine wpQuiet_nil ?_
      rintro w1 ⟨s1, e1⟩
      have hb1 := wOf_below s1
      rw [← e1] at hb1
      clear e1 s1
      replace r0 := r0.later hb1
      replace hB := bgo hB hb1
      clear hb1
      have c0 : w1.cell? ⟨w.heap.size, 0, none⟩ = some (.int .i64 o.k) := r0.cell 0
      have c1 : w1.cell? ⟨w.heap.size, 1, none⟩ = some (.int .i64 o.p) := r0.cell 1
      go_wp2
      go_ret
      exact ⟨rfl, hB⟩
    · rw [show (true && decide (0 ≤ o.p) && (decide (o.p < n) || decide (o.p = n) && decide (o.k = 1))) = (decide (o.p < n) || decide (o.p = n) && decide (o.k = 1)) by simp; omega]
      by_cases h1 : o.p < n
      · rw [show (decide (o.p < n) || decide (o.p = n) && decide (o.k = 1)) = true by simp [h1]]
        go_enter Tryz.func27, Tryz.ntmps27
        go_upto_region 1 with fail
        refine wp_region_cls0 ?_
        repeat (first | go_big_quiet_skip | (go_big_quiet_want; first | (refine quiet_load_in _ _ rfl rfl r0.in.cls Tryz.underlying40 rfl (o_size o) ?_; simp only [Act.put, List.setIfInBounds_toArray, List.set_cons_succ, List.set_cons_zero]; go_big_quiet_on) | (go_big_quiet_op; first | go_big_quiet_on | go_big_quiet_call ((go_at_call 25; exact cls_of (rightX_is hr _))))))
        refine wpQuiet_nil ?_
        rintro w1 ⟨s1, e1⟩
        have hb1 := wOf_below s1
        rw [← e1] at hb1
        clear e1 s1
        replace r0 := r0.later hb1
        replace hB := bgo hB hb1
        clear hb1
        have c0 : w1.cell? ⟨w.heap.size, 0, none⟩ = some (.int .i64 o.k) := r0.cell 0
        have c1 : w1.cell? ⟨w.heap.size, 1, none⟩ = some (.int .i64 o.p) := r0.cell 1
        go_wp2
        go_ret
        exact ⟨rfl, hB⟩
      · by_cases h2 : o.p = n
        · rw [show (decide (o.p < n) || decide (o.p = n) && decide (o.k = 1)) = decide (o.k = 1) by simp [h2]]
          have e2 : (o.p == n) = true := by simp [h2]
          replace h2 := hid_of' h2
          by_cases k1 : o.k = 1
          · rw [show decide (o.k = 1) = true by simp [k1]]
            go_enter Tryz.func27, Tryz.ntmps27
            go_upto_region 1 with fail
            refine wp_region_cls0 ?_
            repeat (first | go_big_quiet_skip | (go_big_quiet_want; first | (refine quiet_load_in _ _ rfl rfl r0.in.cls Tryz.underlying40 rfl (o_size o) ?_; simp only [Act.put, List.setIfInBounds_toArray, List.set_cons_succ, List.set_cons_zero]; go_big_quiet_on) | (go_big_quiet_op; first | go_big_quiet_on | go_big_quiet_call ((go_at_call 25; exact cls_of (rightX_is hr _))))))
            refine wpQuiet_nil ?_
            rintro w1 ⟨s1, e1⟩
            have hb1 := wOf_below s1
            rw [← e1] at hb1
            clear e1 s1
            replace r0 := r0.later hb1
            replace hB := bgo hB hb1
            clear hb1
            have c0 : w1.cell? ⟨w.heap.size, 0, none⟩ = some (.int .i64 o.k) := r0.cell 0
            have c1 : w1.cell? ⟨w.heap.size, 1, none⟩ = some (.int .i64 o.p) := r0.cell 1
            go_wp2
            go_ret
            exact ⟨rfl, hB⟩
          · have e1 := ne_beq k1
            rw [show decide (o.k = 1) = false by simp [k1]]
            go_enter Tryz.func27, Tryz.ntmps27
            go_upto_region 1 with fail
            refine wp_region_cls0 ?_
            repeat (first | go_big_quiet_skip | (go_big_quiet_want; first | (refine quiet_load_in _ _ rfl rfl r0.in.cls Tryz.underlying40 rfl (o_size o) ?_; simp only [Act.put, List.setIfInBounds_toArray, List.set_cons_succ, List.set_cons_zero]; go_big_quiet_on) | (go_big_quiet_op; first | go_big_quiet_on | go_big_quiet_call ((go_at_call 25; exact cls_of (rightX_is hr _))))))
            refine wpQuiet_nil ?_
            rintro w1 ⟨s1, e1⟩
            have hb1 := wOf_below s1
            rw [← e1] at hb1
            clear e1 s1
            replace r0 := r0.later hb1
            replace hB := bgo hB hb1
            clear hb1
            have c0 : w1.cell? ⟨w.heap.size, 0, none⟩ = some (.int .i64 o.k) := r0.cell 0
            have c1 : w1.cell? ⟨w.heap.size, 1, none⟩ = some (.int .i64 o.p) := r0.cell 1
            go_wp2
            go_ret
            exact ⟨rfl, hB⟩
        · have e2 := ne_beq h2
          rw [show (decide (o.p < n) || decide (o.p = n) && decide (o.k = 1)) = false by simp [h2]; omega]
          go_enter Tryz.func27, Tryz.ntmps27
          go_upto_region 1 with fail
          refine wp_region_cls0 ?_
          repeat (first | go_big_quiet_skip | (go_big_quiet_want; first | (refine quiet_load_in _ _ rfl rfl r0.in.cls Tryz.underlying40 rfl (o_size o) ?_; simp only [Act.put, List.setIfInBounds_toArray, List.set_cons_succ, List.set_cons_zero]; go_big_quiet_on) | (go_big_quiet_op; first | go_big_quiet_on | go_big_quiet_call ((go_at_call 25; exact cls_of (rightX_is hr _))))))
          refine wpQuiet_nil ?_
          rintro w1 ⟨s1, e1⟩
          have hb1 := wOf_below s1
          rw [← e1] at hb1
          clear e1 s1
          replace r0 := r0.later hb1
          replace hB := bgo hB hb1
          clear hb1
          have c0 : w1.cell? ⟨w.heap.size, 0, none⟩ = some (.int .i64 o.k) := r0.cell 0
          have c1 : w1.cell? ⟨w.heap.size, 1, none⟩ = some (.int .i64 o.p) := r0.cell 1
          go_wp2
          go_ret
          exact ⟨rfl, hB⟩
theorem validX_is {o : Xo} {n : Int} {v : Bool} (h : validO o n = v) (w : World) : Calls Tryz.prog 27 #[.agg (ov o), .int .i64 n] w fun r w' => r = .returned (.bool v) ∧ Below w.heap.size w w' := h ▸ validX_any o n w
theorem faultNew_nil (a b : ByteArray) (n : Int) (w : World) : Calls Tryz.prog 41 #[.string a, .string b, .int .i64 n, .nilIface] w fun r w' => r = .returned .nilIface ∧ w' = w := by
  go_enter Tryz.func41, Tryz.ntmps41
  go_wp2
  go_ret
  exact ⟨rfl, rfl⟩
set_option maxHeartbeats 400000 in
theorem refusalX_nil (o : Xo) (w : World) : Calls Tryz.prog 26 #[.agg (ov o), .nilIface] w fun r w' => r = .returned .nilIface ∧ Below w.heap.size w w' := by
  unfold ov
  go_enter Tryz.func26, Tryz.ntmps26
  go_wp2_with (go_at_call 41; refine (faultNew_nil _ _ _ _).mono ?_; rintro r w2 ⟨rfl, hw⟩; obtain rfl := hw.symm)
  go_ret
  exact ⟨rfl, below_one _ _⟩
end Go.Proofs.YtjalehlmldlooaaGreatDoor
namespace Go.Proofs.YtjalehlmldlooaaGreatDoor
open Go.RowKit
set_option maxRecDepth 100000

theorem wpL_loadI {ops : Array Oper} {rest : List Oper} {o : Oper} {A : Act} {w : World} {Q : Exit → Act → World → Prop} (hgd : o.guard = none) (x : Operand) (ho : o.op = .load 32 x) {b off : Nat} (hx : A.eval x = .pointer (some ⟨b, off, none⟩)) {i : Idn} (h : CsIn b off (idc i.a i.b i.c) w)
    (k : wpList Tryz.prog ops Q rest (A.put o.dst (.agg (idc i.a i.b i.c))) w) : wpList Tryz.prog ops Q (o :: rest) A w :=
  wpList_plain hgd fun _ hK => opw_loadI x ho hx h (hK _ _ k)
/-- What an operation leaves of a model. -/
def DoO (mb tb kb : Nat) (R : Rows) (l : List El) (f : Idn → Option Int) (N : Nat) (o : Xo) (i : Idn) (w : World) (r : Ending) (w' : World) : Prop := ∃ n' f', r = .returned .nilIface ∧ n' ≤ N + 1 ∧ MdAt mb tb kb n' R (stepL l o i) f' w' ∧ (∀ j, (f' j).isSome = ((f j).isSome || (decide (o.k = 1) && decide (j = i)))) ∧ K2 tb kb w w'
/-- A rank for what is laid in. -/
def RkH (mb kb : Nat) (l : List El) (f : Idn → Option Int) (N : Nat) (w : World) : Prop := ∀ (ip : Nat), ip ≤ l.length → ∀ x, Below w.heap.size w x → Calls Tryz.prog 71 #[pv mb, .int .i64 (ip : Int)] x (RkOut kb f N x)
theorem RkH.later {mb kb N : Nat} {l : List El} {f : Idn → Option Int} {w w' : World} (h : RkH mb kb l f N w) (hb : Below w.heap.size w w') : RkH mb kb l f N w' := fun ip hi x hx => h ip hi x (bgo hb hx)

set_option maxHeartbeats 2000000 in
theorem do_ok {mb tb kb n : Nat} {R : Rows} {l : List El} {f : Idn → Option Int} {w : World} (h : MdAt mb tb kb n R l f w) {N : Nat} (hnn : n ≤ N) (hN : N ≤ 1000000000000) (o : Xo) (i : Idn) (hv : validO o l.length = true) (hi : i.In) (hfr : o.k = 1 → (f i).isSome = false) (hl : ∀ e ∈ l, -1000000000000 ≤ e.hd ∧ e.hd ≤ 1000000000000) (hn : l.length + 1 ≤ 1073741824) (HR : RkH mb kb l f N w) :
    Calls Tryz.prog 29 #[pv mb, .agg (ov o), .agg (idc i.a i.b i.c)] w (DoO mb tb kb R l f N o i w) := by
  obtain ⟨k, p, c, r⟩ := o
  obtain ⟨p0, p1⟩ := validO_place hv
  have hr := validO_right hv
  have hk := rightO_kind hr
  simp only at p0 p1 hk hfr
  obtain ⟨ip, rfl⟩ : ∃ ip : Nat, p = (ip : Int) := ⟨p.toNat, by omega⟩
  have r0 : RowAt w.heap.size (ov ⟨k, ip, c, r⟩) 40 ((w.alloc (.cells (ov ⟨k, ip, c, r⟩) 40)).alloc (.cells (idc i.a i.b i.c) 32)) := (row_new w _ _).later (below_one _ _)
  have r1 : RowAt (w.heap.size + 1) (idc i.a i.b i.c) 32 ((w.alloc (.cells (ov ⟨k, ip, c, r⟩) 40)).alloc (.cells (idc i.a i.b i.c) 32)) := row_new2 w _ _ _
  have hB := below_two w (.cells (ov ⟨k, ip, c, r⟩) 40) (.cells (idc i.a i.b i.c) 32)
  go_enter Tryz.func29, Tryz.ntmps29
  go_upto_region 1 with fail
  generalize (w.alloc (.cells (ov ⟨k, ip, c, r⟩) 40)).alloc (.cells (idc i.a i.b i.c) 32) = W at r0 r1 hB ⊢
  have c0 : W.cell? ⟨w.heap.size, 0, none⟩ = some (.int .i64 k) := r0.cell 0
  have c1 : W.cell? ⟨w.heap.size, 1, none⟩ = some (.int .i64 (ip : Int)) := r0.cell 1
  have c2 : W.cell? ⟨w.heap.size, 2, none⟩ = some (.int .i32 c) := r0.cell 2
  have hW := h.later hB
  by_cases k1 : k = 1
  · subst k1
    have hc : rightC c = true := by
      unfold rightO at hr
      simp at hr
      exact hr.2
    have HI := hid_of' (insert_md hW ip ⟨i.a, i.b, i.c, c, 0⟩ (by omega) ⟨hi, hc, rfl⟩ (hfr rfl) hn hN ((HR.later hB) ip (by omega)))
    unfold pv ev at HI
    unfold pv
    clear hfr hv hr hk HR
    go_wp2_with (first | (refine wpL_loadI rfl _ rfl rfl r1.in ?_; unfold idc) | (go_at_call 51; refine HI.out.mono ?_; rintro r w9 ⟨n9, f9, rfl, hn9, hM9, hf9, hk9⟩))
    go_ret
    refine ⟨n9, f9, rfl, hn9, ?_, fun j => by rw [hf9 j, show El.id ⟨i.a, i.b, i.c, c, 0⟩ = i from rfl]; simp, (K2.of hB).trans hk9⟩
    rw [stepL_ins _ _ rfl]
    exact hM9
  · have e1 := ne_beq k1
    obtain ⟨e0, he⟩ : ∃ e, l[ip]? = some e := ⟨_, List.getElem?_eq_getElem (by omega)⟩
    have hb := hl e0 (List.mem_of_getElem? he)
    by_cases k3 : k = 3
    · subst k3
      have HA := hid_of' (add_down hW ip e0 he hb.1 hb.2 hn)
      unfold pv at HA ⊢
      clear hfr hv hr hk HR
      go_wp2_with (go_at_call 52; refine HA.out.mono ?_; rintro r w9 ⟨rfl, hM9, hk9⟩)
      go_ret
      refine ⟨n, f, rfl, by omega, ?_, fun j => by simp, (K2.of hB).trans (K2.one hk9)⟩
      rw [stepL_add _ _ (show ¬ (3 : Int) = 1 by decide)]
      exact hM9
    · have k2 : k = 2 := by omega
      subst k2
      have HA := hid_of' (add_up hW ip e0 he hb.1 hb.2 hn)
      unfold pv at HA ⊢
      clear hfr hv hr hk HR
      go_wp2_with (go_at_call 52; refine HA.out.mono ?_; rintro r w9 ⟨rfl, hM9, hk9⟩)
      go_ret
      refine ⟨n, f, rfl, by omega, ?_, fun j => by simp, (K2.of hB).trans (K2.one hk9)⟩
      rw [stepL_add _ _ (show ¬ (2 : Int) = 1 by decide)]
      exact hM9
end Go.Proofs.YtjalehlmldlooaaGreatDoor
namespace Go.Proofs.YtjalehlmldlooaaGreatDoor
open Go.RowKit
set_option maxRecDepth 100000

/-- An operation has been done. -/
def DoV (mb tb kb : Nat) (R : Rows) (l : List El) (f : Idn → Option Int) (N : Nat) (o : Xo) (i : Idn) (v : Value) (w' : World) : Prop := v = .nilIface ∧ ∃ n' f', n' ≤ N + 1 ∧ MdAt mb tb kb n' R (stepL l o i) f' w' ∧ ∀ j, (f' j).isSome = ((f j).isSome || (decide (o.k = 1) && decide (j = i)))
theorem DoV.later {mb tb kb N : Nat} {R : Rows} {l : List El} {f : Idn → Option Int} {o : Xo} {i : Idn} {v : Value} {w w' : World} (h : DoV mb tb kb R l f N o i v w) (hb : Below w.heap.size w w') : DoV mb tb kb R l f N o i v w' := by
  obtain ⟨h1, n', f', h2, h3, h4⟩ := h
  exact ⟨h1, n', f', h2, h3.later hb, h4⟩

set_option maxHeartbeats 4000000 in
theorem apply_ok {mb tb kb n : Nat} {R : Rows} {l : List El} {f : Idn → Option Int} {w : World} (h : MdAt mb tb kb n R l f w) {N : Nat} (hnn : n ≤ N) (hN : N ≤ 1000000000000) (op : Xo) (ix : Idn) (hv : validO op l.length = true) (hi : ix.In) (hfr : op.k = 1 → (f ix).isSome = false) (hl : ∀ e ∈ l, -1000000000000 ≤ e.hd ∧ e.hd ≤ 1000000000000) (hn : l.length + 1 ≤ 1073741824) (HR : RkH mb kb l f N w) :
    Calls Tryz.prog 7 #[pv mb, .agg (ov op), .agg (idc ix.a ix.b ix.c)] w (DoO mb tb kb R l f N op ix w) := by
  have hr := validO_right hv
  have r0 : RowAt w.heap.size (ov op) 40 ((w.alloc (.cells (ov op) 40)).alloc (.cells (idc ix.a ix.b ix.c) 32)) := (row_new w _ _).later (below_one _ _)
  have r1 : RowAt (w.heap.size + 1) (idc ix.a ix.b ix.c) 32 ((w.alloc (.cells (ov op) 40)).alloc (.cells (idc ix.a ix.b ix.c) 32)) := row_new2 w _ _ _
  have hB := below_two w (.cells (ov op) 40) (.cells (idc ix.a ix.b ix.c) 32)
  have hkl := h.map.lt
  have htl : tb < w.heap.size := by obtain ⟨ls, v, ht, _⟩ := h.tree; exact ht.lt
  unfold pv
  go_enter Tryz.func7, Tryz.ntmps7
  go_upto_region 1 with fail
  generalize (w.alloc (.cells (ov op) 40)).alloc (.cells (idc ix.a ix.b ix.c) 32) = W at r0 r1 hB ⊢
  refine wp_region_cls0 ?_
  repeat (first | go_big_quiet_skip | (go_big_quiet_want; first | (refine quiet_load_in _ _ rfl rfl r0.in.cls Tryz.underlying40 rfl (o_size op) ?_; simp only [Act.put, List.setIfInBounds_toArray, List.set_cons_succ, List.set_cons_zero]; go_big_quiet_on) | (go_big_quiet_op; first | go_big_quiet_on | go_big_quiet_call ((go_at_call 25; exact cls_of (rightX_is hr _))))))
  refine wpQuiet_nil ?_
  rintro w1 ⟨s1, e1⟩
  have hb1 := wOf_below s1
  rw [← e1] at hb1
  clear e1 s1
  replace r0 := r0.later hb1
  replace r1 := r1.later hb1
  replace hB := bgo hB hb1
  clear hb1
  have hW := h.later hB
  go_upto_region 3 with fail
  refine wp_region_cls (by kernel_rfl) (by kernel_rfl) ?_
  repeat (first | go_big_quiet_skip | (go_big_quiet_want; first | (refine quiet_load_in _ _ rfl rfl r0.in.cls Tryz.underlying40 rfl (o_size op) ?_; simp only [Act.put, List.setIfInBounds_toArray, List.set_cons_succ, List.set_cons_zero]; go_big_quiet_on) | (go_big_quiet_op; first | go_big_quiet_on | go_big_quiet_call ((first | (go_at_call 28; exact cls_of_same (lenM_ok (hW.later (wOf_below _)))) | (go_at_call 27; exact cls_of (validX_is hv _)))))))
  refine wpQuiet_nil ?_
  rintro w1 ⟨s1, e1⟩
  have hb1 := wOf_below s1
  rw [← e1] at hb1
  clear e1 s1
  replace r0 := r0.later hb1
  replace r1 := r1.later hb1
  replace hW := hW.later hb1
  replace hB := bgo hB hb1
  clear hb1
  go_upto_region 5 with fail
  have hsz := hB.size
  have HD := hid_of' (fun (x : World) (hx : Below w1.heap.size w1 x) => do_ok (hW.later hx) hnn hN op ix hv hi hfr hl hn (HR.later (bgo hB hx)))
  unfold pv at HD
  refine wp_region_once 6 (by kernel_rfl) (fun _ => none) (by kernel_rfl) (by kernel_rfl) (by decide) (fun i v x => match i with
    | 0 => v = .agg (ov op)
    | 1 => v = .pointer (some ⟨mb, 0, none⟩)
    | 2 => v = .agg (ov op)
    | 3 => v = .agg (idc ix.a ix.b ix.c)
    | 4 => DoV mb tb kb R l f N op ix v x
    | 5 => v = .nilIface
    | _ => True) (fun _ => false) (fun _ _ _ _ h => by cases h) 4 (by decide) (fun a b => K2 tb kb a b) (fun a b => K2 tb kb a b) (fun _ _ h hb => h.trans (K2.of hb)) (fun _ h => K2.of h) (fun _ _ h k => (K2.of h).trans k) (fun _ _ k => k.size) ?_ ?_ ?_ ?_
  · intro i v x x' hR hb
    match i, hR with
    | 0, h => exact h
    | 1, h => exact h
    | 2, h => exact h
    | 3, h => exact h
    | 4, h => exact h.later hb
    | 5, h => exact h
    | m + 6, h => exact h
  · intro i v x x' hne hR hb
    match i, hne, hR with
    | 0, hne, h => exact h
    | 1, hne, h => exact h
    | 2, hne, h => exact h
    | 3, hne, h => exact h
    | 4, hne, h => exact absurd rfl hne
    | 5, hne, h => exact h
    | m + 6, _, h => exact h
  · intro i o hi ho q x vals hX hC hdep hoth
    have t0 : q.tmps[0]? = some (.pointer (some ⟨mb, 0, none⟩)) := by rw [hoth 0 (by kernel_rfl)]; rfl
    have t4 : q.tmps[4]? = some (.pointer (some ⟨w.heap.size, 0, none⟩)) := by rw [hoth 4 (by kernel_rfl)]; rfl
    have t5 : q.tmps[5]? = some (.pointer (some ⟨w.heap.size + 1, 0, none⟩)) := by rw [hoth 5 (by kernel_rfl)]; rfl
    match i, hi, ho, hC with
    | 0, _, ho, hC =>
      simp only [List.getElem?_cons_zero, Option.some.injEq] at ho
      subst ho
      exact opw_loadO _ rfl (by simp [Act.eval, t4]) (r0.in.k2 hX (by omega) (by omega)) (cameB _ rfl (by decide) (Below.refl _ _) rfl (fun h => absurd h (by decide)))
    | 1, _, ho, hC =>
      simp only [List.getElem?_cons_succ, List.getElem?_cons_zero, Option.some.injEq] at ho
      subst ho
      unfold Oper.wp
      simp [execOp, go_sem, t0]
      exact cameB _ rfl (by decide) (Below.refl _ _) rfl (fun h => absurd h (by decide))
    | 2, _, ho, hC =>
      simp only [List.getElem?_cons_succ, List.getElem?_cons_zero, Option.some.injEq] at ho
      subst ho
      exact opw_loadO _ rfl (by simp [Act.eval, t4]) (r0.in.k2 hX (by omega) (by omega)) (cameB _ rfl (by decide) (Below.refl _ _) rfl (fun h => absurd h (by decide)))
    | 3, _, ho, hC =>
      simp only [List.getElem?_cons_succ, List.getElem?_cons_zero, Option.some.injEq] at ho
      subst ho
      exact opw_loadI _ rfl (by simp [Act.eval, t5]) (r1.in.k2 hX (by omega) (by omega)) (cameB _ rfl (by decide) (Below.refl _ _) rfl (fun h => absurd h (by decide)))
    | 4, _, ho, hC =>
      simp only [List.getElem?_cons_succ, List.getElem?_cons_zero, Option.some.injEq] at ho
      subst ho
      obtain ⟨u1, e1⟩ := hdep ⟨1, .data⟩ (by simp) rfl _ 28 rfl rfl
      rw [show vals 1 = .pointer (some ⟨mb, 0, none⟩) from e1] at u1
      obtain ⟨u2, e2⟩ := hdep ⟨2, .data⟩ (by simp) rfl _ 29 rfl rfl
      rw [show vals 2 = .agg (ov op) from e2] at u2
      obtain ⟨u3, e3⟩ := hdep ⟨3, .data⟩ (by simp) rfl _ 30 rfl rfl
      rw [show vals 3 = .agg (idc ix.a ix.b ix.c) from e3] at u3
      unfold Oper.wp
      simp [go_sem, u1, u2, u3]
      refine (HD.out x (hC rfl)).mono ?_
      rintro r x1 ⟨n9, f9, rfl, hn9, hM9, hf9, hb1⟩
      exact cameX _ rfl hb1 ⟨rfl, n9, f9, hn9, hM9, hf9⟩ rfl
    | 5, _, ho, hC =>
      simp only [List.getElem?_cons_succ, List.getElem?_cons_zero, Option.some.injEq] at ho
      subst ho
      obtain ⟨u0, e0⟩ := hdep ⟨0, .data⟩ (by simp) rfl _ 27 rfl rfl
      rw [show vals 0 = .agg (ov op) from e0] at u0
      obtain ⟨u4, e4⟩ := hdep ⟨4, .data⟩ (by simp) rfl _ 31 rfl rfl
      have q4 : vals 4 = .nilIface := (show DoV mb tb kb R l f N op ix (vals 4) x from e4).1
      rw [show vals (Edge.on ⟨4, .data⟩) = _ from q4] at u4
      unfold Oper.wp
      simp [go_sem, u0, u4]
      refine (refusalX_nil op x).mono ?_
      rintro r x1 ⟨rfl, hb1⟩
      exact cameB _ rfl (by decide) hb1 rfl (fun h => absurd h (by decide))
    | m + 6, hi, _, _ => exact absurd hi (by omega)
  · intro vals x9 hX9 hR9 _
    obtain ⟨_, n9, f9, hn9, hM9, hf9⟩ : DoV mb tb kb R l f N op ix (vals 4) x9 := hR9 4 (by decide)
    have q5 : vals 5 = .nilIface := hR9 5 (by decide)
    simp only [List.take, List.drop, putAll, q5]
    clear q5 hR9
    simp only [List.setIfInBounds_toArray, List.set_cons_succ, List.set_cons_zero]
    go_wp2
    go_ret
    exact ⟨n9, f9, rfl, hn9, hM9, hf9, (K2.of hB).trans hX9⟩
end Go.Proofs.YtjalehlmldlooaaGreatDoor
