
/-
  barrowlaw07.fit and three: operations made valid; three replicas that are unlike.
-/
import Derived.Test.YtdafkakigigdeaaDoorXr1
import Derived.Test.YtdafkakigigdeaaDoorXop
namespace Go.Proofs.YtdafkakigigdeaaDoor
open Go.RowKit
set_option maxRecDepth 100000

theorem results_oB {fn : Func} {p u : Tmp} {tmps : Array Value} {w : World} {g : Nat} {e : Xo} (h : fn.results = #[.cell p 37, .tmp u]) (hp : tmps.getD p undef = .pointer (some ⟨g, 0, none⟩)) (hg : RowAt g (ov e) 37 w) :
    (results fn tmps).run Tryd.prog w = .ok (.tuple #[.agg (ov e), tmps.getD u undef]) w := by
  have hp' : tmps[p]?.getD undef = .pointer (some ⟨g, 0, none⟩) := by simpa using hp
  simp [results, h, hp', asAddr, run_loadVar_row w g _ _ _ _ _ hg Tryd.underlying37 rfl (o_size e)]
/-- What fit answers: an operation of that replica, valid if it says so. -/
def FitO (n rp : Nat) (w : World) (r : Ending) (w' : World) : Prop := ∃ x ok, r = .returned (.tuple #[.agg (ov x), .bool ok]) ∧ (ok = true → validO x n = true) ∧ x.r = rp ∧ (x.k = 1 ∨ x.k = 2 ∨ x.k = 3) ∧ Below w.heap.size w w'
theorem fit_right {k p c r n : Int} (hr0 : 0 ≤ r) (hr1 : r < 8) (hk : (k = 1 ∧ rightC c = true ∧ p ≤ n) ∨ ((k = 2 ∨ k = 3) ∧ c = 0 ∧ p < n)) (hp : 0 ≤ p) : validO ⟨k, p, c, r⟩ n = true := by
  refine validO_of ?_ hp ?_
  · unfold rightO
    rcases hk with ⟨rfl, hc, _⟩ | ⟨rfl | rfl, rfl, _⟩
    · simp [hc]; omega
    · simp; omega
    · simp; omega
  · show p < n ∨ p = n ∧ k = 1
    omega

set_option maxHeartbeats 4000000 in
theorem fit_ok (o : Xo) (hin : o.In) (n rp : Nat) (hn : n ≤ 100000) (hr : rp < 8) (w : World) : Calls Tryd.prog 18 #[.agg (ov o), .int .i64 (n : Int), .int .i64 (rp : Int)] w (FitO n rp w) := by
  have r0 : RowAt w.heap.size (ov o) 37 ((w.alloc (.cells (ov o) 37)).alloc (.cells #[.int .i64 0, .int .i64 0, .int .i32 0, .int .i64 0] 37)) := (row_new w _ _).later (below_one _ _)
  have r1 : RowAt (w.heap.size + 1) #[.int .i64 0, .int .i64 0, .int .i32 0, .int .i64 0] 37 ((w.alloc (.cells (ov o) 37)).alloc (.cells #[.int .i64 0, .int .i64 0, .int .i32 0, .int .i64 0] 37)) := row_new2 w _ _ _
  have hB := below_two w (.cells (ov o) 37) (.cells #[.int .i64 0, .int .i64 0, .int .i32 0, .int .i64 0] 37)
  have HK := hid_of' (fun x => within_lit o.k 3 x (by decide) (by decide) hin.1)
  go_enter Tryd.func18, Tryd.ntmps18
  go_upto_region 1 with fail
  generalize (w.alloc (.cells (ov o) 37)).alloc (.cells #[.int .i64 0, .int .i64 0, .int .i32 0, .int .i64 0] 37) = WW at r0 r1 hB ⊢
  have cWW3 : WW.cell? ⟨w.heap.size, 3, none⟩ = some (.int .i64 o.r) := r0.cell 3
  have fWW3 : WW.frozen? ⟨w.heap.size, 3, none⟩ = false := Lib.frozen_of_heap r0 3
  go_upto_region 2 with fail
  clear cWW3 fWW3
  replace r0 : RowAt w.heap.size (ov ⟨o.k, o.p, o.c, (rp : Int)⟩) 37 (WW.setCell ⟨w.heap.size, 3, none⟩ (.int .i64 (rp : Int))) := heap_setCell_at r0 3 _
  replace r1 : RowAt (w.heap.size + 1) #[.int .i64 0, .int .i64 0, .int .i32 0, .int .i64 0] 37 (WW.setCell ⟨w.heap.size, 3, none⟩ (.int .i64 (rp : Int))) := r1.otherP _ _ (by show ¬ _ = w.heap.size; omega)
  replace hB : Below w.heap.size w (WW.setCell ⟨w.heap.size, 3, none⟩ (.int .i64 (rp : Int))) := below_setO hB (Nat.le_refl _) _ _
  generalize WW.setCell ⟨w.heap.size, 3, none⟩ (.int .i64 (rp : Int)) = W2 at r0 r1 hB ⊢
  have cW20 : W2.cell? ⟨w.heap.size, 0, none⟩ = some (.int .i64 o.k) := r0.cell 0
  have fW20 : W2.frozen? ⟨w.heap.size, 0, none⟩ = false := Lib.frozen_of_heap r0 0
  go_upto_region 3 with (go_at_call 27; refine (HK.out _).mono ?_; rintro r w2 ⟨j, hj, rfl, hw⟩; obtain rfl := hw.symm)
  clear cW20 fW20 HK
  generalize hkk : (1 : Int) + (j : Int) = kk
  replace r0 : RowAt w.heap.size (ov ⟨kk, o.p, o.c, (rp : Int)⟩) 37 (W2.setCell ⟨w.heap.size, 0, none⟩ (.int .i64 kk)) := heap_setCell_at r0 0 _
  replace r1 : RowAt (w.heap.size + 1) #[.int .i64 0, .int .i64 0, .int .i32 0, .int .i64 0] 37 (W2.setCell ⟨w.heap.size, 0, none⟩ (.int .i64 kk)) := r1.otherP _ _ (by show ¬ _ = w.heap.size; omega)
  replace hB : Below w.heap.size w (W2.setCell ⟨w.heap.size, 0, none⟩ (.int .i64 kk)) := below_setO hB (Nat.le_refl _) _ _
  generalize W2.setCell ⟨w.heap.size, 0, none⟩ (.int .i64 kk) = W3 at r0 r1 hB ⊢
  have cW30 : W3.cell? ⟨w.heap.size, 0, none⟩ = some (.int .i64 kk) := r0.cell 0
  have fW30 : W3.frozen? ⟨w.heap.size, 0, none⟩ = false := Lib.frozen_of_heap r0 0
  have cW31 : W3.cell? ⟨w.heap.size, 1, none⟩ = some (.int .i64 o.p) := r0.cell 1
  have fW31 : W3.frozen? ⟨w.heap.size, 1, none⟩ = false := Lib.frozen_of_heap r0 1
  have cW32 : W3.cell? ⟨w.heap.size, 2, none⟩ = some (.int .i32 o.c) := r0.cell 2
  have fW32 : W3.frozen? ⟨w.heap.size, 2, none⟩ = false := Lib.frozen_of_heap r0 2
  by_cases k1 : kk = 1
  · subst k1
    have HV := hid_of' (fun x => refRight_any o.c x)
    have HP := hid_of' (fun x => within_lit o.p ((n : Int) + 1) x (by omega) (by omega) hin.2.1)
    cases hrc : rightC o.c with
    | true =>
      rw [hrc] at HV
      go_upto_region 7 with (first | (go_at_call 26; refine (HV.out _).mono ?_; rintro r w2 ⟨rfl, hw⟩; obtain rfl := hw.symm) | (go_at_call 27; refine (HP.out _).mono ?_; rintro r w2 ⟨q, hq, rfl, hw⟩; obtain rfl := hw.symm))
      clear cW30 cW31 cW32 fW30 fW31 fW32
      replace r0 : RowAt w.heap.size (ov ⟨1, (q : Int), o.c, (rp : Int)⟩) 37 (W3.setCell ⟨w.heap.size, 1, none⟩ (.int .i64 (q : Int))) := heap_setCell_at r0 1 _
      replace r1 : RowAt (w.heap.size + 1) #[.int .i64 0, .int .i64 0, .int .i32 0, .int .i64 0] 37 (W3.setCell ⟨w.heap.size, 1, none⟩ (.int .i64 (q : Int))) := r1.otherP _ _ (by show ¬ _ = w.heap.size; omega)
      replace hB : Below w.heap.size w (W3.setCell ⟨w.heap.size, 1, none⟩ (.int .i64 (q : Int))) := below_setO hB (Nat.le_refl _) _ _
      generalize W3.setCell ⟨w.heap.size, 1, none⟩ (.int .i64 (q : Int)) = W4 at r0 r1 hB ⊢
      go_upto_region 7 with fail
      go_wp2_with (first | (refine wpL_loadO (e := ⟨1, (q : Int), o.c, (rp : Int)⟩) rfl _ rfl rfl r0.in ?_) | (refine wpL_storeO (e := ⟨1, (q : Int), o.c, (rp : Int)⟩) rfl _ _ rfl rfl rfl r1 ?_))
      exact bodyPost_ret (results_oB (fn := Tryd.f18) (p := 6) (u := 7) rfl rfl (r1.put _)) rfl ⟨⟨1, (q : Int), o.c, (rp : Int)⟩, true, rfl, fun _ => fit_right (by omega) (by omega) (.inl ⟨rfl, hrc, by omega⟩) (by omega), rfl, .inl rfl, below_row hB (by omega) _⟩
    | false =>
      rw [hrc] at HV
      go_upto_region 6 with (go_at_call 26; refine (HV.out _).mono ?_; rintro r w2 ⟨rfl, hw⟩; obtain rfl := hw.symm)
      clear cW30 cW31 cW32 fW30 fW31 fW32
      replace r0 : RowAt w.heap.size (ov ⟨1, o.p, 99, (rp : Int)⟩) 37 (W3.setCell ⟨w.heap.size, 2, none⟩ (.int .i32 99)) := heap_setCell_at r0 2 _
      replace r1 : RowAt (w.heap.size + 1) #[.int .i64 0, .int .i64 0, .int .i32 0, .int .i64 0] 37 (W3.setCell ⟨w.heap.size, 2, none⟩ (.int .i32 99)) := r1.otherP _ _ (by show ¬ _ = w.heap.size; omega)
      replace hB : Below w.heap.size w (W3.setCell ⟨w.heap.size, 2, none⟩ (.int .i32 99)) := below_setO hB (Nat.le_refl _) _ _
      generalize W3.setCell ⟨w.heap.size, 2, none⟩ (.int .i32 99) = W4 at r0 r1 hB ⊢
      have cW41 : W4.cell? ⟨w.heap.size, 1, none⟩ = some (.int .i64 o.p) := r0.cell 1
      have fW41 : W4.frozen? ⟨w.heap.size, 1, none⟩ = false := Lib.frozen_of_heap r0 1
      go_upto_region 7 with (go_at_call 27; refine (HP.out _).mono ?_; rintro r w2 ⟨q, hq, rfl, hw⟩; obtain rfl := hw.symm)
      clear cW41 fW41
      replace r0 : RowAt w.heap.size (ov ⟨1, (q : Int), 99, (rp : Int)⟩) 37 (W4.setCell ⟨w.heap.size, 1, none⟩ (.int .i64 (q : Int))) := heap_setCell_at r0 1 _
      replace r1 : RowAt (w.heap.size + 1) #[.int .i64 0, .int .i64 0, .int .i32 0, .int .i64 0] 37 (W4.setCell ⟨w.heap.size, 1, none⟩ (.int .i64 (q : Int))) := r1.otherP _ _ (by show ¬ _ = w.heap.size; omega)
      replace hB : Below w.heap.size w (W4.setCell ⟨w.heap.size, 1, none⟩ (.int .i64 (q : Int))) := below_setO hB (Nat.le_refl _) _ _
      generalize W4.setCell ⟨w.heap.size, 1, none⟩ (.int .i64 (q : Int)) = W5 at r0 r1 hB ⊢
      go_upto_region 7 with fail
      go_wp2_with (first | (refine wpL_loadO (e := ⟨1, (q : Int), 99, (rp : Int)⟩) rfl _ rfl rfl r0.in ?_) | (refine wpL_storeO (e := ⟨1, (q : Int), 99, (rp : Int)⟩) rfl _ _ rfl rfl rfl r1 ?_))
      exact bodyPost_ret (results_oB (fn := Tryd.f18) (p := 6) (u := 7) rfl rfl (r1.put _)) rfl ⟨⟨1, (q : Int), 99, (rp : Int)⟩, true, rfl, fun _ => fit_right (by omega) (by omega) (.inl ⟨rfl, rfl, by omega⟩) (by omega), rfl, .inl rfl, below_row hB (by omega) _⟩
  · have e1 := ne_beq k1
    have k2 : kk = 2 ∨ kk = 3 := by omega
    go_upto_region 9 with fail
    clear cW30 cW31 cW32 fW30 fW31 fW32
    replace r0 : RowAt w.heap.size (ov ⟨kk, o.p, 0, (rp : Int)⟩) 37 (W3.setCell ⟨w.heap.size, 2, none⟩ (.int .i32 0)) := heap_setCell_at r0 2 _
    replace r1 : RowAt (w.heap.size + 1) #[.int .i64 0, .int .i64 0, .int .i32 0, .int .i64 0] 37 (W3.setCell ⟨w.heap.size, 2, none⟩ (.int .i32 0)) := r1.otherP _ _ (by show ¬ _ = w.heap.size; omega)
    replace hB : Below w.heap.size w (W3.setCell ⟨w.heap.size, 2, none⟩ (.int .i32 0)) := below_setO hB (Nat.le_refl _) _ _
    generalize W3.setCell ⟨w.heap.size, 2, none⟩ (.int .i32 0) = W4 at r0 r1 hB ⊢
    have cW41 : W4.cell? ⟨w.heap.size, 1, none⟩ = some (.int .i64 o.p) := r0.cell 1
    have fW41 : W4.frozen? ⟨w.heap.size, 1, none⟩ = false := Lib.frozen_of_heap r0 1
    by_cases n0 : n = 0
    · subst n0
      rw [show ((0 : Nat) : Int) = 0 from rfl]
      go_upto_region 10 with fail
      go_wp2_with (first | (refine wpL_loadO (e := ⟨kk, o.p, 0, (rp : Int)⟩) rfl _ rfl rfl r0.in ?_) | (refine wpL_storeO (e := ⟨kk, o.p, 0, (rp : Int)⟩) rfl _ _ rfl rfl rfl r1 ?_))
      exact bodyPost_ret (results_oB (fn := Tryd.f18) (p := 6) (u := 7) rfl rfl (r1.put _)) rfl ⟨⟨kk, o.p, 0, (rp : Int)⟩, false, rfl, (fun h => (by cases h)), rfl, k2.elim (fun h => .inr (.inl h)) (fun h => .inr (.inr h)), below_row hB (by omega) _⟩
    · have e2 : ((n : Int) == 0) = false := ne_beq (by omega)
      have HP := hid_of' (fun x => within_lit o.p (n : Int) x (by omega) (by omega) hin.2.1)
      go_upto_region 12 with (go_at_call 27; refine (HP.out _).mono ?_; rintro r w2 ⟨q, hq, rfl, hw⟩; obtain rfl := hw.symm)
      clear cW41 fW41
      replace r0 : RowAt w.heap.size (ov ⟨kk, (q : Int), 0, (rp : Int)⟩) 37 (W4.setCell ⟨w.heap.size, 1, none⟩ (.int .i64 (q : Int))) := heap_setCell_at r0 1 _
      replace r1 : RowAt (w.heap.size + 1) #[.int .i64 0, .int .i64 0, .int .i32 0, .int .i64 0] 37 (W4.setCell ⟨w.heap.size, 1, none⟩ (.int .i64 (q : Int))) := r1.otherP _ _ (by show ¬ _ = w.heap.size; omega)
      replace hB : Below w.heap.size w (W4.setCell ⟨w.heap.size, 1, none⟩ (.int .i64 (q : Int))) := below_setO hB (Nat.le_refl _) _ _
      generalize W4.setCell ⟨w.heap.size, 1, none⟩ (.int .i64 (q : Int)) = W5 at r0 r1 hB ⊢
      go_upto_region 12 with fail
      go_wp2_with (first | (refine wpL_loadO (e := ⟨kk, (q : Int), 0, (rp : Int)⟩) rfl _ rfl rfl r0.in ?_) | (refine wpL_storeO (e := ⟨kk, (q : Int), 0, (rp : Int)⟩) rfl _ _ rfl rfl rfl r1 ?_))
      exact bodyPost_ret (results_oB (fn := Tryd.f18) (p := 6) (u := 7) rfl rfl (r1.put _)) rfl ⟨⟨kk, (q : Int), 0, (rp : Int)⟩, true, rfl, fun _ => fit_right (by omega) (by omega) (.inr ⟨k2, rfl, by omega⟩) (by omega), rfl, k2.elim (fun h => .inr (.inl h)) (fun h => .inr (.inr h)), below_row hB (by omega) _⟩
/-- Three replicas that are unlike. -/
def ThO (w : World) (r : Ending) (w' : World) : Prop := ∃ a b c : Nat, r = .returned (.agg #[.int .i64 (a : Int), .int .i64 (b : Int), .int .i64 (c : Int)]) ∧ a < 8 ∧ b < 8 ∧ c < 8 ∧ a ≠ b ∧ a ≠ c ∧ b ≠ c ∧ Below w.heap.size w w'
theorem size3 (a b c : Int) : (Tryd.prog.info? 27).map (·.size) = some (#[.int .i64 a, .int .i64 b, .int .i64 c] : Array Value).size := (by kernel_rfl : (Tryd.prog.info? 27).map (·.size) = some 3)
theorem wpL_store3 {ops : Array Oper} {rest : List Oper} {o : Oper} {A : Act} {w : World} {Q : Exit → Act → World → Prop} (hgd : o.guard = none) (x y : Operand) (ho : o.op = .store 27 x y) {g : Nat} (hx : A.eval x = .pointer (some ⟨g, 0, none⟩)) {a b c : Int} (hy : A.eval y = .agg #[.int .i64 a, .int .i64 b, .int .i64 c]) {c0 c1 c2 : Value} (h : RowAt g #[c0, c1, c2] 27 w)
    (k : wpList Tryd.prog ops Q rest (A.put o.dst undef) (w.setRow g #[.int .i64 a, .int .i64 b, .int .i64 c])) : wpList Tryd.prog ops Q (o :: rest) A w :=
  wpList_store_row hgd _ x y ho g #[.int .i64 a, .int .i64 b, .int .i64 c] hx hy _ _ h (size3 a b c) rfl (by simp [Value.oneCell']) k
theorem results_3 {fn : Func} {p : Tmp} {tmps : Array Value} {w : World} {g : Nat} {a b c : Int} (h : fn.results = #[.cell p 27]) (hp : tmps.getD p undef = .pointer (some ⟨g, 0, none⟩)) (hg : RowAt g #[.int .i64 a, .int .i64 b, .int .i64 c] 27 w) :
    (results fn tmps).run Tryd.prog w = .ok (.agg #[.int .i64 a, .int .i64 b, .int .i64 c]) w := by
  have hp' : tmps[p]?.getD undef = .pointer (some ⟨g, 0, none⟩) := by simpa using hp
  simp [results, h, hp', asAddr, run_loadVar_row w g _ _ _ _ _ hg Tryd.underlying27 rfl (size3 a b c)]

theorem td8 {n : Int} (h : In64 n) : In64 (n.tdiv 8) := by
  unfold In64 at *
  by_cases h0 : 0 ≤ n
  · rw [Int.tdiv_eq_ediv_of_nonneg h0]; omega
  · have e : n.tdiv 8 = -((-n) / 8) := by
      rw [show n.tdiv 8 = (-(-n)).tdiv 8 by rw [Int.neg_neg], Int.neg_tdiv, Int.tdiv_eq_ediv_of_nonneg (by omega)]
    rw [e]; omega
theorem td56 {n : Int} (h : In64 n) : In64 (n.tdiv 56) := by
  unfold In64 at *
  by_cases h0 : 0 ≤ n
  · rw [Int.tdiv_eq_ediv_of_nonneg h0]; omega
  · have e : n.tdiv 56 = -((-n) / 56) := by
      rw [show n.tdiv 56 = (-(-n)).tdiv 56 by rw [Int.neg_neg], Int.neg_tdiv, Int.tdiv_eq_ediv_of_nonneg (by omega)]
    rw [e]; omega
set_option maxHeartbeats 4000000 in
theorem three_ok (n : Int) (hn : In64 n) (w : World) : Calls Tryd.prog 7 #[.int .i64 n] w (ThO w) := by
  have H8 := hid_of' (fun x => within_lit n 8 x (by decide) (by decide) hn)
  have H7 := hid_of' (fun (m : Int) (hm : In64 m) x => within_lit m 7 x (by decide) (by decide) hm)
  have H6 := hid_of' (fun (m : Int) (hm : In64 m) x => within_lit m 6 x (by decide) (by decide) hm)
  have hn1 := hn.1
  have hn2 := hn.2
  have HN := hid_of' hn
  have r0 := row_new w #[.int .i64 0, .int .i64 0, .int .i64 0] 27
  have hB := below_one w (.cells #[.int .i64 0, .int .i64 0, .int .i64 0] 27)
  go_enter Tryd.func7, Tryd.ntmps7
  go_upto_region 1 with fail
  generalize w.alloc (.cells #[.int .i64 0, .int .i64 0, .int .i64 0] 27) = W at r0 hB ⊢
  go_upto_region 2 with (go_at_call 27; refine (H8.out _).mono ?_; rintro r w2 ⟨a, ha, rfl, hw⟩; obtain rfl := hw.symm)
  go_upto_region 4 with (first | (go_at_call_of 27 (Value.int .i64 7); refine (H7.out _ (by first | exact wrap64_in _ | exact td8 HN.out) _).mono ?_; rintro r w2 ⟨b, hb, rfl, hw⟩; obtain rfl := hw.symm) | (go_at_call 27; refine (H6.out _ (by first | exact wrap64_in _ | exact td56 HN.out) _).mono ?_; rintro r w2 ⟨c, hc, rfl, hw⟩; obtain rfl := hw.symm))
  obtain ⟨A, hA⟩ : ∃ A, (a : Int) = A := ⟨_, rfl⟩
  obtain ⟨B, hB2⟩ : ∃ B, (b : Int) = B := ⟨_, rfl⟩
  obtain ⟨C, hC⟩ : ∃ C, (c : Int) = C := ⟨_, rfl⟩
  have a0 : 0 ≤ A := by omega
  have b0 : 0 ≤ B := by omega
  have c0 : 0 ≤ C := by omega
  rw [hA] at ha ⊢
  rw [hB2] at hb ⊢
  rw [hC] at hc ⊢
  clear hA hB2 hC a b c H8 H7 H6 hn1 hn2 HN hn
  by_cases q : A ≤ B
  · go_wp2
    go_loopw [5, 6] (fun x y wr => ∃ c k : Int, x = .int .i64 c ∧ y = .int .i64 k ∧ 0 ≤ k ∧ k ≤ 2 ∧ 0 ≤ c ∧ (k = 0 → c < 6) ∧ (0 < k → c < 8 ∧ c ≠ A ∧ c ≠ B + 1) ∧ wr = W) (fun _ y _ => 2 - (intOf y).toNat)
    case atStart => exact ⟨C, 0, rfl, rfl, by omega, by omega, by omega, by omega, by omega, rfl⟩
    case round =>
      obtain ⟨c, k, rfl, rfl, k0, k2, cc0, i1, i2, rfl⟩ := hrel
      by_cases hk : k < 2
      · by_cases h1 : c = A
        · have hne : k = 0 := by omega
          by_cases h2 : c + 1 = B + 1
          · have e0 : (c == A) = true := by simp [h1]
            have e1 : (c + 1 == A) = false := ne_beq (by omega)
            have e2 : (c + 1 == B + 1) = true := by simp [h2]
            replace h1 := hid_of' h1
            replace h2 := hid_of' h2
            clear hne
            go_wp2
            go_roundw
            case rel => exact ⟨c + 1 + 1, k + 1, rfl, rfl, by omega, by omega, by omega, by omega, by have := h1.out; have := h2.out; omega, by first | rfl | trivial⟩
            case measure => simp [intOf]; omega
          · have e0 : (c == A) = true := by simp [h1]
            have e1 : (c + 1 == A) = false := ne_beq (by omega)
            have e2 : (c + 1 == B + 1) = false := ne_beq h2
            replace h1 := hid_of' h1
            clear hne
            go_wp2
            go_roundw
            case rel => exact ⟨c + 1, k + 1, rfl, rfl, by omega, by omega, by omega, by omega, by have := h1.out; omega, by first | rfl | trivial⟩
            case measure => simp [intOf]; omega
        · by_cases h3 : c = B + 1
          · have hne : k = 0 := by omega
            by_cases h2 : c + 1 = A
            · have e0 : (c == A) = false := ne_beq h1
              have e1 : (c == B + 1) = true := by simp [h3]
              have e2 : (c + 1 == A) = true := by simp [h2]
              replace h3 := hid_of' h3
              replace h2 := hid_of' h2
              clear hne
              go_wp2
              go_roundw
              case rel => exact ⟨c + 1 + 1, k + 1, rfl, rfl, by omega, by omega, by omega, by omega, by have := h3.out; have := h2.out; omega, by first | rfl | trivial⟩
              case measure => simp [intOf]; omega
            · have e0 : (c == A) = false := ne_beq h1
              have e1 : (c == B + 1) = true := by simp [h3]
              have e2 : (c + 1 == A) = false := ne_beq h2
              have e3 : (c + 1 == B + 1) = false := ne_beq (by omega)
              replace h3 := hid_of' h3
              clear hne
              go_wp2
              go_roundw
              case rel => exact ⟨c + 1, k + 1, rfl, rfl, by omega, by omega, by omega, by omega, by have := h3.out; omega, by first | rfl | trivial⟩
              case measure => simp [intOf]; omega
          · have e0 : (c == A) = false := ne_beq h1
            have e1 : (c == B + 1) = false := ne_beq h3
            go_wp2
            go_roundw
            case rel => exact ⟨c, k + 1, rfl, rfl, by omega, by omega, by omega, by omega, by omega, by first | rfl | trivial⟩
            case measure => simp [intOf]; omega
      · have hk2 := i2 (by omega)
        go_wp2_with (refine wpL_store3 rfl _ _ rfl rfl rfl r0 ?_)
        refine bodyPost_ret (results_3 (fn := Tryd.f7) (p := 2) rfl rfl (r0.put _)) rfl ⟨A.toNat, (B + 1).toNat, c.toNat, ?_, by omega, by omega, by omega, by omega, by omega, by omega, below_row hB (Nat.le_refl _) _⟩
        rw [Int.toNat_of_nonneg a0, Int.toNat_of_nonneg (show 0 ≤ B + 1 by omega), Int.toNat_of_nonneg cc0]
  · go_wp2
    go_loopw [5, 6] (fun x y wr => ∃ c k : Int, x = .int .i64 c ∧ y = .int .i64 k ∧ 0 ≤ k ∧ k ≤ 2 ∧ 0 ≤ c ∧ (k = 0 → c < 6) ∧ (0 < k → c < 8 ∧ c ≠ A ∧ c ≠ B) ∧ wr = W) (fun _ y _ => 2 - (intOf y).toNat)
    case atStart => exact ⟨C, 0, rfl, rfl, by omega, by omega, by omega, by omega, by omega, rfl⟩
    case round =>
      obtain ⟨c, k, rfl, rfl, k0, k2, cc0, i1, i2, rfl⟩ := hrel
      by_cases hk : k < 2
      · by_cases h1 : c = A
        · have hne : k = 0 := by omega
          by_cases h2 : c + 1 = B
          · have e0 : (c == A) = true := by simp [h1]
            have e1 : (c + 1 == A) = false := ne_beq (by omega)
            have e2 : (c + 1 == B) = true := by simp [h2]
            replace h1 := hid_of' h1
            replace h2 := hid_of' h2
            clear hne
            go_wp2
            go_roundw
            case rel => exact ⟨c + 1 + 1, k + 1, rfl, rfl, by omega, by omega, by omega, by omega, by have := h1.out; have := h2.out; omega, by first | rfl | trivial⟩
            case measure => simp [intOf]; omega
          · have e0 : (c == A) = true := by simp [h1]
            have e1 : (c + 1 == A) = false := ne_beq (by omega)
            have e2 : (c + 1 == B) = false := ne_beq h2
            replace h1 := hid_of' h1
            clear hne
            go_wp2
            go_roundw
            case rel => exact ⟨c + 1, k + 1, rfl, rfl, by omega, by omega, by omega, by omega, by have := h1.out; omega, by first | rfl | trivial⟩
            case measure => simp [intOf]; omega
        · by_cases h3 : c = B
          · have hne : k = 0 := by omega
            by_cases h2 : c + 1 = A
            · have e0 : (c == A) = false := ne_beq h1
              have e1 : (c == B) = true := by simp [h3]
              have e2 : (c + 1 == A) = true := by simp [h2]
              replace h3 := hid_of' h3
              replace h2 := hid_of' h2
              clear hne
              go_wp2
              go_roundw
              case rel => exact ⟨c + 1 + 1, k + 1, rfl, rfl, by omega, by omega, by omega, by omega, by have := h3.out; have := h2.out; omega, by first | rfl | trivial⟩
              case measure => simp [intOf]; omega
            · have e0 : (c == A) = false := ne_beq h1
              have e1 : (c == B) = true := by simp [h3]
              have e2 : (c + 1 == A) = false := ne_beq h2
              have e3 : (c + 1 == B) = false := ne_beq (by omega)
              replace h3 := hid_of' h3
              clear hne
              go_wp2
              go_roundw
              case rel => exact ⟨c + 1, k + 1, rfl, rfl, by omega, by omega, by omega, by omega, by have := h3.out; omega, by first | rfl | trivial⟩
              case measure => simp [intOf]; omega
          · have e0 : (c == A) = false := ne_beq h1
            have e1 : (c == B) = false := ne_beq h3
            go_wp2
            go_roundw
            case rel => exact ⟨c, k + 1, rfl, rfl, by omega, by omega, by omega, by omega, by omega, by first | rfl | trivial⟩
            case measure => simp [intOf]; omega
      · have hk2 := i2 (by omega)
        go_wp2_with (refine wpL_store3 rfl _ _ rfl rfl rfl r0 ?_)
        refine bodyPost_ret (results_3 (fn := Tryd.f7) (p := 2) rfl rfl (r0.put _)) rfl ⟨A.toNat, (B).toNat, c.toNat, ?_, by omega, by omega, by omega, by omega, by omega, by omega, below_row hB (Nat.le_refl _) _⟩
        rw [Int.toNat_of_nonneg a0, Int.toNat_of_nonneg (show 0 ≤ B by omega), Int.toNat_of_nonneg cc0]
end Go.Proofs.YtdafkakigigdeaaDoor
