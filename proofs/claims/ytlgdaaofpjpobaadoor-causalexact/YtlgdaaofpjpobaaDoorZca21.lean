
/-
  Acts held against one another; barrowlaw11.wakes; CausalNames. barrowlaw11.wakes; CausalNames.
-/
import Derived.Test.YtlgdaaofpjpobaaDoorZca20
namespace Go.Proofs.YtlgdaaofpjpobaaDoor
open Go.RowKit Go.Maps
set_option maxRecDepth 100000

/-- Are two acts alike? -/
def oeq (x y : Ac) : Bool := x.kind == y.kind && (x.at' == y.at' && (x.char == y.char && x.rep == y.rep))
def aeq (x y : Ac) : Bool := oeq x y && (x.num == y.num && x.ck == y.ck)
theorem aeq_iff {x y : Ac} : aeq x y = true ↔ x = y := by
  unfold aeq oeq
  simp only [Bool.and_eq_true, beq_iff_eq]
  constructor
  · rintro ⟨⟨h1, h2, h3, h4⟩, h5, h6⟩
    cases x; cases y; simp_all
  · rintro rfl
    exact ⟨⟨rfl, rfl, rfl, rfl⟩, rfl, rfl⟩
theorem aeq_self (x : Ac) : aeq x x = true := aeq_iff.2 rfl
/-- The cells of its operation. -/
def opc (x : Ac) : Array Value := #[.int .i64 x.kind, .int .i64 x.at', .int .i32 x.char, .int .i64 x.rep]
theorem szIntC (w : World) : (sizeOf 3).run Tryd.prog w = .ok 1 w := by kernel_rfl
theorem partI {cs : Array Value} {o : Nat} {v : Value} (h : cs[o]? = some v) (w : World) : (part 3 cs o).run Tryd.prog w = .ok v w := by
  simp [part, isAgg, run_underlying Tryd.underlying3, h]
theorem partI32 {cs : Array Value} {o : Nat} {v : Value} (h : cs[o]? = some v) (w : World) : (part 21 cs o).run Tryd.prog w = .ok v w := by
  simp [part, isAgg, run_underlying Tryd.underlying21, h]
theorem ext_op (x : Ac) : (acv x).extract 0 4 = opc x := by
  unfold acv opc
  rw [Array.extract_append]
  simp
theorem ext_ck (x : Ac) (h : x.ck.length = 8) : (acv x).extract 5 13 = cv x.ck := by
  have := cv_size x.ck
  unfold acv
  rw [Array.extract_append]
  simp only [List.size_toArray, List.length_cons, List.length_nil]
  have e : (cv x.ck).extract (5 - 5) (13 - 5) = cv x.ck := by
    have h8 : (cv x.ck).size = 13 - 5 := by rw [this, h]
    rw [← h8]
    exact Array.extract_size
  rw [e]
  simp
theorem szOpC (w : World) : (sizeOf 46).run Tryd.prog w = .ok 4 w := by kernel_rfl
theorem szCkC (w : World) : (sizeOf 44).run Tryd.prog w = .ok 8 w := by kernel_rfl
theorem part_op (x : Ac) (w : World) : (part 46 (acv x) 0).run Tryd.prog w = .ok (.agg (opc x)) w := by
  simp [part, isAgg, run_underlying Tryd.underlying46, ext_op]
theorem part_ckA (x : Ac) (h : x.ck.length = 8) (w : World) : (part 44 (acv x) 5).run Tryd.prog w = .ok (.agg (cv x.ck)) w := by
  simp [part, isAgg, run_underlying Tryd.underlying44, ext_ck x h]
theorem eqIn_op (d : Nat) (x y : Ac) (w : World) : (Op.equalIn (d + 3) 46 (.agg (opc x)) (.agg (opc y))).run Tryd.prog w = .ok (oeq x y) w := by
  rw [run_equalIn_struct w (d + 2) 46 _ _ (by kernel_rfl) (by kernel_rfl), oeq]
  have p1 := fun w => partI (cs := opc x) (o := 0) (v := .int .i64 x.kind) rfl w
  have p2 := fun w => partI (cs := opc y) (o := 0) (v := .int .i64 y.kind) rfl w
  have p3 := fun w => partI (cs := opc x) (o := 1) (v := .int .i64 x.at') rfl w
  have p4 := fun w => partI (cs := opc y) (o := 1) (v := .int .i64 y.at') rfl w
  have p5 := fun w => partI32 (cs := opc x) (o := 2) (v := .int .i32 x.char) rfl w
  have p6 := fun w => partI32 (cs := opc y) (o := 2) (v := .int .i32 y.char) rfl w
  have p7 := fun w => partI (cs := opc x) (o := 3) (v := .int .i64 x.rep) rfl w
  have p8 := fun w => partI (cs := opc y) (o := 3) (v := .int .i64 y.rep) rfl w
  have q1 := fun w => run_equalIn_int (P := Tryd.prog) w (d + 1) 3 .i64 .i64 x.kind y.kind Tryd.underlying3
  have q2 := fun w => run_equalIn_int (P := Tryd.prog) w (d + 1) 3 .i64 .i64 x.at' y.at' Tryd.underlying3
  have q3 := fun w => run_equalIn_int (P := Tryd.prog) w (d + 1) 21 .i32 .i32 x.char y.char Tryd.underlying21
  have q4 := fun w => run_equalIn_int (P := Tryd.prog) w (d + 1) 3 .i64 .i64 x.rep y.rep Tryd.underlying3
  simp only [Program.fieldsOf, Tryd.underlying46, Op.eqFields]
  cases h1 : (x.kind == y.kind) <;> cases h2 : (x.at' == y.at') <;> cases h3 : (x.char == y.char) <;> cases h4 : (x.rep == y.rep) <;> simp [Sem.run_bind, p1, p2, p3, p4, p5, p6, p7, p8, q1, q2, q3, q4, h1, h2, h3, h4]
theorem eqIn_act {x y : Ac} (hx : x.Fit) (hy : y.Fit) (w : World) : (Op.equalIn 10000 48 (.agg (acv x)) (.agg (acv y))).run Tryd.prog w = .ok (aeq x y) w := by
  rw [run_equalIn_struct w 9999 48 _ _ (by kernel_rfl) (by kernel_rfl), aeq]
  have p1 := fun w => part_op x w
  have p2 := fun w => part_op y w
  have p3 := fun w => partI (acv_num x) w
  have p4 := fun w => partI (acv_num y) w
  have p5 := fun w => part_ckA x hx.1.1 w
  have p6 := fun w => part_ckA y hy.1.1 w
  have q1 := fun w => eqIn_op 9996 x y w
  have q2 := fun w => run_equalIn_int (P := Tryd.prog) w 9998 3 .i64 .i64 x.num y.num Tryd.underlying3
  have q3 := fun w => run_equalIn_ints w 9997 44 3 8 Tryd.underlying44 Tryd.underlying3 szIntC x.ck y.ck hx.1.1 hy.1.1
  simp only [Program.fieldsOf, Tryd.underlying48, Op.eqFields]
  cases h1 : oeq x y <;> cases h2 : (x.num == y.num) <;> cases h3 : (x.ck == y.ck) <;> simp [Sem.run_bind, p1, p2, p3, p4, p5, p6, q1, q2, q3, h1, h2, h3]
theorem act_guard : Tryd.prog.eqGuardType Tryd.prog.depth 48 = false := by kernel_rfl
end Go.Proofs.YtlgdaaofpjpobaaDoor
namespace Go.Proofs.YtlgdaaofpjpobaaDoor
open Go.RowKit Go.Maps
set_option maxRecDepth 100000

/-- The law's own example. -/
def ck1 : List Int := [1, 0, 0, 0, 0, 0, 0, 0]
def acW : Ac := ⟨0, 0, 0, 0, 2, ck1⟩
theorem ckAll {a : List Int} (hl : a.length = 8) (h : (a.all fun x => decide (-9223372036854775808 ≤ x ∧ x ≤ 9223372036854775807)) = true) : Ck a := by
  refine ⟨hl, fun k hk => ?_⟩
  have := (List.all_eq_true.1 h) (a[k]'(by omega)) (List.getElem_mem _)
  have e : en a k = a[k]'(by omega) := by simp [en, List.getD, List.getElem?_eq_getElem (show k < a.length by omega)]
  rw [e]
  simpa [fitsI] using this
theorem ck0_ck : Ck ck0 := ckAll rfl (by decide)
theorem ck1_ck : Ck ck1 := ckAll rfl (by decide)
theorem acW_full : acW.Full := ⟨⟨ck1_ck, by unfold fitsI acW; decide⟩, by unfold fitsI acW; decide⟩
theorem offW : offR ck0 1 [] acW = (3, [acW]) := by
  unfold offR
  rw [if_neg (by decide), if_neg (by decide), if_neg (by decide), if_neg (by decide)]
  rfl
theorem rdyW : rdyC ck1 acW = true := by decide
set_option maxHeartbeats 4000000 in
theorem wakes11 (w : World) : Calls Tryd.prog 7 #[] w fun e w' => e = .returned (.bool true) ∧ Below w.heap.size w w' := by
  have HN := hid_of' (newI_ok 1 (by decide) (by decide) w)
  go_enter Tryd.func7, Tryd.ntmps7
  go_upto_region 5 with (first | (go_at_call 4; refine HN.out.mono ?_; rintro e w1 ⟨B, kb, rfl, hI, hB0, hk0, hb1⟩; clear HN))
  rw [show (Obj.cells #[Value.int .i64 0, .int .i64 0, .int .i32 0, .int .i64 0, .int .i64 2, .int .i64 1, .int .i64 0, .int .i64 0, .int .i64 0, .int .i64 0, .int .i64 0, .int .i64 0, .int .i64 0] 48) = Obj.cells (acv acW) 48 from rfl]
  have hx1 := box1 w1 acW
  have hbb := below_one w1 (.cells (acv acW) 48)
  have hI2 := hI.later hbb
  have hsB := hI.lies.lt
  have hsk := hI.map.lt
  have hs2 : w1.heap.size < (w1.alloc (.cells (acv acW) 48)).heap.size := hx1.lt
  generalize w1.alloc (.cells (acv acW) 48) = w2 at hx1 hbb hI2 hs2 ⊢
  have HO := hid_of' (offer_any hI2 ck0_ck acW_full (by decide))
  have hb2 := bgo hb1 hbb
  clear hI hI2 hbb hb1
  go_upto_region 7 with (first | (refine wpL_loadA (p := acW) rfl _ rfl rfl acW_full.1 hx1.in ?_) | (go_at_call 17; refine HO.out.mono ?_; rintro e w3 ⟨v3, he, hI3, ha3, hc3⟩; rw [offW] at he hI3; obtain rfl := he; clear HO; have HL := hid_of' (lenI_is hI3)) | (go_at_call 18; refine HL.out.mono ?_; rintro e w4 ⟨rfl, h0⟩; obtain rfl := h0.symm; clear HL h0))
  have hv3 : ∀ k, v3.ownBlock = some k → w2.heap.size ≤ k := fun k hk => (ha3 k hk).elim (fun q => by cases q) id
  have hx3 := hx1.ch hc3 (by rintro (e | e | e) <;> first | omega | cases e)
  have hb3 : Below w.heap.size w w3 := Ch.none ((Ch.of (S := fun k => w.heap.size ≤ k) hb2).go hc3 (by rintro s (e | e | e) <;> first | (exact .inr (by omega)) | cases e)) (fun s hs q => by omega)
  have HX := hid_of' (next_some hI3 ck1_ck (i0 := 0) (y := acW) rfl rdyW (fun j z hj => by omega))
  clear hx1 hc3 hb2 ha3 hI3
  go_upto_region 8 with (first | (go_at_call 19; refine HX.out.mono ?_; rintro e w5 ⟨v5, rfl, hI5, ha5, hc5⟩; clear HX) | (refine wpL_storeAr (p := acW) (q := ac0) rfl _ _ rfl rfl rfl acW_full.1 ac0_fit (row_new w5 (acv ac0) _) ?_))
  obtain ⟨r6, hb6⟩ := boxed_act w5 (x := acW)
  rw [show (Obj.cells #[Value.int .i64 0, .int .i64 0, .int .i32 0, .int .i64 0, .int .i64 0, .int .i64 0, .int .i64 0, .int .i64 0, .int .i64 0, .int .i64 0, .int .i64 0, .int .i64 0, .int .i64 0] 48) = Obj.cells (acv ac0) 48 from rfl]
  generalize (w5.alloc (.cells (acv ac0) 48)).setRow w5.heap.size (acv acW) = w6 at r6 hb6 ⊢
  have hx6 := (hx3.ch hc5 (by rintro (e | e | e) <;> first | omega | (have := hv3 _ e; omega))).later hb6
  have hI6 := hI5.later hb6
  have hB6 : Below w.heap.size w w6 := bgo (Ch.none ((Ch.of (S := fun k => w.heap.size ≤ k) hb3).go hc5 (by rintro s (e | e | e) <;> first | (exact .inr (by omega)) | (have := hv3 _ e; exact .inr (by omega)))) (fun s hs q => by omega)) hb6
  have hq := eqIn_act acW_full.1 acW_full.1
  have hself := aeq_self acW
  have hg := act_guard
  have hB := hB6
  clear hI5 hc5 ha5 hv3 hb3 hx3 hB6
  refine wp_region_cls0 ?_
  repeat (first | go_big_quiet_skip | (go_big_quiet_want; first | (refine quiet_act _ rfl rfl acW_full.1 r6.in.cls ?_; simp only [Act.put, List.setIfInBounds_toArray, List.set_cons_succ, List.set_cons_zero]; go_big_quiet_on) | (refine quiet_act _ rfl rfl acW_full.1 hx6.in.cls ?_; simp only [Act.put, List.setIfInBounds_toArray, List.set_cons_succ, List.set_cons_zero]; go_big_quiet_on) | (go_big_quiet_op; first | go_big_quiet_on | go_big_quiet_call ((go_at_call 18; exact cls_of_same (lenI_is (hI6.later (wOf_below _))))))))
  refine wpQuiet_nil ?_
  rintro w1 ⟨s1, e1⟩
  have hb1 := wOf_below s1
  rw [← e1] at hb1
  clear e1 s1
  replace hI6 := hI6.later hb1
  replace hB := bgo hB hb1
  clear hb1
  go_wp2
  go_ret
  exact ⟨rfl, hB⟩
end Go.Proofs.YtlgdaaofpjpobaaDoor
