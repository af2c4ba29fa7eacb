
/-
  barrowlaw11.wakes; CausalNames.
-/
import Derived.Test.YtlkcjbmdeimocaaDoorCa6
namespace Go.Proofs.YtlkcjbmdeimocaaDoor
open Go.RowKit Go.Maps
set_option maxRecDepth 100000

/-- The law's own example. -/
def ck1 : List Int := [1, 0, 0, 0, 0, 0, 0, 0]
def acW : Ac := ⟨0, 0, 0, 0, 2, ck1⟩
theorem ckAll {a : List Int} (hl : a.length = 8) (h : (a.all fun x => decide (-9223372036854775808 ≤ x ∧ x ≤ 9223372036854775807)) = true) : Ck a := by
  refine ⟨hl, fun k hk => ?_⟩
  have := (List.all_eq_true.1 h) (a[k]'(by omega)) (List.getElem_mem _)
  have e : en a k = a[k]'(by omega) := by simp [en, List.getD, List.getElem?_eq_getElem (show k < a.length by omega)]
  rw [e]
  simpa [fitsI] using this
theorem ck0_ck : Ck ck0 := ckAll rfl (by decide)
theorem ck1_ck : Ck ck1 := ckAll rfl (by decide)
theorem acW_full : acW.Full := ⟨⟨ck1_ck, by unfold fitsI acW; decide⟩, by unfold fitsI acW; decide⟩
theorem offW : offR ck0 1 [] acW = (3, [acW]) := by
  unfold offR
  rw [if_neg (by decide), if_neg (by decide), if_neg (by decide), if_neg (by decide)]
  rfl
theorem rdyW : rdyC ck1 acW = true := by decide
set_option maxHeartbeats 4000000 in
theorem wakes11 (w : World) : Calls Tryd.prog 12 #[] w fun e w' => e = .returned (.bool true) ∧ Below w.heap.size w w' := by
  have HN := hid_of' (newI_ok 1 (by decide) (by decide) w)
  go_enter Tryd.func12, Tryd.ntmps12
  go_upto_region 5 with (first | (go_at_call 9; refine HN.out.mono ?_; rintro e w1 ⟨B, kb, rfl, hI, hB0, hk0, hb1⟩; clear HN))
  rw [show (Obj.cells #[Value.int .i64 0, .int .i64 0, .int .i32 0, .int .i64 0, .int .i64 2, .int .i64 1, .int .i64 0, .int .i64 0, .int .i64 0, .int .i64 0, .int .i64 0, .int .i64 0, .int .i64 0] 48) = Obj.cells (acv acW) 48 from rfl]
  have hx1 := box1 w1 acW
  have hbb := below_one w1 (.cells (acv acW) 48)
  have hI2 := hI.later hbb
  have hsB := hI.lies.lt
  have hsk := hI.map.lt
  have hs2 : w1.heap.size < (w1.alloc (.cells (acv acW) 48)).heap.size := hx1.lt
  generalize w1.alloc (.cells (acv acW) 48) = w2 at hx1 hbb hI2 hs2 ⊢
  have HO := hid_of' (offer_any hI2 ck0_ck acW_full (by decide))
  have hb2 := bgo hb1 hbb
  clear hI hI2 hbb hb1
  go_upto_region 7 with (first | (refine wpL_loadA (p := acW) rfl _ rfl rfl acW_full.1 hx1.in ?_) | (go_at_call 27; refine HO.out.mono ?_; rintro e w3 ⟨v3, he, hI3, ha3, hc3⟩; rw [offW] at he hI3; obtain rfl := he; clear HO; have HL := hid_of' (lenI_is hI3)) | (go_at_call 36; refine HL.out.mono ?_; rintro e w4 ⟨rfl, h0⟩; obtain rfl := h0.symm; clear HL h0))
  have hv3 : ∀ k, v3.ownBlock = some k → w2.heap.size ≤ k := fun k hk => (ha3 k hk).elim (fun q => by cases q) id
  have hx3 := hx1.ch hc3 (by rintro (e | e | e) <;> first | omega | cases e)
  have hb3 : Below w.heap.size w w3 := Ch.none ((Ch.of (S := fun k => w.heap.size ≤ k) hb2).go hc3 (by rintro s (e | e | e) <;> first | (exact .inr (by omega)) | cases e)) (fun s hs q => by omega)
  have HX := hid_of' (next_some hI3 ck1_ck (i0 := 0) (y := acW) rfl rdyW (fun j z hj => by omega))
  clear hx1 hc3 hb2 ha3 hI3
  go_upto_region 8 with (first | (go_at_call 28; refine HX.out.mono ?_; rintro e w5 ⟨v5, rfl, hI5, ha5, hc5⟩; clear HX) | (refine wpL_storeAr (p := acW) (q := ac0) rfl _ _ rfl rfl rfl acW_full.1 ac0_fit (row_new w5 (acv ac0) _) ?_))
  obtain ⟨r6, hb6⟩ := boxed_act w5 (x := acW)
  rw [show (Obj.cells #[Value.int .i64 0, .int .i64 0, .int .i32 0, .int .i64 0, .int .i64 0, .int .i64 0, .int .i64 0, .int .i64 0, .int .i64 0, .int .i64 0, .int .i64 0, .int .i64 0, .int .i64 0] 48) = Obj.cells (acv ac0) 48 from rfl]
  generalize (w5.alloc (.cells (acv ac0) 48)).setRow w5.heap.size (acv acW) = w6 at r6 hb6 ⊢
  have hx6 := (hx3.ch hc5 (by rintro (e | e | e) <;> first | omega | (have := hv3 _ e; omega))).later hb6
  have hI6 := hI5.later hb6
  have hB6 : Below w.heap.size w w6 := bgo (Ch.none ((Ch.of (S := fun k => w.heap.size ≤ k) hb3).go hc5 (by rintro s (e | e | e) <;> first | (exact .inr (by omega)) | (have := hv3 _ e; exact .inr (by omega)))) (fun s hs q => by omega)) hb6
  have hq := eqIn_act acW_full.1 acW_full.1
  have hself := aeq_self acW
  have hg := act_guard
  have hB := hB6
  clear hI5 hc5 ha5 hv3 hb3 hx3 hB6
  refine wp_region_cls0 ?_
  repeat (first | go_big_quiet_skip | (go_big_quiet_want; first | (refine quiet_act _ rfl rfl acW_full.1 r6.in.cls ?_; simp only [Act.put, List.setIfInBounds_toArray, List.set_cons_succ, List.set_cons_zero]; go_big_quiet_on) | (refine quiet_act _ rfl rfl acW_full.1 hx6.in.cls ?_; simp only [Act.put, List.setIfInBounds_toArray, List.set_cons_succ, List.set_cons_zero]; go_big_quiet_on) | (go_big_quiet_op; first | go_big_quiet_on | go_big_quiet_call ((go_at_call 36; exact cls_of_same (lenI_is (hI6.later (wOf_below _))))))))
  refine wpQuiet_nil ?_
  rintro w1 ⟨s1, e1⟩
  have hb1 := wOf_below s1
  rw [← e1] at hb1
  clear e1 s1
  replace hI6 := hI6.later hb1
  replace hB := bgo hB hb1
  clear hb1
  go_wp2
  go_ret
  exact ⟨rfl, hB⟩
set_option maxHeartbeats 400000 in
theorem causalNames_all (w : World) : Calls Tryd.prog 8 #[] w fun e w' => e = .returned (.bool true) ∧ Below w.heap.size w w' := by
  have HW := hid_of' (wakes11 w)
  go_enter Tryd.func8, Tryd.ntmps8
  go_wp2_with (go_at_call 12; refine HW.out.mono ?_; rintro e w1 ⟨rfl, hb1⟩; clear HW)
  go_ret
  exact ⟨rfl, hb1⟩
end Go.Proofs.YtlkcjbmdeimocaaDoor
