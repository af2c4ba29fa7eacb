
/-
  xform.Inverse; barrowlaw07.XformRight.
-/
import Derived.Test.YtbcilnbjhjepgaaDoorXg2
namespace Go.Proofs.YtbcilnbjhjepgaaDoor
open Go.RowKit
set_option maxRecDepth 100000

set_option maxHeartbeats 1000000 in
theorem inverse_any (o : Xo) (w : World) : Calls Tryd.prog 14 #[.agg (ov o)] w fun r w' => r = .returned (.tuple #[.agg (ov (invO o).1), .bool (invO o).2]) ∧ Below w.heap.size w w' := by
  have r0 : RowAt w.heap.size (ov o) 24 ((w.alloc (.cells (ov o) 24)).alloc (.cells #[.int .i64 0, .int .i64 0, .int .i32 0, .int .i64 0] 24)) := (row_new w _ _).later (below_one _ _)
  have r1 : RowAt (w.heap.size + 1) #[.int .i64 0, .int .i64 0, .int .i32 0, .int .i64 0] 24 ((w.alloc (.cells (ov o) 24)).alloc (.cells #[.int .i64 0, .int .i64 0, .int .i32 0, .int .i64 0] 24)) := row_new2 w _ _ _
  have hB := below_two w (.cells (ov o) 24) (.cells #[.int .i64 0, .int .i64 0, .int .i32 0, .int .i64 0] 24)
  go_enter Tryd.func14, Tryd.ntmps14
  go_upto_region 1 with fail
  generalize (w.alloc (.cells (ov o) 24)).alloc (.cells #[.int .i64 0, .int .i64 0, .int .i32 0, .int .i64 0] 24) = W at r0 r1 hB ⊢
  have c1 : W.cell? ⟨w.heap.size, 1, none⟩ = some (.int .i64 o.p) := r0.cell 1
  have c3 : W.cell? ⟨w.heap.size, 3, none⟩ = some (.int .i64 o.r) := r0.cell 3
  go_upto_region 2 with (refine wpL_storeO (e := ⟨2, o.p, 0, o.r⟩) rfl _ _ rfl rfl rfl (row_new W _ _) ?_)
  have hl1 := r1.lt
  have r4 := (row_new W #[.int .i64 0, .int .i64 0, .int .i32 0, .int .i64 0] 24).put (ov ⟨2, o.p, 0, o.r⟩)
  have hb4 : Below W.heap.size W ((W.alloc (.cells #[.int .i64 0, .int .i64 0, .int .i32 0, .int .i64 0] 24)).setRow W.heap.size (ov ⟨2, o.p, 0, o.r⟩)) := below_row (below_one W _) (Nat.le_refl _) _
  generalize (W.alloc (.cells #[.int .i64 0, .int .i64 0, .int .i32 0, .int .i64 0] 24)).setRow W.heap.size (ov ⟨2, o.p, 0, o.r⟩) = W4 at r4 hb4 ⊢
  generalize W.heap.size = g4 at r4 hl1 ⊢
  replace r0 := r0.later hb4
  replace r1 := r1.later hb4
  replace hB := bgo hB hb4
  clear c1 c3 hb4
  have c0 : W4.cell? ⟨w.heap.size, 0, none⟩ = some (.int .i64 o.k) := r0.cell 0
  have hg4 : w.heap.size ≤ g4 := by omega
  by_cases k1 : o.k = 1
  · have hv : Hid (invO o = (⟨2, o.p, 0, o.r⟩, true)) := if_pos k1
    go_wp2_with (first | (refine wpL_loadO (e := ⟨2, o.p, 0, o.r⟩) rfl _ rfl rfl r4.in ?_) | (refine wpL_storeO (e := ⟨2, o.p, 0, o.r⟩) rfl _ _ rfl rfl rfl r1 ?_))
    exact bodyPost_ret (results_o2 (fn := Tryd.f14) (p := 2) (u := 3) rfl rfl (r1.put _)) rfl ⟨by rw [hv.out]; rfl, below_row hB (by omega) _⟩
  · have e1 := ne_beq k1
    by_cases k3 : o.k = 3
    · have hv : Hid (invO o = (⟨2, o.p, 0, o.r⟩, true)) := by show _ = _; unfold invO; rw [if_neg k1, if_pos k3]
      go_wp2_with (first | (refine wpL_loadO (e := ⟨2, o.p, 0, o.r⟩) rfl _ rfl rfl r4.in ?_) | (refine wpL_storeO (e := ⟨2, o.p, 0, o.r⟩) rfl _ _ rfl rfl rfl r1 ?_))
      exact bodyPost_ret (results_o2 (fn := Tryd.f14) (p := 2) (u := 3) rfl rfl (r1.put _)) rfl ⟨by rw [hv.out]; rfl, below_row hB (by omega) _⟩
    · have e3 := ne_beq k3
      by_cases k2 : o.k = 2
      · have hv : Hid (invO o = (⟨3, o.p, 0, o.r⟩, true)) := by show _ = _; unfold invO; rw [if_neg k1, if_neg k3, if_pos k2]
        have d0 : W4.cell? ⟨g4, 0, none⟩ = some (.int .i64 2) := r4.cell 0
        have f0 : W4.frozen? ⟨g4, 0, none⟩ = false := Lib.frozen_of_heap r4 0
        go_upto_region 8 with fail
        replace r4 : RowAt g4 (ov ⟨3, o.p, 0, o.r⟩) 24 (W4.setCell ⟨g4, 0, none⟩ (.int .i64 3)) := heap_setCell_at r4 0 _
        replace r1 : RowAt (w.heap.size + 1) #[.int .i64 0, .int .i64 0, .int .i32 0, .int .i64 0] 24 (W4.setCell ⟨g4, 0, none⟩ (.int .i64 3)) := r1.otherP _ _ (by show ¬ _ = g4; omega)
        replace hB : Below w.heap.size w (W4.setCell ⟨g4, 0, none⟩ (.int .i64 3)) := below_setO hB hg4 _ _
        generalize W4.setCell ⟨g4, 0, none⟩ (.int .i64 3) = W5 at r4 r1 hB ⊢
        clear d0 f0 c0
        go_wp2_with (first | (refine wpL_loadO (e := ⟨3, o.p, 0, o.r⟩) rfl _ rfl rfl r4.in ?_) | (refine wpL_storeO (e := ⟨3, o.p, 0, o.r⟩) rfl _ _ rfl rfl rfl r1 ?_))
        exact bodyPost_ret (results_o2 (fn := Tryd.f14) (p := 2) (u := 3) rfl rfl (r1.put _)) rfl ⟨by rw [hv.out]; rfl, below_row hB (by omega) _⟩
      · have e2 := ne_beq k2
        have hv : Hid (invO o = (⟨0, 0, 0, 0⟩, false)) := by show _ = _; unfold invO; rw [if_neg k1, if_neg k3, if_neg k2]
        go_wp2_with (first | (refine wpL_loadO (e := ⟨0, 0, 0, 0⟩) rfl _ rfl rfl r4.in ?_) | (refine wpL_storeO (e := ⟨0, 0, 0, 0⟩) rfl _ _ rfl rfl rfl r1 ?_))
        exact bodyPost_ret (results_o2 (fn := Tryd.f14) (p := 2) (u := 3) rfl rfl (r1.put _)) rfl ⟨by rw [hv.out]; rfl, below_row hB (by omega) _⟩

theorem refValid7_is {o : Xo} {n : Int} {v : Bool} (h : validO o n = v) (w : World) : Calls Tryd.prog 13 #[.agg (ov o), .int .i64 n] w fun r w' => r = .returned (.bool v) ∧ Below w.heap.size w w' := h ▸ refValid7_any o n w
set_option maxHeartbeats 1000000 in
theorem xformRight_all {W : World} {v0 : Value} {l : List Xo} (n : Int) (h0 : SlO W v0 l) (hml : l.length ≤ 9223372036854775807) :
    Calls Tryd.prog 4 #[v0, .int .i64 n] W fun r w' => r = .returned (.bool true) ∧ Below W.heap.size W w' := by
  obtain ⟨a0, c0, rfl⟩ := h0.form
  have HW := hid_of' wakes7_ok
  go_enter Tryd.func4, Tryd.ntmps4
  go_wp2
  go_loopw [5] (fun i wr => ∃ k : Nat, i = .int .i64 (k : Int) ∧ k ≤ l.length ∧ Below W.heap.size W wr) (fun i _ => l.length - (intOf i).toNat)
  case atStart => exact ⟨0, rfl, Nat.zero_le _, Below.refl _ _⟩
  case round =>
    obtain ⟨k, rfl, hk, hB⟩ := hrel
    by_cases q0 : k < l.length
    · have p0 : (k : Int) < (l.length : Int) := by omega
      obtain ⟨g0, o0, rfl, hc0⟩ := (h0.later hB).some (by omega)
      obtain ⟨a, ha⟩ : ∃ a, l[k]? = some a := ⟨_, List.getElem?_eq_getElem q0⟩
      have hea := hc0 k a ha
      clear hc0 ha
      have d1 : ∀ s : Wld wr, (wOf s).cell? ⟨g0, o0 + k * 4 + 1, none⟩ = some (.int .i64 a.p) := fun s => (hea.cls _ ⟨s, rfl⟩).2 1 _ rfl
      obtain ⟨b1, e1⟩ : ∃ b, rightO a = b := ⟨_, rfl⟩
      obtain ⟨b2, e2⟩ : ∃ b, validO a n = b := ⟨_, rfl⟩
      obtain ⟨b3, e3⟩ : ∃ b, validO a a.p = b := ⟨_, rfl⟩
      go_upto_region 4 with fail
      refine wp_region_cls (by kernel_rfl) (by kernel_rfl) ?_
      repeat (first | go_big_quiet_skip | (go_big_quiet_want; first | (refine quiet_load_in _ _ rfl rfl hea.cls Tryd.underlying24 rfl (o_size a) ?_; simp only [Act.put, List.setIfInBounds_toArray, List.set_cons_succ, List.set_cons_zero]; go_big_quiet_on) | (go_big_quiet_op; first | go_big_quiet_on | go_big_quiet_call ((first | (go_at_call 10; with_reducible exact cls_of (rightX_is e1 _)) | (go_at_call 11; with_reducible exact cls_of (refRight7_is e1 _)) | (go_at_call 12; first | with_reducible exact cls_of (validX_is e2 _) | with_reducible exact cls_of (validX_is e3 _)) | (go_at_call 13; first | with_reducible exact cls_of (refValid7_is e2 _) | with_reducible exact cls_of (refValid7_is e3 _)))))))
      refine wpQuiet_nil ?_
      rintro w1 ⟨s1, e1⟩
      have hb1 := wOf_below s1
      rw [← e1] at hb1
      clear e1 s1
      replace hea := hea.later hb1
      replace hB := bgo hB hb1
      clear hb1
      obtain ⟨iv, ei⟩ : ∃ x, (invO a).1 = x := ⟨_, rfl⟩
      obtain ⟨ib, eb⟩ : ∃ x, (invO a).2 = x := ⟨_, rfl⟩
      have HI := hid_of' (fun x => inverse_any a x)
      have HR := hid_of' (fun x => refInverse_any a x)
      rw [ei, eb] at HI HR
      clear ei eb e1 e2 e3 d1
      go_upto_region 7 with (first | (refine wpL_loadO rfl _ rfl rfl hea ?_) | (go_at_call 14; refine (HI.out _).mono ?_; rintro r w2 ⟨rfl, hb2⟩) | (refine wpL_storeO (e := iv) rfl _ _ rfl rfl rfl (row_new w2 _ _) ?_))
      have r2 := (row_new w2 #[.int .i64 0, .int .i64 0, .int .i32 0, .int .i64 0] 24).put (ov iv)
      have hb3 : Below w1.heap.size w1 ((w2.alloc (.cells #[.int .i64 0, .int .i64 0, .int .i32 0, .int .i64 0] 24)).setRow w2.heap.size (ov iv)) := bgo hb2 (below_row (below_one w2 _) (Nat.le_refl _) _)
      generalize (w2.alloc (.cells #[.int .i64 0, .int .i64 0, .int .i32 0, .int .i64 0] 24)).setRow w2.heap.size (ov iv) = w3 at r2 hb3 ⊢
      generalize w2.heap.size = g2 at r2 ⊢
      replace hB := bgo hB hb3
      replace hea := hea.later hb3
      clear hb2 hb3 w2
      go_upto_region 8 with (first | (refine wpL_loadO rfl _ rfl rfl hea ?_) | (go_at_call 15; refine (HR.out _).mono ?_; rintro r w4 ⟨rfl, hb4⟩) | (refine wpL_storeO (e := iv) rfl _ _ rfl rfl rfl (row_new w4 _ _) ?_))
      have r4 := (row_new w4 #[.int .i64 0, .int .i64 0, .int .i32 0, .int .i64 0] 24).put (ov iv)
      have hb5 : Below w3.heap.size w3 ((w4.alloc (.cells #[.int .i64 0, .int .i64 0, .int .i32 0, .int .i64 0] 24)).setRow w4.heap.size (ov iv)) := bgo hb4 (below_row (below_one w4 _) (Nat.le_refl _) _)
      generalize (w4.alloc (.cells #[.int .i64 0, .int .i64 0, .int .i32 0, .int .i64 0] 24)).setRow w4.heap.size (ov iv) = w5 at r4 hb5 ⊢
      generalize w4.heap.size = g4 at r4 ⊢
      replace hB := bgo hB hb5
      replace r2 := r2.later hb5
      clear hb4 hb5 w4 hea HI HR
      have hq := eq_O iv
      go_wp2_with (first | (refine wpL_loadO rfl _ rfl rfl r2.in ?_) | (refine wpL_loadO rfl _ rfl rfl r4.in ?_))
      go_roundw
      case rel => exact ⟨k + 1, by go_num, by omega, hB⟩
      case measure => simp [intOf]; omega
    · have p0 : ¬ (k : Int) < (l.length : Int) := by omega
      go_wp2_with (go_at_call 9; refine (HW.out _).mono ?_; rintro r w9 ⟨rfl, hb9⟩)
      go_ret
      exact ⟨rfl, bgo hB hb9⟩
end Go.Proofs.YtbcilnbjhjepgaaDoor
