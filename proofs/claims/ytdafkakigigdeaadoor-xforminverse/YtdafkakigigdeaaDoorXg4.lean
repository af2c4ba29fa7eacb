
/-
  xform.Inverse; barrowlaw07.XformRight.
-/
import Derived.Test.YtdafkakigigdeaaDoorXg2
namespace Go.Proofs.YtdafkakigigdeaaDoor
open Go.RowKit
set_option maxRecDepth 100000

set_option maxHeartbeats 1000000 in
theorem inverse_any (o : Xo) (w : World) : Calls Tryd.prog 19 #[.agg (ov o)] w fun r w' => r = .returned (.tuple #[.agg (ov (invO o).1), .bool (invO o).2]) ∧ Below w.heap.size w w' := by
  have r0 : RowAt w.heap.size (ov o) 37 ((w.alloc (.cells (ov o) 37)).alloc (.cells #[.int .i64 0, .int .i64 0, .int .i32 0, .int .i64 0] 37)) := (row_new w _ _).later (below_one _ _)
  have r1 : RowAt (w.heap.size + 1) #[.int .i64 0, .int .i64 0, .int .i32 0, .int .i64 0] 37 ((w.alloc (.cells (ov o) 37)).alloc (.cells #[.int .i64 0, .int .i64 0, .int .i32 0, .int .i64 0] 37)) := row_new2 w _ _ _
  have hB := below_two w (.cells (ov o) 37) (.cells #[.int .i64 0, .int .i64 0, .int .i32 0, .int .i64 0] 37)
  go_enter Tryd.func19, Tryd.ntmps19
  go_upto_region 1 with fail
  generalize (w.alloc (.cells (ov o) 37)).alloc (.cells #[.int .i64 0, .int .i64 0, .int .i32 0, .int .i64 0] 37) = W at r0 r1 hB ⊢
  have c1 : W.cell? ⟨w.heap.size, 1, none⟩ = some (.int .i64 o.p) := r0.cell 1
  have c3 : W.cell? ⟨w.heap.size, 3, none⟩ = some (.int .i64 o.r) := r0.cell 3
  go_upto_region 2 with (refine wpL_storeO (e := ⟨2, o.p, 0, o.r⟩) rfl _ _ rfl rfl rfl (row_new W _ _) ?_)
  have hl1 := r1.lt
  have r4 := (row_new W #[.int .i64 0, .int .i64 0, .int .i32 0, .int .i64 0] 37).put (ov ⟨2, o.p, 0, o.r⟩)
  have hb4 : Below W.heap.size W ((W.alloc (.cells #[.int .i64 0, .int .i64 0, .int .i32 0, .int .i64 0] 37)).setRow W.heap.size (ov ⟨2, o.p, 0, o.r⟩)) := below_row (below_one W _) (Nat.le_refl _) _
  generalize (W.alloc (.cells #[.int .i64 0, .int .i64 0, .int .i32 0, .int .i64 0] 37)).setRow W.heap.size (ov ⟨2, o.p, 0, o.r⟩) = W4 at r4 hb4 ⊢
  generalize W.heap.size = g4 at r4 hl1 ⊢
  replace r0 := r0.later hb4
  replace r1 := r1.later hb4
  replace hB := bgo hB hb4
  clear c1 c3 hb4
  have c0 : W4.cell? ⟨w.heap.size, 0, none⟩ = some (.int .i64 o.k) := r0.cell 0
  have hg4 : w.heap.size ≤ g4 := by omega
  by_cases k1 : o.k = 1
  · have hv : Hid (invO o = (⟨2, o.p, 0, o.r⟩, true)) := if_pos k1
    go_wp2_with (first | (refine wpL_loadO (e := ⟨2, o.p, 0, o.r⟩) rfl _ rfl rfl r4.in ?_) | (refine wpL_storeO (e := ⟨2, o.p, 0, o.r⟩) rfl _ _ rfl rfl rfl r1 ?_))
    exact bodyPost_ret (results_o2 (fn := Tryd.f19) (p := 2) (u := 3) rfl rfl (r1.put _)) rfl ⟨by rw [hv.out]; rfl, below_row hB (by omega) _⟩
  · have e1 := ne_beq k1
    by_cases k3 : o.k = 3
    · have hv : Hid (invO o = (⟨2, o.p, 0, o.r⟩, true)) := by show _ = _; unfold invO; rw [if_neg k1, if_pos k3]
      go_wp2_with (first | (refine wpL_loadO (e := ⟨2, o.p, 0, o.r⟩) rfl _ rfl rfl r4.in ?_) | (refine wpL_storeO (e := ⟨2, o.p, 0, o.r⟩) rfl _ _ rfl rfl rfl r1 ?_))
      exact bodyPost_ret (results_o2 (fn := Tryd.f19) (p := 2) (u := 3) rfl rfl (r1.put _)) rfl ⟨by rw [hv.out]; rfl, below_row hB (by omega) _⟩
    · have e3 := ne_beq k3
      by_cases k2 : o.k = 2
      · have hv : Hid (invO o = (⟨3, o.p, 0, o.r⟩, true)) := by show _ = _; unfold invO; rw [if_neg k1, if_neg k3, if_pos k2]
        have d0 : W4.cell? ⟨g4, 0, none⟩ = some (.int .i64 2) := r4.cell 0
        have f0 : W4.frozen? ⟨g4, 0, none⟩ = false := Lib.frozen_of_heap r4 0
        go_upto_region 8 with fail
        replace r4 : RowAt g4 (ov ⟨3, o.p, 0, o.r⟩) 37 (W4.setCell ⟨g4, 0, none⟩ (.int .i64 3)) := heap_setCell_at r4 0 _
        replace r1 : RowAt (w.heap.size + 1) #[.int .i64 0, .int .i64 0, .int .i32 0, .int .i64 0] 37 (W4.setCell ⟨g4, 0, none⟩ (.int .i64 3)) := r1.otherP _ _ (by show ¬ _ = g4; omega)
        replace hB : Below w.heap.size w (W4.setCell ⟨g4, 0, none⟩ (.int .i64 3)) := below_setO hB hg4 _ _
        generalize W4.setCell ⟨g4, 0, none⟩ (.int .i64 3) = W5 at r4 r1 hB ⊢
        clear d0 f0 c0
        go_wp2_with (first | (refine wpL_loadO (e := ⟨3, o.p, 0, o.r⟩) rfl _ rfl rfl r4.in ?_) | (refine wpL_storeO (e := ⟨3, o.p, 0, o.r⟩) rfl _ _ rfl rfl rfl r1 ?_))
        exact bodyPost_ret (results_o2 (fn := Tryd.f19) (p := 2) (u := 3) rfl rfl (r1.put _)) rfl ⟨by rw [hv.out]; rfl, below_row hB (by omega) _⟩
      · have e2 := ne_beq k2
        have hv : Hid (invO o = (⟨0, 0, 0, 0⟩, false)) := by show _ = _; unfold invO; rw [if_neg k1, if_neg k3, if_neg k2]
        go_wp2_with (first | (refine wpL_loadO (e := ⟨0, 0, 0, 0⟩) rfl _ rfl rfl r4.in ?_) | (refine wpL_storeO (e := ⟨0, 0, 0, 0⟩) rfl _ _ rfl rfl rfl r1 ?_))
        exact bodyPost_ret (results_o2 (fn := Tryd.f19) (p := 2) (u := 3) rfl rfl (r1.put _)) rfl ⟨by rw [hv.out]; rfl, below_row hB (by omega) _⟩

end Go.Proofs.YtdafkakigigdeaaDoor
