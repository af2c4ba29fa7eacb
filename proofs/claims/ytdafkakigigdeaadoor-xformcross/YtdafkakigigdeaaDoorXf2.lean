
/-
  barrowref07.T: an operation as it must be behind another one, by the document.
-/
import Derived.Test.YtdafkakigigdeaaDoorXfA
namespace Go.Proofs.YtdafkakigigdeaaDoor
open Go.RowKit
set_option maxRecDepth 100000

set_option maxHeartbeats 4000000 in
theorem refT_any (a b : Xo) (w : World) (hp : -9223372036854775808 ≤ a.p) (hp2 : a.p ≤ 9223372036854775807) : Calls Tryd.prog 30 #[.agg (ov a), .agg (ov b)] w fun r w' => r = .returned (.agg (ov (tO a b))) ∧ Below w.heap.size w w' := by
  have r0 : RowAt w.heap.size (ov a) 37 (((w.alloc (.cells (ov a) 37)).alloc (.cells (ov b) 37)).alloc (.cells #[.int .i64 0, .int .i64 0, .int .i32 0, .int .i64 0] 37)) := (row_new w _ _).later (below_two _ _ _)
  have r1 : RowAt (w.heap.size + 1) (ov b) 37 (((w.alloc (.cells (ov a) 37)).alloc (.cells (ov b) 37)).alloc (.cells #[.int .i64 0, .int .i64 0, .int .i32 0, .int .i64 0] 37)) := (row_new2 w _ _ _).later (below_one _ _)
  have r2 : RowAt (w.heap.size + 1 + 1) #[.int .i64 0, .int .i64 0, .int .i32 0, .int .i64 0] 37 _ := row_new3 w (.cells (ov a) 37) (.cells (ov b) 37) #[.int .i64 0, .int .i64 0, .int .i32 0, .int .i64 0] 37
  have hB := below_three w (.cells (ov a) 37) (.cells (ov b) 37) (.cells #[.int .i64 0, .int .i64 0, .int .i32 0, .int .i64 0] 37)
  go_enter Tryd.func30, Tryd.ntmps30
  go_upto_region 1 with fail
  generalize ((w.alloc (.cells (ov a) 37)).alloc (.cells (ov b) 37)).alloc (.cells #[.int .i64 0, .int .i64 0, .int .i32 0, .int .i64 0] 37) = W at r0 r1 r2 hB ⊢
  have a0 : W.cell? ⟨w.heap.size, 0, none⟩ = some (.int .i64 a.k) := r0.cell 0
  have a1 : W.cell? ⟨w.heap.size, 1, none⟩ = some (.int .i64 a.p) := r0.cell 1
  have a3 : W.cell? ⟨w.heap.size, 3, none⟩ = some (.int .i64 a.r) := r0.cell 3
  have b0 : W.cell? ⟨w.heap.size + 1, 0, none⟩ = some (.int .i64 b.k) := r1.cell 0
  have b1 : W.cell? ⟨w.heap.size + 1, 1, none⟩ = some (.int .i64 b.p) := r1.cell 1
  have b3 : W.cell? ⟨w.heap.size + 1, 3, none⟩ = some (.int .i64 b.r) := r1.cell 3
  have af : W.frozen? ⟨w.heap.size, 1, none⟩ = false := Lib.frozen_of_heap r0 1
  have r3 := row_setO r0 (a.p + 1)
  have r4 : RowAt (w.heap.size + 1 + 1) #[.int .i64 0, .int .i64 0, .int .i32 0, .int .i64 0] 37 (W.setCell ⟨w.heap.size, 1, none⟩ (.int .i64 (a.p + 1))) := r2.otherP _ _ (by show ¬ _ = w.heap.size; omega)
  by_cases h1 : b.k = 1
  · have hk : (b.k == 1) = true := by simp [h1]
    by_cases h3 : a.p = 9223372036854775807
    · have ht : Hid (tO a b = a) := by show _ = _; unfold tO; rw [if_neg (fun q => by omega)]
      go_upto_region 2 with fail
      go_wp2_with (first | (refine wpL_loadO rfl _ rfl rfl r0.in ?_) | (refine wpL_storeO rfl _ _ rfl rfl rfl r2 ?_))
      exact bodyPost_ret (v := .agg (ov a)) (results_o (fn := Tryd.f30) (p := 4) rfl rfl (r2.put _)) rfl ⟨by rw [ht.out], below_row hB (by omega) _⟩
    · have e3 := ne_beq h3
      have h4 : a.p < 9223372036854775807 := by omega
      cases h2 : pushB a b with
      | true =>
        have ht : Hid (tO a b = a.up) := by show _ = _; unfold tO; rw [if_pos ⟨h1, h2, h4⟩]
        unfold pushB at h2
        by_cases k1 : a.k = 1
        · rw [if_pos k1] at h2
          by_cases q1 : b.p < a.p
          · clear h2
            go_upto_region 11 with fail
            go_wp2_with (first | (refine wpL_loadO rfl _ rfl rfl r3.in ?_) | (refine wpL_storeO rfl _ _ rfl rfl rfl r4 ?_))
            exact bodyPost_ret (v := .agg (ov a.up)) (results_o (fn := Tryd.f30) (p := 4) rfl rfl (r4.put (ov a.up))) rfl ⟨by rw [ht.out], below_row (below_setO hB (Nat.le_refl _) _ _) (by omega) _⟩
          · have q2 : b.p = a.p ∧ b.r ≤ a.r := by simp at h2; omega
            have q3 := hid_of' q2.1
            have q4 : (b.p == a.p) = true := by simp [q2.1]
            have q5 := q2.2
            have hu : Hid (a.up = ⟨1, a.p + 1, a.c, a.r⟩) := by show _ = _; unfold Xo.up; rw [k1]
            clear h2 q2
            go_upto_region 11 with fail
            go_wp2_with (first | (refine wpL_loadO rfl _ rfl rfl r3.in ?_) | (refine wpL_storeO rfl _ _ rfl rfl rfl r4 ?_))
            exact bodyPost_ret (v := .agg (ov ⟨1, a.p + 1, a.c, a.r⟩)) (results_o (fn := Tryd.f30) (p := 4) rfl rfl (r4.put _)) rfl ⟨by rw [ht.out, hu.out], below_row (below_setO hB (Nat.le_refl _) _ _) (by omega) _⟩
        · have k2 := ne_beq k1
          rw [if_neg k1] at h2
          by_cases k3 : a.k = 3
          · rw [if_pos k3] at h2
            have q1 : b.p ≤ a.p := of_decide_eq_true h2
            have k4 : (a.k == 2) = false := ne_beq (by omega)
            clear h2
            go_upto_region 11 with fail
            go_wp2_with (first | (refine wpL_loadO rfl _ rfl rfl r3.in ?_) | (refine wpL_storeO rfl _ _ rfl rfl rfl r4 ?_))
            exact bodyPost_ret (v := .agg (ov a.up)) (results_o (fn := Tryd.f30) (p := 4) rfl rfl (r4.put (ov a.up))) rfl ⟨by rw [ht.out], below_row (below_setO hB (Nat.le_refl _) _ _) (by omega) _⟩
          · have k4 := ne_beq k3
            rw [if_neg k3] at h2
            by_cases k5 : a.k = 2
            · rw [if_pos k5] at h2
              have q1 : b.p ≤ a.p := of_decide_eq_true h2
              clear h2
              go_upto_region 11 with fail
              go_wp2_with (first | (refine wpL_loadO rfl _ rfl rfl r3.in ?_) | (refine wpL_storeO rfl _ _ rfl rfl rfl r4 ?_))
              exact bodyPost_ret (v := .agg (ov a.up)) (results_o (fn := Tryd.f30) (p := 4) rfl rfl (r4.put (ov a.up))) rfl ⟨by rw [ht.out], below_row (below_setO hB (Nat.le_refl _) _ _) (by omega) _⟩
            · rw [if_neg k5] at h2
              cases h2
      | false =>
        have ht : Hid (tO a b = a) := by show _ = _; unfold tO; rw [if_neg (by rw [h2]; simp)]
        unfold pushB at h2
        by_cases k1 : a.k = 1
        · rw [if_pos k1] at h2
          have q1 : ¬ b.p < a.p := by simp at h2; omega
          by_cases q2 : b.p = a.p
          · have q4 : (b.p == a.p) = true := by simp [q2]
            have q5 : ¬ b.r ≤ a.r := by simp [q2] at h2; omega
            replace q2 := hid_of' q2
            clear h2
            go_upto_region 12 with fail
            go_wp2_with (first | (refine wpL_loadO rfl _ rfl rfl r0.in ?_) | (refine wpL_storeO rfl _ _ rfl rfl rfl r2 ?_))
            exact bodyPost_ret (v := .agg (ov a)) (results_o (fn := Tryd.f30) (p := 4) rfl rfl (r2.put _)) rfl ⟨by rw [ht.out], below_row hB (by omega) _⟩
          · have q4 := ne_beq q2
            clear h2
            go_upto_region 12 with fail
            go_wp2_with (first | (refine wpL_loadO rfl _ rfl rfl r0.in ?_) | (refine wpL_storeO rfl _ _ rfl rfl rfl r2 ?_))
            exact bodyPost_ret (v := .agg (ov a)) (results_o (fn := Tryd.f30) (p := 4) rfl rfl (r2.put _)) rfl ⟨by rw [ht.out], below_row hB (by omega) _⟩
        · have k2 := ne_beq k1
          rw [if_neg k1] at h2
          by_cases k3 : a.k = 3
          · rw [if_pos k3] at h2
            have q1 : ¬ b.p ≤ a.p := of_decide_eq_false h2
            have k4 : (a.k == 2) = false := ne_beq (by omega)
            clear h2
            go_upto_region 12 with fail
            go_wp2_with (first | (refine wpL_loadO rfl _ rfl rfl r0.in ?_) | (refine wpL_storeO rfl _ _ rfl rfl rfl r2 ?_))
            exact bodyPost_ret (v := .agg (ov a)) (results_o (fn := Tryd.f30) (p := 4) rfl rfl (r2.put _)) rfl ⟨by rw [ht.out], below_row hB (by omega) _⟩
          · have k4 := ne_beq k3
            rw [if_neg k3] at h2
            by_cases k5 : a.k = 2
            · rw [if_pos k5] at h2
              have q1 : ¬ b.p ≤ a.p := of_decide_eq_false h2
              clear h2
              go_upto_region 12 with fail
              go_wp2_with (first | (refine wpL_loadO rfl _ rfl rfl r0.in ?_) | (refine wpL_storeO rfl _ _ rfl rfl rfl r2 ?_))
              exact bodyPost_ret (v := .agg (ov a)) (results_o (fn := Tryd.f30) (p := 4) rfl rfl (r2.put _)) rfl ⟨by rw [ht.out], below_row hB (by omega) _⟩
            · have k6 := ne_beq k5
              clear h2
              go_upto_region 12 with fail
              go_wp2_with (first | (refine wpL_loadO rfl _ rfl rfl r0.in ?_) | (refine wpL_storeO rfl _ _ rfl rfl rfl r2 ?_))
              exact bodyPost_ret (v := .agg (ov a)) (results_o (fn := Tryd.f30) (p := 4) rfl rfl (r2.put _)) rfl ⟨by rw [ht.out], below_row hB (by omega) _⟩
  · have hk := ne_beq h1
    have ht := hid_of' (tO_other (a := a) h1)
    go_upto_region 2 with fail
    go_wp2_with (first | (refine wpL_loadO rfl _ rfl rfl r0.in ?_) | (refine wpL_storeO rfl _ _ rfl rfl rfl r2 ?_))
    exact bodyPost_ret (v := .agg (ov a)) (results_o (fn := Tryd.f30) (p := 4) rfl rfl (r2.put _)) rfl ⟨by rw [ht.out], below_row hB (by omega) _⟩
end Go.Proofs.YtdafkakigigdeaaDoor
