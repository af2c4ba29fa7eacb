/-
  barrowlaw03.ClockLists of no clocks; any clocks that came in.
-/
import Derived.Test.YtceahohcmhbkmaaDoorCkListsOk
import Derived.Deep.Strs
namespace Go.Proofs.YtceahohcmhbkmaaDoor
open Go.ChangeShapes Go.WideShapes Go.ChangeAt Go.RowKit Go.Deep
set_option maxRecDepth 100000

set_option maxHeartbeats 1000000 in
theorem listsC_nil (x : List Int) (a : Option Addr) (c : Nat) (w : World) (hx : x.length = 8) :
    Calls Tryd.prog 7 #[.slice a 0 c, .agg (cv x)] w fun e w' => e = .returned (.bool true) ∧ Below w.heap.size w w' := by
  have SV : Hid (∀ w', SlV w' (.slice a 0 c) []) := fun w' => .inl ⟨rfl, a, c, rfl⟩
  have FM : Hid (∀ w', Calls Tryd.prog 29 #[.slice a 0 c] w' fun e w'' => e = .returned (.agg (cv ck0)) ∧ Below w'.heap.size w' w'') := fun w' => most_any [] _ w' (SV.out w')
  have FL : Hid (∀ w', Calls Tryd.prog 30 #[.slice a 0 c] w' fun e w'' => e = .returned (.agg (cv ck0)) ∧ Below w'.heap.size w' w'') := fun w' => least_any [] _ w' (SV.out w')
  have GM : Hid (∀ w', Calls Tryd.prog 31 #[.slice a 0 c] w' fun e w'' => e = .returned (.agg (cv ck0)) ∧ Below w'.heap.size w' w'') := fun w' => refGreatest_v [] _ w' (SV.out w')
  have GL : Hid (∀ w', Calls Tryd.prog 32 #[.slice a 0 c] w' fun e w'' => e = .returned (.agg (cv ck0)) ∧ Below w'.heap.size w' w'') := fun w' => refLeast_v [] _ w' (SV.out w')
  clear SV
  have hg := ck_guard
  have q1 := eqIn_ck ck0 ck0 rfl rfl
  have s1 : (ck0 == ck0) = true := by simp
  have h3 := CkAt.new w hx
  have hB := below_one w (.cells (cv x) 23)
  go_enter Tryd.func7, Tryd.ntmps7
  go_upto_region 2 with (first | (go_at_call 29; refine (FM.out _).mono ?_; rintro e w1 ⟨rfl, hb1⟩) | (go_at_call 30; refine (FL.out _).mono ?_; rintro e w2 ⟨rfl, hb2⟩) | (refine wpL_store rfl _ _ rfl rfl rfl (start2 w2 (a := ck0) (b := ck0) rfl rfl).1 (v := ck0) rfl ?_) | (refine wpL_store rfl _ _ rfl rfl rfl ((start2 w2 (a := ck0) (b := ck0) rfl rfl).2.1.rowOther w2.heap.size (cv ck0) (by omega)) (v := ck0) rfl ?_))
  obtain ⟨z1, z2, zB⟩ := start2 w2 (a := ck0) (b := ck0) rfl rfl
  have h5 := (z1.row (y := ck0) rfl).rowOther (w2.heap.size + 1) (cv ck0) (by omega)
  have h6 := (z2.rowOther w2.heap.size (cv ck0) (by omega)).row (y := ck0) rfl
  have zB2 := below_row (below_row zB (g := w2.heap.size) (by omega) (cv ck0)) (g := w2.heap.size + 1) (by omega) (cv ck0)
  replace hB := bgo (bgo (bgo hB hb1) hb2) zB2
  clear z1 z2 zB zB2 hb1 hb2 h3
  simp only [Act.put]
  refine wp_region_cls (by kernel_rfl) (by kernel_rfl) ?_
  repeat (first | go_big_quiet_skip | (go_big_quiet_want; first | (refine quiet_load_ck _ rfl rfl (cls_ck h5) ?_; simp only [Act.put, List.setIfInBounds_toArray, List.set_cons_succ, List.set_cons_zero]; go_big_quiet_on) | (refine quiet_load_ck _ rfl rfl (cls_ck h6) ?_; simp only [Act.put, List.setIfInBounds_toArray, List.set_cons_succ, List.set_cons_zero]; go_big_quiet_on) | (go_big_quiet_op; first | go_big_quiet_on | go_big_quiet_call ((first | (go_at_call 31; exact cls_of (GM.out _)) | (go_at_call 32; exact cls_of (GL.out _)))))))
  refine wpQuiet_nil ?_
  rintro w1 ⟨s1, e1⟩
  have hb1 := wOf_below s1
  rw [← e1] at hb1
  clear e1 s1
  replace h5 := h5.later hb1
  replace h6 := h6.later hb1
  replace hB := bgo hB hb1
  clear hb1
  go_wp2
  go_loopw [9] (fun i wr => i = .int .i64 0 ∧ Below w.heap.size w wr) (fun _ _ => 0)
  case atStart => exact ⟨rfl, hB⟩
  case round =>
    clear h5 h6 hB q1 s1
    obtain ⟨rfl, hB⟩ := hrel
    go_wp2_with (go_at_call 17; refine (wakesC_ok _).mono ?_; rintro e w3 ⟨rfl, hb3⟩)
    go_ret
    exact ⟨rfl, bgo hB hb3⟩

theorem listsC_all (l : List (List Int)) (v : Value) (x : List Int) (w : World) (hx : x.length = 8) (hl : SlV w v l) :
    Calls Tryd.prog 7 #[v, .agg (cv x)] w fun e w' => e = .returned (.bool true) ∧ Below w.heap.size w w' := by
  rcases hl with ⟨_, a, c, rfl⟩ | ⟨g, o, c, rfl, h0, hc, hl⟩
  · exact listsC_nil x a c w hx
  · exact listsC_ok l x g o c w hx h0 hc hl

section
variable {H : Type} {enc : TypeId × Value → H} {W : World} {base : Nat}
/-- Clocks that came in. -/
theorem open_cks {v : Value} {d : DataW H} {p : List MemPlace} (hval : Value.okWide Tryd.prog W .any base 53 v) (h : DataW.Trod enc Tryd.prog W 0 (fun _ => true) true 53 v d p) :
    ∃ l : List (List Int), SlV W v l := by
  obtain ⟨a1, len, cap, rfl⟩ := okWide_slice Tryd.underlying53 hval
  obtain ⟨fuel, hf⟩ := h
  rcases open_slice Tryd.underlying53 hf with ⟨hcs, hx⟩ | ⟨a, len', cap', m, n, D, Pl, hcs, _, hl, hm, hmm, hx, hcell⟩
  · simp [Value.cells] at hcs
    obtain ⟨rfl, rfl, rfl⟩ := hcs
    exact ⟨[], .inl ⟨rfl, _, _, rfl⟩⟩
  · simp [Value.cells] at hcs
    obtain ⟨rfl, rfl, rfl⟩ := hcs
    simp only [if_true] at hmm
    subst hmm
    have each : ∀ i, i < len → ∃ x : List Int, Ck x ∧ ∀ j v, (cv x)[j]? = some v → W.cell? (a.add (i * 8 + j)) = some v := by
      intro i hi
      obtain ⟨cs', h1, h2⟩ := hcell i (by omega)
      rw [cellsCk] at h1
      obtain ⟨_, hlen, hc⟩ := World.cells?_some h1
      obtain ⟨x, ex, hx⟩ := open_cells8 h2
      refine ⟨x, hx, fun j v hv => ?_⟩
      rw [cv, ← ex] at hv
      have hj : j < 8 := by
        have := (Array.getElem?_eq_some_iff.1 hv).1
        simpa [hlen] using this
      have := hc j hj
      rw [add_add] at this
      rw [this]
      simpa using hv
    obtain ⟨f, hf⟩ := choose_lt (α := List Int) each
    refine ⟨(List.range len).map f, ?_⟩
    by_cases h0 : len = 0
    · subst h0
      exact .inl ⟨by simp, _, _, rfl⟩
    · obtain ⟨ab, ao, spot⟩ := a
      have c0 := (hf 0 (by omega)).2 0 _ (cv_get (by rw [(hf 0 (by omega)).1.1]; decide))
      have hspot : spot = none := by simpa [Addr.add] using World.cell?_spot c0
      subst hspot
      have hblk : ab < W.heap.size := by
        have := World.block_lt_of_cell? _ _ c0
        simpa [Addr.add] using this
      refine .inr ⟨ab, ao, _, by rw [List.length_map, List.length_range], by simpa using (by omega : 0 < len), by simpa using hl, by simpa using (by omega : len ≤ maxLen), fun i x hi => ?_⟩
      have hil : i < len := by have := (List.getElem?_eq_some_iff.1 hi).1; simpa using this
      have hx : f i = x := by
        simp only [List.getElem?_map, List.getElem?_range hil, Option.map_some, Option.some.injEq] at hi
        exact hi
      have := hf i hil
      rw [hx] at this
      refine ⟨this.1, hblk, fun j v hv => ?_⟩
      have h3 := this.2 j v hv
      rw [Addr.add_lit] at h3
      rw [Nat.add_assoc]; exact h3
end
end Go.Proofs.YtceahohcmhbkmaaDoor
