
/-
  Package flatten: isOpen, Vote, Verdict, and the document's.
-/
import Derived.Test.YtfgcljpiidhfpaaDoorFl1
namespace Go.Proofs.YtfgcljpiidhfpaaDoor
open Go.RowKit
set_option maxRecDepth 100000

theorem rcv_num (r : Rnd) : (cv (rc r))[0]? = some (.int .i64 r.num) := rfl
theorem rcv_dec {r : Rnd} (h : r.Ok) : (cv (rc r))[17]? = some (.int .i64 r.dec) := by rw [cv_get (by rw [rc_len h]; decide), rc_dec h]
theorem rcv_vot {r : Rnd} (h : r.Ok) {k : Nat} (hk : k < 8) : (cv (rc r))[9 + k]? = some (.int .i64 (en r.vot k)) := by rw [cv_get (by rw [rc_len h]; omega), rc_vot h hk]
theorem openR_iff (r : Rnd) : openR r = true ↔ 1 ≤ r.num ∧ r.dec = 0 := by simp [openR]

theorem isOpen_any (r : Rnd) (h : r.Ok) (w : World) :
    Calls Tryd.prog 56 #[.agg (cv (rc r))] w fun e w' => e = .returned (.bool (openR r)) ∧ Below w.heap.size w w' := by
  have c0 := rcv_num r
  have c1 := rcv_dec h
  by_cases h1 : 1 ≤ r.num
  · have HV : Hid (openR r = (r.dec == 0)) := by simp [Hid, openR, h1]
    go_enter Tryd.func56, Tryd.ntmps56
    go_wp2
    go_ret
    exact ⟨by rw [HV.out]; rfl, below_one _ _⟩
  · have HV : Hid (openR r = false) := by simp [Hid, openR]; omega
    go_enter Tryd.func56, Tryd.ntmps56
    go_wp2
    go_ret
    exact ⟨by rw [HV.out]; rfl, below_one _ _⟩
theorem refOpen_any (r : Rnd) (h : r.Ok) (w : World) :
    Calls Tryd.prog 65 #[.agg (cv (rc r))] w fun e w' => e = .returned (.bool (openR r)) ∧ Below w.heap.size w w' := by
  have c0 := rcv_num r
  have c1 := rcv_dec h
  by_cases h1 : 1 ≤ r.num
  · have HV : Hid (openR r = (r.dec == 0)) := by simp [Hid, openR, h1]
    go_enter Tryd.func65, Tryd.ntmps65
    go_wp2
    go_ret
    exact ⟨by rw [HV.out]; rfl, below_one _ _⟩
  · have HV : Hid (openR r = false) := by simp [Hid, openR]; omega
    go_enter Tryd.func65, Tryd.ntmps65
    go_wp2
    go_ret
    exact ⟨by rw [HV.out]; rfl, below_one _ _⟩

set_option maxHeartbeats 400000 in
theorem vote_any (a b : List Int) (w : World) (ha : a.length = 8) (hb : b.length = 8) :
    Calls Tryd.prog 17 #[.agg (cv a), .agg (cv b)] w fun e w' => e = .returned (.int .i64 (voteR a b)) ∧ Below w.heap.size w w' := by
  obtain ⟨h1, h2, hB⟩ := start2 w ha hb
  have hq := eqIn_ck a b ha hb
  have hg := ck_guard
  by_cases he : a = b
  · have hcm : (a == b) = true := by simpa using he
    have HV : Hid (voteR a b = 1) := if_pos he
    clear he
    go_enter Tryd.func17, Tryd.ntmps17
    go_upto_region 1 with fail
    refine wp_region_cls0 ?_
    repeat (first | go_big_quiet_skip | (go_big_quiet_want; first | (refine quiet_load_ck _ rfl rfl (cls_ck h1) ?_; simp only [Act.put, List.setIfInBounds_toArray, List.set_cons_succ, List.set_cons_zero]; go_big_quiet_on) | (refine quiet_load_ck _ rfl rfl (cls_ck h2) ?_; simp only [Act.put, List.setIfInBounds_toArray, List.set_cons_succ, List.set_cons_zero]; go_big_quiet_on) | (go_big_quiet_op; first | go_big_quiet_on | go_big_quiet_call ((fail)))))
    refine wpQuiet_nil ?_
    rintro w1 ⟨s1, e1⟩
    have hb1 := wOf_below s1
    rw [← e1] at hb1
    clear e1 s1
    replace h1 := h1.later hb1
    replace h2 := h2.later hb1
    replace hB := bgo hB hb1
    clear hb1
    go_wp2
    go_ret
    exact ⟨by rw [HV.out]; rfl, hB⟩
  · have hcm : (a == b) = false := by simpa using he
    cases hab : cov a b
    · have HV : Hid (voteR a b = 2) := by unfold Hid voteR; rw [if_neg he, hab]; rfl
      clear he
      go_enter Tryd.func17, Tryd.ntmps17
      go_upto_region 1 with fail
      refine wp_region_cls0 ?_
      repeat (first | go_big_quiet_skip | (go_big_quiet_want; first | (refine quiet_load_ck _ rfl rfl (cls_ck h1) ?_; simp only [Act.put, List.setIfInBounds_toArray, List.set_cons_succ, List.set_cons_zero]; go_big_quiet_on) | (refine quiet_load_ck _ rfl rfl (cls_ck h2) ?_; simp only [Act.put, List.setIfInBounds_toArray, List.set_cons_succ, List.set_cons_zero]; go_big_quiet_on) | (go_big_quiet_op; first | go_big_quiet_on | go_big_quiet_call ((fail)))))
      refine wpQuiet_nil ?_
      rintro w1 ⟨s1, e1⟩
      have hb1 := wOf_below s1
      rw [← e1] at hb1
      clear e1 s1
      replace h1 := h1.later hb1
      replace h2 := h2.later hb1
      replace hB := bgo hB hb1
      clear hb1
      go_upto_region 3 with fail
      refine wp_region_cls0 ?_
      repeat (first | go_big_quiet_skip | (go_big_quiet_want; first | (refine quiet_load_ck _ rfl rfl (cls_ck h1) ?_; simp only [Act.put, List.setIfInBounds_toArray, List.set_cons_succ, List.set_cons_zero]; go_big_quiet_on) | (refine quiet_load_ck _ rfl rfl (cls_ck h2) ?_; simp only [Act.put, List.setIfInBounds_toArray, List.set_cons_succ, List.set_cons_zero]; go_big_quiet_on) | (go_big_quiet_op; first | go_big_quiet_on | go_big_quiet_call ((go_at_call 48; exact cls_of (covers_is hab _ ha hb))))))
      refine wpQuiet_nil ?_
      rintro w1 ⟨s1, e1⟩
      have hb1 := wOf_below s1
      rw [← e1] at hb1
      clear e1 s1
      replace h1 := h1.later hb1
      replace h2 := h2.later hb1
      replace hB := bgo hB hb1
      clear hb1
      go_wp2
      go_ret
      exact ⟨by rw [HV.out]; rfl, hB⟩
    · have HV : Hid (voteR a b = 0) := by unfold Hid voteR; rw [if_neg he, hab]; rfl
      clear he
      go_enter Tryd.func17, Tryd.ntmps17
      go_upto_region 1 with fail
      refine wp_region_cls0 ?_
      repeat (first | go_big_quiet_skip | (go_big_quiet_want; first | (refine quiet_load_ck _ rfl rfl (cls_ck h1) ?_; simp only [Act.put, List.setIfInBounds_toArray, List.set_cons_succ, List.set_cons_zero]; go_big_quiet_on) | (refine quiet_load_ck _ rfl rfl (cls_ck h2) ?_; simp only [Act.put, List.setIfInBounds_toArray, List.set_cons_succ, List.set_cons_zero]; go_big_quiet_on) | (go_big_quiet_op; first | go_big_quiet_on | go_big_quiet_call ((fail)))))
      refine wpQuiet_nil ?_
      rintro w1 ⟨s1, e1⟩
      have hb1 := wOf_below s1
      rw [← e1] at hb1
      clear e1 s1
      replace h1 := h1.later hb1
      replace h2 := h2.later hb1
      replace hB := bgo hB hb1
      clear hb1
      go_upto_region 3 with fail
      refine wp_region_cls0 ?_
      repeat (first | go_big_quiet_skip | (go_big_quiet_want; first | (refine quiet_load_ck _ rfl rfl (cls_ck h1) ?_; simp only [Act.put, List.setIfInBounds_toArray, List.set_cons_succ, List.set_cons_zero]; go_big_quiet_on) | (refine quiet_load_ck _ rfl rfl (cls_ck h2) ?_; simp only [Act.put, List.setIfInBounds_toArray, List.set_cons_succ, List.set_cons_zero]; go_big_quiet_on) | (go_big_quiet_op; first | go_big_quiet_on | go_big_quiet_call ((go_at_call 48; exact cls_of (covers_is hab _ ha hb))))))
      refine wpQuiet_nil ?_
      rintro w1 ⟨s1, e1⟩
      have hb1 := wOf_below s1
      rw [← e1] at hb1
      clear e1 s1
      replace h1 := h1.later hb1
      replace h2 := h2.later hb1
      replace hB := bgo hB hb1
      clear hb1
      go_wp2
      go_ret
      exact ⟨by rw [HV.out]; rfl, hB⟩
set_option maxHeartbeats 400000 in
theorem refVote_any (a b : List Int) (w : World) (ha : a.length = 8) (hb : b.length = 8) :
    Calls Tryd.prog 18 #[.agg (cv a), .agg (cv b)] w fun e w' => e = .returned (.int .i64 (voteR a b)) ∧ Below w.heap.size w w' := by
  obtain ⟨h1, h2, hB⟩ := start2 w ha hb
  have hq := eqIn_ck a b ha hb
  have hg := ck_guard
  by_cases he : a = b
  · have hcm : (a == b) = true := by simpa using he
    have HV : Hid (voteR a b = 1) := if_pos he
    clear he
    go_enter Tryd.func18, Tryd.ntmps18
    go_upto_region 1 with fail
    refine wp_region_cls0 ?_
    repeat (first | go_big_quiet_skip | (go_big_quiet_want; first | (refine quiet_load_ck _ rfl rfl (cls_ck h1) ?_; simp only [Act.put, List.setIfInBounds_toArray, List.set_cons_succ, List.set_cons_zero]; go_big_quiet_on) | (refine quiet_load_ck _ rfl rfl (cls_ck h2) ?_; simp only [Act.put, List.setIfInBounds_toArray, List.set_cons_succ, List.set_cons_zero]; go_big_quiet_on) | (go_big_quiet_op; first | go_big_quiet_on | go_big_quiet_call ((fail)))))
    refine wpQuiet_nil ?_
    rintro w1 ⟨s1, e1⟩
    have hb1 := wOf_below s1
    rw [← e1] at hb1
    clear e1 s1
    replace h1 := h1.later hb1
    replace h2 := h2.later hb1
    replace hB := bgo hB hb1
    clear hb1
    go_wp2
    go_ret
    exact ⟨by rw [HV.out]; rfl, hB⟩
  · have hcm : (a == b) = false := by simpa using he
    cases hab : cov a b
    · have HV : Hid (voteR a b = 2) := by unfold Hid voteR; rw [if_neg he, hab]; rfl
      clear he
      go_enter Tryd.func18, Tryd.ntmps18
      go_upto_region 1 with fail
      refine wp_region_cls0 ?_
      repeat (first | go_big_quiet_skip | (go_big_quiet_want; first | (refine quiet_load_ck _ rfl rfl (cls_ck h1) ?_; simp only [Act.put, List.setIfInBounds_toArray, List.set_cons_succ, List.set_cons_zero]; go_big_quiet_on) | (refine quiet_load_ck _ rfl rfl (cls_ck h2) ?_; simp only [Act.put, List.setIfInBounds_toArray, List.set_cons_succ, List.set_cons_zero]; go_big_quiet_on) | (go_big_quiet_op; first | go_big_quiet_on | go_big_quiet_call ((fail)))))
      refine wpQuiet_nil ?_
      rintro w1 ⟨s1, e1⟩
      have hb1 := wOf_below s1
      rw [← e1] at hb1
      clear e1 s1
      replace h1 := h1.later hb1
      replace h2 := h2.later hb1
      replace hB := bgo hB hb1
      clear hb1
      go_upto_region 3 with fail
      refine wp_region_cls0 ?_
      repeat (first | go_big_quiet_skip | (go_big_quiet_want; first | (refine quiet_load_ck _ rfl rfl (cls_ck h1) ?_; simp only [Act.put, List.setIfInBounds_toArray, List.set_cons_succ, List.set_cons_zero]; go_big_quiet_on) | (refine quiet_load_ck _ rfl rfl (cls_ck h2) ?_; simp only [Act.put, List.setIfInBounds_toArray, List.set_cons_succ, List.set_cons_zero]; go_big_quiet_on) | (go_big_quiet_op; first | go_big_quiet_on | go_big_quiet_call ((go_at_call 49; exact cls_of (refCovers_is hab _ ha hb))))))
      refine wpQuiet_nil ?_
      rintro w1 ⟨s1, e1⟩
      have hb1 := wOf_below s1
      rw [← e1] at hb1
      clear e1 s1
      replace h1 := h1.later hb1
      replace h2 := h2.later hb1
      replace hB := bgo hB hb1
      clear hb1
      go_wp2
      go_ret
      exact ⟨by rw [HV.out]; rfl, hB⟩
    · have HV : Hid (voteR a b = 0) := by unfold Hid voteR; rw [if_neg he, hab]; rfl
      clear he
      go_enter Tryd.func18, Tryd.ntmps18
      go_upto_region 1 with fail
      refine wp_region_cls0 ?_
      repeat (first | go_big_quiet_skip | (go_big_quiet_want; first | (refine quiet_load_ck _ rfl rfl (cls_ck h1) ?_; simp only [Act.put, List.setIfInBounds_toArray, List.set_cons_succ, List.set_cons_zero]; go_big_quiet_on) | (refine quiet_load_ck _ rfl rfl (cls_ck h2) ?_; simp only [Act.put, List.setIfInBounds_toArray, List.set_cons_succ, List.set_cons_zero]; go_big_quiet_on) | (go_big_quiet_op; first | go_big_quiet_on | go_big_quiet_call ((fail)))))
      refine wpQuiet_nil ?_
      rintro w1 ⟨s1, e1⟩
      have hb1 := wOf_below s1
      rw [← e1] at hb1
      clear e1 s1
      replace h1 := h1.later hb1
      replace h2 := h2.later hb1
      replace hB := bgo hB hb1
      clear hb1
      go_upto_region 3 with fail
      refine wp_region_cls0 ?_
      repeat (first | go_big_quiet_skip | (go_big_quiet_want; first | (refine quiet_load_ck _ rfl rfl (cls_ck h1) ?_; simp only [Act.put, List.setIfInBounds_toArray, List.set_cons_succ, List.set_cons_zero]; go_big_quiet_on) | (refine quiet_load_ck _ rfl rfl (cls_ck h2) ?_; simp only [Act.put, List.setIfInBounds_toArray, List.set_cons_succ, List.set_cons_zero]; go_big_quiet_on) | (go_big_quiet_op; first | go_big_quiet_on | go_big_quiet_call ((go_at_call 49; exact cls_of (refCovers_is hab _ ha hb))))))
      refine wpQuiet_nil ?_
      rintro w1 ⟨s1, e1⟩
      have hb1 := wOf_below s1
      rw [← e1] at hb1
      clear e1 s1
      replace h1 := h1.later hb1
      replace h2 := h2.later hb1
      replace hB := bgo hB hb1
      clear hb1
      go_wp2
      go_ret
      exact ⟨by rw [HV.out]; rfl, hB⟩

/-- Ints in memory from an address on. -/
def IsAt (g o : Nat) (x : List Int) (w : World) : Prop := g < w.heap.size ∧ ∀ k, k < x.length → w.cell? ⟨g, o + k, none⟩ = some (.int .i64 (en x k))
theorem IsAt.later {g o : Nat} {x : List Int} {w w' : World} (h : IsAt g o x w) (hb : Below w.heap.size w w') : IsAt g o x w' :=
  ⟨Nat.lt_of_lt_of_le h.1 hb.size, fun k hk => by rw [hb.cell (p := ⟨g, o + k, none⟩) h.1]; exact h.2 k hk⟩
/-- The first place of a row that is so. -/
def firstP (p : Int → Bool) : Nat → List Int → Int
  | _, [] => -1
  | k, a :: l => if p a then (k : Int) else firstP p (k + 1) l
theorem firstP_no {p : Int → Bool} : ∀ {l : List Int} (k : Nat), (∀ a ∈ l, p a = false) → firstP p k l = -1
  | [], _, _ => rfl
  | a :: l, k, h => by rw [firstP, h a (by simp)]; exact firstP_no (k + 1) fun x hx => h x (by simp [hx])
set_option maxHeartbeats 1000000 in
theorem index_any {g o c : Nat} {x : List Int} (v : Int) {w : World} (h : IsAt g o x w) (hl : x.length ≤ 1000) :
    Calls Tryd.prog 67 #[.slice (some ⟨g, o, none⟩) x.length c, .int .i64 v] w fun e w' => (∃ n : Int, e = .returned (.int .i64 n) ∧ decide (0 ≤ n) = x.any (fun a => v == a)) ∧ w' = w := by
  obtain ⟨N, hN⟩ : ∃ N, x.length = N := ⟨_, rfl⟩
  have H := hid_of' (And.intro h hN)
  rw [hN] at hl ⊢
  clear h hN
  go_enter Tryd.func67, Tryd.ntmps67
  go_wp2
  go_loopw [8] (fun i wr => wr = w ∧ ∃ k : Nat, i = .int .i64 (k : Int) ∧ k ≤ N ∧ ∀ j, j < k → (v == en x j) = false) (fun i _ => N - (intOf i).toNat)
  case atStart => exact ⟨rfl, 0, rfl, by omega, fun j hj => by omega⟩
  case round =>
    obtain ⟨rfl, k, rfl, hk, hno⟩ := hrel
    have HNo := hid_of' hno
    clear hno
    by_cases hlt : k < N
    · have hki : (k : Int) < (N : Int) := by omega
      have c1 := H.out.1.2 k (by rw [H.out.2]; exact hlt)
      cases he : (v == en x k)
      · go_wp2
        go_roundw
        case rel => exact ⟨trivial, k + 1, by go_num, by omega, fun j hj => by
          by_cases e : j = k
          · rw [e]; exact he
          · exact HNo.out j (by omega)⟩
        case measure => simp [intOf]; omega
      · go_wp2
        go_ret
        have hx : x.any (fun a => v == a) = true := List.any_eq_true.2 ⟨en x k, List.mem_of_getElem? (en_at (by rw [H.out.2]; exact hlt)), he⟩
        exact ⟨⟨k, rfl, by rw [hx]; simp⟩, rfl⟩
    · have hki : ¬ (k : Int) < (N : Int) := by omega
      go_wp2
      go_ret
      have hx : x.any (fun a => v == a) = false := by
        rw [List.any_eq_false]
        intro a ha
        obtain ⟨j, hj⟩ := List.getElem?_of_mem ha
        have := (List.getElem?_eq_some_iff.1 hj).1
        rw [H.out.2] at this
        rw [← en_of hj, HNo.out j (by omega)]
        decide
      exact ⟨⟨-1, rfl, by rw [hx]; rfl⟩, rfl⟩
end Go.Proofs.YtfgcljpiidhfpaaDoor
