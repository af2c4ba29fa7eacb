
/-
  The document's Verdict; Stage of both.
-/
import Derived.Test.YtfgcljpiidhfpaaDoorFl3
namespace Go.Proofs.YtfgcljpiidhfpaaDoor
open Go.RowKit
set_option maxRecDepth 100000

theorem verdI_no {r : Rnd} {m : Int} {n : Nat} (h1 : ¬ m < 1) (hn : min m 8 = (n : Int)) {k : Nat} (hk : k < n) (he : en r.vot k = 2) : verdI r m = 2 := by
  unfold verdI verdR
  rw [if_neg h1, hn, Int.toNat_natCast, if_pos]
  exact List.any_eq_true.2 ⟨k, List.mem_range.2 hk, by simpa using he⟩
theorem verdI_end {r : Rnd} {m : Int} {n : Nat} (h1 : ¬ m < 1) (hn : min m 8 = (n : Int)) (h2 : ∀ k, k < n → ¬ en r.vot k = 2) : verdI r m = if ((List.range n).all fun i => en r.vot i == 1) then 1 else 0 := by
  unfold verdI verdR
  rw [if_neg h1, hn, Int.toNat_natCast, if_neg]
  intro q
  obtain ⟨k, hk, he⟩ := List.any_eq_true.1 q
  exact h2 k (List.mem_range.1 hk) (by simpa using he)
theorem all_range_succ (p : Nat → Bool) (k : Nat) : (List.range (k + 1)).all p = ((List.range k).all p && p k) := by
  rw [List.range_succ, List.all_append]; simp
set_option maxHeartbeats 2000000 in
theorem refVerdict_any (r : Rnd) (m : Int) (h : r.Ok) (w : World) :
    Calls Tryd.prog 20 #[.agg (cv (rc r)), .int .i64 m] w fun e w' => e = .returned (.int .i64 (verdI r m)) ∧ Below w.heap.size w w' := by
  by_cases h1 : m < 1
  · have HV : Hid (verdI r m = 0) := if_pos h1
    go_enter Tryd.func20, Tryd.ntmps20
    go_wp2
    go_ret
    exact ⟨by rw [HV.out]; rfl, below_one _ _⟩
  · obtain ⟨n, hn⟩ : ∃ n : Nat, min m 8 = (n : Int) := ⟨(min m 8).toNat, by omega⟩
    have HN := hid_of' (And.intro h1 hn)
    have hr := RowAt.news w (cv (rc r)) 44
    have hB := below_one w (.cells (cv (rc r)) 44)
    go_enter Tryd.func20, Tryd.ntmps20
    go_wp2
    generalize w.alloc (.cells (cv (rc r)) 44) = W at hr hB ⊢
    generalize w.heap.size = b at hr ⊢
    clear hn
    go_loopw [5, 6] (fun a i wr => wr = W ∧ ∃ k : Nat, i = .int .i64 (k : Int) ∧ k ≤ n ∧ a = .bool ((List.range k).all fun j => en r.vot j == 1) ∧ ∀ j, j < k → ¬ en r.vot j = 2) (fun _ i _ => n - (intOf i).toNat)
    case atStart => exact ⟨rfl, 0, rfl, by omega, rfl, fun j hj => by omega⟩
    case round =>
      obtain ⟨rfl, k, rfl, hk, rfl, hno⟩ := hrel
      have HNo := hid_of' hno
      clear hno
      by_cases hlt : k < n
      · have hki : (k : Int) < m := by have := HN.out.2; omega
        have hk8 : (k : Int) < 8 := by have := HN.out.2; omega
        have c1 := hr.int (k := 9 + k) (by rw [rc_len h]; omega)
        rw [rc_vot h (by omega)] at c1
        by_cases e2 : en r.vot k = 2
        · have e2' : (en r.vot k == 2) = true := by simpa using e2
          have HV := hid_of' (verdI_no (by have := HN.out.1; omega) HN.out.2 hlt e2)
          clear e2
          go_wp2
          go_ret
          exact ⟨by rw [HV.out]; rfl, hB⟩
        · have e2' : (en r.vot k == 2) = false := by simpa using e2
          have HX := hid_of' (all_range_succ (fun j => en r.vot j == 1) k)
          have HE := hid_of' e2
          clear e2
          obtain ⟨y, hy⟩ : ∃ y, ((List.range k).all fun j => en r.vot j == 1) = y := ⟨_, rfl⟩
          rw [hy] at HX ⊢
          clear hy
          cases y
          · go_wp2
            go_roundw
            case rel => exact ⟨trivial, k + 1, by go_num, by omega, by rw [HX.out]; rfl, fun j hj => by
              by_cases e : j = k
              · rw [e]; exact HE.out
              · exact HNo.out j (by omega)⟩
            case measure => simp [intOf]; omega
          · go_wp2
            go_roundw
            case rel => exact ⟨trivial, k + 1, by go_num, by omega, by rw [HX.out]; rfl, fun j hj => by
              by_cases e : j = k
              · rw [e]; exact HE.out
              · exact HNo.out j (by omega)⟩
            case measure => simp [intOf]; omega
      · obtain rfl : k = n := by omega
        have HV := hid_of' (verdI_end (by have := HN.out.1; omega) HN.out.2 HNo.out)
        obtain ⟨y, hy⟩ : ∃ y, ((List.range k).all fun j => en r.vot j == 1) = y := ⟨_, rfl⟩
        rw [hy] at HV ⊢
        clear hy
        by_cases hm : (k : Int) < m
        · have hk8 : ¬ (k : Int) < 8 := by have := HN.out.2; omega
          cases y
          · go_wp2
            go_ret
            exact ⟨by rw [HV.out]; rfl, hB⟩
          · go_wp2
            go_ret
            exact ⟨by rw [HV.out]; rfl, hB⟩
        · cases y
          · go_wp2
            go_ret
            exact ⟨by rw [HV.out]; rfl, hB⟩
          · go_wp2
            go_ret
            exact ⟨by rw [HV.out]; rfl, hB⟩

/-- A vote of any number. -/
def votI (r : Rnd) (i : Int) : Int := if 0 ≤ i ∧ i < 8 then en r.vot i.toNat else 0
theorem voteOf_any (r : Rnd) (i : Int) (h : r.Ok) (w : World) :
    Calls Tryd.prog 53 #[.agg (cv (rc r)), .int .i64 i] w fun e w' => e = .returned (.int .i64 (votI r i)) ∧ Below w.heap.size w w' := by
  by_cases h0 : i < 0
  · have HV : Hid (votI r i = 0) := if_neg (by omega)
    go_enter Tryd.func53, Tryd.ntmps53
    go_wp2
    go_ret
    exact ⟨by rw [HV.out]; rfl, below_one _ _⟩
  · by_cases h8 : 8 ≤ i
    · have HV : Hid (votI r i = 0) := if_neg (by omega)
      go_enter Tryd.func53, Tryd.ntmps53
      go_wp2
      go_ret
      exact ⟨by rw [HV.out]; rfl, below_one _ _⟩
    · obtain ⟨k, rfl⟩ := Int.eq_ofNat_of_zero_le (show 0 ≤ i by omega)
      have HV : Hid (votI r (k : Int) = en r.vot k) := if_pos (by omega)
      have hk : (k : Int) < 8 := by omega
      have c1 := rcv_vot h (k := k) (by omega)
      go_enter Tryd.func53, Tryd.ntmps53
      go_wp2
      go_ret
      exact ⟨by rw [HV.out]; rfl, below_one _ _⟩
/-- Stage. -/
def stgR (m t : Rnd) (n i : Int) : Int := if n < m.num then 0 else if m.num = n ∧ m.dec ≠ 0 then 0 else if m.num < n then 3 else if t.num = n ∧ votI t i = 0 then 2 else 1
theorem stgR_in (m t : Rnd) (n i : Int) : 0 ≤ stgR m t n i ∧ stgR m t n i ≤ 3 := by unfold stgR; repeat' split <;> first | decide | skip
theorem stgR_dec {m : Rnd} {n : Int} (h : m.num = n) (hd : m.dec ≠ 0) (t : Rnd) (i : Int) : stgR m t n i = 0 := by unfold stgR; rw [if_neg (by omega), if_pos ⟨h, hd⟩]
theorem two_boxes (w : World) (a b : Array Value) (t : TypeId) :
    RowAt w.heap.size a t ((w.alloc (.cells a t)).alloc (.cells b t)) ∧ RowAt (w.heap.size + 1) b t ((w.alloc (.cells a t)).alloc (.cells b t)) ∧ Below w.heap.size w ((w.alloc (.cells a t)).alloc (.cells b t)) := by
  have h1 := RowAt.news (w.alloc (.cells a t)) b t
  simp only [World.size_alloc] at h1
  exact ⟨(RowAt.news w a t).al _, h1, bgo (below_one w _) (below_one _ _)⟩
set_option maxHeartbeats 2000000 in
theorem stage_any (m t : Rnd) (n i : Int) (hm : m.Ok) (ht : t.Ok) (w : World) :
    Calls Tryd.prog 21 #[.agg (cv (rc m)), .agg (cv (rc t)), .int .i64 n, .int .i64 i] w fun e w' => e = .returned (.int .i64 (stgR m t n i)) ∧ Below w.heap.size w w' := by
  obtain ⟨r1, r2, hB⟩ := two_boxes w (cv (rc m)) (cv (rc t)) 44
  have c0 := rcv_num m
  have c1 := rcv_dec hm
  have c2 := rcv_num t
  have HO := fun w => hid_of' (voteOf_any t i ht w)
  by_cases h1 : n < m.num
  · have HV : Hid (stgR m t n i = 0) := if_pos h1
    go_enter Tryd.func21, Tryd.ntmps21
    go_wp2_with fail
    go_ret
    exact ⟨by rw [HV.out]; rfl, hB⟩
  · by_cases h2 : m.num = n
    · have h2' : (m.num == n) = true := by simpa using h2
      have h5 : ¬ m.num < n := by omega
      by_cases h3 : m.dec = 0
      · have h3' : (m.dec != 0) = false := by simpa using h3
        by_cases h4 : t.num = n
        · have h4' : (t.num == n) = true := by simpa using h4
          by_cases h6 : votI t i = 0
          · have HV : Hid (stgR m t n i = 2) := by unfold Hid stgR; rw [if_neg h1, if_neg (by omega), if_neg h5, if_pos ⟨h4, h6⟩]
            have h6' : (votI t i == 0) = true := by simpa using h6
            clear h2 h3 h4 h6
            go_enter Tryd.func21, Tryd.ntmps21
            go_upto_region 6 with fail
            have q0 := r2.cls 0 _ c2
            refine wp_region_cls0 ?_
            repeat (first | go_big_quiet_skip | (go_big_quiet_want; first | (refine qRnd ht _ rfl rfl r2.in.cls ?_; simp only [Act.put, List.setIfInBounds_toArray, List.set_cons_succ, List.set_cons_zero]; go_big_quiet_on) | (go_big_quiet_op; first | go_big_quiet_on | go_big_quiet_call ((go_at_call 53; exact cls_of (HO _).out)))))
            refine wpQuiet_nil ?_
            rintro w1 ⟨s1, e1⟩
            have hb1 := wOf_below s1
            rw [← e1] at hb1
            clear e1 s1
            replace r2 := r2.later hb1
            replace hB := bgo hB hb1
            clear hb1
            go_wp2
            go_ret
            exact ⟨by rw [HV.out]; rfl, hB⟩
          · have HV : Hid (stgR m t n i = 1) := by unfold Hid stgR; rw [if_neg h1, if_neg (by omega), if_neg h5, if_neg (fun q => h6 q.2)]
            have h6' : (votI t i == 0) = false := by simpa using h6
            clear h2 h3 h4 h6
            go_enter Tryd.func21, Tryd.ntmps21
            go_upto_region 6 with fail
            have q0 := r2.cls 0 _ c2
            refine wp_region_cls0 ?_
            repeat (first | go_big_quiet_skip | (go_big_quiet_want; first | (refine qRnd ht _ rfl rfl r2.in.cls ?_; simp only [Act.put, List.setIfInBounds_toArray, List.set_cons_succ, List.set_cons_zero]; go_big_quiet_on) | (go_big_quiet_op; first | go_big_quiet_on | go_big_quiet_call ((go_at_call 53; exact cls_of (HO _).out)))))
            refine wpQuiet_nil ?_
            rintro w1 ⟨s1, e1⟩
            have hb1 := wOf_below s1
            rw [← e1] at hb1
            clear e1 s1
            replace r2 := r2.later hb1
            replace hB := bgo hB hb1
            clear hb1
            go_wp2
            go_ret
            exact ⟨by rw [HV.out]; rfl, hB⟩
        · have HV : Hid (stgR m t n i = 1) := by unfold Hid stgR; rw [if_neg h1, if_neg (by omega), if_neg h5, if_neg (fun q => h4 q.1)]
          have h4' : (t.num == n) = false := by simpa using h4
          clear h2 h3 h4
          go_enter Tryd.func21, Tryd.ntmps21
          go_wp2_with fail
          go_ret
          exact ⟨by rw [HV.out]; rfl, hB⟩
      · have HV : Hid (stgR m t n i = 0) := by unfold Hid stgR; rw [if_neg h1, if_pos ⟨h2, h3⟩]
        have h3' : (m.dec != 0) = true := by simpa using h3
        clear h2 h3
        go_enter Tryd.func21, Tryd.ntmps21
        go_wp2_with fail
        go_ret
        exact ⟨by rw [HV.out]; rfl, hB⟩
    · have h2' : (m.num == n) = false := by simpa using h2
      have h5 : m.num < n := by omega
      have HV : Hid (stgR m t n i = 3) := by unfold Hid stgR; rw [if_neg h1, if_neg (fun q => h2 q.1), if_pos h5]
      clear h2
      go_enter Tryd.func21, Tryd.ntmps21
      go_wp2_with fail
      go_ret
      exact ⟨by rw [HV.out]; rfl, hB⟩
set_option maxHeartbeats 4000000 in
theorem refStage_any (m t : Rnd) (n i : Int) (hm : m.Ok) (ht : t.Ok) (w : World) :
    Calls Tryd.prog 22 #[.agg (cv (rc m)), .agg (cv (rc t)), .int .i64 n, .int .i64 i] w fun e w' => e = .returned (.int .i64 (stgR m t n i)) ∧ Below w.heap.size w w' := by
  obtain ⟨_, _, hB⟩ := two_boxes w (cv (rc m)) (cv (rc t)) 44
  have c0 := rcv_num m
  have c1 := rcv_dec hm
  have c2 := rcv_num t
  by_cases h1 : n < m.num
  · have HV : Hid (stgR m t n i = 0) := if_pos h1
    go_enter Tryd.func22, Tryd.ntmps22
    go_wp2
    go_ret
    exact ⟨by rw [HV.out]; rfl, hB⟩
  · by_cases h2 : m.num = n
    · have h2' : (m.num == n) = true := by simpa using h2
      have h5 : ¬ m.num < n := by omega
      by_cases h3 : m.dec = 0
      · have h3' : (m.dec != 0) = false := by simpa using h3
        by_cases h4 : t.num = n
        · have h4' : (t.num == n) = true := by simpa using h4
          by_cases i0 : i < 0
          · have HV : Hid (stgR m t n i = 2) := by unfold Hid stgR votI; rw [if_neg h1, if_neg (by omega), if_neg h5, if_pos ⟨h4, if_neg (by omega)⟩]
            clear h2 h3 h4
            go_enter Tryd.func22, Tryd.ntmps22
            go_wp2
            go_ret
            exact ⟨by rw [HV.out]; rfl, hB⟩
          · by_cases i7 : 7 < i
            · have HV : Hid (stgR m t n i = 2) := by unfold Hid stgR votI; rw [if_neg h1, if_neg (by omega), if_neg h5, if_pos ⟨h4, if_neg (by omega)⟩]
              clear h2 h3 h4
              go_enter Tryd.func22, Tryd.ntmps22
              go_wp2
              go_ret
              exact ⟨by rw [HV.out]; rfl, hB⟩
            · obtain ⟨k, rfl⟩ := Int.eq_ofNat_of_zero_le (show 0 ≤ i by omega)
              have hk8 : (k : Int) < 8 := by omega
              have c3 := rcv_vot ht (k := k) (by omega)
              have hv : votI t (k : Int) = en t.vot k := if_pos (by omega)
              by_cases h6 : en t.vot k = 0
              · have HV : Hid (stgR m t n k = 2) := by unfold Hid stgR; rw [hv, if_neg h1, if_neg (by omega), if_neg h5, if_pos ⟨h4, h6⟩]
                have h6' : (en t.vot k == 0) = true := by simpa using h6
                clear h2 h3 h4 h6 hv
                go_enter Tryd.func22, Tryd.ntmps22
                go_wp2
                go_ret
                exact ⟨by rw [HV.out]; rfl, hB⟩
              · have HV : Hid (stgR m t n k = 1) := by unfold Hid stgR; rw [hv, if_neg h1, if_neg (by omega), if_neg h5, if_neg (fun q => h6 q.2)]
                have h6' : (en t.vot k == 0) = false := by simpa using h6
                clear h2 h3 h4 h6 hv
                go_enter Tryd.func22, Tryd.ntmps22
                go_wp2
                go_ret
                exact ⟨by rw [HV.out]; rfl, hB⟩
        · have HV : Hid (stgR m t n i = 1) := by unfold Hid stgR; rw [if_neg h1, if_neg (by omega), if_neg h5, if_neg (fun q => h4 q.1)]
          have h4' : (t.num == n) = false := by simpa using h4
          clear h2 h3 h4
          go_enter Tryd.func22, Tryd.ntmps22
          go_wp2
          go_ret
          exact ⟨by rw [HV.out]; rfl, hB⟩
      · have HV : Hid (stgR m t n i = 0) := by unfold Hid stgR; rw [if_neg h1, if_pos ⟨h2, h3⟩]
        have h3' : (m.dec != 0) = true := by simpa using h3
        clear h2 h3
        go_enter Tryd.func22, Tryd.ntmps22
        go_wp2
        go_ret
        exact ⟨by rw [HV.out]; rfl, hB⟩
    · have h2' : (m.num == n) = false := by simpa using h2
      have h5 : m.num < n := by omega
      have HV : Hid (stgR m t n i = 3) := by unfold Hid stgR; rw [if_neg h1, if_neg (fun q => h2 q.1), if_pos h5]
      clear h2
      go_enter Tryd.func22, Tryd.ntmps22
      go_wp2
      go_ret
      exact ⟨by rw [HV.out]; rfl, hB⟩
end Go.Proofs.YtfgcljpiidhfpaaDoor
