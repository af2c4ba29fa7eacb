/-
  barrowlaw03.ClockReady answers true.
-/
import Derived.Test.YtceahohcmhbkmaaDoorCkAct
import Derived.Test.YtceahohcmhbkmaaDoorCkOpen
namespace Go.Proofs.YtceahohcmhbkmaaDoor
open Go.RowKit
set_option maxRecDepth 100000

/-- What every Act that came in keeps to. -/
def Ac.Fit (x : Ac) : Prop := Ck x.ck ∧ fitsI x.num
/-- A list of Acts in memory. -/
def SlA (w : World) (v : Value) (l : List Ac) : Prop :=
  (l = [] ∧ ∃ a c, v = .slice a 0 c) ∨ ∃ g o c, v = .slice (some ⟨g, o, none⟩) l.length c ∧ l.length ≤ maxLen ∧ ∀ i x, l[i]? = some x → x.Fit ∧ CsIn g (o + i * 13) (acv x) w

theorem ac_size {x : Ac} (h : x.ck.length = 8) : (Tryd.prog.info? 49).map (·.size) = some (acv x).size := by
  rw [acv_size x h]; kernel_rfl
theorem ready_is {h : List Int} {x : Ac} {v : Bool} (hv : rdyC h x = v) (w : World) (ha : h.length = 8) (hx : x.Fit) :
    Calls Tryd.prog 24 #[.agg (cv h), .agg (acv x)] w fun e w' => e = .returned (.bool v) ∧ Below w.heap.size w w' := hv ▸ ready_any h x w ha hx.1.1 hx.2.1 hx.2.2
theorem refReady_is {h : List Int} {x : Ac} {v : Bool} (hv : rdyC h x = v) (w : World) (ha : Ck h) (hx : x.Fit) :
    Calls Tryd.prog 25 #[.agg (cv h), .agg (acv x)] w fun e w' => e = .returned (.bool v) ∧ Below w.heap.size w w' := hv ▸ refReady_any h x w ha.1 hx.1.1 hx.2.1 hx.2.2 ha.2
theorem has_is {a : List Int} {r n : Int} {v : Bool} (hv : hasC a r n = v) (w : World) (ha : a.length = 8) :
    Calls Tryd.prog 21 #[.agg (cv a), .int .i64 r, .int .i64 n] w fun e w' => e = .returned (.bool v) ∧ Below w.heap.size w w' := hv ▸ has_any a r n w ha
theorem rdyC_true {h : List Int} {x : Ac} (hv : rdyC h x = true) : (0 ≤ x.rep ∧ x.rep < 8 ∧ 1 ≤ x.num ∧ en h x.rep.toNat = x.num - 1 ∧ en x.ck x.rep.toNat = x.num - 1) ∧ cov h x.ck = true := by
  unfold rdyC at hv
  rw [Bool.and_eq_true] at hv
  exact ⟨of_decide_eq_true hv.1, hv.2⟩
theorem Ck.set {h : List Int} (hh : Ck h) (r : Nat) {v : Int} (hv : fitsI v) : Ck (h.set r v) := by
  refine ⟨by simpa using hh.1, fun k hk => ?_⟩
  by_cases hr : r < h.length
  · rw [getD_set _ _ _ _ hr]
    split
    · exact hv
    · exact hh.2 k hk
  · rw [List.set_eq_of_length_le (by omega)]; exact hh.2 k hk
theorem cov_set {h c : List Int} {r : Nat} {v : Int} (hl : h.length = 8) (hr : r < 8) (hv : en h r ≤ v) (hc : cov h c = true) : cov (h.set r v) c = true := by
  rw [cov_iff] at hc ⊢
  intro k hk
  rw [getD_set _ _ _ _ (by omega)]
  have := hc k hk
  split
  · rename_i e; subst e; omega
  · exact this

set_option maxHeartbeats 2000000 in
theorem readyC_ok (h0 : List Int) (l : List Ac) (g o c : Nat) (w : World) (ha : Ck h0) (hlen : l.length ≤ maxLen) (hl : ∀ i x, l[i]? = some x → x.Fit ∧ CsIn g (o + i * 13) (acv x) w) :
    Calls Tryd.prog 5 #[.agg (cv h0), .slice (some ⟨g, o, none⟩) l.length c] w fun e w' => e = .returned (.bool true) ∧ Below w.heap.size w w' := by
  unfold maxLen at hlen
  go_enter Tryd.func5, Tryd.ntmps5
  go_wp2
  go_loopw [5, 6, 7, 8, 9] (fun i _ _ _ _ wr => ∃ (k : Nat) (h : List Int), i = .int .i64 (k : Int) ∧ k ≤ l.length ∧ Ck h ∧ CkAt w.heap.size h wr ∧ Below w.heap.size w wr) (fun i _ _ _ _ _ => l.length - (intOf i).toNat)
  case atStart => exact ⟨0, h0, rfl, by omega, ha, CkAt.new w ha.1, below_one w _⟩
  case round =>
    obtain ⟨k, h, rfl, hk, hh, h1, hB⟩ := hrel
    by_cases hlt : k < l.length
    · obtain ⟨hf, hc⟩ := hl k _ (List.getElem?_eq_getElem hlt)
      obtain ⟨x, hx⟩ : ∃ x, x = l[k] := ⟨_, rfl⟩
      rw [← hx] at hf hc
      clear hx hl
      have h2 : CsIn g (o + k * 13) (acv x) wr := hc.later hB
      have hki : (k : Int) < (l.length : Int) := by omega
      clear hc
      cases hr : rdyC h x
      · go_upto_region 4 with fail
        refine wp_region_cls (by kernel_rfl) (by kernel_rfl) ?_
        repeat (first | go_big_quiet_skip | (go_big_quiet_want; first | (refine quiet_load_ck _ rfl rfl (cls_ck h1) ?_; simp only [Act.put, List.setIfInBounds_toArray, List.set_cons_succ, List.set_cons_zero]; go_big_quiet_on) | (refine quiet_load_in _ _ rfl rfl h2.cls Tryd.underlying49 rfl (ac_size hf.1.1) ?_; simp only [Act.put, List.setIfInBounds_toArray, List.set_cons_succ, List.set_cons_zero]; go_big_quiet_on) | (go_big_quiet_op; first | go_big_quiet_on | go_big_quiet_call ((go_at_call 24; exact cls_of (ready_is hr _ hh.1 hf))))))
        refine wpQuiet_nil ?_
        rintro w1 ⟨s1, e1⟩
        have hb1 := wOf_below s1
        rw [← e1] at hb1
        clear e1 s1
        replace h1 := h1.later hb1
        replace h2 := h2.later hb1
        replace hB := bgo hB hb1
        clear hb1
        go_upto_region 5 with fail
        refine wp_region_cls (by kernel_rfl) (by kernel_rfl) ?_
        repeat (first | go_big_quiet_skip | (go_big_quiet_want; first | (refine quiet_load_ck _ rfl rfl (cls_ck h1) ?_; simp only [Act.put, List.setIfInBounds_toArray, List.set_cons_succ, List.set_cons_zero]; go_big_quiet_on) | (refine quiet_load_in _ _ rfl rfl h2.cls Tryd.underlying49 rfl (ac_size hf.1.1) ?_; simp only [Act.put, List.setIfInBounds_toArray, List.set_cons_succ, List.set_cons_zero]; go_big_quiet_on) | (go_big_quiet_op; first | go_big_quiet_on | go_big_quiet_call ((go_at_call 25; exact cls_of (refReady_is hr _ hh hf))))))
        refine wpQuiet_nil ?_
        rintro w1 ⟨s1, e1⟩
        have hb1 := wOf_below s1
        rw [← e1] at hb1
        clear e1 s1
        replace h1 := h1.later hb1
        replace h2 := h2.later hb1
        replace hB := bgo hB hb1
        clear hb1
        go_wp2
        go_roundw
        case rel => exact ⟨k + 1, h, by go_num, by omega, hh, h1, hB⟩
        case measure => simp [intOf]; omega
      · obtain ⟨⟨g0, g8, gn, ge, gc⟩, gcov⟩ := rdyC_true hr
        obtain ⟨r, hrr⟩ := Int.eq_ofNat_of_zero_le g0
        have hrt : x.rep.toNat = r := by omega
        rw [hrt] at ge gc
        have hr8 : r < 8 := by omega
        have hr8i : (r : Int) < 8 := by omega
        have xr : (acv x)[3]? = some (.int .i64 (r : Int)) := by rw [acv_rep, hrr]
        have xn := acv_num x
        have hhas : hasC h (r : Int) x.num = false := by
          have : decide (x.num ≤ en h ((r : Int).toNat)) = false := by rw [Int.toNat_natCast]; simp; omega
          unfold hasC; rw [this, Bool.and_false]
        have hhi := hf.2
        unfold fitsI at hhi
        have hset : Ck (h.set r (en h r + 1)) := hh.set r (by unfold fitsI; omega)
        have hen : en (h.set r (en h r + 1)) r = x.num := by rw [getD_set _ _ _ _ (by have := hh.1; omega), if_pos rfl]; omega
        have hcv : cov (h.set r (en h r + 1)) x.ck = true := cov_set hh.1 hr8 (by omega) gcov
        have TK : Hid (∀ w, Calls Tryd.prog 18 #[.agg (cv h), .int .i64 (r : Int)] w fun e w' => e = .returned (.tuple #[.agg (cv (h.set r (en h r + 1))), .nilIface]) ∧ Below w.heap.size w w') := fun w => tick_ok h r w hh.1 hr8 (by omega) (by omega)
        obtain ⟨h', hh'⟩ : ∃ h', h.set r (en h r + 1) = h' := ⟨_, rfl⟩
        rw [hh'] at hset hen hcv TK
        clear g0 g8 ge gc gcov hrr hrt hh'
        go_upto_region 4 with fail
        refine wp_region_cls (by kernel_rfl) (by kernel_rfl) ?_
        repeat (first | go_big_quiet_skip | (go_big_quiet_want; first | (refine quiet_load_ck _ rfl rfl (cls_ck h1) ?_; simp only [Act.put, List.setIfInBounds_toArray, List.set_cons_succ, List.set_cons_zero]; go_big_quiet_on) | (refine quiet_load_in _ _ rfl rfl h2.cls Tryd.underlying49 rfl (ac_size hf.1.1) ?_; simp only [Act.put, List.setIfInBounds_toArray, List.set_cons_succ, List.set_cons_zero]; go_big_quiet_on) | (go_big_quiet_op; first | go_big_quiet_on | go_big_quiet_call ((go_at_call 24; exact cls_of (ready_is hr _ hh.1 hf))))))
        refine wpQuiet_nil ?_
        rintro w1 ⟨s1, e1⟩
        have hb1 := wOf_below s1
        rw [← e1] at hb1
        clear e1 s1
        replace h1 := h1.later hb1
        replace h2 := h2.later hb1
        replace hB := bgo hB hb1
        clear hb1
        go_upto_region 5 with fail
        refine wp_region_cls (by kernel_rfl) (by kernel_rfl) ?_
        repeat (first | go_big_quiet_skip | (go_big_quiet_want; first | (refine quiet_load_ck _ rfl rfl (cls_ck h1) ?_; simp only [Act.put, List.setIfInBounds_toArray, List.set_cons_succ, List.set_cons_zero]; go_big_quiet_on) | (refine quiet_load_in _ _ rfl rfl h2.cls Tryd.underlying49 rfl (ac_size hf.1.1) ?_; simp only [Act.put, List.setIfInBounds_toArray, List.set_cons_succ, List.set_cons_zero]; go_big_quiet_on) | (go_big_quiet_op; first | go_big_quiet_on | go_big_quiet_call ((go_at_call 25; exact cls_of (refReady_is hr _ hh hf))))))
        refine wpQuiet_nil ?_
        rintro w1 ⟨s1, e1⟩
        have hb1 := wOf_below s1
        rw [← e1] at hb1
        clear e1 s1
        replace h1 := h1.later hb1
        replace h2 := h2.later hb1
        replace hB := bgo hB hb1
        clear hb1
        have x3 := h2.2 3 _ xr
        go_upto_region 9 with fail
        have c4 : ∀ s : Wld w1, (wOf s).cell? ⟨g, o + k * 13 + 4, none⟩ = some (.int .i64 x.num) := fun s => (h2.later (wOf_below s)).2 4 _ xn
        refine wp_region_cls (by kernel_rfl) (by kernel_rfl) ?_
        repeat (first | go_big_quiet_skip | (go_big_quiet_want; first | (refine quiet_load_ck _ rfl rfl (cls_ck h1) ?_; simp only [Act.put, List.setIfInBounds_toArray, List.set_cons_succ, List.set_cons_zero]; go_big_quiet_on) | (go_big_quiet_op; first | go_big_quiet_on | go_big_quiet_call ((go_at_call 21; exact cls_of (has_is hhas _ hh.1))))))
        refine wpQuiet_nil ?_
        rintro w1 ⟨s1, e1⟩
        have hb1 := wOf_below s1
        rw [← e1] at hb1
        clear e1 s1
        replace h1 := h1.later hb1
        replace h2 := h2.later hb1
        replace hB := bgo hB hb1
        clear hb1
        clear c4 x3
        go_upto_region 12 with (first | (refine wpL_load rfl _ rfl rfl h1 ?_) | (go_at_call 18; refine (TK.out _).mono ?_; rintro e w2 ⟨rfl, hb2⟩) | (refine wpL_store rfl _ _ rfl rfl rfl (CkAt.new w2 (x := ck0) rfl) hset.1 ?_))
        have h8 := (CkAt.new w2 (x := ck0) rfl).row hset.1
        have hb3 := below_row (bgo hb2 (below_one w2 (.cells (cv ck0) 23))) (g := w2.heap.size) hb2.size (cv h')
        rw [ck0_cv] at h8 hb3
        replace h1 := h1.later hb3
        replace h2 := h2.later hb3
        replace hB := bgo hB hb3
        clear hb3 hb2
        have h5 := h2.sub (ds := cv x.ck) 5 (fun j v hv => acv_ck x j v hv)
        have c8 := h8.cls hr8
        have c4 : ∀ s : Wld _, (wOf s).cell? ⟨g, o + k * 13 + 4, none⟩ = some (.int .i64 x.num) := fun s => (h2.later (wOf_below s)).2 4 _ xn
        refine wp_region_cls (by kernel_rfl) (by kernel_rfl) ?_
        repeat (first | go_big_quiet_skip | (go_big_quiet_want; first | (refine quiet_load_ck _ rfl rfl (cls_ck h1) ?_; simp only [Act.put, List.setIfInBounds_toArray, List.set_cons_succ, List.set_cons_zero]; go_big_quiet_on) | (refine quiet_load_ck _ rfl rfl (cls_ck h8) ?_; simp only [Act.put, List.setIfInBounds_toArray, List.set_cons_succ, List.set_cons_zero]; go_big_quiet_on) | (refine quiet_load_in _ _ rfl rfl h5.cls Tryd.underlying23 rfl (ck_size hf.1.1) ?_; simp only [Act.put, List.setIfInBounds_toArray, List.set_cons_succ, List.set_cons_zero]; go_big_quiet_on) | (go_big_quiet_op; first | go_big_quiet_on | go_big_quiet_call ((go_at_call 9; exact cls_of (covers_is hcv _ hset.1 hf.1.1))))))
        refine wpQuiet_nil ?_
        rintro w1 ⟨s1, e1⟩
        have hb1 := wOf_below s1
        rw [← e1] at hb1
        clear e1 s1
        replace h1 := h1.later hb1
        replace h8 := h8.later hb1
        replace hB := bgo hB hb1
        clear hb1
        go_wp2_with (first | (refine wpL_load rfl _ rfl rfl h8 ?_) | (refine wpL_store rfl _ _ rfl rfl rfl h1 hset.1 ?_))
        go_roundw
        case rel => exact ⟨k + 1, h', by go_num, by omega, hset, h1.row hset.1, below_row hB (Nat.le_refl _) _⟩
        case measure => simp [intOf]; omega
    · have hki : ¬ (k : Int) < (l.length : Int) := by omega
      go_wp2_with (go_at_call 17; refine (wakesC_ok _).mono ?_; rintro e w1 ⟨rfl, hb1⟩)
      go_ret
      exact ⟨rfl, bgo hB hb1⟩

set_option maxHeartbeats 400000 in
theorem readyC_nil (h0 : List Int) (a : Option Addr) (c : Nat) (w : World) :
    Calls Tryd.prog 5 #[.agg (cv h0), .slice a 0 c] w fun e w' => e = .returned (.bool true) ∧ Below w.heap.size w w' := by
  go_enter Tryd.func5, Tryd.ntmps5
  go_wp2
  go_loopw [5] (fun i wr => i = .int .i64 0 ∧ Below w.heap.size w wr) (fun _ _ => 0)
  case atStart => exact ⟨rfl, below_one w _⟩
  case round =>
    obtain ⟨rfl, hB⟩ := hrel
    go_wp2_with (go_at_call 17; refine (wakesC_ok _).mono ?_; rintro e w1 ⟨rfl, hb1⟩)
    go_ret
    exact ⟨rfl, bgo hB hb1⟩
theorem readyC_all (h0 : List Int) (v : Value) (l : List Ac) (w : World) (ha : Ck h0) (hl : SlA w v l) :
    Calls Tryd.prog 5 #[.agg (cv h0), v] w fun e w' => e = .returned (.bool true) ∧ Below w.heap.size w w' := by
  rcases hl with ⟨_, a, c, rfl⟩ | ⟨g, o, c, rfl, hlen, hl⟩
  · exact readyC_nil h0 a c w
  · exact readyC_ok h0 l g o c w ha hlen hl
end Go.Proofs.YtceahohcmhbkmaaDoor
