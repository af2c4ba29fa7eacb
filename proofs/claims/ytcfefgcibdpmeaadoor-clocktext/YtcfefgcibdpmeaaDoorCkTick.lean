/-
  clock.isReplica, clock.Tick where it ticks.
-/
import Derived.Test.YtcfefgcibdpmeaaDoorCkCov
namespace Go.Proofs.YtcfefgcibdpmeaaDoor
open Go.RowKit
set_option maxRecDepth 100000

theorem isRep_in (r : Int) (h0 : 0 ≤ r) (h8 : r < 8) (w : World) :
    Calls Tryd.prog 49 #[.int .i64 r] w fun e w' => e = .returned (.bool true) ∧ w' = w := by
  go_enter Tryd.func49, Tryd.ntmps49
  go_wp2
  go_ret
  exact ⟨rfl, rfl⟩
theorem isRep_out (r : Int) (h : r < 0 ∨ 8 ≤ r) (w : World) :
    Calls Tryd.prog 49 #[.int .i64 r] w fun e w' => e = .returned (.bool false) ∧ w' = w := by
  rcases h with h | h
  · have h1 : ¬ 0 ≤ r := by omega
    go_enter Tryd.func49, Tryd.ntmps49
    go_wp2
    go_ret
    exact ⟨rfl, rfl⟩
  · have h1 : ¬ r < 8 := by omega
    have h2 : 0 ≤ r := by omega
    go_enter Tryd.func49, Tryd.ntmps49
    go_wp2
    go_ret
    exact ⟨rfl, rfl⟩

theorem results_ck2 {fn : Func} {p u : Tmp} {tmps : Array Value} {w : World} {g : Nat} {x : List Int} (h : fn.results = #[.cell p 23, .tmp u]) (hp : tmps.getD p undef = .pointer (some ⟨g, 0, none⟩)) (hg : CkAt g x w) :
    (results fn tmps).run Tryd.prog w = .ok (.tuple #[.agg (cv x), tmps.getD u undef]) w := by
  have hp' : tmps[p]?.getD undef = .pointer (some ⟨g, 0, none⟩) := by simpa using hp
  simp [results, h, hp', asAddr, run_loadVar_row w g _ _ _ _ _ hg.1 Tryd.underlying23 rfl hg.size]

/-- The numbers that an int can hold. -/
def fitsI (x : Int) : Prop := -9223372036854775808 ≤ x ∧ x ≤ 9223372036854775807

set_option maxHeartbeats 400000 in
theorem tick_ok (a : List Int) (r : Nat) (w : World) (ha : a.length = 8) (hr : r < 8) (hlo : -9223372036854775808 ≤ en a r) (hhi : en a r < 9223372036854775807) :
    Calls Tryd.prog 26 #[.agg (cv a), .int .i64 (r : Int)] w fun e w' => e = .returned (.tuple #[.agg (cv (a.set r (en a r + 1))), .nilIface]) ∧ Below w.heap.size w w' := by
  obtain ⟨h1, h2, hB⟩ := start2 w ha (b := ck0) rfl
  have hri : (r : Int) < 8 := by omega
  have hne : (en a r == 9223372036854775807) = false := by simpa using (by omega : ¬ en a r = 9223372036854775807)
  have c1 := cv_get (a := a) (k := r) (by omega)
  have s1 := cv_set a r
  go_enter Tryd.func26, Tryd.ntmps26
  go_upto_region 4 with (go_at_call 49; refine (isRep_in _ (by omega) hri _).mono ?_; rintro e w1 ⟨rfl, h0⟩; obtain rfl := h0.symm)
  obtain ⟨g1, g2, gB⟩ := start2 w (a := a.set r (en a r + 1)) (by simpa using ha) (b := ck0) rfl
  go_wp2_with (first | (refine wpL_load rfl _ rfl rfl g1 ?_) | (refine wpL_store rfl _ _ rfl rfl rfl g2 g1.2 ?_))
  exact bodyPost_ret (v := .tuple #[.agg (cv (a.set r (en a r + 1))), .nilIface]) (results_ck2 (fn := Tryd.f26) (p := 4) (u := 5) rfl rfl (g2.row g1.2)) rfl ⟨rfl, below_row gB (by omega) _⟩

/-- The bytes of the law's own example. -/
def wk31 : List Int := [3, 1, 0, 0, 0, 0, 0, 0]
def wk32 : List Int := [3, 2, 0, 0, 0, 0, 0, 0]
def wk4 : List Int := [4, 0, 0, 0, 0, 0, 0, 0]
theorem wk_cov : cov wk32 wk31 = true := by decide
theorem wk_cmp : cmp wk32 wk4 = 3 := by decide
theorem wk_tick : wk31.set 1 (en wk31 1 + 1) = wk32 := by decide
theorem build31 : (#[.int .i64 3, .int .i64 1, .int .i64 0, .int .i64 0, .int .i64 0, .int .i64 0, .int .i64 0, .int .i64 0] : Array Value) = cv wk31 := rfl
theorem build32 : (#[.int .i64 3, .int .i64 2, .int .i64 0, .int .i64 0, .int .i64 0, .int .i64 0, .int .i64 0, .int .i64 0] : Array Value) = cv wk32 := rfl
theorem build4 : (#[.int .i64 4, .int .i64 0, .int .i64 0, .int .i64 0, .int .i64 0, .int .i64 0, .int .i64 0, .int .i64 0] : Array Value) = cv wk4 := rfl
theorem cmp_is {a b : List Int} {v : Int} (h : cmp a b = v) (w : World) (ha : a.length = 8) (hb : b.length = 8) :
    Calls Tryd.prog 28 #[.agg (cv a), .agg (cv b)] w fun e w' => e = .returned (.int .i64 v) ∧ Below w.heap.size w w' := h ▸ compare_any a b w ha hb
theorem wk_tick_ok (w : World) : Calls Tryd.prog 26 #[.agg (cv wk31), .int .i64 1] w fun e w' => e = .returned (.tuple #[.agg (cv wk32), .nilIface]) ∧ Below w.heap.size w w' := by
  have := tick_ok wk31 1 w rfl (by decide) (by decide) (by decide)
  rwa [wk_tick] at this

set_option maxHeartbeats 400000 in
theorem wakesC_ok (w : World) : Calls Tryd.prog 9 #[] w fun e w' => e = .returned (.bool true) ∧ Below w.heap.size w w' := by
  have b1 := build31
  have b2 := build32
  have b3 := build4
  have q := eqIn_ck wk32 wk32 rfl rfl
  have hself : (wk32 == wk32) = true := by simp
  have hg := ck_guard
  have hB := Below.refl w.heap.size w
  go_enter Tryd.func9, Tryd.ntmps9
  go_upto_region 2 with (first | (go_at_call 26; refine (wk_tick_ok _).mono ?_; rintro e w1 ⟨rfl, hb1⟩) | (refine wpL_store rfl _ _ rfl rfl rfl (CkAt.new w1 (x := ck0) rfl) (v := wk32) rfl ?_))
  have h1 := (CkAt.new w1 (x := ck0) rfl).row (y := wk32) rfl
  replace hB := below_row (bgo hb1 (below_one w1 (.cells (cv ck0) 23))) (g := w1.heap.size) hb1.size (cv wk32)
  refine wp_region_cls0 ?_
  repeat (first | go_big_quiet_skip | (go_big_quiet_want; first | (refine quiet_load_ck _ rfl rfl (cls_ck h1) ?_; simp only [Act.put, List.setIfInBounds_toArray, List.set_cons_succ, List.set_cons_zero]; go_big_quiet_on) | (go_big_quiet_op; first | go_big_quiet_on | go_big_quiet_call ((first | (go_at_call 27; exact cls_of (covers_is wk_cov _ rfl rfl)) | (go_at_call 28; exact cls_of (cmp_is wk_cmp _ rfl rfl)))))))
  refine wpQuiet_nil ?_
  rintro w2 ⟨s1, e1⟩
  have hb2 := wOf_below s1
  rw [← e1] at hb2
  clear e1 s1
  replace hB := bgo hB hb2
  go_wp2
  go_ret
  exact ⟨rfl, hB⟩
end Go.Proofs.YtcfefgcibdpmeaaDoor
