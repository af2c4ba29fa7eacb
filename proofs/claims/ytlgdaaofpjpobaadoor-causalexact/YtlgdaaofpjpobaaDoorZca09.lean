
/-
  clock.Covers, clock.Compare and the document's. clock.isReplica, clock.Tick where it ticks.
-/
import Derived.Test.YtlgdaaofpjpobaaDoorZca08
namespace Go.Proofs.YtlgdaaofpjpobaaDoor
open Go.RowKit
set_option maxRecDepth 100000

/-- The world behind the boxes of two clocks. -/
theorem start2 (w : World) {a b : List Int} (ha : a.length = 8) (hb : b.length = 8) :
    CkAt w.heap.size a ((w.alloc (.cells (cv a) 44)).alloc (.cells (cv b) 44)) ∧ CkAt (w.heap.size + 1) b ((w.alloc (.cells (cv a) 44)).alloc (.cells (cv b) 44)) ∧ Below w.heap.size w ((w.alloc (.cells (cv a) 44)).alloc (.cells (cv b) 44)) := by
  have h1 := CkAt.new (w.alloc (.cells (cv a) 44)) hb
  simp only [World.size_alloc] at h1
  exact ⟨(CkAt.new w ha).alloc _, h1, bgo (below_one w _) (below_one _ _)⟩

set_option maxHeartbeats 1000000 in
theorem covers_any (a b : List Int) (w : World) (ha : a.length = 8) (hb : b.length = 8) :
    Calls Tryd.prog 49 #[.agg (cv a), .agg (cv b)] w fun e w' => e = .returned (.bool (cov a b)) ∧ Below w.heap.size w w' := by
  obtain ⟨h1, h2, hb0⟩ := start2 w ha hb
  have hm := mrg_len ha hb
  have hq := eqIn_ck (mrg a b) a hm ha
  have hcm := cov_mrg ha hb
  have hg := ck_guard
  go_enter Tryd.func49, Tryd.ntmps49
  go_wp2
  refine wp_region_cls (by kernel_rfl) (by kernel_rfl) ?_
  repeat (first | go_big_quiet_skip | (go_big_quiet_want; first | (refine quiet_load_ck _ rfl rfl (cls_ck h1) ?_; simp only [Act.put, List.setIfInBounds_toArray, List.set_cons_succ, List.set_cons_zero]; go_big_quiet_on) | (refine quiet_load_ck _ rfl rfl (cls_ck h2) ?_; simp only [Act.put, List.setIfInBounds_toArray, List.set_cons_succ, List.set_cons_zero]; go_big_quiet_on) | (go_big_quiet_op; first | go_big_quiet_on | go_big_quiet_call ((go_at_call 58; exact cls_of (merge_any _ _ _ ha hb))))))
  refine wpQuiet_nil ?_
  rintro w' ⟨s, rfl⟩
  have hbs := wOf_below s
  go_wp2
  go_ret
  exact ⟨rfl, bgo hb0 hbs⟩
/-- Covers, its answer known. -/
theorem covers_is {a b : List Int} {v : Bool} (h : cov a b = v) (w : World) (ha : a.length = 8) (hb : b.length = 8) :
    Calls Tryd.prog 49 #[.agg (cv a), .agg (cv b)] w fun e w' => e = .returned (.bool v) ∧ Below w.heap.size w w' := h ▸ covers_any a b w ha hb

/-- Compare. -/
def cmp (a b : List Int) : Int := if cov a b then (if cov b a then 0 else 2) else if cov b a then 1 else 3
theorem cov_anti {a b : List Int} (ha : a.length = 8) (hb : b.length = 8) (h1 : cov a b = true) (h2 : cov b a = true) : a = b :=
  ck_ext ha hb fun k hk => by have := cov_iff.1 h1 k hk; have := cov_iff.1 h2 k hk; omega
theorem cov_self (a : List Int) : cov a a = true := cov_iff.2 fun _ _ => Int.le_refl _
theorem eq_cov {a b : List Int} (ha : a.length = 8) (hb : b.length = 8) : (a == b) = (cov a b && cov b a) := by
  rw [Bool.eq_iff_iff, beq_iff_eq, Bool.and_eq_true]
  exact ⟨fun h => by subst h; exact ⟨cov_self a, cov_self a⟩, fun h => cov_anti ha hb h.1 h.2⟩

set_option maxHeartbeats 1000000 in
theorem refCovers_any (a b : List Int) (w : World) (ha : a.length = 8) (hb : b.length = 8) :
    Calls Tryd.prog 50 #[.agg (cv a), .agg (cv b)] w fun e w' => e = .returned (.bool (cov a b)) ∧ Below w.heap.size w w' := by
  go_enter Tryd.func50, Tryd.ntmps50
  go_wp2
  go_loopw [5] (fun i wr => ∃ k : Nat, i = .int .i64 (k : Int) ∧ k ≤ 8 ∧ (∀ j, j < k → en b j ≤ en a j) ∧ CkAt w.heap.size a wr ∧ CkAt (w.heap.size + 1) b wr ∧ Below w.heap.size w wr) (fun i _ => 8 - (intOf i).toNat)
  case atStart =>
    exact ⟨0, rfl, by omega, fun j hj => by omega, start2 w ha hb⟩
  case round =>
    obtain ⟨k, rfl, hk, hu, h1, h2, hbl⟩ := hrel
    by_cases hlt : k < 8
    · have hki : (k : Int) < 8 := by omega
      have c1 := h1.cell hlt
      have c2 := h2.cell hlt
      by_cases hc : en a k < en b k
      · have HN : Hid (cov a b = false) := by
          rw [Hid, Bool.eq_false_iff]
          intro h
          have := cov_iff.1 h k hlt
          omega
        go_wp2
        go_quiet (fail)
        go_wp2
        go_ret
        exact ⟨by rw [HN.out]; rfl, below_drewN hbl _⟩
      · have HN : Hid (∀ j, j < k + 1 → en b j ≤ en a j) := fun j hj => by
          by_cases e : j = k
          · subst e; omega
          · exact hu j (by omega)
        go_wp2
        go_quiet (fail)
        go_wp2
        go_roundw
        case rel => exact ⟨k + 1, by go_num, by omega, HN.out, h1, h2, below_drewN hbl _⟩
        case measure => simp [intOf]; omega
    · have hki : ¬ (k : Int) < 8 := by omega
      obtain rfl : k = 8 := by omega
      have HN : Hid (cov a b = true) := cov_iff.2 hu
      go_wp2
      go_ret
      exact ⟨by rw [HN.out]; rfl, hbl⟩
theorem refCovers_is {a b : List Int} {v : Bool} (h : cov a b = v) (w : World) (ha : a.length = 8) (hb : b.length = 8) :
    Calls Tryd.prog 50 #[.agg (cv a), .agg (cv b)] w fun e w' => e = .returned (.bool v) ∧ Below w.heap.size w w' := h ▸ refCovers_any a b w ha hb
end Go.Proofs.YtlgdaaofpjpobaaDoor
namespace Go.Proofs.YtlgdaaofpjpobaaDoor
open Go.RowKit
set_option maxRecDepth 100000

theorem isRep_in (r : Int) (h0 : 0 ≤ r) (h8 : r < 8) (w : World) :
    Calls Tryd.prog 48 #[.int .i64 r] w fun e w' => e = .returned (.bool true) ∧ w' = w := by
  go_enter Tryd.func48, Tryd.ntmps48
  go_wp2
  go_ret
  exact ⟨rfl, rfl⟩
theorem isRep_out (r : Int) (h : r < 0 ∨ 8 ≤ r) (w : World) :
    Calls Tryd.prog 48 #[.int .i64 r] w fun e w' => e = .returned (.bool false) ∧ w' = w := by
  rcases h with h | h
  · have h1 : ¬ 0 ≤ r := by omega
    go_enter Tryd.func48, Tryd.ntmps48
    go_wp2
    go_ret
    exact ⟨rfl, rfl⟩
  · have h1 : ¬ r < 8 := by omega
    have h2 : 0 ≤ r := by omega
    go_enter Tryd.func48, Tryd.ntmps48
    go_wp2
    go_ret
    exact ⟨rfl, rfl⟩

theorem results_ck2 {fn : Func} {p u : Tmp} {tmps : Array Value} {w : World} {g : Nat} {x : List Int} (h : fn.results = #[.cell p 44, .tmp u]) (hp : tmps.getD p undef = .pointer (some ⟨g, 0, none⟩)) (hg : CkAt g x w) :
    (results fn tmps).run Tryd.prog w = .ok (.tuple #[.agg (cv x), tmps.getD u undef]) w := by
  have hp' : tmps[p]?.getD undef = .pointer (some ⟨g, 0, none⟩) := by simpa using hp
  simp [results, h, hp', asAddr, run_loadVar_row w g _ _ _ _ _ hg.1 Tryd.underlying44 rfl hg.size]

/-- The numbers that an int can hold. -/
def fitsI (x : Int) : Prop := -9223372036854775808 ≤ x ∧ x ≤ 9223372036854775807

/-- The bytes of the law's own example. -/
def wk31 : List Int := [3, 1, 0, 0, 0, 0, 0, 0]
def wk32 : List Int := [3, 2, 0, 0, 0, 0, 0, 0]
def wk4 : List Int := [4, 0, 0, 0, 0, 0, 0, 0]
theorem wk_cov : cov wk32 wk31 = true := by decide
theorem wk_cmp : cmp wk32 wk4 = 3 := by decide
theorem wk_tick : wk31.set 1 (en wk31 1 + 1) = wk32 := by decide
theorem build31 : (#[.int .i64 3, .int .i64 1, .int .i64 0, .int .i64 0, .int .i64 0, .int .i64 0, .int .i64 0, .int .i64 0] : Array Value) = cv wk31 := rfl
theorem build32 : (#[.int .i64 3, .int .i64 2, .int .i64 0, .int .i64 0, .int .i64 0, .int .i64 0, .int .i64 0, .int .i64 0] : Array Value) = cv wk32 := rfl
theorem build4 : (#[.int .i64 4, .int .i64 0, .int .i64 0, .int .i64 0, .int .i64 0, .int .i64 0, .int .i64 0, .int .i64 0] : Array Value) = cv wk4 := rfl
end Go.Proofs.YtlgdaaofpjpobaaDoor
