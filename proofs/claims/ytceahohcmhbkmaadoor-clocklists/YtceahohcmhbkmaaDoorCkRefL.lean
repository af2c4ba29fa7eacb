/-
  The document's Greatest and Least.
-/
import Derived.Test.YtceahohcmhbkmaaDoorCkLists
namespace Go.Proofs.YtceahohcmhbkmaaDoor
open Go.RowKit
set_option maxRecDepth 100000

theorem mrg_idem (a : List Int) : mrg a a = a := by
  apply List.ext_getElem?
  intro i
  cases h : a[i]? with
  | none => simp [mrg, h]
  | some v => simp [mrg, h, mx]
theorem mee_idem (a : List Int) : mee a a = a := by
  apply List.ext_getElem?
  intro i
  cases h : a[i]? with
  | none => simp [mee, h]
  | some v => simp [mee, h, mn]

theorem entersRMerge (w : World) (args : Array Value) : (callFunc 14 args).run Tryd.prog w = .ok (.enter 14 args) w := by kernel_rfl
set_option maxHeartbeats 1000000 in
theorem refGreatest_any (l : List (List Int)) (g o c : Nat) (w : World) (hl : SlK w g o l) :
    Calls Tryd.prog 31 #[.slice (some ⟨g, o, none⟩) l.length c] w fun e w' => e = .returned (.agg (cv (joinK mrg l))) ∧ Below w.heap.size w w' := by
  have hmx := hl.1
  unfold maxLen at hmx
  go_enter Tryd.func31, Tryd.ntmps31
  go_wp2
  go_loopw [4] (fun i wr => ∃ (k : Nat) (y : List Int), i = .int .i64 (k : Int) ∧ k ≤ l.length ∧ joinK mrg (l.take k) = y ∧ CkAt w.heap.size ck0 wr ∧ CkAt (w.heap.size + 1) y wr ∧ Below w.heap.size w wr) (fun i _ => l.length - (intOf i).toNat)
  case atStart =>
    obtain ⟨a1, a2, aB⟩ := start2 w (a := ck0) (b := ck0) rfl rfl
    exact ⟨0, ck0, rfl, by omega, rfl, a1, a2, aB⟩
  case round =>
    obtain ⟨k, y, rfl, hk, hy, h1, h2, hB⟩ := hrel
    by_cases hlt : k < l.length
    · have hki : (k : Int) < (l.length : Int) := by omega
      obtain ⟨x, hx⟩ : ∃ x, l[k]? = some x := ⟨_, List.getElem?_eq_getElem hlt⟩
      obtain ⟨hkx, hcx⟩ := hl.2 k x hx
      replace hcx := hcx.later hB
      by_cases hz : k = 0
      · subst hz
        have HX : Hid (joinK mrg (l.take (0 + 1)) = mrg x x) := by
          match l, hx with
          | z :: l, e => simp at e; subst e; exact (mrg_idem z).symm
        have hcx0 := hcx
        rw [Nat.zero_mul, Nat.add_zero] at hcx0
        have HG : Hid (g < w.heap.size) := (hl.2 0 x hx).2.1
        clear hx hy
        have g2 := h2.row hkx.1
        have gx : CsIn g (o + 0 * 8) (cv x) (wr.setRow (w.heap.size + 1) (cv x)) := ⟨by simpa using hcx.1, fun j v hv => by
          have hne : ¬ g = w.heap.size + 1 := by have := HG.out; omega
          rw [cell_setRow_other _ _ _ _ (by simpa using hne)]; exact hcx.2 j v hv⟩
        go_upto_region 7 with (first | (refine wpL_loadIn rfl _ rfl rfl hcx0 hkx.1 ?_) | (refine wpL_store rfl _ _ rfl rfl rfl h2 hkx.1 ?_))
        refine asg_region (F := 14) (p := "ref.go:119") entersRMerge (fun a b => mrg_len) refMerge_any (by kernel_rfl) rfl rfl rfl hlt g2 gx hkx.1 ?_
        intro vals X' hX
        simp only [asgOps, putAll, Act.put, List.setIfInBounds_toArray, List.set_cons_succ, List.set_cons_zero]
        go_wp2
        go_roundw
        case rel =>
          have hzl := mrg_len hkx.1 hkx.1
          have b1 := below_row hB (g := w.heap.size + 1) (by omega) (cv x)
          exact ⟨0 + 1, mrg x x, by go_num, hlt, HX.out, ((h1.rowOther (w.heap.size + 1) (cv x) (by omega)).later hX).rowOther _ _ (by omega), (g2.later hX).row hzl, below_row (bgo b1 hX) (by omega) _⟩
        case measure => simp [intOf]; omega
      · have hz' : ((k : Int) == 0) = false := by rw [beq_eq_false_iff_ne]; omega
        have HX : Hid (joinK mrg (l.take (k + 1)) = mrg y x) := by
          have := joinK_take (f := mrg) (l := l) (k := k - 1) (by omega)
          rw [show k - 1 + 2 = k + 1 by omega, show k - 1 + 1 = k by omega, hy] at this
          rw [Hid, this]; simp [List.getD, hx]
        clear hx hy
        go_upto_region 7 with fail
        refine asg_region (F := 14) (p := "ref.go:119") entersRMerge (fun a b => mrg_len) refMerge_any (by kernel_rfl) rfl rfl rfl hlt h2 hcx hkx.1 ?_
        intro vals X' hX
        simp only [asgOps, putAll, List.setIfInBounds_toArray, List.set_cons_succ, List.set_cons_zero]
        go_wp2
        go_roundw
        case rel =>
          have hzl := mrg_len h2.2 hkx.1
          exact ⟨k + 1, mrg y x, by go_num, hlt, HX.out, (h1.later hX).rowOther _ _ (by omega), (h2.later hX).row hzl, below_row (bgo hB hX) (by omega) _⟩
        case measure => simp [intOf]; omega
    · have hki : ¬ (k : Int) < (l.length : Int) := by omega
      have hyl : y.length = 8 := h2.2
      have HJ : Hid (y = joinK mrg l) := by rw [Hid, ← hy, show k = l.length by omega, List.take_length]
      clear hy
      go_wp2_with (first | (refine wpL_load rfl _ rfl rfl h2 ?_) | (refine wpL_store rfl _ _ rfl rfl rfl h1 hyl ?_))
      exact bodyPost_ret (v := .agg (cv y)) (results_cell_row rfl _ _ w.heap.size _ _ _ _ rfl (h1.row hyl).1 Tryd.underlying23 rfl (ck_size hyl)) rfl ⟨by rw [HJ.out], below_row hB (Nat.le_refl _) _⟩

set_option maxHeartbeats 400000 in
theorem refGreatest_nil (a : Option Addr) (c : Nat) (w : World) :
    Calls Tryd.prog 31 #[.slice a 0 c] w fun e w' => e = .returned (.agg (cv ck0)) ∧ Below w.heap.size w w' := by
  go_enter Tryd.func31, Tryd.ntmps31
  go_wp2
  go_loopw [4] (fun i wr => i = .int .i64 0 ∧ CkAt w.heap.size ck0 wr ∧ CkAt (w.heap.size + 1) ck0 wr ∧ Below w.heap.size w wr) (fun _ _ => 0)
  case atStart =>
    obtain ⟨a1, a2, aB⟩ := start2 w (a := ck0) (b := ck0) rfl rfl
    exact ⟨rfl, a1, a2, aB⟩
  case round =>
    obtain ⟨rfl, h1, h2, hB⟩ := hrel
    go_wp2_with (first | (refine wpL_load rfl _ rfl rfl h2 ?_) | (refine wpL_store rfl _ _ rfl rfl rfl h1 (v := ck0) rfl ?_))
    exact bodyPost_ret (v := .agg (cv ck0)) (results_cell_row rfl _ _ w.heap.size _ _ _ _ rfl (h1.row (y := ck0) rfl).1 Tryd.underlying23 rfl (ck_size rfl)) rfl ⟨rfl, below_row hB (Nat.le_refl _) _⟩
theorem refGreatest_v (l : List (List Int)) (v : Value) (w : World) (hl : SlV w v l) :
    Calls Tryd.prog 31 #[v] w fun e w' => e = .returned (.agg (cv (joinK mrg l))) ∧ Below w.heap.size w w' := by
  rcases hl with ⟨rfl, a, c, rfl⟩ | ⟨g, o, c, rfl, _, _, hl⟩
  · exact refGreatest_nil a c w
  · exact refGreatest_any l g o c w hl

theorem entersRMeet (w : World) (args : Array Value) : (callFunc 16 args).run Tryd.prog w = .ok (.enter 16 args) w := by kernel_rfl
set_option maxHeartbeats 1000000 in
theorem refLeast_any (l : List (List Int)) (g o c : Nat) (w : World) (hl : SlK w g o l) :
    Calls Tryd.prog 32 #[.slice (some ⟨g, o, none⟩) l.length c] w fun e w' => e = .returned (.agg (cv (joinK mee l))) ∧ Below w.heap.size w w' := by
  have hmx := hl.1
  unfold maxLen at hmx
  go_enter Tryd.func32, Tryd.ntmps32
  go_wp2
  go_loopw [4] (fun i wr => ∃ (k : Nat) (y : List Int), i = .int .i64 (k : Int) ∧ k ≤ l.length ∧ joinK mee (l.take k) = y ∧ CkAt w.heap.size ck0 wr ∧ CkAt (w.heap.size + 1) y wr ∧ Below w.heap.size w wr) (fun i _ => l.length - (intOf i).toNat)
  case atStart =>
    obtain ⟨a1, a2, aB⟩ := start2 w (a := ck0) (b := ck0) rfl rfl
    exact ⟨0, ck0, rfl, by omega, rfl, a1, a2, aB⟩
  case round =>
    obtain ⟨k, y, rfl, hk, hy, h1, h2, hB⟩ := hrel
    by_cases hlt : k < l.length
    · have hki : (k : Int) < (l.length : Int) := by omega
      obtain ⟨x, hx⟩ : ∃ x, l[k]? = some x := ⟨_, List.getElem?_eq_getElem hlt⟩
      obtain ⟨hkx, hcx⟩ := hl.2 k x hx
      replace hcx := hcx.later hB
      by_cases hz : k = 0
      · subst hz
        have HX : Hid (joinK mee (l.take (0 + 1)) = mee x x) := by
          match l, hx with
          | z :: l, e => simp at e; subst e; exact (mee_idem z).symm
        have hcx0 := hcx
        rw [Nat.zero_mul, Nat.add_zero] at hcx0
        have HG : Hid (g < w.heap.size) := (hl.2 0 x hx).2.1
        clear hx hy
        have g2 := h2.row hkx.1
        have gx : CsIn g (o + 0 * 8) (cv x) (wr.setRow (w.heap.size + 1) (cv x)) := ⟨by simpa using hcx.1, fun j v hv => by
          have hne : ¬ g = w.heap.size + 1 := by have := HG.out; omega
          rw [cell_setRow_other _ _ _ _ (by simpa using hne)]; exact hcx.2 j v hv⟩
        go_upto_region 7 with (first | (refine wpL_loadIn rfl _ rfl rfl hcx0 hkx.1 ?_) | (refine wpL_store rfl _ _ rfl rfl rfl h2 hkx.1 ?_))
        refine asg_region (F := 16) (p := "ref.go:131") entersRMeet (fun a b => mee_len) refMeet_any (by kernel_rfl) rfl rfl rfl hlt g2 gx hkx.1 ?_
        intro vals X' hX
        simp only [asgOps, putAll, Act.put, List.setIfInBounds_toArray, List.set_cons_succ, List.set_cons_zero]
        go_wp2
        go_roundw
        case rel =>
          have hzl := mee_len hkx.1 hkx.1
          have b1 := below_row hB (g := w.heap.size + 1) (by omega) (cv x)
          exact ⟨0 + 1, mee x x, by go_num, hlt, HX.out, ((h1.rowOther (w.heap.size + 1) (cv x) (by omega)).later hX).rowOther _ _ (by omega), (g2.later hX).row hzl, below_row (bgo b1 hX) (by omega) _⟩
        case measure => simp [intOf]; omega
      · have hz' : ((k : Int) == 0) = false := by rw [beq_eq_false_iff_ne]; omega
        have HX : Hid (joinK mee (l.take (k + 1)) = mee y x) := by
          have := joinK_take (f := mee) (l := l) (k := k - 1) (by omega)
          rw [show k - 1 + 2 = k + 1 by omega, show k - 1 + 1 = k by omega, hy] at this
          rw [Hid, this]; simp [List.getD, hx]
        clear hx hy
        go_upto_region 7 with fail
        refine asg_region (F := 16) (p := "ref.go:131") entersRMeet (fun a b => mee_len) refMeet_any (by kernel_rfl) rfl rfl rfl hlt h2 hcx hkx.1 ?_
        intro vals X' hX
        simp only [asgOps, putAll, List.setIfInBounds_toArray, List.set_cons_succ, List.set_cons_zero]
        go_wp2
        go_roundw
        case rel =>
          have hzl := mee_len h2.2 hkx.1
          exact ⟨k + 1, mee y x, by go_num, hlt, HX.out, (h1.later hX).rowOther _ _ (by omega), (h2.later hX).row hzl, below_row (bgo hB hX) (by omega) _⟩
        case measure => simp [intOf]; omega
    · have hki : ¬ (k : Int) < (l.length : Int) := by omega
      have hyl : y.length = 8 := h2.2
      have HJ : Hid (y = joinK mee l) := by rw [Hid, ← hy, show k = l.length by omega, List.take_length]
      clear hy
      go_wp2_with (first | (refine wpL_load rfl _ rfl rfl h2 ?_) | (refine wpL_store rfl _ _ rfl rfl rfl h1 hyl ?_))
      exact bodyPost_ret (v := .agg (cv y)) (results_cell_row rfl _ _ w.heap.size _ _ _ _ rfl (h1.row hyl).1 Tryd.underlying23 rfl (ck_size hyl)) rfl ⟨by rw [HJ.out], below_row hB (Nat.le_refl _) _⟩

set_option maxHeartbeats 400000 in
theorem refLeast_nil (a : Option Addr) (c : Nat) (w : World) :
    Calls Tryd.prog 32 #[.slice a 0 c] w fun e w' => e = .returned (.agg (cv ck0)) ∧ Below w.heap.size w w' := by
  go_enter Tryd.func32, Tryd.ntmps32
  go_wp2
  go_loopw [4] (fun i wr => i = .int .i64 0 ∧ CkAt w.heap.size ck0 wr ∧ CkAt (w.heap.size + 1) ck0 wr ∧ Below w.heap.size w wr) (fun _ _ => 0)
  case atStart =>
    obtain ⟨a1, a2, aB⟩ := start2 w (a := ck0) (b := ck0) rfl rfl
    exact ⟨rfl, a1, a2, aB⟩
  case round =>
    obtain ⟨rfl, h1, h2, hB⟩ := hrel
    go_wp2_with (first | (refine wpL_load rfl _ rfl rfl h2 ?_) | (refine wpL_store rfl _ _ rfl rfl rfl h1 (v := ck0) rfl ?_))
    exact bodyPost_ret (v := .agg (cv ck0)) (results_cell_row rfl _ _ w.heap.size _ _ _ _ rfl (h1.row (y := ck0) rfl).1 Tryd.underlying23 rfl (ck_size rfl)) rfl ⟨rfl, below_row hB (Nat.le_refl _) _⟩
theorem refLeast_v (l : List (List Int)) (v : Value) (w : World) (hl : SlV w v l) :
    Calls Tryd.prog 32 #[v] w fun e w' => e = .returned (.agg (cv (joinK mee l))) ∧ Below w.heap.size w w' := by
  rcases hl with ⟨rfl, a, c, rfl⟩ | ⟨g, o, c, rfl, _, _, hl⟩
  · exact refLeast_nil a c w
  · exact refLeast_any l g o c w hl
end Go.Proofs.YtceahohcmhbkmaaDoor
