
/-
  barrowkeep.Changes.
-/
import Derived.Test.YtgkbgojgpomcdaaDoorUn3
namespace Go.Proofs.YtgkbgojgpomcdaaDoor
open Go.RowKit Go.Extern.Stop Go.Stop Go.Extern
set_option maxRecDepth 100000

set_option maxHeartbeats 2000000 in
/-- Two rows of the same changes are alike. -/
theorem changes_same {w : World} {u v : Value} {l : List Xg} (h : SlD w u l) (h' : SlD w v l) (hl : l.length ≤ 4398046511104) :
    Calls Tryd.prog 20 #[u, v] w fun e w' => e = .returned (.bool true) ∧ Below w.heap.size w w' := by
  obtain ⟨a0, c0, rfl⟩ := h.form
  obtain ⟨a1, c1, rfl⟩ := h'.form
  have HD := hid_of' (And.intro h h')
  clear h h'
  go_enter Tryd.func20, Tryd.ntmps20
  go_wp2
  go_loopw [5] (fun i wr => ∃ k : Nat, i = .int .i64 (k : Int) ∧ k ≤ l.length ∧ Below w.heap.size w wr) (fun i _ => l.length - (intOf i).toNat)
  case atStart => exact ⟨0, rfl, Nat.zero_le _, Below.refl _ _⟩
  case round =>
    obtain ⟨k, rfl, hk, hB⟩ := hrel
    by_cases q0 : k < l.length
    · have p0 : (k : Int) < (l.length : Int) := by omega
      obtain ⟨_, g0, o0, rfl, hc0⟩ := HD.out.1.some' (by rintro rfl; simp at q0)
      obtain ⟨_, g1, o1, rfl, hc1⟩ := HD.out.2.some' (by rintro rfl; simp at q0)
      obtain ⟨e, he⟩ : ∃ e, l[k]? = some e := ⟨_, List.getElem?_eq_getElem q0⟩
      have hea := (hc0 k e he).later hB
      have heb := (hc1 k e he).later hB
      have hq := eq_G e
      clear hc0 hc1 he
      go_upto_region 6 with fail
      refine wp_region_cls (by kernel_rfl) (by kernel_rfl) ?_
      repeat (first | go_big_quiet_skip | (go_big_quiet_want; first | (refine quiet_load_in _ _ rfl rfl hea.cls Tryd.underlying66 rfl (g_size e) ?_; simp only [Act.put, List.setIfInBounds_toArray, List.set_cons_succ, List.set_cons_zero]; go_big_quiet_on) | (refine quiet_load_in _ _ rfl rfl heb.cls Tryd.underlying66 rfl (g_size e) ?_; simp only [Act.put, List.setIfInBounds_toArray, List.set_cons_succ, List.set_cons_zero]; go_big_quiet_on) | (go_big_quiet_op; first | go_big_quiet_on | go_big_quiet_call ((fail)))))
      refine wpQuiet_nil ?_
      rintro w1 ⟨s1, e1⟩
      have hb1 := wOf_below s1
      rw [← e1] at hb1
      clear e1 s1
      replace hB := bgo hB hb1
      clear hb1
      go_wp2
      go_roundw
      case rel => exact ⟨k + 1, by go_num, by omega, hB⟩
      case measure => simp [intOf]; omega
    · have p0 : ¬ (k : Int) < (l.length : Int) := by omega
      go_wp2
      go_ret
      exact ⟨rfl, hB⟩

end Go.Proofs.YtgkbgojgpomcdaaDoor
