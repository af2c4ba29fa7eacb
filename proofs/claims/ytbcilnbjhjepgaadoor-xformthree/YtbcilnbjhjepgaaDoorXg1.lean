
/-
  barrowlaw07.XformT: T of any two operations.
-/
import Derived.Test.YtbcilnbjhjepgaaDoorXf7
import Derived.Test.YtbcilnbjhjepgaaDoorXf2
namespace Go.Proofs.YtbcilnbjhjepgaaDoor
open Go.RowKit
set_option maxRecDepth 100000

/-- Numbers of Go's int. -/
def Xo.In (o : Xo) : Prop := In64 o.k ∧ In64 o.p ∧ In64 o.r
theorem eq_O (o : Xo) (w : World) : (Op.equalIn 10000 24 (.agg (ov o)) (.agg (ov o))).run Tryd.prog w = .ok true w := by
  unfold ov
  simp [go_sem]
theorem SlO.some {w : World} {a : Option Addr} {c : Nat} {l : List Xo} (h : SlO w (.slice a l.length c) l) (h0 : 0 < l.length) : ∃ g o_, a = Option.some ⟨g, o_, none⟩ ∧ OsAt g o_ l w := by
  rcases h with ⟨h, _⟩ | ⟨g, o_, c', hv, hc⟩
  · subst h; simp at h0
  · simp only [Value.slice.injEq] at hv
    exact ⟨g, o_, hv.1, hc⟩

set_option maxHeartbeats 2000000 in
theorem xformT_all {W : World} {v0 v1 : Value} {l m : List Xo} (h0 : SlO W v0 l) (h1 : SlO W v1 m) (hl : ∀ o ∈ l, o.In) (hml : l.length ≤ 9223372036854775807) :
    Calls Tryd.prog 3 #[v0, v1] W fun r w' => r = .returned (.bool true) ∧ Below W.heap.size W w' := by
  obtain ⟨a0, c0, rfl⟩ := h0.form
  obtain ⟨a1, c1, rfl⟩ := h1.form
  have HW := hid_of' wakes7_ok
  go_enter Tryd.func3, Tryd.ntmps3
  go_wp2
  go_loopw [5] (fun i wr => ∃ k : Nat, i = .int .i64 (k : Int) ∧ k ≤ l.length ∧ Below W.heap.size W wr) (fun i _ => l.length - (intOf i).toNat)
  case atStart => exact ⟨0, rfl, Nat.zero_le _, Below.refl _ _⟩
  case round =>
    obtain ⟨k, rfl, hk, hB⟩ := hrel
    by_cases q0 : k < l.length
    · have p0 : (k : Int) < (l.length : Int) := by omega
      by_cases q1 : k < m.length
      · have p1 : (k : Int) < (m.length : Int) := by omega
        obtain ⟨g0, o0, rfl, hc0⟩ := (h0.later hB).some (by omega)
        obtain ⟨g1, o1, rfl, hc1⟩ := (h1.later hB).some (by omega)
        obtain ⟨a, ha⟩ : ∃ a, l[k]? = some a := ⟨_, List.getElem?_eq_getElem q0⟩
        obtain ⟨b, hb⟩ : ∃ b, m[k]? = some b := ⟨_, List.getElem?_eq_getElem q1⟩
        have hea := hc0 k a ha
        have heb := hc1 k b hb
        have hin := (hl a (List.mem_of_getElem? ha)).2.1
        have hq := eq_O (tO a b)
        clear hc0 hc1 ha hb
        go_upto_region 4 with fail
        refine wp_region_cls (by kernel_rfl) (by kernel_rfl) ?_
        repeat (first | go_big_quiet_skip | (go_big_quiet_want; first | (refine quiet_load_in _ _ rfl rfl hea.cls Tryd.underlying24 rfl (o_size a) ?_; simp only [Act.put, List.setIfInBounds_toArray, List.set_cons_succ, List.set_cons_zero]; go_big_quiet_on) | (refine quiet_load_in _ _ rfl rfl heb.cls Tryd.underlying24 rfl (o_size b) ?_; simp only [Act.put, List.setIfInBounds_toArray, List.set_cons_succ, List.set_cons_zero]; go_big_quiet_on) | (go_big_quiet_op; first | go_big_quiet_on | go_big_quiet_call ((first | (go_at_call 7; exact cls_of (tX_any a b _ hin.1)) | (go_at_call 8; exact cls_of (refT_any a b _ hin.1 hin.2)))))))
        refine wpQuiet_nil ?_
        rintro w1 ⟨s1, e1⟩
        have hb1 := wOf_below s1
        rw [← e1] at hb1
        clear e1 s1
        replace hB := bgo hB hb1
        clear hb1
        go_wp2
        go_roundw
        case rel => exact ⟨k + 1, by go_num, by omega, hB⟩
        case measure => simp [intOf]; omega
      · have p1 : ¬ (k : Int) < (m.length : Int) := by omega
        go_wp2_with (go_at_call 9; refine (HW.out _).mono ?_; rintro r w9 ⟨rfl, hb9⟩)
        go_ret
        exact ⟨rfl, bgo hB hb9⟩
    · have p0 : ¬ (k : Int) < (l.length : Int) := by omega
      go_wp2_with (go_at_call 9; refine (HW.out _).mono ?_; rintro r w9 ⟨rfl, hb9⟩)
      go_ret
      exact ⟨rfl, bgo hB hb9⟩
end Go.Proofs.YtbcilnbjhjepgaaDoor
