
/-
  barrowlaw07.XformLists: Along and Cross of any operations.
-/
import Derived.Test.YtdafkakigigdeaaDoorXl5
namespace Go.Proofs.YtdafkakigigdeaaDoor
open Go.RowKit
set_option maxRecDepth 100000

theorem OsAt.takeO {g o_ : Nat} {l : List Xo} {w : World} (h : OsAt g o_ l w) (n : Nat) : OsAt g o_ (l.take n) w := fun i x hx => by
  by_cases q : i < n
  · rw [List.getElem?_take_of_lt q] at hx
    exact h i x hx
  · rw [List.getElem?_eq_none (by rw [List.length_take]; omega)] at hx
    cases hx

set_option maxHeartbeats 8000000 in
theorem lists_aa {W : World} {a0 a1 : Option Addr} {c0 c1 : Nat} {l m : List Xo} (h0 : SlO W (.slice a0 l.length c0) l) (h1 : SlO W (.slice a1 m.length c1) m) (hl : ∀ o ∈ l, o.In) (hm : ∀ o ∈ m, o.In) (q0 : l.length ≤ 24) (q1 : m.length ≤ 24) :
    Calls Tryd.prog 4 #[.slice a0 l.length c0, .slice a1 m.length c1] W fun r w' => r = .returned (.bool true) ∧ Below W.heap.size W w' := by
  have HW := hid_of' wakes7_ok
  have u0 : ¬ (24 : Int) < (l.length : Int) := by omega
  have k0 : SlO W (.slice a0 l.length c0) l := h0
  have i0 := hl
  have n0 : l.length ≤ 24 := by omega
  have u1 : ¬ (24 : Int) < (m.length : Int) := by omega
  have k1 : SlO W (.slice a1 m.length c1) m := h1
  have i1 := hm
  have n1 : m.length ≤ 24 := by omega
  go_enter Tryd.func4, Tryd.ntmps4
  go_upto_region 5 with fail
  have H1 := hid_of' (crossX_ok k0 k1 (fun x hx => (i0 x hx).2.1.1) (fun x hx => (i1 x hx).2.1.1) (by omega) (by omega))
  have H2 := hid_of' (fun (x : World) (hx : Below W.heap.size W x) => refCross_ok (k0.later hx) (k1.later hx) i0 i1 (by omega) (by omega))
  go_upto_region 6 with (go_at_call 9; refine H1.out.mono ?_; clear H1; rintro r w1 ⟨x1, y1, rfl, ox1, oy1, _, hb1⟩)
  go_upto_region 7 with (go_at_call 10; refine (H2.out _ hb1).mono ?_; clear H2; rintro r w2 ⟨x2, y2, rfl, ox2, oy2, _, hb2⟩)
  have cl := cross_len (m) (l)
  have s1 := ox1.sl.later hb2
  have s2 := oy1.sl.later hb2
  have s3 := ox2.sl
  have s4 := oy2.sl
  have hB := bgo hb1 hb2
  have HO := hid_of' (fun (x : World) (hx : Below w2.heap.size w2 x) => ops_eq (s1.later hx) (s3.later hx) (by omega))
  have HP := hid_of' (fun (x : World) (hx : Below w2.heap.size w2 x) => ops_eq (s2.later hx) (s4.later hx) (by omega))
  clear ox1 oy1 ox2 oy2 hb1 hb2 s1 s2 s3 s4 cl
  go_wp2_with (first | (go_at_call 11; (with_reducible refine (HO.out _ (Below.refl _ _)).mono ?_); rintro r w3 ⟨rfl, hb3⟩) | (go_at_call 11; (with_reducible refine (HP.out _ hb3).mono ?_); rintro r w4 ⟨rfl, hb4⟩))
  replace hB := bgo (bgo hB hb3) hb4
  clear HO HP hb3 hb4
  go_loopw [9] (fun i wr => ∃ k : Nat, i = .int .i64 (k : Int) ∧ k ≤ (l).length ∧ Below W.heap.size W wr) (fun i _ => (l).length - (intOf i).toNat)
  case atStart => exact ⟨0, rfl, Nat.zero_le _, hB⟩
  case round =>
    clear hB
    obtain ⟨k, rfl, hk, hB⟩ := hrel
    by_cases q0 : k < (l).length
    · have p0 : (k : Int) < (l.length : Int) := by omega
      obtain ⟨a, ha⟩ : ∃ a, (l)[k]? = some a := ⟨_, List.getElem?_eq_getElem q0⟩
      have hin := i0 a (List.mem_of_getElem? ha)
      obtain ⟨g0, o0, rfl, hc0⟩ := (h0.later hB).some (by omega)
      have hea := hc0 k a ha
      clear hc0 ha
      have hq := eq_O (alongO a (m))
      have HA := hid_of' (fun (x : World) (hx : Below W.heap.size W x) => along_ok a (k1.later hx) hin (by omega))
      have HR := hid_of' (fun (x : World) (hx : Below W.heap.size W x) => refAlong_ok a (k1.later hx) hin (by omega))
      go_upto_region 12 with fail
      refine wp_region_cls (by kernel_rfl) (by kernel_rfl) ?_
      repeat (first | go_big_quiet_skip | (go_big_quiet_want; first | (refine quiet_load_in _ _ rfl rfl hea.cls Tryd.underlying37 rfl (o_size a) ?_; simp only [Act.put, List.setIfInBounds_toArray, List.set_cons_succ, List.set_cons_zero]; go_big_quiet_on) | (go_big_quiet_op; first | go_big_quiet_on | go_big_quiet_call ((first | (go_at_call 14; exact cls_of (HA.out _ (bgo hB (wOf_below _)))) | (go_at_call 15; exact cls_of (HR.out _ (bgo hB (wOf_below _)))))))))
      refine wpQuiet_nil ?_
      rintro w1 ⟨s1, e1⟩
      have hb1 := wOf_below s1
      rw [← e1] at hb1
      clear e1 s1
      replace hB := bgo hB hb1
      clear hb1
      go_wp2
      go_roundw
      case rel => exact ⟨k + 1, by go_num, by omega, hB⟩
      case measure => simp [intOf]; omega
    · have p0 : ¬ (k : Int) < (l.length : Int) := by omega
      go_wp2_with (go_at_call 17; refine (HW.out _).mono ?_; rintro r w9 ⟨rfl, hb9⟩)
      go_ret
      exact ⟨rfl, bgo hB hb9⟩

set_option maxHeartbeats 8000000 in
theorem lists_ab {W : World} {a0 a1 : Option Addr} {c0 c1 : Nat} {l m : List Xo} (h0 : SlO W (.slice a0 l.length c0) l) (h1 : SlO W (.slice a1 m.length c1) m) (hl : ∀ o ∈ l, o.In) (hm : ∀ o ∈ m, o.In) (q0 : l.length ≤ 24) (q1 : 24 < m.length) (w1 : m.length ≤ c1) :
    Calls Tryd.prog 4 #[.slice a0 l.length c0, .slice a1 m.length c1] W fun r w' => r = .returned (.bool true) ∧ Below W.heap.size W w' := by
  have HW := hid_of' wakes7_ok
  have u0 : ¬ (24 : Int) < (l.length : Int) := by omega
  have k0 : SlO W (.slice a0 l.length c0) l := h0
  have i0 := hl
  have n0 : l.length ≤ 24 := by omega
  have u1 : (24 : Int) < (m.length : Int) := by omega
  obtain ⟨g1, o1, rfl, e1⟩ := h1.some (by omega)
  have v1 : (24 : Int) ≤ (c1 : Int) := by omega
  have n1 : (m.take 24).length = 24 := by rw [List.length_take]; omega
  have k1 : SlO W (.slice (some ⟨g1, o1, none⟩) 24 c1) (m.take 24) := .inr ⟨g1, o1, c1, by rw [n1], e1.takeO 24⟩
  have i1 : ∀ o ∈ m.take 24, o.In := fun o ho => hm o (List.mem_of_mem_take ho)
  go_enter Tryd.func4, Tryd.ntmps4
  go_upto_region 5 with fail
  have H1 := hid_of' (crossX_ok k0 k1 (fun x hx => (i0 x hx).2.1.1) (fun x hx => (i1 x hx).2.1.1) (by omega) (by omega))
  have H2 := hid_of' (fun (x : World) (hx : Below W.heap.size W x) => refCross_ok (k0.later hx) (k1.later hx) i0 i1 (by omega) (by omega))
  go_upto_region 6 with (go_at_call 9; refine H1.out.mono ?_; clear H1; rintro r w1 ⟨x1, y1, rfl, ox1, oy1, _, hb1⟩)
  go_upto_region 7 with (go_at_call 10; refine (H2.out _ hb1).mono ?_; clear H2; rintro r w2 ⟨x2, y2, rfl, ox2, oy2, _, hb2⟩)
  have cl := cross_len (m.take 24) (l)
  have s1 := ox1.sl.later hb2
  have s2 := oy1.sl.later hb2
  have s3 := ox2.sl
  have s4 := oy2.sl
  have hB := bgo hb1 hb2
  have HO := hid_of' (fun (x : World) (hx : Below w2.heap.size w2 x) => ops_eq (s1.later hx) (s3.later hx) (by omega))
  have HP := hid_of' (fun (x : World) (hx : Below w2.heap.size w2 x) => ops_eq (s2.later hx) (s4.later hx) (by omega))
  clear ox1 oy1 ox2 oy2 hb1 hb2 s1 s2 s3 s4 cl
  go_wp2_with (first | (go_at_call 11; (with_reducible refine (HO.out _ (Below.refl _ _)).mono ?_); rintro r w3 ⟨rfl, hb3⟩) | (go_at_call 11; (with_reducible refine (HP.out _ hb3).mono ?_); rintro r w4 ⟨rfl, hb4⟩))
  replace hB := bgo (bgo hB hb3) hb4
  clear HO HP hb3 hb4
  go_loopw [9] (fun i wr => ∃ k : Nat, i = .int .i64 (k : Int) ∧ k ≤ (l).length ∧ Below W.heap.size W wr) (fun i _ => (l).length - (intOf i).toNat)
  case atStart => exact ⟨0, rfl, Nat.zero_le _, hB⟩
  case round =>
    clear hB
    obtain ⟨k, rfl, hk, hB⟩ := hrel
    by_cases q0 : k < (l).length
    · have p0 : (k : Int) < (l.length : Int) := by omega
      obtain ⟨a, ha⟩ : ∃ a, (l)[k]? = some a := ⟨_, List.getElem?_eq_getElem q0⟩
      have hin := i0 a (List.mem_of_getElem? ha)
      obtain ⟨g0, o0, rfl, hc0⟩ := (h0.later hB).some (by omega)
      have hea := hc0 k a ha
      clear hc0 ha
      have hq := eq_O (alongO a (m.take 24))
      have HA := hid_of' (fun (x : World) (hx : Below W.heap.size W x) => along_ok a (k1.later hx) hin (by omega))
      have HR := hid_of' (fun (x : World) (hx : Below W.heap.size W x) => refAlong_ok a (k1.later hx) hin (by omega))
      go_upto_region 12 with fail
      refine wp_region_cls (by kernel_rfl) (by kernel_rfl) ?_
      repeat (first | go_big_quiet_skip | (go_big_quiet_want; first | (refine quiet_load_in _ _ rfl rfl hea.cls Tryd.underlying37 rfl (o_size a) ?_; simp only [Act.put, List.setIfInBounds_toArray, List.set_cons_succ, List.set_cons_zero]; go_big_quiet_on) | (go_big_quiet_op; first | go_big_quiet_on | go_big_quiet_call ((first | (go_at_call 14; exact cls_of (HA.out _ (bgo hB (wOf_below _)))) | (go_at_call 15; exact cls_of (HR.out _ (bgo hB (wOf_below _)))))))))
      refine wpQuiet_nil ?_
      rintro w1 ⟨s1, e1⟩
      have hb1 := wOf_below s1
      rw [← e1] at hb1
      clear e1 s1
      replace hB := bgo hB hb1
      clear hb1
      go_wp2
      go_roundw
      case rel => exact ⟨k + 1, by go_num, by omega, hB⟩
      case measure => simp [intOf]; omega
    · have p0 : ¬ (k : Int) < (l.length : Int) := by omega
      go_wp2_with (go_at_call 17; refine (HW.out _).mono ?_; rintro r w9 ⟨rfl, hb9⟩)
      go_ret
      exact ⟨rfl, bgo hB hb9⟩

set_option maxHeartbeats 8000000 in
theorem lists_ba {W : World} {a0 a1 : Option Addr} {c0 c1 : Nat} {l m : List Xo} (h0 : SlO W (.slice a0 l.length c0) l) (h1 : SlO W (.slice a1 m.length c1) m) (hl : ∀ o ∈ l, o.In) (hm : ∀ o ∈ m, o.In) (q0 : 24 < l.length) (w0 : l.length ≤ c0) (q1 : m.length ≤ 24) :
    Calls Tryd.prog 4 #[.slice a0 l.length c0, .slice a1 m.length c1] W fun r w' => r = .returned (.bool true) ∧ Below W.heap.size W w' := by
  have HW := hid_of' wakes7_ok
  have u0 : (24 : Int) < (l.length : Int) := by omega
  obtain ⟨g0, o0, rfl, e0⟩ := h0.some (by omega)
  have v0 : (24 : Int) ≤ (c0 : Int) := by omega
  have n0 : (l.take 24).length = 24 := by rw [List.length_take]; omega
  have k0 : SlO W (.slice (some ⟨g0, o0, none⟩) 24 c0) (l.take 24) := .inr ⟨g0, o0, c0, by rw [n0], e0.takeO 24⟩
  have i0 : ∀ o ∈ l.take 24, o.In := fun o ho => hl o (List.mem_of_mem_take ho)
  have u1 : ¬ (24 : Int) < (m.length : Int) := by omega
  have k1 : SlO W (.slice a1 m.length c1) m := h1
  have i1 := hm
  have n1 : m.length ≤ 24 := by omega
  go_enter Tryd.func4, Tryd.ntmps4
  go_upto_region 5 with fail
  have H1 := hid_of' (crossX_ok k0 k1 (fun x hx => (i0 x hx).2.1.1) (fun x hx => (i1 x hx).2.1.1) (by omega) (by omega))
  have H2 := hid_of' (fun (x : World) (hx : Below W.heap.size W x) => refCross_ok (k0.later hx) (k1.later hx) i0 i1 (by omega) (by omega))
  go_upto_region 6 with (go_at_call 9; refine H1.out.mono ?_; clear H1; rintro r w1 ⟨x1, y1, rfl, ox1, oy1, _, hb1⟩)
  go_upto_region 7 with (go_at_call 10; refine (H2.out _ hb1).mono ?_; clear H2; rintro r w2 ⟨x2, y2, rfl, ox2, oy2, _, hb2⟩)
  have cl := cross_len (m) (l.take 24)
  have s1 := ox1.sl.later hb2
  have s2 := oy1.sl.later hb2
  have s3 := ox2.sl
  have s4 := oy2.sl
  have hB := bgo hb1 hb2
  have HO := hid_of' (fun (x : World) (hx : Below w2.heap.size w2 x) => ops_eq (s1.later hx) (s3.later hx) (by omega))
  have HP := hid_of' (fun (x : World) (hx : Below w2.heap.size w2 x) => ops_eq (s2.later hx) (s4.later hx) (by omega))
  clear ox1 oy1 ox2 oy2 hb1 hb2 s1 s2 s3 s4 cl
  go_wp2_with (first | (go_at_call 11; (with_reducible refine (HO.out _ (Below.refl _ _)).mono ?_); rintro r w3 ⟨rfl, hb3⟩) | (go_at_call 11; (with_reducible refine (HP.out _ hb3).mono ?_); rintro r w4 ⟨rfl, hb4⟩))
  replace hB := bgo (bgo hB hb3) hb4
  clear HO HP hb3 hb4
  go_loopw [9] (fun i wr => ∃ k : Nat, i = .int .i64 (k : Int) ∧ k ≤ (l.take 24).length ∧ Below W.heap.size W wr) (fun i _ => (l.take 24).length - (intOf i).toNat)
  case atStart => exact ⟨0, rfl, Nat.zero_le _, hB⟩
  case round =>
    clear hB
    obtain ⟨k, rfl, hk, hB⟩ := hrel
    by_cases q0 : k < (l.take 24).length
    · have p0 : (k : Int) < 24 := by omega
      obtain ⟨a, ha⟩ : ∃ a, (l.take 24)[k]? = some a := ⟨_, List.getElem?_eq_getElem q0⟩
      have hin := i0 a (List.mem_of_getElem? ha)
      have hea := (OsAt.later e0 hB) k a ((List.getElem?_take_of_lt (by omega)).symm.trans ha)
      clear ha
      have hq := eq_O (alongO a (m))
      have HA := hid_of' (fun (x : World) (hx : Below W.heap.size W x) => along_ok a (k1.later hx) hin (by omega))
      have HR := hid_of' (fun (x : World) (hx : Below W.heap.size W x) => refAlong_ok a (k1.later hx) hin (by omega))
      go_upto_region 12 with fail
      refine wp_region_cls (by kernel_rfl) (by kernel_rfl) ?_
      repeat (first | go_big_quiet_skip | (go_big_quiet_want; first | (refine quiet_load_in _ _ rfl rfl hea.cls Tryd.underlying37 rfl (o_size a) ?_; simp only [Act.put, List.setIfInBounds_toArray, List.set_cons_succ, List.set_cons_zero]; go_big_quiet_on) | (go_big_quiet_op; first | go_big_quiet_on | go_big_quiet_call ((first | (go_at_call 14; exact cls_of (HA.out _ (bgo hB (wOf_below _)))) | (go_at_call 15; exact cls_of (HR.out _ (bgo hB (wOf_below _)))))))))
      refine wpQuiet_nil ?_
      rintro w1 ⟨s1, e1⟩
      have hb1 := wOf_below s1
      rw [← e1] at hb1
      clear e1 s1
      replace hB := bgo hB hb1
      clear hb1
      go_wp2
      go_roundw
      case rel => exact ⟨k + 1, by go_num, by omega, hB⟩
      case measure => simp [intOf]; omega
    · have p0 : ¬ (k : Int) < 24 := by omega
      go_wp2_with (go_at_call 17; refine (HW.out _).mono ?_; rintro r w9 ⟨rfl, hb9⟩)
      go_ret
      exact ⟨rfl, bgo hB hb9⟩

set_option maxHeartbeats 8000000 in
theorem lists_bb {W : World} {a0 a1 : Option Addr} {c0 c1 : Nat} {l m : List Xo} (h0 : SlO W (.slice a0 l.length c0) l) (h1 : SlO W (.slice a1 m.length c1) m) (hl : ∀ o ∈ l, o.In) (hm : ∀ o ∈ m, o.In) (q0 : 24 < l.length) (w0 : l.length ≤ c0) (q1 : 24 < m.length) (w1 : m.length ≤ c1) :
    Calls Tryd.prog 4 #[.slice a0 l.length c0, .slice a1 m.length c1] W fun r w' => r = .returned (.bool true) ∧ Below W.heap.size W w' := by
  have HW := hid_of' wakes7_ok
  have u0 : (24 : Int) < (l.length : Int) := by omega
  obtain ⟨g0, o0, rfl, e0⟩ := h0.some (by omega)
  have v0 : (24 : Int) ≤ (c0 : Int) := by omega
  have n0 : (l.take 24).length = 24 := by rw [List.length_take]; omega
  have k0 : SlO W (.slice (some ⟨g0, o0, none⟩) 24 c0) (l.take 24) := .inr ⟨g0, o0, c0, by rw [n0], e0.takeO 24⟩
  have i0 : ∀ o ∈ l.take 24, o.In := fun o ho => hl o (List.mem_of_mem_take ho)
  have u1 : (24 : Int) < (m.length : Int) := by omega
  obtain ⟨g1, o1, rfl, e1⟩ := h1.some (by omega)
  have v1 : (24 : Int) ≤ (c1 : Int) := by omega
  have n1 : (m.take 24).length = 24 := by rw [List.length_take]; omega
  have k1 : SlO W (.slice (some ⟨g1, o1, none⟩) 24 c1) (m.take 24) := .inr ⟨g1, o1, c1, by rw [n1], e1.takeO 24⟩
  have i1 : ∀ o ∈ m.take 24, o.In := fun o ho => hm o (List.mem_of_mem_take ho)
  go_enter Tryd.func4, Tryd.ntmps4
  go_upto_region 5 with fail
  have H1 := hid_of' (crossX_ok k0 k1 (fun x hx => (i0 x hx).2.1.1) (fun x hx => (i1 x hx).2.1.1) (by omega) (by omega))
  have H2 := hid_of' (fun (x : World) (hx : Below W.heap.size W x) => refCross_ok (k0.later hx) (k1.later hx) i0 i1 (by omega) (by omega))
  go_upto_region 6 with (go_at_call 9; refine H1.out.mono ?_; clear H1; rintro r w1 ⟨x1, y1, rfl, ox1, oy1, _, hb1⟩)
  go_upto_region 7 with (go_at_call 10; refine (H2.out _ hb1).mono ?_; clear H2; rintro r w2 ⟨x2, y2, rfl, ox2, oy2, _, hb2⟩)
  have cl := cross_len (m.take 24) (l.take 24)
  have s1 := ox1.sl.later hb2
  have s2 := oy1.sl.later hb2
  have s3 := ox2.sl
  have s4 := oy2.sl
  have hB := bgo hb1 hb2
  have HO := hid_of' (fun (x : World) (hx : Below w2.heap.size w2 x) => ops_eq (s1.later hx) (s3.later hx) (by omega))
  have HP := hid_of' (fun (x : World) (hx : Below w2.heap.size w2 x) => ops_eq (s2.later hx) (s4.later hx) (by omega))
  clear ox1 oy1 ox2 oy2 hb1 hb2 s1 s2 s3 s4 cl
  go_wp2_with (first | (go_at_call 11; (with_reducible refine (HO.out _ (Below.refl _ _)).mono ?_); rintro r w3 ⟨rfl, hb3⟩) | (go_at_call 11; (with_reducible refine (HP.out _ hb3).mono ?_); rintro r w4 ⟨rfl, hb4⟩))
  replace hB := bgo (bgo hB hb3) hb4
  clear HO HP hb3 hb4
  go_loopw [9] (fun i wr => ∃ k : Nat, i = .int .i64 (k : Int) ∧ k ≤ (l.take 24).length ∧ Below W.heap.size W wr) (fun i _ => (l.take 24).length - (intOf i).toNat)
  case atStart => exact ⟨0, rfl, Nat.zero_le _, hB⟩
  case round =>
    clear hB
    obtain ⟨k, rfl, hk, hB⟩ := hrel
    by_cases q0 : k < (l.take 24).length
    · have p0 : (k : Int) < 24 := by omega
      obtain ⟨a, ha⟩ : ∃ a, (l.take 24)[k]? = some a := ⟨_, List.getElem?_eq_getElem q0⟩
      have hin := i0 a (List.mem_of_getElem? ha)
      have hea := (OsAt.later e0 hB) k a ((List.getElem?_take_of_lt (by omega)).symm.trans ha)
      clear ha
      have hq := eq_O (alongO a (m.take 24))
      have HA := hid_of' (fun (x : World) (hx : Below W.heap.size W x) => along_ok a (k1.later hx) hin (by omega))
      have HR := hid_of' (fun (x : World) (hx : Below W.heap.size W x) => refAlong_ok a (k1.later hx) hin (by omega))
      go_upto_region 12 with fail
      refine wp_region_cls (by kernel_rfl) (by kernel_rfl) ?_
      repeat (first | go_big_quiet_skip | (go_big_quiet_want; first | (refine quiet_load_in _ _ rfl rfl hea.cls Tryd.underlying37 rfl (o_size a) ?_; simp only [Act.put, List.setIfInBounds_toArray, List.set_cons_succ, List.set_cons_zero]; go_big_quiet_on) | (go_big_quiet_op; first | go_big_quiet_on | go_big_quiet_call ((first | (go_at_call 14; exact cls_of (HA.out _ (bgo hB (wOf_below _)))) | (go_at_call 15; exact cls_of (HR.out _ (bgo hB (wOf_below _)))))))))
      refine wpQuiet_nil ?_
      rintro w1 ⟨s1, e1⟩
      have hb1 := wOf_below s1
      rw [← e1] at hb1
      clear e1 s1
      replace hB := bgo hB hb1
      clear hb1
      go_wp2
      go_roundw
      case rel => exact ⟨k + 1, by go_num, by omega, hB⟩
      case measure => simp [intOf]; omega
    · have p0 : ¬ (k : Int) < 24 := by omega
      go_wp2_with (go_at_call 17; refine (HW.out _).mono ?_; rintro r w9 ⟨rfl, hb9⟩)
      go_ret
      exact ⟨rfl, bgo hB hb9⟩

theorem xformLists_all {W : World} {v0 v1 : Value} {l m : List Xo} (h0 : SlO W v0 l) (h1 : SlO W v1 m) (hl : ∀ o ∈ l, o.In) (hm : ∀ o ∈ m, o.In) (hc0 : ∀ a n c, v0 = .slice a n c → n ≤ c) (hc1 : ∀ a n c, v1 = .slice a n c → n ≤ c) :
    Calls Tryd.prog 4 #[v0, v1] W fun r w' => r = .returned (.bool true) ∧ Below W.heap.size W w' := by
  obtain ⟨a0, c0, rfl⟩ := h0.form
  obtain ⟨a1, c1, rfl⟩ := h1.form
  have w0 := hc0 _ _ _ rfl
  have w1 := hc1 _ _ _ rfl
  by_cases q0 : l.length ≤ 24
  · by_cases q1 : m.length ≤ 24
    · exact lists_aa h0 h1 hl hm q0 q1
    · exact lists_ab h0 h1 hl hm q0 (by omega) w1
  · by_cases q1 : m.length ≤ 24
    · exact lists_ba h0 h1 hl hm (by omega) w0 q1
    · exact lists_bb h0 h1 hl hm (by omega) w0 (by omega) w1
end Go.Proofs.YtdafkakigigdeaaDoor
