
/-
  barrowlaw15.DiffMetric holds of any three texts.
-/
import Derived.Test.YtckbihcijpploaaDoorDl1
namespace Go.Proofs.YtckbihcijpploaaDoor
open Go.RowKit Go.Extern.Stop Go.Stop Go.Extern
set_option maxRecDepth 100000

theorem clip_b (s : ByteArray) (hs : s.size ≤ 9223372036854775807) (w : World) : Calls Tryd.prog 9 #[.string s] w fun e w' => e = .returned (.string (clB s)) ∧ Below w.heap.size w w' := by
  refine (clip_is s hs w).mono ?_
  rintro e w' ⟨h1, rfl⟩
  exact ⟨h1, Below.refl _ _⟩
/-- How many characters; -1: it is no UTF-8. -/
def lenI (s : ByteArray) : Int := if Lib.validD s.data.toList = true then ((rn s.data.toList).length : Int) else -1
theorem length_is (w : World) (s : ByteArray) (hs : s.size ≤ 1000000000) : Calls Tryd.prog 24 #[.string s] w fun e w' => e = .returned (.int .i64 (lenI s)) ∧ Below w.heap.size w w' := by
  unfold lenI
  cases hv : Lib.validD s.data.toList
  · have HR := hid_of' (runes_no w s hs hv)
    rw [if_neg (by decide)]
    go_enter Tryd.func24, Tryd.ntmps24
    go_wp2_with (go_at_call 25; (with_reducible refine HR.out.mono ?_); rintro e w1 ⟨rfl, b1⟩)
    go_ret
    exact ⟨rfl, b1⟩
  · have HR := hid_of' (runes_ok w s hs hv)
    rw [if_pos rfl]
    go_enter Tryd.func24, Tryd.ntmps24
    generalize rn s.data.toList = xs at HR ⊢
    go_wp2_with (go_at_call 25; (with_reducible refine HR.out.mono ?_); rintro e w1 ⟨v, rfl, h1, _, b1⟩; obtain ⟨o1, c1, e1, _⟩ := h1.form; subst e1; clear h1)
    go_ret
    exact ⟨rfl, b1⟩
theorem lenI_ok {s : ByteArray} (h : Lib.validD s.data.toList = true) : ¬ lenI s < 0 := by
  unfold lenI
  rw [if_pos h]
  omega
theorem lenI_no {s : ByteArray} (h : Lib.validD s.data.toList = false) : lenI s < 0 := by
  unfold lenI
  rw [if_neg (by rw [h]; decide)]
  omega
set_option maxHeartbeats 8000000 in
theorem metric_law {ad : Nat → Addr} {w : World} (E : Env ad w) (a b c : ByteArray) (l : Value) (ha : a.size ≤ 9223372036854775807) (hb : b.size ≤ 9223372036854775807) (hc : c.size ≤ 9223372036854775807) (va : Lib.validD (clB a).data.toList = true) (vb : Lib.validD (clB b).data.toList = true) (vc : Lib.validD (clB c).data.toList = true) (_hl9 : l.oneCell' = true) :
    Calls Tryd.prog 6 #[.agg #[.string a, .string b, .string c, l]] w fun e w' => e = .returned (.bool true) ∧ Below w.heap.size w w' := by
  have HCa := hid_of' (fun x => clip_b a ha x)
  have HCb := hid_of' (fun x => clip_b b hb x)
  have HCc := hid_of' (fun x => clip_b c hc x)
  have sa := clB_size a
  have sb := clB_size b
  have sc := clB_size c
  generalize clB a = a1 at HCa va sa
  generalize clB b = b1 at HCb vb sb
  generalize clB c = c1 at HCc vc sc
  have HLa := hid_of' (fun x => length_is x a1 (small9 sa))
  have HLb := hid_of' (fun x => length_is x b1 (small9 sb))
  have HLc := hid_of' (fun x => length_is x c1 (small9 sc))
  have ga := lenI_ok va
  have gb := lenI_ok vb
  have gc := lenI_ok vc
  have HDab := hid_of' (fun (x : World) (hx : Below w.heap.size w x) => dist_ok (E.later hx) a1 b1 (small70 sa) (small70 sb) (chW_small sa sb va vb))
  have HDba := hid_of' (fun (x : World) (hx : Below w.heap.size w x) => dist_ok (E.later hx) b1 a1 (small70 sb) (small70 sa) (chW_small sb sa vb va))
  have HDbc := hid_of' (fun (x : World) (hx : Below w.heap.size w x) => dist_ok (E.later hx) b1 c1 (small70 sb) (small70 sc) (chW_small sb sc vb vc))
  have HDac := hid_of' (fun (x : World) (hx : Below w.heap.size w x) => dist_ok (E.later hx) a1 c1 (small70 sa) (small70 sc) (chW_small sa sc va vc))
  rw [ds_sym (rn b1.data.toList) (rn a1.data.toList)] at HDba
  have htri := ds_tri (rn a1.data.toList) (rn b1.data.toList) (rn c1.data.toList)
  have hle1 := ds_le (rn a1.data.toList) (rn b1.data.toList)
  have hle2 := ds_le (rn b1.data.toList) (rn c1.data.toList)
  have hal := Nat.le_trans (rn_len a1.data.toList) (show a1.data.toList.length ≤ 120 by rw [Array.length_toList]; exact sa)
  have hbl := Nat.le_trans (rn_len b1.data.toList) (show b1.data.toList.length ≤ 120 by rw [Array.length_toList]; exact sb)
  have hcl := Nat.le_trans (rn_len c1.data.toList) (show c1.data.toList.length ≤ 120 by rw [Array.length_toList]; exact sc)
  generalize ds (rn a1.data.toList) (rn b1.data.toList) = dab at HDab HDba htri hle1
  generalize ds (rn b1.data.toList) (rn c1.data.toList) = dbc at HDbc htri hle2
  generalize ds (rn a1.data.toList) (rn c1.data.toList) = dac at HDac htri
  have hb1' : dab ≤ 240 := by omega
  have hb2' : dbc ≤ 240 := by omega
  have htr : (dac : Int) ≤ (dab : Int) + (dbc : Int) := by omega
  generalize lenI a1 = la at HLa ga
  generalize lenI b1 = lb at HLb gb
  generalize lenI c1 = lc at HLc gc
  have HE := hid_of' E
  clear va vb vc E sa sb sc ha hb hc htri hle1 hle2 hal hbl hcl
  go_enter Tryd.func6, Tryd.ntmps6
  go_upto_region 1 with fail
  have r0 := RowAt.new w #[.string a, .string b, .string c, l] 47
  have b0 := below_one w (.cells #[.string a, .string b, .string c, l] 47)
  obtain ⟨X, hXe⟩ : ∃ X, X = w.heap.size := ⟨_, rfl⟩
  rw [← hXe] at r0 ⊢
  generalize w.alloc (.cells #[.string a, .string b, .string c, l] 47) = W0 at r0 b0 ⊢
  refine wp_region_tail 9 (by kernel_rfl) (fun _ => none) (by kernel_rfl) (by kernel_rfl) (by decide) (fun i v x => match i with
    | 0 => v = .pointer (some ⟨X, 0, none⟩)
    | 1 => v = .string a
    | 2 => v = .string a1
    | 3 => v = .pointer (some ⟨X, 1, none⟩)
    | 4 => v = .string b
    | 5 => v = .string b1
    | 6 => v = .pointer (some ⟨X, 2, none⟩)
    | 7 => v = .string c
    | 8 => v = .string c1
    | _ => True) (fun _ => false) (fun _ _ _ _ h => by cases h) ?_ ?_ ?_
  · intro i v x x' hR hb
    match i, hR with
    | 0, h => exact h
    | 1, h => exact h
    | 2, h => exact h
    | 3, h => exact h
    | 4, h => exact h
    | 5, h => exact h
    | 6, h => exact h
    | 7, h => exact h
    | 8, h => exact h
    | m + 9, h => exact h
  · intro i o hi ho q x vals hX hdep hoth
    have t1 : q.tmps[1]? = some (.pointer (some ⟨X, 0, none⟩)) := by rw [hoth 1 (by kernel_rfl)]; rfl
    match i, hi, ho with
    | 0, _, ho =>
      simp only [List.getElem?_cons_zero, Option.some.injEq] at ho
      subst ho
      unfold Oper.wp
      simp [execOp, go_sem, t1]
      exact came _ rfl (Below.refl _ _) rfl (fun h => absurd h (by decide))
    | 1, _, ho =>
      simp only [List.getElem?_cons_succ, List.getElem?_cons_zero, Option.some.injEq] at ho
      subst ho
      obtain ⟨u0, e0⟩ := hdep ⟨0, .data⟩ (by simp) rfl _ 14 rfl rfl
      rw [show vals 0 = .pointer (some ⟨X, 0, none⟩) from e0] at u0
      have cc : x.cell? ⟨X, 0, none⟩ = some (.string a) := (r0.later hX).is rfl
      unfold Oper.wp
      simp [execOp, go_sem, u0, cc]
      exact came _ rfl (Below.refl _ _) rfl (fun h => absurd h (by decide))
    | 2, _, ho =>
      simp only [List.getElem?_cons_succ, List.getElem?_cons_zero, Option.some.injEq] at ho
      subst ho
      obtain ⟨u1, e1⟩ := hdep ⟨1, .data⟩ (by simp) rfl _ 15 rfl rfl
      rw [show vals 1 = .string a from e1] at u1
      unfold Oper.wp
      simp [go_sem, u1]
      refine (HCa.out x).mono ?_
      rintro r x1 ⟨rfl, hb1⟩
      exact came _ rfl hb1 rfl (fun h => absurd h (by decide))
    | 3, _, ho =>
      simp only [List.getElem?_cons_succ, List.getElem?_cons_zero, Option.some.injEq] at ho
      subst ho
      unfold Oper.wp
      simp [execOp, go_sem, t1]
      exact came _ rfl (Below.refl _ _) rfl (fun h => absurd h (by decide))
    | 4, _, ho =>
      simp only [List.getElem?_cons_succ, List.getElem?_cons_zero, Option.some.injEq] at ho
      subst ho
      obtain ⟨u3, e3⟩ := hdep ⟨3, .data⟩ (by simp) rfl _ 17 rfl rfl
      rw [show vals 3 = .pointer (some ⟨X, 1, none⟩) from e3] at u3
      have cc : x.cell? ⟨X, 1, none⟩ = some (.string b) := (r0.later hX).is rfl
      unfold Oper.wp
      simp [execOp, go_sem, u3, cc]
      exact came _ rfl (Below.refl _ _) rfl (fun h => absurd h (by decide))
    | 5, _, ho =>
      simp only [List.getElem?_cons_succ, List.getElem?_cons_zero, Option.some.injEq] at ho
      subst ho
      obtain ⟨u4, e4⟩ := hdep ⟨4, .data⟩ (by simp) rfl _ 18 rfl rfl
      rw [show vals 4 = .string b from e4] at u4
      unfold Oper.wp
      simp [go_sem, u4]
      refine (HCb.out x).mono ?_
      rintro r x1 ⟨rfl, hb1⟩
      exact came _ rfl hb1 rfl (fun h => absurd h (by decide))
    | 6, _, ho =>
      simp only [List.getElem?_cons_succ, List.getElem?_cons_zero, Option.some.injEq] at ho
      subst ho
      unfold Oper.wp
      simp [execOp, go_sem, t1]
      exact came _ rfl (Below.refl _ _) rfl (fun h => absurd h (by decide))
    | 7, _, ho =>
      simp only [List.getElem?_cons_succ, List.getElem?_cons_zero, Option.some.injEq] at ho
      subst ho
      obtain ⟨u6, e6⟩ := hdep ⟨6, .data⟩ (by simp) rfl _ 20 rfl rfl
      rw [show vals 6 = .pointer (some ⟨X, 2, none⟩) from e6] at u6
      have cc : x.cell? ⟨X, 2, none⟩ = some (.string c) := (r0.later hX).is rfl
      unfold Oper.wp
      simp [execOp, go_sem, u6, cc]
      exact came _ rfl (Below.refl _ _) rfl (fun h => absurd h (by decide))
    | 8, _, ho =>
      simp only [List.getElem?_cons_succ, List.getElem?_cons_zero, Option.some.injEq] at ho
      subst ho
      obtain ⟨u7, e7⟩ := hdep ⟨7, .data⟩ (by simp) rfl _ 21 rfl rfl
      rw [show vals 7 = .string c from e7] at u7
      unfold Oper.wp
      simp [go_sem, u7]
      refine (HCc.out x).mono ?_
      rintro r x1 ⟨rfl, hb1⟩
      exact came _ rfl hb1 rfl (fun h => absurd h (by decide))
    | m + 9, hi, _ => exact absurd hi (by omega)
  · intro vals W1 hX hR _
    have f0 : vals 0 = .pointer (some ⟨X, 0, none⟩) := hR 0 (by decide)
    have f1 : vals 1 = .string a := hR 1 (by decide)
    have f2 : vals 2 = .string a1 := hR 2 (by decide)
    have f3 : vals 3 = .pointer (some ⟨X, 1, none⟩) := hR 3 (by decide)
    have f4 : vals 4 = .string b := hR 4 (by decide)
    have f5 : vals 5 = .string b1 := hR 5 (by decide)
    have f6 : vals 6 = .pointer (some ⟨X, 2, none⟩) := hR 6 (by decide)
    have f7 : vals 7 = .string c := hR 7 (by decide)
    have f8 : vals 8 = .string c1 := hR 8 (by decide)
    simp only [List.drop, List.take, putAll, List.setIfInBounds_toArray, List.set_cons_succ, List.set_cons_zero, f0, f1, f2, f3, f4, f5, f6, f7, f8]
    clear f0 f1 f2 f3 f4 f5 f6 f7 f8 hR
    have HB := hid_of' (bgo b0 hX)
    clear b0 hX r0 hXe
    go_upto_region 4 with (go_at_call 24; first
      | ((with_reducible refine (HLa.out _).mono ?_); rintro e x1 ⟨rfl, q1⟩; have HQ1 := hid_of' (bgo HB.out q1); clear q1 HLa)
      | ((with_reducible refine (HLb.out _).mono ?_); rintro e x2 ⟨rfl, q2⟩; have HQ2 := hid_of' (bgo HQ1.out q2); clear q2 HLb)
      | ((with_reducible refine (HLc.out _).mono ?_); rintro e x3 ⟨rfl, q3⟩; have HQ3 := hid_of' (bgo HQ2.out q3); clear q3 HLc))
    go_upto_region 5 with (go_at_call 10; (with_reducible refine (HDab.out _ HQ3.out).mono ?_); rintro e x4 ⟨rfl, q4⟩; have HQ4 := hid_of' (bgo HQ3.out q4); clear q4)
    go_upto_region 6 with (go_at_call 10; (with_reducible refine (HDba.out _ HQ4.out).mono ?_); rintro e x5 ⟨rfl, q5⟩; have HQ5 := hid_of' (bgo HQ4.out q5); clear q5)
    go_upto_region 7 with (go_at_call 10; (with_reducible refine (HDbc.out _ HQ5.out).mono ?_); rintro e x6 ⟨rfl, q6⟩; have HQ6 := hid_of' (bgo HQ5.out q6); clear q6)
    go_upto_region 8 with (go_at_call 10; (with_reducible refine (HDac.out _ HQ6.out).mono ?_); rintro e x7 ⟨rfl, q7⟩; have HQ7 := hid_of' (bgo HQ6.out q7); clear q7)
    have HZ := hid_of' (wakes_is (HE.out.later HQ7.out))
    go_wp2_with (go_at_call 18; (with_reducible refine HZ.out.mono ?_); rintro e x8 ⟨rfl, b8⟩)
    go_ret
    exact ⟨rfl, bgo HQ7.out b8⟩
set_option maxHeartbeats 8000000 in
theorem metric_no {ad : Nat → Addr} {w : World} (E : Env ad w) (a b c : ByteArray) (l : Value) (ha : a.size ≤ 9223372036854775807) (hb : b.size ≤ 9223372036854775807) (hc : c.size ≤ 9223372036854775807) (_hl9 : l.oneCell' = true) (hv : lenI (clB a) < 0 ∨ lenI (clB b) < 0 ∨ lenI (clB c) < 0) :
    Calls Tryd.prog 6 #[.agg #[.string a, .string b, .string c, l]] w fun e w' => e = .returned (.bool true) ∧ Below w.heap.size w w' := by
  have HCa := hid_of' (fun x => clip_b a ha x)
  have HCb := hid_of' (fun x => clip_b b hb x)
  have HCc := hid_of' (fun x => clip_b c hc x)
  have sa := clB_size a
  have sb := clB_size b
  have sc := clB_size c
  generalize clB a = a1 at HCa hv sa
  generalize clB b = b1 at HCb hv sb
  generalize clB c = c1 at HCc hv sc
  have HLa := hid_of' (fun x => length_is x a1 (small9 sa))
  have HLb := hid_of' (fun x => length_is x b1 (small9 sb))
  have HLc := hid_of' (fun x => length_is x c1 (small9 sc))
  generalize lenI a1 = la at HLa hv
  generalize lenI b1 = lb at HLb hv
  generalize lenI c1 = lc at HLc hv
  have HE := hid_of' E
  have HV := hid_of' hv
  clear E sa sb sc ha hb hc hv
  go_enter Tryd.func6, Tryd.ntmps6
  go_upto_region 1 with fail
  have r0 := RowAt.new w #[.string a, .string b, .string c, l] 47
  have b0 := below_one w (.cells #[.string a, .string b, .string c, l] 47)
  obtain ⟨X, hXe⟩ : ∃ X, X = w.heap.size := ⟨_, rfl⟩
  rw [← hXe] at r0 ⊢
  generalize w.alloc (.cells #[.string a, .string b, .string c, l] 47) = W0 at r0 b0 ⊢
  refine wp_region_tail 9 (by kernel_rfl) (fun _ => none) (by kernel_rfl) (by kernel_rfl) (by decide) (fun i v x => match i with
    | 0 => v = .pointer (some ⟨X, 0, none⟩)
    | 1 => v = .string a
    | 2 => v = .string a1
    | 3 => v = .pointer (some ⟨X, 1, none⟩)
    | 4 => v = .string b
    | 5 => v = .string b1
    | 6 => v = .pointer (some ⟨X, 2, none⟩)
    | 7 => v = .string c
    | 8 => v = .string c1
    | _ => True) (fun _ => false) (fun _ _ _ _ h => by cases h) ?_ ?_ ?_
  · intro i v x x' hR hb
    match i, hR with
    | 0, h => exact h
    | 1, h => exact h
    | 2, h => exact h
    | 3, h => exact h
    | 4, h => exact h
    | 5, h => exact h
    | 6, h => exact h
    | 7, h => exact h
    | 8, h => exact h
    | m + 9, h => exact h
  · intro i o hi ho q x vals hX hdep hoth
    have t1 : q.tmps[1]? = some (.pointer (some ⟨X, 0, none⟩)) := by rw [hoth 1 (by kernel_rfl)]; rfl
    match i, hi, ho with
    | 0, _, ho =>
      simp only [List.getElem?_cons_zero, Option.some.injEq] at ho
      subst ho
      unfold Oper.wp
      simp [execOp, go_sem, t1]
      exact came _ rfl (Below.refl _ _) rfl (fun h => absurd h (by decide))
    | 1, _, ho =>
      simp only [List.getElem?_cons_succ, List.getElem?_cons_zero, Option.some.injEq] at ho
      subst ho
      obtain ⟨u0, e0⟩ := hdep ⟨0, .data⟩ (by simp) rfl _ 14 rfl rfl
      rw [show vals 0 = .pointer (some ⟨X, 0, none⟩) from e0] at u0
      have cc : x.cell? ⟨X, 0, none⟩ = some (.string a) := (r0.later hX).is rfl
      unfold Oper.wp
      simp [execOp, go_sem, u0, cc]
      exact came _ rfl (Below.refl _ _) rfl (fun h => absurd h (by decide))
    | 2, _, ho =>
      simp only [List.getElem?_cons_succ, List.getElem?_cons_zero, Option.some.injEq] at ho
      subst ho
      obtain ⟨u1, e1⟩ := hdep ⟨1, .data⟩ (by simp) rfl _ 15 rfl rfl
      rw [show vals 1 = .string a from e1] at u1
      unfold Oper.wp
      simp [go_sem, u1]
      refine (HCa.out x).mono ?_
      rintro r x1 ⟨rfl, hb1⟩
      exact came _ rfl hb1 rfl (fun h => absurd h (by decide))
    | 3, _, ho =>
      simp only [List.getElem?_cons_succ, List.getElem?_cons_zero, Option.some.injEq] at ho
      subst ho
      unfold Oper.wp
      simp [execOp, go_sem, t1]
      exact came _ rfl (Below.refl _ _) rfl (fun h => absurd h (by decide))
    | 4, _, ho =>
      simp only [List.getElem?_cons_succ, List.getElem?_cons_zero, Option.some.injEq] at ho
      subst ho
      obtain ⟨u3, e3⟩ := hdep ⟨3, .data⟩ (by simp) rfl _ 17 rfl rfl
      rw [show vals 3 = .pointer (some ⟨X, 1, none⟩) from e3] at u3
      have cc : x.cell? ⟨X, 1, none⟩ = some (.string b) := (r0.later hX).is rfl
      unfold Oper.wp
      simp [execOp, go_sem, u3, cc]
      exact came _ rfl (Below.refl _ _) rfl (fun h => absurd h (by decide))
    | 5, _, ho =>
      simp only [List.getElem?_cons_succ, List.getElem?_cons_zero, Option.some.injEq] at ho
      subst ho
      obtain ⟨u4, e4⟩ := hdep ⟨4, .data⟩ (by simp) rfl _ 18 rfl rfl
      rw [show vals 4 = .string b from e4] at u4
      unfold Oper.wp
      simp [go_sem, u4]
      refine (HCb.out x).mono ?_
      rintro r x1 ⟨rfl, hb1⟩
      exact came _ rfl hb1 rfl (fun h => absurd h (by decide))
    | 6, _, ho =>
      simp only [List.getElem?_cons_succ, List.getElem?_cons_zero, Option.some.injEq] at ho
      subst ho
      unfold Oper.wp
      simp [execOp, go_sem, t1]
      exact came _ rfl (Below.refl _ _) rfl (fun h => absurd h (by decide))
    | 7, _, ho =>
      simp only [List.getElem?_cons_succ, List.getElem?_cons_zero, Option.some.injEq] at ho
      subst ho
      obtain ⟨u6, e6⟩ := hdep ⟨6, .data⟩ (by simp) rfl _ 20 rfl rfl
      rw [show vals 6 = .pointer (some ⟨X, 2, none⟩) from e6] at u6
      have cc : x.cell? ⟨X, 2, none⟩ = some (.string c) := (r0.later hX).is rfl
      unfold Oper.wp
      simp [execOp, go_sem, u6, cc]
      exact came _ rfl (Below.refl _ _) rfl (fun h => absurd h (by decide))
    | 8, _, ho =>
      simp only [List.getElem?_cons_succ, List.getElem?_cons_zero, Option.some.injEq] at ho
      subst ho
      obtain ⟨u7, e7⟩ := hdep ⟨7, .data⟩ (by simp) rfl _ 21 rfl rfl
      rw [show vals 7 = .string c from e7] at u7
      unfold Oper.wp
      simp [go_sem, u7]
      refine (HCc.out x).mono ?_
      rintro r x1 ⟨rfl, hb1⟩
      exact came _ rfl hb1 rfl (fun h => absurd h (by decide))
    | m + 9, hi, _ => exact absurd hi (by omega)
  · intro vals W1 hX hR _
    have f0 : vals 0 = .pointer (some ⟨X, 0, none⟩) := hR 0 (by decide)
    have f1 : vals 1 = .string a := hR 1 (by decide)
    have f2 : vals 2 = .string a1 := hR 2 (by decide)
    have f3 : vals 3 = .pointer (some ⟨X, 1, none⟩) := hR 3 (by decide)
    have f4 : vals 4 = .string b := hR 4 (by decide)
    have f5 : vals 5 = .string b1 := hR 5 (by decide)
    have f6 : vals 6 = .pointer (some ⟨X, 2, none⟩) := hR 6 (by decide)
    have f7 : vals 7 = .string c := hR 7 (by decide)
    have f8 : vals 8 = .string c1 := hR 8 (by decide)
    simp only [List.drop, List.take, putAll, List.setIfInBounds_toArray, List.set_cons_succ, List.set_cons_zero, f0, f1, f2, f3, f4, f5, f6, f7, f8]
    clear f0 f1 f2 f3 f4 f5 f6 f7 f8 hR
    have HB := hid_of' (bgo b0 hX)
    clear b0 hX r0 hXe
    have HZ := hid_of' (fun (x : World) (hx : Below w.heap.size w x) => wakes_is (HE.out.later hx))
    by_cases ga : la < 0
    · go_wp2_with (first
        | (go_at_call 24; (with_reducible refine (HLa.out _).mono ?_); rintro e x1 ⟨rfl, q1⟩; have HQ1 := hid_of' (bgo HB.out q1); clear q1)
        | (go_at_call 18; (with_reducible refine (HZ.out _ HQ1.out).mono ?_); rintro e x8 ⟨rfl, b8⟩))
      go_ret
      exact ⟨rfl, bgo HQ1.out b8⟩
    by_cases gb : lb < 0
    · go_wp2_with (first
        | (go_at_call 24; first
            | ((with_reducible refine (HLa.out _).mono ?_); rintro e x1 ⟨rfl, q1⟩; have HQ1 := hid_of' (bgo HB.out q1); clear q1 HLa)
            | ((with_reducible refine (HLb.out _).mono ?_); rintro e x2 ⟨rfl, q2⟩; have HQ2 := hid_of' (bgo HQ1.out q2); clear q2 HLb))
        | (go_at_call 18; (with_reducible refine (HZ.out _ HQ2.out).mono ?_); rintro e x8 ⟨rfl, b8⟩))
      go_ret
      exact ⟨rfl, bgo HQ2.out b8⟩
    have gc : lc < 0 := by have := HV.out; omega
    go_wp2_with (first
      | (go_at_call 24; first
          | ((with_reducible refine (HLa.out _).mono ?_); rintro e x1 ⟨rfl, q1⟩; have HQ1 := hid_of' (bgo HB.out q1); clear q1 HLa)
          | ((with_reducible refine (HLb.out _).mono ?_); rintro e x2 ⟨rfl, q2⟩; have HQ2 := hid_of' (bgo HQ1.out q2); clear q2 HLb)
          | ((with_reducible refine (HLc.out _).mono ?_); rintro e x3 ⟨rfl, q3⟩; have HQ3 := hid_of' (bgo HQ2.out q3); clear q3 HLc))
      | (go_at_call 18; (with_reducible refine (HZ.out _ HQ3.out).mono ?_); rintro e x8 ⟨rfl, b8⟩))
    go_ret
    exact ⟨rfl, bgo HQ3.out b8⟩
theorem diffMetric_all {ad : Nat → Addr} {w : World} (E : Env ad w) (a b c : ByteArray) (l : Value) (ha : a.size ≤ 9223372036854775807) (hb : b.size ≤ 9223372036854775807) (hc : c.size ≤ 9223372036854775807) (hl9 : l.oneCell' = true) :
    Calls Tryd.prog 6 #[.agg #[.string a, .string b, .string c, l]] w fun e w' => e = .returned (.bool true) ∧ Below w.heap.size w w' := by
  cases va : Lib.validD (clB a).data.toList
  · exact metric_no E a b c l ha hb hc hl9 (.inl (lenI_no va))
  · cases vb : Lib.validD (clB b).data.toList
    · exact metric_no E a b c l ha hb hc hl9 (.inr (.inl (lenI_no vb)))
    · cases vc : Lib.validD (clB c).data.toList
      · exact metric_no E a b c l ha hb hc hl9 (.inr (.inr (lenI_no vc)))
      · exact metric_law E a b c l ha hb hc va vb vc hl9
end Go.Proofs.YtckbihcijpploaaDoor
