
/-
  barrowref02.Reader: Text.
-/
import Derived.Test.YtfiajbgeijgheaaDoorRf5
namespace Go.Proofs.YtfiajbgeijgheaaDoor
open Go.RowKit
set_option maxRecDepth 100000

set_option maxHeartbeats 2000000 in
theorem refText_broken {xb : Nat} {v n0 n1 n2 : Value} {bs : List UInt8} {pl p c : Nat} {ca : ByteArray} {w : World} (h : XsAt xb v bs pl (some (ca, p, c)) n0 n1 n2 w) (most : Int) :
    Calls Tryd.prog 42 #[.pointer (some ⟨xb, 0, none⟩), .int .i64 most] w fun e w' => e = .returned (.tuple #[.string ⟨#[]⟩, .agg #[n0, n1, n2]]) ∧ XsAt xb v bs pl (some (ca, p, c)) n0 n1 n2 w' ∧ Kept [xb] w w' := by
  have r0 := RowAt.new w zNo 33
  have hB := below_one w (.cells zNo 33)
  have H := hid_of' h
  have H1 := hid_of' (h.later hB)
  have HN := hid_of' (XsAt.noIn H1.out)
  have hc : (((c : Int) + 1) == 0) = false := by rw [beq_eq_false_iff_ne]; omega
  have c2 : (w.alloc (.cells zNo 33)).cell? ⟨xb, 2, none⟩ = some (.int .i64 ((c : Int) + 1)) := by
    rw [H1.out.at_.row.cell]
    obtain ⟨g, g', e0, _⟩ := h.no
    rw [e0]; rfl
  clear h
  go_enter Tryd.func42, Tryd.ntmps42
  go_upto_region 2 with fail
  refine wp_region_tail 5 (by kernel_rfl) (fun _ => none) (by kernel_rfl) (by kernel_rfl) (by decide) (fun i v x => match i with
    | 0 => v = .pointer (some ⟨xb, 0, none⟩)
    | 1 => v = .pointer (some ⟨xb, 0, none⟩)
    | 2 => v = .pointer (some ⟨xb, 2, none⟩)
    | 3 => v = .agg #[n0, n1, n2]
    | 4 => v = .string ⟨#[]⟩
    | _ => True) (fun _ => false) (fun _ _ _ _ h => by cases h) ?_ ?_ ?_
  · intro i v x x' hR hb
    match i, hR with
    | 0, h => exact h
    | 1, h => exact h
    | 2, h => exact h
    | 3, h => exact h
    | 4, h => exact h
    | m + 5, h => exact h
  · intro i o hi ho q x vals hX hdep hoth
    have t0 : q.tmps[0]? = some (.pointer (some ⟨xb, 0, none⟩)) := by rw [hoth 0 (by kernel_rfl)]; rfl
    match i, hi, ho with
    | 0, _, ho =>
      simp only [List.getElem?_cons_zero, Option.some.injEq] at ho
      subst ho
      unfold Oper.wp
      simp [execOp, go_sem, t0]
      exact came _ rfl (Below.refl _ _) rfl (fun h => absurd h (by decide))
    | 1, _, ho =>
      simp only [List.getElem?_cons_succ, List.getElem?_cons_zero, Option.some.injEq] at ho
      subst ho
      obtain ⟨u0, e0⟩ := hdep ⟨0, .data⟩ (by simp) rfl _ 16 rfl rfl
      rw [show vals 0 = .pointer (some ⟨xb, 0, none⟩) from e0] at u0
      unfold Oper.wp
      simp [execOp, go_sem, u0]
      exact came _ rfl (Below.refl _ _) rfl (fun h => absurd h (by decide))
    | 2, _, ho =>
      simp only [List.getElem?_cons_succ, List.getElem?_cons_zero, Option.some.injEq] at ho
      subst ho
      obtain ⟨u1, e1⟩ := hdep ⟨1, .data⟩ (by simp) rfl _ 17 rfl rfl
      rw [show vals 1 = .pointer (some ⟨xb, 0, none⟩) from e1] at u1
      unfold Oper.wp
      simp [execOp, go_sem, u1]
      exact came _ rfl (Below.refl _ _) rfl (fun h => absurd h (by decide))
    | 3, _, ho =>
      simp only [List.getElem?_cons_succ, List.getElem?_cons_zero, Option.some.injEq] at ho
      subst ho
      obtain ⟨u2, e2⟩ := hdep ⟨2, .data⟩ (by simp) rfl _ 18 rfl rfl
      rw [show vals 2 = .pointer (some ⟨xb, 2, none⟩) from e2] at u2
      exact opw_ldNo _ rfl (by simp [Act.eval, u2]) ((HN.out.later hX)) (came _ rfl (Below.refl _ _) rfl (fun h => absurd h (by decide)))
    | 4, _, ho =>
      simp only [List.getElem?_cons_succ, List.getElem?_cons_zero, Option.some.injEq] at ho
      subst ho
      unfold Oper.wp
      simp [execOp, go_sem, ]
      exact came _ rfl (Below.refl _ _) rfl (fun h => absurd h (by decide))
    | m + 5, hi, _ => exact absurd hi (by omega)
  · intro vals x hX hR _
    have e3 : vals 3 = .agg #[n0, n1, n2] := hR 3 (by decide)
    have e4 : vals 4 = .string ⟨#[]⟩ := hR 4 (by decide)
    simp only [List.drop, List.take, putAll, List.setIfInBounds_toArray, List.set_cons_succ, List.set_cons_zero, e3, e4]
    clear hR e3 e4
    have rx := r0.later hX
    have h9 := NoSt.one H.out.no
    go_wp2_with (refine wpL_stNo rfl _ _ rfl rfl rfl h9 rx ?_)
    refine bodyPost_ret (results_no2 (fn := Tryd.f42) (p := 4) (u := 5) rfl rfl (setRow_heap _ _ _ _ _ _ rx)) rfl ?_
    have hf : Below w.heap.size w (x.setRow w.heap.size #[n0, n1, n2]) := below_row (bgo hB hX) (Nat.le_refl _) _
    exact ⟨rfl, H.out.later hf, .of hf⟩

set_option maxHeartbeats 2000000 in
theorem refText_num {xb : Nat} {v n0 n1 n2 : Value} {bs : List UInt8} {pl _n _k c : Nat} {w : World} (h : XsAt xb v bs pl none n0 n1 n2 w) (most : Int) (hr : numR (bs.drop pl) most = .error c) :
    Calls Tryd.prog 42 #[.pointer (some ⟨xb, 0, none⟩), .int .i64 most] w fun e w' => ∃ m0 m1 m2, e = .returned (.tuple #[.string ⟨#[]⟩, .agg #[m0, m1, m2]]) ∧ XsAt xb v bs pl (some (⟨#[84, 101, 120, 116]⟩, pl, c)) m0 m1 m2 w' ∧ Kept [xb] w w' := by
  have hc : (((c : Int) + 1) == 0) = false := by rw [beq_eq_false_iff_ne]; omega
  obtain ⟨rfl, rfl, rfl⟩ := h.no
  have hx := h.at_.row.lt
  have hle := h.at_.le
  have hlim := h.at_.lim
  obtain ⟨a1, c1, rfl⟩ := h.at_.form
  have r0 := RowAt.new w zNo 33
  have hB0 := below_one w (.cells zNo 33)
  have H := hid_of' h
  have H1 := hid_of' (h.later hB0)
  have c2 : (w.alloc (.cells zNo 33)).cell? ⟨xb, 2, none⟩ = some (.int .i64 0) := by rw [H1.out.at_.row.cell]; rfl
  have e0 : ∀ s : Wld (w.alloc (.cells zNo 33)), (wOf s).cell? ⟨xb, 0, none⟩ = some (.slice a1 bs.length c1) := fun s => H1.out.at_.row.cls 0 _ rfl s
  have e1 : ∀ s : Wld (w.alloc (.cells zNo 33)), (wOf s).cell? ⟨xb, 1, none⟩ = some (.int .i64 (pl : Int)) := fun s => H1.out.at_.row.cls 1 _ rfl s
  have hB : Below w.heap.size w (w.alloc (.cells zNo 33)) := hB0
  clear h hB0
  have HU0 := refnum_any H1.out.at_ most
  rw [hr] at HU0
  have HU := hid_of' HU0
  clear HU0 hr
  go_enter Tryd.func42, Tryd.ntmps42
  go_upto_region 4 with (go_at_call 56; refine HU.out.mono ?_; rintro e w2 ⟨rfl, hb2⟩; simp only [nums])
  have h2 := H1.out.later hb2
  have hB2 := bgo hB hb2
  have r2 := r0.later hb2
  clear e0 e1 c2 hB HU
  have e0 : ∀ s : Wld w2, (wOf s).cell? ⟨xb, 0, none⟩ = some (.slice a1 bs.length c1) := fun s => h2.at_.row.cls 0 _ rfl s
  have e1 : ∀ s : Wld w2, (wOf s).cell? ⟨xb, 1, none⟩ = some (.int .i64 (pl : Int)) := fun s => h2.at_.row.cls 1 _ rfl s
  have hB : Below w.heap.size w w2 := hB2
  clear hB2 hb2 h2
  refine wp_region_cls (by kernel_rfl) (by kernel_rfl) ?_
  repeat (first | go_big_quiet_skip | (go_big_quiet_want; first | (refine quiet_load_ck _ rfl rfl (cls_ck r2) ?_; simp only [Act.put, List.setIfInBounds_toArray, List.set_cons_succ, List.set_cons_zero]; go_big_quiet_on) | (go_big_quiet_op; first | go_big_quiet_on | go_big_quiet_call ((fail)))))
  refine wpQuiet_nil ?_
  rintro w1 ⟨s1, e1⟩
  have hb1 := wOf_below s1
  rw [← e1] at hb1
  clear e1 s1
  replace r2 := r2.later hb1
  replace hB := bgo hB hb1
  clear hb1
  have HN := hid_of' (show Calls Tryd.prog 57 #[.pointer (some ⟨xb, 0, none⟩), .string ⟨#[84, 101, 120, 116]⟩, .int .i64 ((c : Int) + 1)] w1 _ from refno_any (H.out.later hB) ⟨#[84, 101, 120, 116]⟩ c)
  go_wp2_with (first | (go_at_call 57; refine HN.out.mono ?_; rintro e w3 ⟨m0, m1, m2, rfl, h3, hk3⟩; have r3 := r2.kept hk3 (by simp; omega); have h9 := NoSt.one h3.no) | (refine wpL_stNo rfl _ _ rfl rfl rfl h9 r3 ?_))
  refine bodyPost_ret (results_no2 (fn := Tryd.f42) (p := 4) (u := 5) rfl rfl (setRow_heap _ _ _ _ _ _ r3)) rfl ?_
  have hk := (Kept.of (S := [xb]) hB).trans hk3
  obtain ⟨x1, x2⟩ := h3.res (b := w.heap.size) (ms := #[m0, m1, m2]) (Nat.le_refl _) H.out.at_.raw hx hk (h3.no.ne r3)
  exact ⟨m0, m1, m2, rfl, x1, x2⟩

set_option maxHeartbeats 2000000 in
theorem refText_many {xb : Nat} {v n0 n1 n2 : Value} {bs : List UInt8} {pl n k _c : Nat} {w : World} (h : XsAt xb v bs pl none n0 n1 n2 w) (most : Int) (hr : numR (bs.drop pl) most = .ok (n, k)) (hm : (bs.length : Int) - (pl : Int) - (k : Int) < (n : Int)) :
    Calls Tryd.prog 42 #[.pointer (some ⟨xb, 0, none⟩), .int .i64 most] w fun e w' => ∃ m0 m1 m2, e = .returned (.tuple #[.string ⟨#[]⟩, .agg #[m0, m1, m2]]) ∧ XsAt xb v bs pl (some (⟨#[84, 101, 120, 116]⟩, pl, 6)) m0 m1 m2 w' ∧ Kept [xb] w w' := by
  have hk9 := (numR_ok hr).2.2.1
  rw [List.length_drop] at hk9
  have hn9 := (numR_ok hr).2.2.2.2.2
  obtain ⟨rfl, rfl, rfl⟩ := h.no
  have hx := h.at_.row.lt
  have hle := h.at_.le
  have hlim := h.at_.lim
  obtain ⟨a1, c1, rfl⟩ := h.at_.form
  have r0 := RowAt.new w zNo 33
  have hB0 := below_one w (.cells zNo 33)
  have H := hid_of' h
  have H1 := hid_of' (h.later hB0)
  have c2 : (w.alloc (.cells zNo 33)).cell? ⟨xb, 2, none⟩ = some (.int .i64 0) := by rw [H1.out.at_.row.cell]; rfl
  have e0 : ∀ s : Wld (w.alloc (.cells zNo 33)), (wOf s).cell? ⟨xb, 0, none⟩ = some (.slice a1 bs.length c1) := fun s => H1.out.at_.row.cls 0 _ rfl s
  have e1 : ∀ s : Wld (w.alloc (.cells zNo 33)), (wOf s).cell? ⟨xb, 1, none⟩ = some (.int .i64 (pl : Int)) := fun s => H1.out.at_.row.cls 1 _ rfl s
  have hB : Below w.heap.size w (w.alloc (.cells zNo 33)) := hB0
  clear h hB0
  have HU0 := refnum_any H1.out.at_ most
  rw [hr] at HU0
  have HU := hid_of' HU0
  clear HU0 hr
  go_enter Tryd.func42, Tryd.ntmps42
  go_upto_region 4 with (go_at_call 56; refine HU.out.mono ?_; rintro e w2 ⟨rfl, hb2⟩; simp only [nums])
  have h2 := H1.out.later hb2
  have hB2 := bgo hB hb2
  have r2 := r0.later hb2
  clear e0 e1 c2 hB HU
  have e0 : ∀ s : Wld w2, (wOf s).cell? ⟨xb, 0, none⟩ = some (.slice a1 bs.length c1) := fun s => h2.at_.row.cls 0 _ rfl s
  have e1 : ∀ s : Wld w2, (wOf s).cell? ⟨xb, 1, none⟩ = some (.int .i64 (pl : Int)) := fun s => h2.at_.row.cls 1 _ rfl s
  have hB : Below w.heap.size w w2 := hB2
  clear hB2 hb2 h2
  refine wp_region_cls (by kernel_rfl) (by kernel_rfl) ?_
  repeat (first | go_big_quiet_skip | (go_big_quiet_want; first | (refine quiet_load_ck _ rfl rfl (cls_ck r2) ?_; simp only [Act.put, List.setIfInBounds_toArray, List.set_cons_succ, List.set_cons_zero]; go_big_quiet_on) | (go_big_quiet_op; first | go_big_quiet_on | go_big_quiet_call ((fail)))))
  refine wpQuiet_nil ?_
  rintro w1 ⟨s1, e1⟩
  have hb1 := wOf_below s1
  rw [← e1] at hb1
  clear e1 s1
  replace r2 := r2.later hb1
  replace hB := bgo hB hb1
  clear hb1
  have HN := hid_of' (show Calls Tryd.prog 57 #[.pointer (some ⟨xb, 0, none⟩), .string ⟨#[84, 101, 120, 116]⟩, .int .i64 (7)] w1 _ from refno_any (H.out.later hB) ⟨#[84, 101, 120, 116]⟩ 6)
  go_wp2_with (first | (go_at_call 57; refine HN.out.mono ?_; rintro e w3 ⟨m0, m1, m2, rfl, h3, hk3⟩; have r3 := r2.kept hk3 (by simp; omega); have h9 := NoSt.one h3.no) | (refine wpL_stNo rfl _ _ rfl rfl rfl h9 r3 ?_))
  refine bodyPost_ret (results_no2 (fn := Tryd.f42) (p := 4) (u := 5) rfl rfl (setRow_heap _ _ _ _ _ _ r3)) rfl ?_
  have hk := (Kept.of (S := [xb]) hB).trans hk3
  obtain ⟨x1, x2⟩ := h3.res (b := w.heap.size) (ms := #[m0, m1, m2]) (Nat.le_refl _) H.out.at_.raw hx hk (h3.no.ne r3)
  exact ⟨m0, m1, m2, rfl, x1, x2⟩

set_option maxHeartbeats 2000000 in
theorem refText_ok {xb : Nat} {v n0 n1 n2 : Value} {bs : List UInt8} {pl n k : Nat} {w : World} (h : XsAt xb v bs pl none n0 n1 n2 w) (hcap : ∀ a m c, v = .slice a m c → bs.length ≤ c) (most : Int) (hr : numR (bs.drop pl) most = .ok (n, k)) (hm : ¬ (bs.length : Int) - (pl : Int) - (k : Int) < (n : Int)) :
    Calls Tryd.prog 42 #[.pointer (some ⟨xb, 0, none⟩), .int .i64 most] w fun e w' => e = .returned (.tuple #[.string ⟨(((bs.drop pl).drop k).take n).toArray⟩, .agg zNo]) ∧ XsAt xb v bs (pl + k + n) none (.int .i64 0) (.slice none 0 0) (.slice none 0 0) w' ∧ Kept [xb] w w' := by
  have hk0 := (numR_ok hr).1
  have hk9 := (numR_ok hr).2.2.1
  rw [List.length_drop] at hk9
  have hn9 := (numR_ok hr).2.2.2.2.2
  obtain ⟨rfl, rfl, rfl⟩ := h.no
  have hx := h.at_.row.lt
  have hle := h.at_.le
  have hlim := h.at_.lim
  obtain ⟨a1, c1, rfl⟩ := h.at_.form
  have r0 := RowAt.new w zNo 33
  have hB0 := below_one w (.cells zNo 33)
  have H := hid_of' h
  have H1 := hid_of' (h.later hB0)
  have c2 : (w.alloc (.cells zNo 33)).cell? ⟨xb, 2, none⟩ = some (.int .i64 0) := by rw [H1.out.at_.row.cell]; rfl
  have e0 : ∀ s : Wld (w.alloc (.cells zNo 33)), (wOf s).cell? ⟨xb, 0, none⟩ = some (.slice a1 bs.length c1) := fun s => H1.out.at_.row.cls 0 _ rfl s
  have e1 : ∀ s : Wld (w.alloc (.cells zNo 33)), (wOf s).cell? ⟨xb, 1, none⟩ = some (.int .i64 (pl : Int)) := fun s => H1.out.at_.row.cls 1 _ rfl s
  have hB : Below w.heap.size w (w.alloc (.cells zNo 33)) := hB0
  clear h hB0
  have hcp := hcap _ _ _ rfl
  have HU0 := refnum_any H1.out.at_ most
  rw [hr] at HU0
  have HU := hid_of' HU0
  clear HU0 hr hcap
  obtain ⟨g, o_, rfl, hgl, hcb⟩ : ∃ g o, a1 = some ⟨g, o, none⟩ ∧ g < w.heap.size ∧ ∀ i b, bs[i]? = some b → w.cell? ⟨g, o + i, none⟩ = some (.int .u8 (b.toNat : Int)) := by
    rcases H.out.at_.raw with ⟨rfl, _⟩ | ⟨g, o, c, he, hg, hc⟩
    · simp at hk9; omega
    · simp only [Value.slice.injEq, true_and] at he
      exact ⟨g, o, he.1, hg, hc⟩
  have hgx : g ≠ xb := H.out.ap g o_ _ c1 rfl (by first | omega | (simp at hk9; omega))
  have HKL := hid_of' (show pl + k + n ≤ bs.length by omega)
  go_enter Tryd.func42, Tryd.ntmps42
  go_upto_region 4 with (go_at_call 56; refine HU.out.mono ?_; rintro e w2 ⟨rfl, hb2⟩; simp only [nums])
  have h2 := H1.out.later hb2
  have hB2 := bgo hB hb2
  have r2 := r0.later hb2
  clear e0 e1 c2 hB HU
  have e0 : ∀ s : Wld w2, (wOf s).cell? ⟨xb, 0, none⟩ = some (.slice (some ⟨g, o_, none⟩) bs.length c1) := fun s => h2.at_.row.cls 0 _ rfl s
  have e1 : ∀ s : Wld w2, (wOf s).cell? ⟨xb, 1, none⟩ = some (.int .i64 (pl : Int)) := fun s => h2.at_.row.cls 1 _ rfl s
  have hB : Below w.heap.size w w2 := hB2
  clear hB2 hb2 h2
  refine wp_region_cls (by kernel_rfl) (by kernel_rfl) ?_
  repeat (first | go_big_quiet_skip | (go_big_quiet_want; first | (refine quiet_load_ck _ rfl rfl (cls_ck r2) ?_; simp only [Act.put, List.setIfInBounds_toArray, List.set_cons_succ, List.set_cons_zero]; go_big_quiet_on) | (go_big_quiet_op; first | go_big_quiet_on | go_big_quiet_call ((fail)))))
  refine wpQuiet_nil ?_
  rintro w1 ⟨s1, e1⟩
  have hb1 := wOf_below s1
  rw [← e1] at hb1
  clear e1 s1
  replace r2 := r2.later hb1
  replace hB := bgo hB hb1
  clear hb1
  clear e0 e1
  have h2 := H.out.later hB
  have c1' : w1.cell? ⟨xb, 1, none⟩ = some (.int .i64 (pl : Int)) := by rw [h2.at_.row.cell]; rfl
  have f1 := frozenW_of h2.at_.row 1
  obtain ⟨h3, k3⟩ := h2.goOn HKL.out
  have ecs : (((pl + k + n : Nat) : Nat) : Int) = (pl : Int) + (k : Int) + (n : Int) := by push_cast; rfl
  rw [ecs] at h3 k3
  have hk := (Kept.of (S := [xb]) hB).trans k3
  have r3 := r2.kept k3 (by simp; omega)
  have hrow := h3.at_.row
  rw [ecs] at hrow
  have H3 := hid_of' (And.intro hrow (And.intro h3 hk))
  clear h3 hk k3 r2 h2 hrow
  go_upto_region 10 with fail
  generalize w1.setCell ⟨xb, 1, none⟩ (.int .i64 ((pl : Int) + (k : Int) + (n : Int))) = w3 at *
  have sl1 : ((pl : Int) + (k : Int)).toNat = pl + k := by omega
  have sl2 : ((pl : Int) + (k : Int) + (n : Int)).toNat = pl + k + n := by omega
  have sl3 : (0 : Int) ≤ (pl : Int) + (k : Int) := by omega
  have sl4 : (pl : Int) + (k : Int) ≤ (pl : Int) + (k : Int) + (n : Int) := by omega
  have sl5 : (pl : Int) + (k : Int) + (n : Int) ≤ (c1 : Int) := by have := HKL.out; omega
  have sl6 : pl + k + n - (pl + k) = n := by omega
  have HC := hid_of' (fun (x : World) (hX : Below w3.heap.size w3 x) => (show (convert 25 9 (.slice (if c1 = pl + k then some ⟨g, o_, none⟩ else some ⟨g, o_ + (pl + k), none⟩) n (c1 - (pl + k)))).run Tryd.prog x = .ok (.string ⟨(((bs.drop pl).drop k).take n).toArray⟩) x by
    have hln : (((bs.drop pl).drop k).take n).length = n := by rw [List.length_take, List.length_drop, List.length_drop]; have := HKL.out; omega
    by_cases hcq : c1 = pl + k
    · have hn0 : n = 0 := by have := HKL.out; omega
      subst hn0
      rw [if_pos hcq]
      exact run_convert_bytes_back (P := Tryd.prog) x 25 9 5 ⟨g, o_, none⟩ (c1 - (pl + k)) [] Tryd.underlying25 Tryd.underlying5 Tryd.underlying9 (fun j hj => by simp at hj)
    rw [if_neg hcq]
    have hcv := run_convert_bytes_back (P := Tryd.prog) x 25 9 5 ⟨g, o_ + (pl + k), none⟩ (c1 - (pl + k)) (((bs.drop pl).drop k).take n) Tryd.underlying25 Tryd.underlying5 Tryd.underlying9 (fun j hj => by
      have hg3 : g < w3.heap.size := Nat.lt_of_lt_of_le hgl H3.out.2.2.size
      rw [Addr.add_lit, hX.cell (p := ⟨g, o_ + (pl + k) + j, none⟩) hg3, World.cell?_of_block (w := w) (H3.out.2.2.block g hgl (by simpa using hgx))]
      have hb : bs[pl + k + j]? = some ((((bs.drop pl).drop k).take n)[j]) := by
        have := List.getElem?_eq_getElem hj
        rw [← this, List.getElem?_take, if_pos (by rw [hln] at hj; exact hj), List.getElem?_drop, List.getElem?_drop, Nat.add_assoc]
      have := hcb _ _ hb
      rw [← Nat.add_assoc o_ (pl + k) j] at this
      exact this)
    rw [hln] at hcv
    exact hcv))
  refine wp_region_tail 13 (by kernel_rfl) (fun _ => none) (by kernel_rfl) (by kernel_rfl) (by decide) (fun i v x => match i with
    | 0 => v = .pointer (some ⟨xb, 0, none⟩)
    | 1 => v = .pointer (some ⟨xb, 0, none⟩)
    | 2 => v = .pointer (some ⟨xb, 0, none⟩)
    | 3 => v = .slice (some ⟨g, o_, none⟩) bs.length c1
    | 4 => v = .int .i64 ((pl : Int) + (k : Int))
    | 5 => v = .pointer (some ⟨xb, 0, none⟩)
    | 6 => v = .pointer (some ⟨xb, 0, none⟩)
    | 7 => v = .pointer (some ⟨xb, 1, none⟩)
    | 8 => v = .int .i64 ((pl : Int) + (k : Int) + (n : Int))
    | 9 => v = .slice (if c1 = pl + k then some ⟨g, o_, none⟩ else some ⟨g, o_ + (pl + k), none⟩) n (c1 - (pl + k))
    | 10 => v = .string ⟨(((bs.drop pl).drop k).take n).toArray⟩
    | 11 => v = .agg zNo
    | 12 => v = .string ⟨(((bs.drop pl).drop k).take n).toArray⟩
    | _ => True) (fun _ => false) (fun _ _ _ _ h => by cases h) ?_ ?_ ?_
  · intro i v x x' hR hb
    match i, hR with
    | 0, h => exact h
    | 1, h => exact h
    | 2, h => exact h
    | 3, h => exact h
    | 4, h => exact h
    | 5, h => exact h
    | 6, h => exact h
    | 7, h => exact h
    | 8, h => exact h
    | 9, h => exact h
    | 10, h => exact h
    | 11, h => exact h
    | 12, h => exact h
    | m + 13, h => exact h
  · intro i o hi ho q x vals hX hdep hoth
    have t0 : q.tmps[0]? = some (.pointer (some ⟨xb, 0, none⟩)) := by rw [hoth 0 (by kernel_rfl)]; rfl
    have t9 : q.tmps[9]? = some (.int .i64 ((pl : Int) + (k : Int))) := by rw [hoth 9 (by kernel_rfl)]; rfl
    match i, hi, ho with
    | 0, _, ho =>
      simp only [List.getElem?_cons_zero, Option.some.injEq] at ho
      subst ho
      unfold Oper.wp
      simp [execOp, go_sem, t0]
      exact came _ rfl (Below.refl _ _) rfl (fun h => absurd h (by decide))
    | 1, _, ho =>
      simp only [List.getElem?_cons_succ, List.getElem?_cons_zero, Option.some.injEq] at ho
      subst ho
      obtain ⟨u0, e0⟩ := hdep ⟨0, .data⟩ (by simp) rfl _ 62 rfl rfl
      rw [show vals 0 = .pointer (some ⟨xb, 0, none⟩) from e0] at u0
      unfold Oper.wp
      simp [execOp, go_sem, u0]
      exact came _ rfl (Below.refl _ _) rfl (fun h => absurd h (by decide))
    | 2, _, ho =>
      simp only [List.getElem?_cons_succ, List.getElem?_cons_zero, Option.some.injEq] at ho
      subst ho
      obtain ⟨u1, e1⟩ := hdep ⟨1, .data⟩ (by simp) rfl _ 63 rfl rfl
      rw [show vals 1 = .pointer (some ⟨xb, 0, none⟩) from e1] at u1
      unfold Oper.wp
      simp [execOp, go_sem, u1]
      exact came _ rfl (Below.refl _ _) rfl (fun h => absurd h (by decide))
    | 3, _, ho =>
      simp only [List.getElem?_cons_succ, List.getElem?_cons_zero, Option.some.injEq] at ho
      subst ho
      obtain ⟨u2, e2⟩ := hdep ⟨2, .data⟩ (by simp) rfl _ 64 rfl rfl
      rw [show vals 2 = .pointer (some ⟨xb, 0, none⟩) from e2] at u2
      have cc : x.cell? ⟨xb, 0, none⟩ = some (.slice (some ⟨g, o_, none⟩) bs.length c1) := (H3.out.1.later hX).cellIs0 0 rfl
      unfold Oper.wp
      simp [execOp, go_sem, u2, cc]
      exact came _ rfl (Below.refl _ _) rfl (fun h => absurd h (by decide))
    | 4, _, ho =>
      simp only [List.getElem?_cons_succ, List.getElem?_cons_zero, Option.some.injEq] at ho
      subst ho
      unfold Oper.wp
      simp [execOp, go_sem, t9]
      exact came _ rfl (Below.refl _ _) rfl (fun h => absurd h (by decide))
    | 5, _, ho =>
      simp only [List.getElem?_cons_succ, List.getElem?_cons_zero, Option.some.injEq] at ho
      subst ho
      unfold Oper.wp
      simp [execOp, go_sem, t0]
      exact came _ rfl (Below.refl _ _) rfl (fun h => absurd h (by decide))
    | 6, _, ho =>
      simp only [List.getElem?_cons_succ, List.getElem?_cons_zero, Option.some.injEq] at ho
      subst ho
      obtain ⟨u5, e5⟩ := hdep ⟨5, .data⟩ (by simp) rfl _ 67 rfl rfl
      rw [show vals 5 = .pointer (some ⟨xb, 0, none⟩) from e5] at u5
      unfold Oper.wp
      simp [execOp, go_sem, u5]
      exact came _ rfl (Below.refl _ _) rfl (fun h => absurd h (by decide))
    | 7, _, ho =>
      simp only [List.getElem?_cons_succ, List.getElem?_cons_zero, Option.some.injEq] at ho
      subst ho
      obtain ⟨u6, e6⟩ := hdep ⟨6, .data⟩ (by simp) rfl _ 68 rfl rfl
      rw [show vals 6 = .pointer (some ⟨xb, 0, none⟩) from e6] at u6
      unfold Oper.wp
      simp [execOp, go_sem, u6]
      exact came _ rfl (Below.refl _ _) rfl (fun h => absurd h (by decide))
    | 8, _, ho =>
      simp only [List.getElem?_cons_succ, List.getElem?_cons_zero, Option.some.injEq] at ho
      subst ho
      obtain ⟨u7, e7⟩ := hdep ⟨7, .data⟩ (by simp) rfl _ 69 rfl rfl
      rw [show vals 7 = .pointer (some ⟨xb, 1, none⟩) from e7] at u7
      have cc : x.cell? ⟨xb, 1, none⟩ = some (.int .i64 ((pl : Int) + (k : Int) + (n : Int))) := (H3.out.1.later hX).cellIs0 1 rfl
      unfold Oper.wp
      simp [execOp, go_sem, u7, cc]
      exact came _ rfl (Below.refl _ _) rfl (fun h => absurd h (by decide))
    | 9, _, ho =>
      simp only [List.getElem?_cons_succ, List.getElem?_cons_zero, Option.some.injEq] at ho
      subst ho
      obtain ⟨u3, e3⟩ := hdep ⟨3, .data⟩ (by simp) rfl _ 65 rfl rfl
      rw [show vals 3 = .slice (some ⟨g, o_, none⟩) bs.length c1 from e3] at u3
      obtain ⟨u4, e4⟩ := hdep ⟨4, .data⟩ (by simp) rfl _ 66 rfl rfl
      rw [show vals 4 = .int .i64 ((pl : Int) + (k : Int)) from e4] at u4
      obtain ⟨u8, e8⟩ := hdep ⟨8, .data⟩ (by simp) rfl _ 70 rfl rfl
      rw [show vals 8 = .int .i64 ((pl : Int) + (k : Int) + (n : Int)) from e8] at u8
      unfold Oper.wp
      simp [execOp, go_sem, u3, u4, u8, sl1, sl2, sl3, sl4, sl5, sl6]
      exact came _ rfl (Below.refl _ _) rfl (fun h => absurd h (by decide))
    | 10, _, ho =>
      simp only [List.getElem?_cons_succ, List.getElem?_cons_zero, Option.some.injEq] at ho
      subst ho
      obtain ⟨u9, e9⟩ := hdep ⟨9, .data⟩ (by simp) rfl _ 71 rfl rfl
      rw [show vals 9 = .slice (if c1 = pl + k then some ⟨g, o_, none⟩ else some ⟨g, o_ + (pl + k), none⟩) n (c1 - (pl + k)) from e9] at u9
      have cc := HC.out x hX
      unfold Oper.wp
      simp [execOp, go_sem, u9, cc]
      exact came _ rfl (Below.refl _ _) rfl (fun h => absurd h (by decide))
    | 11, _, ho =>
      simp only [List.getElem?_cons_succ, List.getElem?_cons_zero, Option.some.injEq] at ho
      subst ho
      unfold Oper.wp
      simp [execOp, go_sem, ]
      exact came _ rfl (Below.refl _ _) rfl (fun h => absurd h (by decide))
    | 12, _, ho =>
      simp only [List.getElem?_cons_succ, List.getElem?_cons_zero, Option.some.injEq] at ho
      subst ho
      obtain ⟨u10, e10⟩ := hdep ⟨10, .data⟩ (by simp) rfl _ 72 rfl rfl
      rw [show vals 10 = .string ⟨(((bs.drop pl).drop k).take n).toArray⟩ from e10] at u10
      unfold Oper.wp
      simp [execOp, go_sem, u10]
      exact came _ rfl (Below.refl _ _) rfl (fun h => absurd h (by decide))
    | m + 13, hi, _ => exact absurd hi (by omega)
  · intro vals x hX hR _
    have v11 : vals 11 = .agg zNo := hR 11 (by decide)
    have v12 : vals 12 = .string ⟨(((bs.drop pl).drop k).take n).toArray⟩ := hR 12 (by decide)
    simp only [List.drop, List.take, putAll, List.setIfInBounds_toArray, List.set_cons_succ, List.set_cons_zero, v11, v12]
    clear hR v11 v12
    have rx := r3.later hX
    have h4 := H3.out.2.1.later hX
    have hk4 := H3.out.2.2.go (S' := []) (.of hX) (by simp)
    go_wp2_with (refine wpL_stNo rfl _ _ rfl rfl rfl (by simp [Value.oneCell']) rx ?_)
    refine bodyPost_ret (results_no2 (fn := Tryd.f42) (p := 4) (u := 5) rfl rfl (setRow_heap _ _ _ _ _ _ rx)) rfl ?_
    obtain ⟨x1, x2⟩ := h4.res (b := w.heap.size) (ms := zNo) (Nat.le_refl _) H.out.at_.raw hx hk4 (fun g h => by simp at h)
    exact ⟨rfl, x1, x2⟩
end Go.Proofs.YtfiajbgeijgheaaDoor
