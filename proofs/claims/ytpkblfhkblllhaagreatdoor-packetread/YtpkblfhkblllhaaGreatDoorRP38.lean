
/-
  barrowref02.Reader: Count.
-/
import Derived.Test.YtpkblfhkblllhaaGreatDoorRP37
namespace Go.Proofs.YtpkblfhkblllhaaGreatDoor
open Go.RowKit
set_option maxRecDepth 100000

theorem wr64 (x : Int) (h0 : 0 ≤ x) (h1 : x ≤ 1000000) : wrap64 x = x := by unfold wrap64; omega
set_option maxHeartbeats 2000000 in
theorem refCount_broken {xb : Nat} {v n0 n1 n2 : Value} {bs : List UInt8} {pl p c : Nat} {ca : ByteArray} {w : World} (h : XsAt xb v bs pl (some (ca, p, c)) n0 n1 n2 w) (least most : Int) :
    Calls Tryz.prog 62 #[.pointer (some ⟨xb, 0, none⟩), .int .i64 least, .int .i64 most] w fun e w' => e = .returned (.tuple #[.int .i64 0, .agg #[n0, n1, n2]]) ∧ XsAt xb v bs pl (some (ca, p, c)) n0 n1 n2 w' ∧ Kept [xb] w w' := by
  have r0 := RowAt.new w zNo 37
  have hB := below_one w (.cells zNo 37)
  have H := hid_of' h
  have H1 := hid_of' (h.later hB)
  have HN := hid_of' (XsAt.noIn H1.out)
  have hc : (((c : Int) + 1) == 0) = false := by rw [beq_eq_false_iff_ne]; omega
  have c2 : (w.alloc (.cells zNo 37)).cell? ⟨xb, 2, none⟩ = some (.int .i64 ((c : Int) + 1)) := by
    rw [H1.out.at_.row.cell]
    obtain ⟨g, g', e0, _⟩ := h.no
    rw [e0]; rfl
  clear h
  go_enter Tryz.func62, Tryz.ntmps62
  go_upto_region 2 with fail
  refine wp_region_tail 5 (by kernel_rfl) (fun _ => none) (by kernel_rfl) (by kernel_rfl) (by decide) (fun i v x => match i with
    | 0 => v = .pointer (some ⟨xb, 0, none⟩)
    | 1 => v = .pointer (some ⟨xb, 0, none⟩)
    | 2 => v = .pointer (some ⟨xb, 2, none⟩)
    | 3 => v = .agg #[n0, n1, n2]
    | 4 => v = .int .i64 0
    | _ => True) (fun _ => false) (fun _ _ _ _ h => by cases h) ?_ ?_ ?_
  · intro i v x x' hR hb
    match i, hR with
    | 0, h => exact h
    | 1, h => exact h
    | 2, h => exact h
    | 3, h => exact h
    | 4, h => exact h
    | m + 5, h => exact h
  · intro i o hi ho q x vals hX hdep hoth
    have t0 : q.tmps[0]? = some (.pointer (some ⟨xb, 0, none⟩)) := by rw [hoth 0 (by kernel_rfl)]; rfl
    match i, hi, ho with
    | 0, _, ho =>
      simp only [List.getElem?_cons_zero, Option.some.injEq] at ho
      subst ho
      unfold Oper.wp
      simp [execOp, go_sem, t0]
      exact came _ rfl (Below.refl _ _) rfl (fun h => absurd h (by decide))
    | 1, _, ho =>
      simp only [List.getElem?_cons_succ, List.getElem?_cons_zero, Option.some.injEq] at ho
      subst ho
      obtain ⟨u0, e0⟩ := hdep ⟨0, .data⟩ (by simp) rfl _ 17 rfl rfl
      rw [show vals 0 = .pointer (some ⟨xb, 0, none⟩) from e0] at u0
      unfold Oper.wp
      simp [execOp, go_sem, u0]
      exact came _ rfl (Below.refl _ _) rfl (fun h => absurd h (by decide))
    | 2, _, ho =>
      simp only [List.getElem?_cons_succ, List.getElem?_cons_zero, Option.some.injEq] at ho
      subst ho
      obtain ⟨u1, e1⟩ := hdep ⟨1, .data⟩ (by simp) rfl _ 18 rfl rfl
      rw [show vals 1 = .pointer (some ⟨xb, 0, none⟩) from e1] at u1
      unfold Oper.wp
      simp [execOp, go_sem, u1]
      exact came _ rfl (Below.refl _ _) rfl (fun h => absurd h (by decide))
    | 3, _, ho =>
      simp only [List.getElem?_cons_succ, List.getElem?_cons_zero, Option.some.injEq] at ho
      subst ho
      obtain ⟨u2, e2⟩ := hdep ⟨2, .data⟩ (by simp) rfl _ 19 rfl rfl
      rw [show vals 2 = .pointer (some ⟨xb, 2, none⟩) from e2] at u2
      exact opw_ldNo _ rfl (by simp [Act.eval, u2]) ((HN.out.later hX)) (came _ rfl (Below.refl _ _) rfl (fun h => absurd h (by decide)))
    | 4, _, ho =>
      simp only [List.getElem?_cons_succ, List.getElem?_cons_zero, Option.some.injEq] at ho
      subst ho
      unfold Oper.wp
      simp [execOp, go_sem, ]
      exact came _ rfl (Below.refl _ _) rfl (fun h => absurd h (by decide))
    | m + 5, hi, _ => exact absurd hi (by omega)
  · intro vals x hX hR _
    have e3 : vals 3 = .agg #[n0, n1, n2] := hR 3 (by decide)
    have e4 : vals 4 = .int .i64 0 := hR 4 (by decide)
    simp only [List.drop, List.take, putAll, List.setIfInBounds_toArray, List.set_cons_succ, List.set_cons_zero, e3, e4]
    clear hR e3 e4
    have rx := r0.later hX
    have h9 := NoSt.one H.out.no
    go_wp2_with (refine wpL_stNo rfl _ _ rfl rfl rfl h9 rx ?_)
    refine bodyPost_ret (results_no2 (fn := Tryz.f62) (p := 6) (u := 7) rfl rfl (setRow_heap _ _ _ _ _ _ rx)) rfl ?_
    have hf : Below w.heap.size w (x.setRow w.heap.size #[n0, n1, n2]) := below_row (bgo hB hX) (Nat.le_refl _) _
    exact ⟨rfl, H.out.later hf, .of hf⟩

set_option maxHeartbeats 2000000 in
theorem refCount_numH {xb : Nat} {v n0 n1 n2 : Value} {bs : List UInt8} {pl _n _k c : Nat} {w : World} (h : XsAt xb v bs pl none n0 n1 n2 w) (least most : Int) (hl : ¬ least < 1) (hr : numR (bs.drop pl) most = .error c) :
    Calls Tryz.prog 62 #[.pointer (some ⟨xb, 0, none⟩), .int .i64 least, .int .i64 most] w fun e w' => ∃ m0 m1 m2, e = .returned (.tuple #[.int .i64 0, .agg #[m0, m1, m2]]) ∧ XsAt xb v bs pl (some (⟨#[67, 111, 117, 110, 116]⟩, pl, c)) m0 m1 m2 w' ∧ Kept [xb] w w' := by
  have hc : (((c : Int) + 1) == 0) = false := by rw [beq_eq_false_iff_ne]; omega
  obtain ⟨rfl, rfl, rfl⟩ := h.no
  have hx := h.at_.row.lt
  have hle := h.at_.le
  have hlim := h.at_.lim
  obtain ⟨a1, c1, rfl⟩ := h.at_.form
  have r0 := RowAt.new w zNo 37
  have hB0 := below_one w (.cells zNo 37)
  have H := hid_of' h
  have H1 := hid_of' (h.later hB0)
  have c2 : (w.alloc (.cells zNo 37)).cell? ⟨xb, 2, none⟩ = some (.int .i64 0) := by rw [H1.out.at_.row.cell]; rfl
  have e0 : ∀ s : Wld (w.alloc (.cells zNo 37)), (wOf s).cell? ⟨xb, 0, none⟩ = some (.slice a1 bs.length c1) := fun s => H1.out.at_.row.cls 0 _ rfl s
  have e1 : ∀ s : Wld (w.alloc (.cells zNo 37)), (wOf s).cell? ⟨xb, 1, none⟩ = some (.int .i64 (pl : Int)) := fun s => H1.out.at_.row.cls 1 _ rfl s
  have hB : Below w.heap.size w (w.alloc (.cells zNo 37)) := hB0
  clear h hB0
  have HU0 := refnum_any H1.out.at_ most
  rw [hr] at HU0
  have HU := hid_of' HU0
  clear HU0 hr
  go_enter Tryz.func62, Tryz.ntmps62
  go_upto_region 6 with (go_at_call 61; refine HU.out.mono ?_; rintro e w2 ⟨rfl, hb2⟩; simp only [nums])
  have h2 := H1.out.later hb2
  have hB2 := bgo hB hb2
  have r2 := r0.later hb2
  clear e0 e1 c2 hB HU
  have e0 : ∀ s : Wld w2, (wOf s).cell? ⟨xb, 0, none⟩ = some (.slice a1 bs.length c1) := fun s => h2.at_.row.cls 0 _ rfl s
  have e1 : ∀ s : Wld w2, (wOf s).cell? ⟨xb, 1, none⟩ = some (.int .i64 (pl : Int)) := fun s => h2.at_.row.cls 1 _ rfl s
  have hB : Below w.heap.size w w2 := hB2
  clear hB2 hb2 h2
  refine wp_region_cls (by kernel_rfl) (by kernel_rfl) ?_
  repeat (first | go_big_quiet_skip | (go_big_quiet_want; first | (refine quiet_load_ck _ rfl rfl (cls_ck r2) ?_; simp only [Act.put, List.setIfInBounds_toArray, List.set_cons_succ, List.set_cons_zero]; go_big_quiet_on) | (go_big_quiet_op; first | go_big_quiet_on | go_big_quiet_call ((fail)))))
  refine wpQuiet_nil ?_
  rintro w1 ⟨s1, e1⟩
  have hb1 := wOf_below s1
  rw [← e1] at hb1
  clear e1 s1
  replace r2 := r2.later hb1
  replace hB := bgo hB hb1
  clear hb1
  have HN := hid_of' (show Calls Tryz.prog 60 #[.pointer (some ⟨xb, 0, none⟩), .string ⟨#[67, 111, 117, 110, 116]⟩, .int .i64 ((c : Int) + 1)] w1 _ from refno_any (H.out.later hB) ⟨#[67, 111, 117, 110, 116]⟩ c)
  go_wp2_with (first | (go_at_call 60; refine HN.out.mono ?_; rintro e w3 ⟨m0, m1, m2, rfl, h3, hk3⟩; have r3 := r2.kept hk3 (by simp; omega); have h9 := NoSt.one h3.no) | (refine wpL_stNo rfl _ _ rfl rfl rfl h9 r3 ?_))
  refine bodyPost_ret (results_no2 (fn := Tryz.f62) (p := 6) (u := 7) rfl rfl (setRow_heap _ _ _ _ _ _ r3)) rfl ?_
  have hk := (Kept.of (S := [xb]) hB).trans hk3
  obtain ⟨x1, x2⟩ := h3.res (b := w.heap.size) (ms := #[m0, m1, m2]) (Nat.le_refl _) H.out.at_.raw hx hk (h3.no.ne r3)
  exact ⟨m0, m1, m2, rfl, x1, x2⟩

set_option maxHeartbeats 2000000 in
theorem refCount_manyH {xb : Nat} {v n0 n1 n2 : Value} {bs : List UInt8} {pl n k _c : Nat} {w : World} (h : XsAt xb v bs pl none n0 n1 n2 w) (least most : Int) (hl : ¬ least < 1) (hr : numR (bs.drop pl) most = .ok (n, k)) (hm : ((bs.length - pl - k : Nat) : Int) / least < (n : Int)) :
    Calls Tryz.prog 62 #[.pointer (some ⟨xb, 0, none⟩), .int .i64 least, .int .i64 most] w fun e w' => ∃ m0 m1 m2, e = .returned (.tuple #[.int .i64 0, .agg #[m0, m1, m2]]) ∧ XsAt xb v bs pl (some (⟨#[67, 111, 117, 110, 116]⟩, pl, 6)) m0 m1 m2 w' ∧ Kept [xb] w w' := by
  have hk9 := (numR_ok hr).2.2.1
  rw [List.length_drop] at hk9
  have hn9 := (numR_ok hr).2.2.2.2.2
  obtain ⟨rfl, rfl, rfl⟩ := h.no
  have hx := h.at_.row.lt
  have hle := h.at_.le
  have hlim := h.at_.lim
  obtain ⟨a1, c1, rfl⟩ := h.at_.form
  have r0 := RowAt.new w zNo 37
  have hB0 := below_one w (.cells zNo 37)
  have H := hid_of' h
  have H1 := hid_of' (h.later hB0)
  have c2 : (w.alloc (.cells zNo 37)).cell? ⟨xb, 2, none⟩ = some (.int .i64 0) := by rw [H1.out.at_.row.cell]; rfl
  have e0 : ∀ s : Wld (w.alloc (.cells zNo 37)), (wOf s).cell? ⟨xb, 0, none⟩ = some (.slice a1 bs.length c1) := fun s => H1.out.at_.row.cls 0 _ rfl s
  have e1 : ∀ s : Wld (w.alloc (.cells zNo 37)), (wOf s).cell? ⟨xb, 1, none⟩ = some (.int .i64 (pl : Int)) := fun s => H1.out.at_.row.cls 1 _ rfl s
  have hB : Below w.heap.size w (w.alloc (.cells zNo 37)) := hB0
  clear h hB0
  have HU0 := refnum_any H1.out.at_ most
  rw [hr] at HU0
  have HU := hid_of' HU0
  clear HU0 hr
  have ecst : (bs.length : Int) - (pl : Int) - (k : Int) = ((bs.length - pl - k : Nat) : Int) := by omega
  replace hm : ((bs.length : Int) - (pl : Int) - (k : Int)) / least < (n : Int) := by rw [ecst]; exact hm
  have HKL := hid_of' (show pl + k ≤ bs.length by omega)
  clear ecst
  go_enter Tryz.func62, Tryz.ntmps62
  go_upto_region 6 with (go_at_call 61; refine HU.out.mono ?_; rintro e w2 ⟨rfl, hb2⟩; simp only [nums])
  have h2 := H1.out.later hb2
  have hB2 := bgo hB hb2
  have r2 := r0.later hb2
  clear e0 e1 c2 hB HU
  have e0 : ∀ s : Wld w2, (wOf s).cell? ⟨xb, 0, none⟩ = some (.slice a1 bs.length c1) := fun s => h2.at_.row.cls 0 _ rfl s
  have e1 : ∀ s : Wld w2, (wOf s).cell? ⟨xb, 1, none⟩ = some (.int .i64 (pl : Int)) := fun s => h2.at_.row.cls 1 _ rfl s
  have hB : Below w.heap.size w w2 := hB2
  clear hB2 hb2 h2
  refine wp_region_cls (by kernel_rfl) (by kernel_rfl) ?_
  repeat (first | go_big_quiet_skip | (go_big_quiet_want; first | (refine quiet_load_ck _ rfl rfl (cls_ck r2) ?_; simp only [Act.put, List.setIfInBounds_toArray, List.set_cons_succ, List.set_cons_zero]; go_big_quiet_on) | (go_big_quiet_op; first | go_big_quiet_on | go_big_quiet_call ((fail)))))
  refine wpQuiet_nil ?_
  rintro w1 ⟨s1, e1⟩
  have hb1 := wOf_below s1
  rw [← e1] at hb1
  clear e1 s1
  replace r2 := r2.later hb1
  replace hB := bgo hB hb1
  clear hb1
  have HN := hid_of' (show Calls Tryz.prog 60 #[.pointer (some ⟨xb, 0, none⟩), .string ⟨#[67, 111, 117, 110, 116]⟩, .int .i64 (7)] w1 _ from refno_any (H.out.later hB) ⟨#[67, 111, 117, 110, 116]⟩ 6)
  go_wp2_with (first | (go_at_call 60; refine HN.out.mono ?_; rintro e w3 ⟨m0, m1, m2, rfl, h3, hk3⟩; have r3 := r2.kept hk3 (by simp; omega); have h9 := NoSt.one h3.no) | (refine wpL_stNo rfl _ _ rfl rfl rfl h9 r3 ?_))
  refine bodyPost_ret (results_no2 (fn := Tryz.f62) (p := 6) (u := 7) rfl rfl (setRow_heap _ _ _ _ _ _ r3)) rfl ?_
  have hk := (Kept.of (S := [xb]) hB).trans hk3
  obtain ⟨x1, x2⟩ := h3.res (b := w.heap.size) (ms := #[m0, m1, m2]) (Nat.le_refl _) H.out.at_.raw hx hk (h3.no.ne r3)
  exact ⟨m0, m1, m2, rfl, x1, x2⟩

set_option maxHeartbeats 2000000 in
theorem refCount_numL {xb : Nat} {v n0 n1 n2 : Value} {bs : List UInt8} {pl _n _k c : Nat} {w : World} (h : XsAt xb v bs pl none n0 n1 n2 w) (least most : Int) (hl : least < 1) (hr : numR (bs.drop pl) most = .error c) :
    Calls Tryz.prog 62 #[.pointer (some ⟨xb, 0, none⟩), .int .i64 least, .int .i64 most] w fun e w' => ∃ m0 m1 m2, e = .returned (.tuple #[.int .i64 0, .agg #[m0, m1, m2]]) ∧ XsAt xb v bs pl (some (⟨#[67, 111, 117, 110, 116]⟩, pl, c)) m0 m1 m2 w' ∧ Kept [xb] w w' := by
  have hc : (((c : Int) + 1) == 0) = false := by rw [beq_eq_false_iff_ne]; omega
  obtain ⟨rfl, rfl, rfl⟩ := h.no
  have hx := h.at_.row.lt
  have hle := h.at_.le
  have hlim := h.at_.lim
  obtain ⟨a1, c1, rfl⟩ := h.at_.form
  have r0 := RowAt.new w zNo 37
  have hB0 := below_one w (.cells zNo 37)
  have H := hid_of' h
  have H1 := hid_of' (h.later hB0)
  have c2 : (w.alloc (.cells zNo 37)).cell? ⟨xb, 2, none⟩ = some (.int .i64 0) := by rw [H1.out.at_.row.cell]; rfl
  have e0 : ∀ s : Wld (w.alloc (.cells zNo 37)), (wOf s).cell? ⟨xb, 0, none⟩ = some (.slice a1 bs.length c1) := fun s => H1.out.at_.row.cls 0 _ rfl s
  have e1 : ∀ s : Wld (w.alloc (.cells zNo 37)), (wOf s).cell? ⟨xb, 1, none⟩ = some (.int .i64 (pl : Int)) := fun s => H1.out.at_.row.cls 1 _ rfl s
  have hB : Below w.heap.size w (w.alloc (.cells zNo 37)) := hB0
  clear h hB0
  have HU0 := refnum_any H1.out.at_ most
  rw [hr] at HU0
  have HU := hid_of' HU0
  clear HU0 hr
  go_enter Tryz.func62, Tryz.ntmps62
  go_upto_region 6 with (go_at_call 61; refine HU.out.mono ?_; rintro e w2 ⟨rfl, hb2⟩; simp only [nums])
  have h2 := H1.out.later hb2
  have hB2 := bgo hB hb2
  have r2 := r0.later hb2
  clear e0 e1 c2 hB HU
  have e0 : ∀ s : Wld w2, (wOf s).cell? ⟨xb, 0, none⟩ = some (.slice a1 bs.length c1) := fun s => h2.at_.row.cls 0 _ rfl s
  have e1 : ∀ s : Wld w2, (wOf s).cell? ⟨xb, 1, none⟩ = some (.int .i64 (pl : Int)) := fun s => h2.at_.row.cls 1 _ rfl s
  have hB : Below w.heap.size w w2 := hB2
  clear hB2 hb2 h2
  refine wp_region_cls (by kernel_rfl) (by kernel_rfl) ?_
  repeat (first | go_big_quiet_skip | (go_big_quiet_want; first | (refine quiet_load_ck _ rfl rfl (cls_ck r2) ?_; simp only [Act.put, List.setIfInBounds_toArray, List.set_cons_succ, List.set_cons_zero]; go_big_quiet_on) | (go_big_quiet_op; first | go_big_quiet_on | go_big_quiet_call ((fail)))))
  refine wpQuiet_nil ?_
  rintro w1 ⟨s1, e1⟩
  have hb1 := wOf_below s1
  rw [← e1] at hb1
  clear e1 s1
  replace r2 := r2.later hb1
  replace hB := bgo hB hb1
  clear hb1
  have HN := hid_of' (show Calls Tryz.prog 60 #[.pointer (some ⟨xb, 0, none⟩), .string ⟨#[67, 111, 117, 110, 116]⟩, .int .i64 ((c : Int) + 1)] w1 _ from refno_any (H.out.later hB) ⟨#[67, 111, 117, 110, 116]⟩ c)
  go_wp2_with (first | (go_at_call 60; refine HN.out.mono ?_; rintro e w3 ⟨m0, m1, m2, rfl, h3, hk3⟩; have r3 := r2.kept hk3 (by simp; omega); have h9 := NoSt.one h3.no) | (refine wpL_stNo rfl _ _ rfl rfl rfl h9 r3 ?_))
  refine bodyPost_ret (results_no2 (fn := Tryz.f62) (p := 6) (u := 7) rfl rfl (setRow_heap _ _ _ _ _ _ r3)) rfl ?_
  have hk := (Kept.of (S := [xb]) hB).trans hk3
  obtain ⟨x1, x2⟩ := h3.res (b := w.heap.size) (ms := #[m0, m1, m2]) (Nat.le_refl _) H.out.at_.raw hx hk (h3.no.ne r3)
  exact ⟨m0, m1, m2, rfl, x1, x2⟩

set_option maxHeartbeats 2000000 in
theorem refCount_manyL {xb : Nat} {v n0 n1 n2 : Value} {bs : List UInt8} {pl n k _c : Nat} {w : World} (h : XsAt xb v bs pl none n0 n1 n2 w) (least most : Int) (hl : least < 1) (hr : numR (bs.drop pl) most = .ok (n, k)) (hm : ((bs.length - pl - k : Nat) : Int) < (n : Int)) :
    Calls Tryz.prog 62 #[.pointer (some ⟨xb, 0, none⟩), .int .i64 least, .int .i64 most] w fun e w' => ∃ m0 m1 m2, e = .returned (.tuple #[.int .i64 0, .agg #[m0, m1, m2]]) ∧ XsAt xb v bs pl (some (⟨#[67, 111, 117, 110, 116]⟩, pl, 6)) m0 m1 m2 w' ∧ Kept [xb] w w' := by
  have hk9 := (numR_ok hr).2.2.1
  rw [List.length_drop] at hk9
  have hn9 := (numR_ok hr).2.2.2.2.2
  obtain ⟨rfl, rfl, rfl⟩ := h.no
  have hx := h.at_.row.lt
  have hle := h.at_.le
  have hlim := h.at_.lim
  obtain ⟨a1, c1, rfl⟩ := h.at_.form
  have r0 := RowAt.new w zNo 37
  have hB0 := below_one w (.cells zNo 37)
  have H := hid_of' h
  have H1 := hid_of' (h.later hB0)
  have c2 : (w.alloc (.cells zNo 37)).cell? ⟨xb, 2, none⟩ = some (.int .i64 0) := by rw [H1.out.at_.row.cell]; rfl
  have e0 : ∀ s : Wld (w.alloc (.cells zNo 37)), (wOf s).cell? ⟨xb, 0, none⟩ = some (.slice a1 bs.length c1) := fun s => H1.out.at_.row.cls 0 _ rfl s
  have e1 : ∀ s : Wld (w.alloc (.cells zNo 37)), (wOf s).cell? ⟨xb, 1, none⟩ = some (.int .i64 (pl : Int)) := fun s => H1.out.at_.row.cls 1 _ rfl s
  have hB : Below w.heap.size w (w.alloc (.cells zNo 37)) := hB0
  clear h hB0
  have HU0 := refnum_any H1.out.at_ most
  rw [hr] at HU0
  have HU := hid_of' HU0
  clear HU0 hr
  have ecst : (bs.length : Int) - (pl : Int) - (k : Int) = ((bs.length - pl - k : Nat) : Int) := by omega
  replace hm : (bs.length : Int) - (pl : Int) - (k : Int) < (n : Int) := by rw [ecst]; exact hm
  have HKL := hid_of' (show pl + k ≤ bs.length by omega)
  clear ecst
  go_enter Tryz.func62, Tryz.ntmps62
  go_upto_region 6 with (go_at_call 61; refine HU.out.mono ?_; rintro e w2 ⟨rfl, hb2⟩; simp only [nums])
  have h2 := H1.out.later hb2
  have hB2 := bgo hB hb2
  have r2 := r0.later hb2
  clear e0 e1 c2 hB HU
  have e0 : ∀ s : Wld w2, (wOf s).cell? ⟨xb, 0, none⟩ = some (.slice a1 bs.length c1) := fun s => h2.at_.row.cls 0 _ rfl s
  have e1 : ∀ s : Wld w2, (wOf s).cell? ⟨xb, 1, none⟩ = some (.int .i64 (pl : Int)) := fun s => h2.at_.row.cls 1 _ rfl s
  have hB : Below w.heap.size w w2 := hB2
  clear hB2 hb2 h2
  refine wp_region_cls (by kernel_rfl) (by kernel_rfl) ?_
  repeat (first | go_big_quiet_skip | (go_big_quiet_want; first | (refine quiet_load_ck _ rfl rfl (cls_ck r2) ?_; simp only [Act.put, List.setIfInBounds_toArray, List.set_cons_succ, List.set_cons_zero]; go_big_quiet_on) | (go_big_quiet_op; first | go_big_quiet_on | go_big_quiet_call ((fail)))))
  refine wpQuiet_nil ?_
  rintro w1 ⟨s1, e1⟩
  have hb1 := wOf_below s1
  rw [← e1] at hb1
  clear e1 s1
  replace r2 := r2.later hb1
  replace hB := bgo hB hb1
  clear hb1
  have HN := hid_of' (show Calls Tryz.prog 60 #[.pointer (some ⟨xb, 0, none⟩), .string ⟨#[67, 111, 117, 110, 116]⟩, .int .i64 (7)] w1 _ from refno_any (H.out.later hB) ⟨#[67, 111, 117, 110, 116]⟩ 6)
  go_wp2_with (first | (go_at_call 60; refine HN.out.mono ?_; rintro e w3 ⟨m0, m1, m2, rfl, h3, hk3⟩; have r3 := r2.kept hk3 (by simp; omega); have h9 := NoSt.one h3.no) | (refine wpL_stNo rfl _ _ rfl rfl rfl h9 r3 ?_))
  refine bodyPost_ret (results_no2 (fn := Tryz.f62) (p := 6) (u := 7) rfl rfl (setRow_heap _ _ _ _ _ _ r3)) rfl ?_
  have hk := (Kept.of (S := [xb]) hB).trans hk3
  obtain ⟨x1, x2⟩ := h3.res (b := w.heap.size) (ms := #[m0, m1, m2]) (Nat.le_refl _) H.out.at_.raw hx hk (h3.no.ne r3)
  exact ⟨m0, m1, m2, rfl, x1, x2⟩

set_option maxHeartbeats 2000000 in
theorem refCount_okH {xb : Nat} {v n0 n1 n2 : Value} {bs : List UInt8} {pl n k : Nat} {w : World} (h : XsAt xb v bs pl none n0 n1 n2 w) (least most : Int) (hl : ¬ least < 1) (hr : numR (bs.drop pl) most = .ok (n, k)) (hm : ¬ ((bs.length - pl - k : Nat) : Int) / least < (n : Int)) :
    Calls Tryz.prog 62 #[.pointer (some ⟨xb, 0, none⟩), .int .i64 least, .int .i64 most] w fun e w' => e = .returned (.tuple #[.int .i64 (n : Int), .agg zNo]) ∧ XsAt xb v bs (pl + k) none (.int .i64 0) (.slice none 0 0) (.slice none 0 0) w' ∧ Kept [xb] w w' := by
  have hk9 := (numR_ok hr).2.2.1
  rw [List.length_drop] at hk9
  have hn9 := (numR_ok hr).2.2.2.2.2
  obtain ⟨rfl, rfl, rfl⟩ := h.no
  have hx := h.at_.row.lt
  have hle := h.at_.le
  have hlim := h.at_.lim
  obtain ⟨a1, c1, rfl⟩ := h.at_.form
  have r0 := RowAt.new w zNo 37
  have hB0 := below_one w (.cells zNo 37)
  have H := hid_of' h
  have H1 := hid_of' (h.later hB0)
  have c2 : (w.alloc (.cells zNo 37)).cell? ⟨xb, 2, none⟩ = some (.int .i64 0) := by rw [H1.out.at_.row.cell]; rfl
  have e0 : ∀ s : Wld (w.alloc (.cells zNo 37)), (wOf s).cell? ⟨xb, 0, none⟩ = some (.slice a1 bs.length c1) := fun s => H1.out.at_.row.cls 0 _ rfl s
  have e1 : ∀ s : Wld (w.alloc (.cells zNo 37)), (wOf s).cell? ⟨xb, 1, none⟩ = some (.int .i64 (pl : Int)) := fun s => H1.out.at_.row.cls 1 _ rfl s
  have hB : Below w.heap.size w (w.alloc (.cells zNo 37)) := hB0
  clear h hB0
  have HU0 := refnum_any H1.out.at_ most
  rw [hr] at HU0
  have HU := hid_of' HU0
  clear HU0 hr
  have ecst : (bs.length : Int) - (pl : Int) - (k : Int) = ((bs.length - pl - k : Nat) : Int) := by omega
  replace hm : ¬ ((bs.length : Int) - (pl : Int) - (k : Int)) / least < (n : Int) := by rw [ecst]; exact hm
  have HKL := hid_of' (show pl + k ≤ bs.length by omega)
  clear ecst
  go_enter Tryz.func62, Tryz.ntmps62
  go_upto_region 6 with (go_at_call 61; refine HU.out.mono ?_; rintro e w2 ⟨rfl, hb2⟩; simp only [nums])
  have h2 := H1.out.later hb2
  have hB2 := bgo hB hb2
  have r2 := r0.later hb2
  clear e0 e1 c2 hB HU
  have e0 : ∀ s : Wld w2, (wOf s).cell? ⟨xb, 0, none⟩ = some (.slice a1 bs.length c1) := fun s => h2.at_.row.cls 0 _ rfl s
  have e1 : ∀ s : Wld w2, (wOf s).cell? ⟨xb, 1, none⟩ = some (.int .i64 (pl : Int)) := fun s => h2.at_.row.cls 1 _ rfl s
  have hB : Below w.heap.size w w2 := hB2
  clear hB2 hb2 h2
  refine wp_region_cls (by kernel_rfl) (by kernel_rfl) ?_
  repeat (first | go_big_quiet_skip | (go_big_quiet_want; first | (refine quiet_load_ck _ rfl rfl (cls_ck r2) ?_; simp only [Act.put, List.setIfInBounds_toArray, List.set_cons_succ, List.set_cons_zero]; go_big_quiet_on) | (go_big_quiet_op; first | go_big_quiet_on | go_big_quiet_call ((fail)))))
  refine wpQuiet_nil ?_
  rintro w1 ⟨s1, e1⟩
  have hb1 := wOf_below s1
  rw [← e1] at hb1
  clear e1 s1
  replace r2 := r2.later hb1
  replace hB := bgo hB hb1
  clear hb1
  clear e0 e1
  have h2 := H.out.later hB
  have c1' : w1.cell? ⟨xb, 1, none⟩ = some (.int .i64 (pl : Int)) := by rw [h2.at_.row.cell]; rfl
  have f1 := frozenW_of h2.at_.row 1
  obtain ⟨h3, k3⟩ := h2.goOn HKL.out
  have ecs : (((pl + k : Nat) : Nat) : Int) = (pl : Int) + (k : Int) := by push_cast; rfl
  rw [ecs] at h3 k3
  have hk := (Kept.of (S := [xb]) hB).trans k3
  have r3 := r2.kept k3 (by simp; omega)
  have H3 := hid_of' (And.intro h3 hk)
  clear h3 hk k3 r2 h2
  go_upto_region 11 with fail
  generalize w1.setCell ⟨xb, 1, none⟩ (.int .i64 ((pl : Int) + (k : Int))) = w3 at *
  go_wp2_with (refine wpL_stNo rfl _ _ rfl rfl rfl (by simp [Value.oneCell']) r3 ?_)
  refine bodyPost_ret (results_no2 (fn := Tryz.f62) (p := 6) (u := 7) rfl rfl (setRow_heap _ _ _ _ _ _ r3)) rfl ?_
  obtain ⟨x1, x2⟩ := H3.out.1.res (b := w.heap.size) (ms := zNo) (Nat.le_refl _) H.out.at_.raw hx H3.out.2 (fun g h => by simp at h)
  exact ⟨rfl, x1, x2⟩

set_option maxHeartbeats 2000000 in
theorem refCount_okL {xb : Nat} {v n0 n1 n2 : Value} {bs : List UInt8} {pl n k : Nat} {w : World} (h : XsAt xb v bs pl none n0 n1 n2 w) (least most : Int) (hl : least < 1) (hr : numR (bs.drop pl) most = .ok (n, k)) (hm : ¬ ((bs.length - pl - k : Nat) : Int) < (n : Int)) :
    Calls Tryz.prog 62 #[.pointer (some ⟨xb, 0, none⟩), .int .i64 least, .int .i64 most] w fun e w' => e = .returned (.tuple #[.int .i64 (n : Int), .agg zNo]) ∧ XsAt xb v bs (pl + k) none (.int .i64 0) (.slice none 0 0) (.slice none 0 0) w' ∧ Kept [xb] w w' := by
  have hk9 := (numR_ok hr).2.2.1
  rw [List.length_drop] at hk9
  have hn9 := (numR_ok hr).2.2.2.2.2
  obtain ⟨rfl, rfl, rfl⟩ := h.no
  have hx := h.at_.row.lt
  have hle := h.at_.le
  have hlim := h.at_.lim
  obtain ⟨a1, c1, rfl⟩ := h.at_.form
  have r0 := RowAt.new w zNo 37
  have hB0 := below_one w (.cells zNo 37)
  have H := hid_of' h
  have H1 := hid_of' (h.later hB0)
  have c2 : (w.alloc (.cells zNo 37)).cell? ⟨xb, 2, none⟩ = some (.int .i64 0) := by rw [H1.out.at_.row.cell]; rfl
  have e0 : ∀ s : Wld (w.alloc (.cells zNo 37)), (wOf s).cell? ⟨xb, 0, none⟩ = some (.slice a1 bs.length c1) := fun s => H1.out.at_.row.cls 0 _ rfl s
  have e1 : ∀ s : Wld (w.alloc (.cells zNo 37)), (wOf s).cell? ⟨xb, 1, none⟩ = some (.int .i64 (pl : Int)) := fun s => H1.out.at_.row.cls 1 _ rfl s
  have hB : Below w.heap.size w (w.alloc (.cells zNo 37)) := hB0
  clear h hB0
  have HU0 := refnum_any H1.out.at_ most
  rw [hr] at HU0
  have HU := hid_of' HU0
  clear HU0 hr
  have ecst : (bs.length : Int) - (pl : Int) - (k : Int) = ((bs.length - pl - k : Nat) : Int) := by omega
  replace hm : ¬ (bs.length : Int) - (pl : Int) - (k : Int) < (n : Int) := by rw [ecst]; exact hm
  have HKL := hid_of' (show pl + k ≤ bs.length by omega)
  clear ecst
  go_enter Tryz.func62, Tryz.ntmps62
  go_upto_region 6 with (go_at_call 61; refine HU.out.mono ?_; rintro e w2 ⟨rfl, hb2⟩; simp only [nums])
  have h2 := H1.out.later hb2
  have hB2 := bgo hB hb2
  have r2 := r0.later hb2
  clear e0 e1 c2 hB HU
  have e0 : ∀ s : Wld w2, (wOf s).cell? ⟨xb, 0, none⟩ = some (.slice a1 bs.length c1) := fun s => h2.at_.row.cls 0 _ rfl s
  have e1 : ∀ s : Wld w2, (wOf s).cell? ⟨xb, 1, none⟩ = some (.int .i64 (pl : Int)) := fun s => h2.at_.row.cls 1 _ rfl s
  have hB : Below w.heap.size w w2 := hB2
  clear hB2 hb2 h2
  refine wp_region_cls (by kernel_rfl) (by kernel_rfl) ?_
  repeat (first | go_big_quiet_skip | (go_big_quiet_want; first | (refine quiet_load_ck _ rfl rfl (cls_ck r2) ?_; simp only [Act.put, List.setIfInBounds_toArray, List.set_cons_succ, List.set_cons_zero]; go_big_quiet_on) | (go_big_quiet_op; first | go_big_quiet_on | go_big_quiet_call ((fail)))))
  refine wpQuiet_nil ?_
  rintro w1 ⟨s1, e1⟩
  have hb1 := wOf_below s1
  rw [← e1] at hb1
  clear e1 s1
  replace r2 := r2.later hb1
  replace hB := bgo hB hb1
  clear hb1
  clear e0 e1
  have h2 := H.out.later hB
  have c1' : w1.cell? ⟨xb, 1, none⟩ = some (.int .i64 (pl : Int)) := by rw [h2.at_.row.cell]; rfl
  have f1 := frozenW_of h2.at_.row 1
  obtain ⟨h3, k3⟩ := h2.goOn HKL.out
  have ecs : (((pl + k : Nat) : Nat) : Int) = (pl : Int) + (k : Int) := by push_cast; rfl
  rw [ecs] at h3 k3
  have hk := (Kept.of (S := [xb]) hB).trans k3
  have r3 := r2.kept k3 (by simp; omega)
  have H3 := hid_of' (And.intro h3 hk)
  clear h3 hk k3 r2 h2
  go_upto_region 11 with fail
  generalize w1.setCell ⟨xb, 1, none⟩ (.int .i64 ((pl : Int) + (k : Int))) = w3 at *
  go_wp2_with (refine wpL_stNo rfl _ _ rfl rfl rfl (by simp [Value.oneCell']) r3 ?_)
  refine bodyPost_ret (results_no2 (fn := Tryz.f62) (p := 6) (u := 7) rfl rfl (setRow_heap _ _ _ _ _ _ r3)) rfl ?_
  obtain ⟨x1, x2⟩ := H3.out.1.res (b := w.heap.size) (ms := zNo) (Nat.le_refl _) H.out.at_.raw hx H3.out.2 (fun g h => by simp at h)
  exact ⟨rfl, x1, x2⟩

end Go.Proofs.YtpkblfhkblllhaaGreatDoor
