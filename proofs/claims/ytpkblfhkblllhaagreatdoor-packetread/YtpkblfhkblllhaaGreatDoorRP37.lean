
/-
  barrowref02.Reader: Byte, End, Left.
-/
import Derived.Test.YtpkblfhkblllhaaGreatDoorRP36
namespace Go.Proofs.YtpkblfhkblllhaaGreatDoor
open Go.RowKit
set_option maxRecDepth 100000

theorem XrAt.form {xb : Nat} {v n0 n1 n2 : Value} {bs : List UInt8} {pl : Nat} {w : World} (h : XrAt xb v bs pl n0 n1 n2 w) : ∃ a c, v = .slice a bs.length c := by
  rcases h.raw with ⟨rfl, a, c, rfl⟩ | ⟨g, o, c, rfl, _⟩
  · exact ⟨a, c, rfl⟩
  · exact ⟨_, c, rfl⟩

set_option maxHeartbeats 2000000 in
theorem refByte_broken {xb : Nat} {v n0 n1 n2 : Value} {bs : List UInt8} {pl p c : Nat} {ca : ByteArray} {w : World} (h : XsAt xb v bs pl (some (ca, p, c)) n0 n1 n2 w) :
    Calls Tryz.prog 35 #[.pointer (some ⟨xb, 0, none⟩)] w fun e w' => e = .returned (.tuple #[.int .u8 0, .agg #[n0, n1, n2]]) ∧ XsAt xb v bs pl (some (ca, p, c)) n0 n1 n2 w' ∧ Kept [xb] w w' := by
  have r0 := RowAt.new w zNo 37
  have hB := below_one w (.cells zNo 37)
  have H := hid_of' h
  have H1 := hid_of' (h.later hB)
  have HN := hid_of' (XsAt.noIn H1.out)
  have hc : (((c : Int) + 1) == 0) = false := by rw [beq_eq_false_iff_ne]; omega
  have c2 : (w.alloc (.cells zNo 37)).cell? ⟨xb, 2, none⟩ = some (.int .i64 ((c : Int) + 1)) := by
    rw [H1.out.at_.row.cell]
    obtain ⟨g, g', e0, _⟩ := h.no
    rw [e0]; rfl
  clear h
  go_enter Tryz.func35, Tryz.ntmps35
  go_upto_region 2 with fail
  refine wp_region_tail 5 (by kernel_rfl) (fun _ => none) (by kernel_rfl) (by kernel_rfl) (by decide) (fun i v x => match i with
    | 0 => v = .pointer (some ⟨xb, 0, none⟩)
    | 1 => v = .pointer (some ⟨xb, 0, none⟩)
    | 2 => v = .pointer (some ⟨xb, 2, none⟩)
    | 3 => v = .agg #[n0, n1, n2]
    | 4 => v = .int .u8 0
    | _ => True) (fun _ => false) (fun _ _ _ _ h => by cases h) ?_ ?_ ?_
  · intro i v x x' hR hb
    match i, hR with
    | 0, h => exact h
    | 1, h => exact h
    | 2, h => exact h
    | 3, h => exact h
    | 4, h => exact h
    | m + 5, h => exact h
  · intro i o hi ho q x vals hX hdep hoth
    have t0 : q.tmps[0]? = some (.pointer (some ⟨xb, 0, none⟩)) := by rw [hoth 0 (by kernel_rfl)]; rfl
    match i, hi, ho with
    | 0, _, ho =>
      simp only [List.getElem?_cons_zero, Option.some.injEq] at ho
      subst ho
      unfold Oper.wp
      simp [execOp, go_sem, t0]
      exact came _ rfl (Below.refl _ _) rfl (fun h => absurd h (by decide))
    | 1, _, ho =>
      simp only [List.getElem?_cons_succ, List.getElem?_cons_zero, Option.some.injEq] at ho
      subst ho
      obtain ⟨u0, e0⟩ := hdep ⟨0, .data⟩ (by simp) rfl _ 10 rfl rfl
      rw [show vals 0 = .pointer (some ⟨xb, 0, none⟩) from e0] at u0
      unfold Oper.wp
      simp [execOp, go_sem, u0]
      exact came _ rfl (Below.refl _ _) rfl (fun h => absurd h (by decide))
    | 2, _, ho =>
      simp only [List.getElem?_cons_succ, List.getElem?_cons_zero, Option.some.injEq] at ho
      subst ho
      obtain ⟨u1, e1⟩ := hdep ⟨1, .data⟩ (by simp) rfl _ 11 rfl rfl
      rw [show vals 1 = .pointer (some ⟨xb, 0, none⟩) from e1] at u1
      unfold Oper.wp
      simp [execOp, go_sem, u1]
      exact came _ rfl (Below.refl _ _) rfl (fun h => absurd h (by decide))
    | 3, _, ho =>
      simp only [List.getElem?_cons_succ, List.getElem?_cons_zero, Option.some.injEq] at ho
      subst ho
      obtain ⟨u2, e2⟩ := hdep ⟨2, .data⟩ (by simp) rfl _ 12 rfl rfl
      rw [show vals 2 = .pointer (some ⟨xb, 2, none⟩) from e2] at u2
      exact opw_ldNo _ rfl (by simp [Act.eval, u2]) ((HN.out.later hX)) (came _ rfl (Below.refl _ _) rfl (fun h => absurd h (by decide)))
    | 4, _, ho =>
      simp only [List.getElem?_cons_succ, List.getElem?_cons_zero, Option.some.injEq] at ho
      subst ho
      unfold Oper.wp
      simp [execOp, go_sem, ]
      exact came _ rfl (Below.refl _ _) rfl (fun h => absurd h (by decide))
    | m + 5, hi, _ => exact absurd hi (by omega)
  · intro vals x hX hR _
    have e3 : vals 3 = .agg #[n0, n1, n2] := hR 3 (by decide)
    have e4 : vals 4 = .int .u8 0 := hR 4 (by decide)
    simp only [List.drop, List.take, putAll, List.setIfInBounds_toArray, List.set_cons_succ, List.set_cons_zero, e3, e4]
    clear hR e3 e4
    have rx := r0.later hX
    have h9 := NoSt.one H.out.no
    go_wp2_with (refine wpL_stNo rfl _ _ rfl rfl rfl h9 rx ?_)
    refine bodyPost_ret (results_no2 (fn := Tryz.f35) (p := 2) (u := 3) rfl rfl (setRow_heap _ _ _ _ _ _ rx)) rfl ?_
    have hf : Below w.heap.size w (x.setRow w.heap.size #[n0, n1, n2]) := below_row (bgo hB hX) (Nat.le_refl _) _
    exact ⟨rfl, H.out.later hf, .of hf⟩

set_option maxHeartbeats 2000000 in
theorem refByte_err {xb : Nat} {v n0 n1 n2 : Value} {bs : List UInt8} {pl : Nat} {w : World} (h : XsAt xb v bs pl none n0 n1 n2 w) (hq : (bs.length : Int) ≤ (pl : Int)) :
    Calls Tryz.prog 35 #[.pointer (some ⟨xb, 0, none⟩)] w fun e w' => ∃ m0 m1 m2, e = .returned (.tuple #[.int .u8 0, .agg #[m0, m1, m2]]) ∧ XsAt xb v bs pl (some (⟨#[66, 121, 116, 101]⟩, pl, 6)) m0 m1 m2 w' ∧ Kept [xb] w w' := by
  obtain ⟨rfl, rfl, rfl⟩ := h.no
  have hx := h.at_.row.lt
  have hle := h.at_.le
  have hlim := h.at_.lim
  obtain ⟨a1, c1, rfl⟩ := h.at_.form
  have r0 := RowAt.new w zNo 37
  have hB0 := below_one w (.cells zNo 37)
  have H := hid_of' h
  have H1 := hid_of' (h.later hB0)
  have c2 : (w.alloc (.cells zNo 37)).cell? ⟨xb, 2, none⟩ = some (.int .i64 0) := by rw [H1.out.at_.row.cell]; rfl
  have e0 : ∀ s : Wld (w.alloc (.cells zNo 37)), (wOf s).cell? ⟨xb, 0, none⟩ = some (.slice a1 bs.length c1) := fun s => H1.out.at_.row.cls 0 _ rfl s
  have e1 : ∀ s : Wld (w.alloc (.cells zNo 37)), (wOf s).cell? ⟨xb, 1, none⟩ = some (.int .i64 (pl : Int)) := fun s => H1.out.at_.row.cls 1 _ rfl s
  have hB : Below w.heap.size w (w.alloc (.cells zNo 37)) := hB0
  clear h hB0
  have hN : ∀ x, Below w.heap.size w x → XsAt xb (.slice a1 bs.length c1) bs pl none (.int .i64 0) (.slice none 0 0) (.slice none 0 0) x := fun x hb => H.out.later hb
  go_enter Tryz.func35, Tryz.ntmps35
  go_upto_region 3 with fail
  refine wp_region_cls (by kernel_rfl) (by kernel_rfl) ?_
  repeat (first | go_big_quiet_skip | (go_big_quiet_want; first | (refine quiet_load_ck _ rfl rfl (cls_ck r0) ?_; simp only [Act.put, List.setIfInBounds_toArray, List.set_cons_succ, List.set_cons_zero]; go_big_quiet_on) | (go_big_quiet_op; first | go_big_quiet_on | go_big_quiet_call ((fail)))))
  refine wpQuiet_nil ?_
  rintro w1 ⟨s1, e1⟩
  have hb1 := wOf_below s1
  rw [← e1] at hb1
  clear e1 s1
  replace r0 := r0.later hb1
  replace hB := bgo hB hb1
  clear hb1
  have HN := hid_of' (show Calls Tryz.prog 60 #[.pointer (some ⟨xb, 0, none⟩), .string ⟨#[66, 121, 116, 101]⟩, .int .i64 7] w1 _ from refno_any (hN w1 hB) ⟨#[66, 121, 116, 101]⟩ 6)
  go_wp2_with (first | (go_at_call 60; refine HN.out.mono ?_; rintro e w3 ⟨m0, m1, m2, rfl, h3, hk3⟩; have r3 := r0.kept hk3 (by simp; omega); have h9 := NoSt.one h3.no) | (refine wpL_stNo rfl _ _ rfl rfl rfl h9 r3 ?_))
  refine bodyPost_ret (results_no2 (fn := Tryz.f35) (p := 2) (u := 3) rfl rfl (setRow_heap _ _ _ _ _ _ r3)) rfl ?_
  have hk := (Kept.of (S := [xb]) hB).trans hk3
  obtain ⟨x1, x2⟩ := h3.res (b := w.heap.size) (ms := #[m0, m1, m2]) (Nat.le_refl _) H.out.at_.raw hx hk (h3.no.ne r3)
  exact ⟨m0, m1, m2, rfl, x1, x2⟩

set_option maxHeartbeats 2000000 in
theorem refEnd_err {xb : Nat} {v n0 n1 n2 : Value} {bs : List UInt8} {pl : Nat} {w : World} (h : XsAt xb v bs pl none n0 n1 n2 w) (hq : (pl : Int) < (bs.length : Int)) :
    Calls Tryz.prog 39 #[.pointer (some ⟨xb, 0, none⟩)] w fun e w' => ∃ m0 m1 m2, e = .returned (.agg #[m0, m1, m2]) ∧ XsAt xb v bs pl (some (⟨#[69, 110, 100]⟩, pl, 5)) m0 m1 m2 w' ∧ Kept [xb] w w' := by
  obtain ⟨rfl, rfl, rfl⟩ := h.no
  have hx := h.at_.row.lt
  have hle := h.at_.le
  have hlim := h.at_.lim
  obtain ⟨a1, c1, rfl⟩ := h.at_.form
  have r0 := RowAt.new w zNo 37
  have hB0 := below_one w (.cells zNo 37)
  have H := hid_of' h
  have H1 := hid_of' (h.later hB0)
  have c2 : (w.alloc (.cells zNo 37)).cell? ⟨xb, 2, none⟩ = some (.int .i64 0) := by rw [H1.out.at_.row.cell]; rfl
  have e0 : ∀ s : Wld (w.alloc (.cells zNo 37)), (wOf s).cell? ⟨xb, 0, none⟩ = some (.slice a1 bs.length c1) := fun s => H1.out.at_.row.cls 0 _ rfl s
  have e1 : ∀ s : Wld (w.alloc (.cells zNo 37)), (wOf s).cell? ⟨xb, 1, none⟩ = some (.int .i64 (pl : Int)) := fun s => H1.out.at_.row.cls 1 _ rfl s
  have hB : Below w.heap.size w (w.alloc (.cells zNo 37)) := hB0
  clear h hB0
  have hN : ∀ x, Below w.heap.size w x → XsAt xb (.slice a1 bs.length c1) bs pl none (.int .i64 0) (.slice none 0 0) (.slice none 0 0) x := fun x hb => H.out.later hb
  go_enter Tryz.func39, Tryz.ntmps39
  go_upto_region 3 with fail
  refine wp_region_cls (by kernel_rfl) (by kernel_rfl) ?_
  repeat (first | go_big_quiet_skip | (go_big_quiet_want; first | (refine quiet_load_ck _ rfl rfl (cls_ck r0) ?_; simp only [Act.put, List.setIfInBounds_toArray, List.set_cons_succ, List.set_cons_zero]; go_big_quiet_on) | (go_big_quiet_op; first | go_big_quiet_on | go_big_quiet_call ((fail)))))
  refine wpQuiet_nil ?_
  rintro w1 ⟨s1, e1⟩
  have hb1 := wOf_below s1
  rw [← e1] at hb1
  clear e1 s1
  replace r0 := r0.later hb1
  replace hB := bgo hB hb1
  clear hb1
  have HN := hid_of' (show Calls Tryz.prog 60 #[.pointer (some ⟨xb, 0, none⟩), .string ⟨#[69, 110, 100]⟩, .int .i64 6] w1 _ from refno_any (hN w1 hB) ⟨#[69, 110, 100]⟩ 5)
  go_wp2_with (first | (go_at_call 60; refine HN.out.mono ?_; rintro e w3 ⟨m0, m1, m2, rfl, h3, hk3⟩; have r3 := r0.kept hk3 (by simp; omega); have h9 := NoSt.one h3.no) | (refine wpL_stNo rfl _ _ rfl rfl rfl h9 r3 ?_))
  refine bodyPost_ret (results_no1 (fn := Tryz.f39) (u := 2) rfl rfl (setRow_heap _ _ _ _ _ _ r3)) rfl ?_
  have hk := (Kept.of (S := [xb]) hB).trans hk3
  obtain ⟨x1, x2⟩ := h3.res (b := w.heap.size) (ms := #[m0, m1, m2]) (Nat.le_refl _) H.out.at_.raw hx hk (h3.no.ne r3)
  exact ⟨m0, m1, m2, rfl, x1, x2⟩

set_option maxHeartbeats 2000000 in
theorem refEnd_broken {xb : Nat} {v n0 n1 n2 : Value} {bs : List UInt8} {pl p c : Nat} {ca : ByteArray} {w : World} (h : XsAt xb v bs pl (some (ca, p, c)) n0 n1 n2 w) :
    Calls Tryz.prog 39 #[.pointer (some ⟨xb, 0, none⟩)] w fun e w' => e = .returned (.agg #[n0, n1, n2]) ∧ XsAt xb v bs pl (some (ca, p, c)) n0 n1 n2 w' ∧ Kept [xb] w w' := by
  have r0 := RowAt.new w zNo 37
  have hB := below_one w (.cells zNo 37)
  have H := hid_of' h
  have H1 := hid_of' (h.later hB)
  have hni := XsAt.noIn H1.out
  have h9 := NoSt.one h.no
  have hc : (((c : Int) + 1) == 0) = false := by rw [beq_eq_false_iff_ne]; omega
  have c2 : (w.alloc (.cells zNo 37)).cell? ⟨xb, 2, none⟩ = some (.int .i64 ((c : Int) + 1)) := by
    rw [H1.out.at_.row.cell]
    obtain ⟨g, g', e0, _⟩ := h.no
    rw [e0]; rfl
  clear h
  go_enter Tryz.func39, Tryz.ntmps39
  go_wp2_with (first | (refine wpL_ldNo rfl _ rfl rfl hni ?_) | (refine wpL_stNo rfl _ _ rfl rfl rfl h9 r0 ?_))
  refine bodyPost_ret (results_no1 (fn := Tryz.f39) (u := 2) rfl rfl (setRow_heap _ _ _ _ _ _ r0)) rfl ?_
  have hf : Below w.heap.size w ((w.alloc (.cells zNo 37)).setRow w.heap.size #[n0, n1, n2]) := below_row hB (Nat.le_refl _) _
  exact ⟨rfl, H.out.later hf, .of hf⟩

set_option maxHeartbeats 2000000 in
theorem refEnd_ok {xb : Nat} {v n0 n1 n2 : Value} {bs : List UInt8} {pl : Nat} {w : World} (h : XsAt xb v bs pl none n0 n1 n2 w) (hq : ¬ (pl : Int) < (bs.length : Int)) :
    Calls Tryz.prog 39 #[.pointer (some ⟨xb, 0, none⟩)] w fun e w' => e = .returned (.agg zNo) ∧ XsAt xb v bs pl none n0 n1 n2 w' ∧ Kept [xb] w w' := by
  obtain ⟨rfl, rfl, rfl⟩ := h.no
  have hx := h.at_.row.lt
  have hle := h.at_.le
  have hlim := h.at_.lim
  obtain ⟨a1, c1, rfl⟩ := h.at_.form
  have r0 := RowAt.new w zNo 37
  have hB0 := below_one w (.cells zNo 37)
  have H := hid_of' h
  have H1 := hid_of' (h.later hB0)
  have c2 : (w.alloc (.cells zNo 37)).cell? ⟨xb, 2, none⟩ = some (.int .i64 0) := by rw [H1.out.at_.row.cell]; rfl
  have e0 : ∀ s : Wld (w.alloc (.cells zNo 37)), (wOf s).cell? ⟨xb, 0, none⟩ = some (.slice a1 bs.length c1) := fun s => H1.out.at_.row.cls 0 _ rfl s
  have e1 : ∀ s : Wld (w.alloc (.cells zNo 37)), (wOf s).cell? ⟨xb, 1, none⟩ = some (.int .i64 (pl : Int)) := fun s => H1.out.at_.row.cls 1 _ rfl s
  have hB : Below w.heap.size w (w.alloc (.cells zNo 37)) := hB0
  clear h hB0
  go_enter Tryz.func39, Tryz.ntmps39
  go_upto_region 3 with fail
  refine wp_region_cls (by kernel_rfl) (by kernel_rfl) ?_
  repeat (first | go_big_quiet_skip | (go_big_quiet_want; first | (refine quiet_load_ck _ rfl rfl (cls_ck r0) ?_; simp only [Act.put, List.setIfInBounds_toArray, List.set_cons_succ, List.set_cons_zero]; go_big_quiet_on) | (go_big_quiet_op; first | go_big_quiet_on | go_big_quiet_call ((fail)))))
  refine wpQuiet_nil ?_
  rintro w1 ⟨s1, e1⟩
  have hb1 := wOf_below s1
  rw [← e1] at hb1
  clear e1 s1
  replace r0 := r0.later hb1
  replace hB := bgo hB hb1
  clear hb1
  go_wp2_with (refine wpL_stNo rfl _ _ rfl rfl rfl (by simp [Value.oneCell']) r0 ?_)
  refine bodyPost_ret (results_no1 (fn := Tryz.f39) (u := 2) rfl rfl (setRow_heap _ _ _ _ _ _ r0)) rfl ?_
  have hf : Below w.heap.size w (w1.setRow w.heap.size zNo) := below_row hB (Nat.le_refl _) _
  exact ⟨rfl, H.out.later hf, .of hf⟩

theorem RowAt.cellIs0 {b : Nat} {cs : Array Value} {t : TypeId} {w : World} (h : RowAt b cs t w) (k : Nat) {u : Value} (hv : cs[k]? = some u) : w.cell? ⟨b, k, none⟩ = some u := by rw [h.cell]; exact hv
set_option maxHeartbeats 2000000 in
theorem refByte_ok {xb : Nat} {v n0 n1 n2 : Value} {bs : List UInt8} {pl : Nat} {w : World} (h : XsAt xb v bs pl none n0 n1 n2 w) {b : UInt8} (hb : bs[pl]? = some b) :
    Calls Tryz.prog 35 #[.pointer (some ⟨xb, 0, none⟩)] w fun e w' => e = .returned (.tuple #[.int .u8 (b.toNat : Int), .agg zNo]) ∧ XsAt xb v bs (pl + 1) none (.int .i64 0) (.slice none 0 0) (.slice none 0 0) w' ∧ Kept [xb] w w' := by
  have hpl := (List.getElem?_eq_some_iff.1 hb).1
  obtain ⟨rfl, rfl, rfl⟩ := h.no
  have hx := h.at_.row.lt
  have hle := h.at_.le
  have hlim := h.at_.lim
  obtain ⟨a1, c1, rfl⟩ := h.at_.form
  have r0 := RowAt.new w zNo 37
  have hB0 := below_one w (.cells zNo 37)
  have H := hid_of' h
  have H1 := hid_of' (h.later hB0)
  have c2 : (w.alloc (.cells zNo 37)).cell? ⟨xb, 2, none⟩ = some (.int .i64 0) := by rw [H1.out.at_.row.cell]; rfl
  have e0 : ∀ s : Wld (w.alloc (.cells zNo 37)), (wOf s).cell? ⟨xb, 0, none⟩ = some (.slice a1 bs.length c1) := fun s => H1.out.at_.row.cls 0 _ rfl s
  have e1 : ∀ s : Wld (w.alloc (.cells zNo 37)), (wOf s).cell? ⟨xb, 1, none⟩ = some (.int .i64 (pl : Int)) := fun s => H1.out.at_.row.cls 1 _ rfl s
  have hB : Below w.heap.size w (w.alloc (.cells zNo 37)) := hB0
  clear h hB0
  have hq : ¬ (bs.length : Int) ≤ (pl : Int) := by omega
  have hlt : (pl : Int) < (bs.length : Int) := by omega
  have hkt : ((pl : Int)).toNat = pl := by omega
  obtain ⟨g, o_, rfl, hgl, hcb⟩ : ∃ g o, a1 = some ⟨g, o, none⟩ ∧ g < w.heap.size ∧ w.cell? ⟨g, o + pl, none⟩ = some (.int .u8 (b.toNat : Int)) := by
    rcases H.out.at_.raw with ⟨rfl, _⟩ | ⟨g, o, c, he, hg, hc⟩
    · simp at hb
    · simp only [Value.slice.injEq, true_and] at he
      exact ⟨g, o, he.1, hg, hc _ _ hb⟩
  have hgx : g ≠ xb := H.out.ap g o_ _ c1 rfl (by omega)
  clear hb
  go_enter Tryz.func35, Tryz.ntmps35
  go_upto_region 3 with fail
  refine wp_region_cls (by kernel_rfl) (by kernel_rfl) ?_
  repeat (first | go_big_quiet_skip | (go_big_quiet_want; first | (refine quiet_load_ck _ rfl rfl (cls_ck r0) ?_; simp only [Act.put, List.setIfInBounds_toArray, List.set_cons_succ, List.set_cons_zero]; go_big_quiet_on) | (go_big_quiet_op; first | go_big_quiet_on | go_big_quiet_call ((fail)))))
  refine wpQuiet_nil ?_
  rintro w1 ⟨s1, e1⟩
  have hb1 := wOf_below s1
  rw [← e1] at hb1
  clear e1 s1
  replace r0 := r0.later hb1
  replace hB := bgo hB hb1
  clear hb1
  clear e0 e1 c2
  have h2 := H.out.later hB
  have c1' : w1.cell? ⟨xb, 1, none⟩ = some (.int .i64 (pl : Int)) := by rw [h2.at_.row.cell]; rfl
  have f1 := frozenW_of h2.at_.row 1
  have hw : wrap64 ((pl : Int) + 1) = (pl : Int) + 1 := by unfold wrap64; omega
  obtain ⟨h3, k3⟩ := h2.goOn (q := pl + 1) (by omega)
  have ecs : (((pl + 1 : Nat) : Nat) : Int) = (pl : Int) + 1 := by push_cast; rfl
  rw [ecs] at h3 k3
  have hk := (Kept.of (S := [xb]) hB).trans k3
  have r3 := r0.kept k3 (by simp; omega)
  have hrow := h3.at_.row
  rw [ecs] at hrow
  have H3 := hid_of' (And.intro hrow (And.intro h3 hk))
  go_upto_region 6 with fail
  clear h3 k3 hk hrow c1' f1 h2 r0
  generalize w1.setCell ⟨xb, 1, none⟩ (.int .i64 ((pl : Int) + 1)) = w3 at *
  have hws : IntKind.i64.wrap (pl : Int) = (pl : Int) := by rw [IntKind.wrap_i64]; omega
  have HC := hid_of' (fun (x : World) (hX : Below w3.heap.size w3 x) => (show x.cell? ⟨g, o_ + pl, none⟩ = some (.int .u8 (b.toNat : Int)) by
    have hg3 : g < w3.heap.size := Nat.lt_of_lt_of_le hgl H3.out.2.2.size
    rw [hX.cell (p := ⟨g, o_ + pl, none⟩) hg3, World.cell?_of_block (w := w) (H3.out.2.2.block g hgl (by simpa using hgx))]
    exact hcb))
  refine wp_region_tail 13 (by kernel_rfl) (fun _ => none) (by kernel_rfl) (by kernel_rfl) (by decide) (fun i v x => match i with
    | 0 => v = .pointer (some ⟨xb, 0, none⟩)
    | 1 => v = .pointer (some ⟨xb, 0, none⟩)
    | 2 => v = .pointer (some ⟨xb, 0, none⟩)
    | 3 => v = .slice (some ⟨g, o_, none⟩) bs.length c1
    | 4 => v = .pointer (some ⟨xb, 0, none⟩)
    | 5 => v = .pointer (some ⟨xb, 0, none⟩)
    | 6 => v = .pointer (some ⟨xb, 1, none⟩)
    | 7 => v = .int .i64 ((pl : Int) + 1)
    | 8 => v = .int .i64 (pl : Int)
    | 9 => v = .pointer (some ⟨g, o_ + pl, none⟩)
    | 10 => v = .int .u8 (b.toNat : Int)
    | 11 => v = .agg zNo
    | 12 => v = .int .u8 (b.toNat : Int)
    | _ => True) (fun _ => false) (fun _ _ _ _ h => by cases h) ?_ ?_ ?_
  · intro i v x x' hR hb
    match i, hR with
    | 0, h => exact h
    | 1, h => exact h
    | 2, h => exact h
    | 3, h => exact h
    | 4, h => exact h
    | 5, h => exact h
    | 6, h => exact h
    | 7, h => exact h
    | 8, h => exact h
    | 9, h => exact h
    | 10, h => exact h
    | 11, h => exact h
    | 12, h => exact h
    | m + 13, h => exact h
  · intro i o hi ho q x vals hX hdep hoth
    have t0 : q.tmps[0]? = some (.pointer (some ⟨xb, 0, none⟩)) := by rw [hoth 0 (by kernel_rfl)]; rfl
    match i, hi, ho with
    | 0, _, ho =>
      simp only [List.getElem?_cons_zero, Option.some.injEq] at ho
      subst ho
      unfold Oper.wp
      simp [execOp, go_sem, t0]
      exact came _ rfl (Below.refl _ _) rfl (fun h => absurd h (by decide))
    | 1, _, ho =>
      simp only [List.getElem?_cons_succ, List.getElem?_cons_zero, Option.some.injEq] at ho
      subst ho
      obtain ⟨u0, e0⟩ := hdep ⟨0, .data⟩ (by simp) rfl _ 33 rfl rfl
      rw [show vals 0 = .pointer (some ⟨xb, 0, none⟩) from e0] at u0
      unfold Oper.wp
      simp [execOp, go_sem, u0]
      exact came _ rfl (Below.refl _ _) rfl (fun h => absurd h (by decide))
    | 2, _, ho =>
      simp only [List.getElem?_cons_succ, List.getElem?_cons_zero, Option.some.injEq] at ho
      subst ho
      obtain ⟨u1, e1⟩ := hdep ⟨1, .data⟩ (by simp) rfl _ 34 rfl rfl
      rw [show vals 1 = .pointer (some ⟨xb, 0, none⟩) from e1] at u1
      unfold Oper.wp
      simp [execOp, go_sem, u1]
      exact came _ rfl (Below.refl _ _) rfl (fun h => absurd h (by decide))
    | 3, _, ho =>
      simp only [List.getElem?_cons_succ, List.getElem?_cons_zero, Option.some.injEq] at ho
      subst ho
      obtain ⟨u2, e2⟩ := hdep ⟨2, .data⟩ (by simp) rfl _ 35 rfl rfl
      rw [show vals 2 = .pointer (some ⟨xb, 0, none⟩) from e2] at u2
      have cc : x.cell? ⟨xb, 0, none⟩ = some (.slice (some ⟨g, o_, none⟩) bs.length c1) := (H3.out.1.later hX).cellIs0 0 rfl
      unfold Oper.wp
      simp [execOp, go_sem, u2, cc]
      exact came _ rfl (Below.refl _ _) rfl (fun h => absurd h (by decide))
    | 4, _, ho =>
      simp only [List.getElem?_cons_succ, List.getElem?_cons_zero, Option.some.injEq] at ho
      subst ho
      unfold Oper.wp
      simp [execOp, go_sem, t0]
      exact came _ rfl (Below.refl _ _) rfl (fun h => absurd h (by decide))
    | 5, _, ho =>
      simp only [List.getElem?_cons_succ, List.getElem?_cons_zero, Option.some.injEq] at ho
      subst ho
      obtain ⟨u4, e4⟩ := hdep ⟨4, .data⟩ (by simp) rfl _ 37 rfl rfl
      rw [show vals 4 = .pointer (some ⟨xb, 0, none⟩) from e4] at u4
      unfold Oper.wp
      simp [execOp, go_sem, u4]
      exact came _ rfl (Below.refl _ _) rfl (fun h => absurd h (by decide))
    | 6, _, ho =>
      simp only [List.getElem?_cons_succ, List.getElem?_cons_zero, Option.some.injEq] at ho
      subst ho
      obtain ⟨u5, e5⟩ := hdep ⟨5, .data⟩ (by simp) rfl _ 38 rfl rfl
      rw [show vals 5 = .pointer (some ⟨xb, 0, none⟩) from e5] at u5
      unfold Oper.wp
      simp [execOp, go_sem, u5]
      exact came _ rfl (Below.refl _ _) rfl (fun h => absurd h (by decide))
    | 7, _, ho =>
      simp only [List.getElem?_cons_succ, List.getElem?_cons_zero, Option.some.injEq] at ho
      subst ho
      obtain ⟨u6, e6⟩ := hdep ⟨6, .data⟩ (by simp) rfl _ 39 rfl rfl
      rw [show vals 6 = .pointer (some ⟨xb, 1, none⟩) from e6] at u6
      have cc : x.cell? ⟨xb, 1, none⟩ = some (.int .i64 ((pl : Int) + 1)) := (H3.out.1.later hX).cellIs0 1 rfl
      unfold Oper.wp
      simp [execOp, go_sem, u6, cc]
      exact came _ rfl (Below.refl _ _) rfl (fun h => absurd h (by decide))
    | 8, _, ho =>
      simp only [List.getElem?_cons_succ, List.getElem?_cons_zero, Option.some.injEq] at ho
      subst ho
      obtain ⟨u7, e7⟩ := hdep ⟨7, .data⟩ (by simp) rfl _ 40 rfl rfl
      rw [show vals 7 = .int .i64 ((pl : Int) + 1) from e7] at u7
      unfold Oper.wp
      simp [execOp, go_sem, u7, hws]
      exact came _ rfl (Below.refl _ _) rfl (fun h => absurd h (by decide))
    | 9, _, ho =>
      simp only [List.getElem?_cons_succ, List.getElem?_cons_zero, Option.some.injEq] at ho
      subst ho
      obtain ⟨u3, e3⟩ := hdep ⟨3, .data⟩ (by simp) rfl _ 36 rfl rfl
      rw [show vals 3 = .slice (some ⟨g, o_, none⟩) bs.length c1 from e3] at u3
      obtain ⟨u8, e8⟩ := hdep ⟨8, .data⟩ (by simp) rfl _ 41 rfl rfl
      rw [show vals 8 = .int .i64 (pl : Int) from e8] at u8
      unfold Oper.wp
      simp [execOp, go_sem, u3, u8, hlt, hkt]
      exact came _ rfl (Below.refl _ _) rfl (fun h => absurd h (by decide))
    | 10, _, ho =>
      simp only [List.getElem?_cons_succ, List.getElem?_cons_zero, Option.some.injEq] at ho
      subst ho
      obtain ⟨u9, e9⟩ := hdep ⟨9, .data⟩ (by simp) rfl _ 42 rfl rfl
      rw [show vals 9 = .pointer (some ⟨g, o_ + pl, none⟩) from e9] at u9
      have cc : x.cell? ⟨g, o_ + pl, none⟩ = some (.int .u8 (b.toNat : Int)) := HC.out x hX
      unfold Oper.wp
      simp [execOp, go_sem, u9, cc]
      exact came _ rfl (Below.refl _ _) rfl (fun h => absurd h (by decide))
    | 11, _, ho =>
      simp only [List.getElem?_cons_succ, List.getElem?_cons_zero, Option.some.injEq] at ho
      subst ho
      unfold Oper.wp
      simp [execOp, go_sem, ]
      exact came _ rfl (Below.refl _ _) rfl (fun h => absurd h (by decide))
    | 12, _, ho =>
      simp only [List.getElem?_cons_succ, List.getElem?_cons_zero, Option.some.injEq] at ho
      subst ho
      obtain ⟨u10, e10⟩ := hdep ⟨10, .data⟩ (by simp) rfl _ 43 rfl rfl
      rw [show vals 10 = .int .u8 (b.toNat : Int) from e10] at u10
      unfold Oper.wp
      simp [execOp, go_sem, u10]
      exact came _ rfl (Below.refl _ _) rfl (fun h => absurd h (by decide))
    | m + 13, hi, _ => exact absurd hi (by omega)
  · intro vals x hX hR _
    have v11 : vals 11 = .agg zNo := hR 11 (by decide)
    have v12 : vals 12 = .int .u8 (b.toNat : Int) := hR 12 (by decide)
    simp only [List.drop, List.take, putAll, List.setIfInBounds_toArray, List.set_cons_succ, List.set_cons_zero, v11, v12]
    clear hR v11 v12
    have rx := r3.later hX
    have h4 := H3.out.2.1.later hX
    have hk4 := H3.out.2.2.go (S' := []) (.of hX) (by simp)
    go_wp2_with (refine wpL_stNo rfl _ _ rfl rfl rfl (by simp [Value.oneCell']) rx ?_)
    refine bodyPost_ret (results_no2 (fn := Tryz.f35) (p := 2) (u := 3) rfl rfl (setRow_heap _ _ _ _ _ _ rx)) rfl ?_
    obtain ⟨x1, x2⟩ := h4.res (b := w.heap.size) (ms := zNo) (Nat.le_refl _) H.out.at_.raw hx hk4 (fun g h => by simp at h)
    exact ⟨rfl, x1, x2⟩
end Go.Proofs.YtpkblfhkblllhaaGreatDoor
