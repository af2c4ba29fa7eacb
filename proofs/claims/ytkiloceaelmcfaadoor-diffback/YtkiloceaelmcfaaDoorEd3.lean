
/-
  barrowlaw15.DiffBack holds of any texts and edits.
-/
import Derived.Test.YtkiloceaelmcfaaDoorEd1
import Derived.Test.YtkiloceaelmcfaaDoorEd2
import Derived.Test.YtkiloceaelmcfaaDoorDl2
namespace Go.Proofs.YtkiloceaelmcfaaDoor
open Go.RowKit Go.Extern.Stop Go.Stop Go.Extern
set_option maxRecDepth 100000

theorem apL_small : ∀ (l : List Edt) (k : Nat) (xs : List Int), ckL k xs l = none → (∀ e ∈ l, e.ins.size ≤ 40) → (apL xs l).length ≤ xs.length + 40 * l.length ∧ ∀ e ∈ ivL xs l, e.ins.size ≤ 4 * (xs.length + 40 * l.length)
  | [], _, _, _, _ => ⟨by simp [apL], fun e he => by simp [ivL] at he⟩
  | e :: l, k, xs, h, hs => by
    obtain ⟨h1, h2⟩ := ckL_cons h
    have hl := apE_le h1
    have he := hs e (List.mem_cons_self ..)
    obtain ⟨i1, i2⟩ := apL_small l (k + 1) (apE xs e) h2 (fun x hx => hs x (List.mem_cons_of_mem _ hx))
    rw [apL, ivL, List.length_cons]
    refine ⟨by omega, fun x hx => ?_⟩
    rcases List.mem_append.1 hx with hx | hx
    · have := i2 x hx
      omega
    · rw [List.mem_singleton] at hx
      subst hx
      have := tx_size ((xs.take (e.at'.toNat + e.er.toNat)).drop e.at'.toNat)
      have hlen : ((xs.take (e.at'.toNat + e.er.toNat)).drop e.at'.toNat).length ≤ xs.length := by rw [List.length_drop, List.length_take]; omega
      show (tx ((xs.take (e.at'.toNat + e.er.toNat)).drop e.at'.toNat)).size ≤ _
      omega
set_option maxHeartbeats 8000000 in
theorem back_no {ad : Nat → Addr} {w : World} (E : Env3 ad w) (a b c : ByteArray) {lv : Value} {l : List Edt} (hs : SlT w lv l) (hz : ∀ e ∈ l, e.ins.size ≤ maxLen) (ha : a.size ≤ 9223372036854775807) {i : Int} {code : Nat} (HP : pfW (clB a) (cutL l) = some (i, code)) :
    Calls Tryd.prog 5 #[.agg #[.string a, .string b, .string c, lv]] w fun e w' => e = .returned (.bool true) ∧ Below w.heap.size w w' := by
  have HCa := hid_of' (fun x => clip_b a ha x)
  have HCt := hid_of' (fun (x : World) (hx : Below w.heap.size w x) => (cut_ok (hs.later hx) hz).mono fun _ _ ⟨u, q1, q2, _, q4⟩ => (⟨u, q1, q2, q4⟩ : ∃ u, _ = Ending.returned u ∧ RwE u (cutL l) _ ∧ Below x.heap.size x _))
  have sa := clB_size a
  have sl := cutL_len l
  have ss := cutL_small l
  generalize clB a = a1 at HCa sa HP
  generalize cutL l = l1 at HCt sl ss HP
  obtain ⟨al, nl, cl, rfl⟩ : ∃ al nl cl, lv = .slice al nl cl := by obtain ⟨x, y, h⟩ := hs.form; exact ⟨_, _, _, h⟩
  have hsm : Sml l1 := ⟨by omega, fun e he => by have := ss e he; omega⟩
  have sa6 : a1.size ≤ 1000000 := by omega
  have HE := hid_of' (And.intro E (And.intro hsm (And.intro sa6 HP)))
  clear E sa sl ss ha hs hz hsm HP
  go_enter Tryd.func5, Tryd.ntmps5
  go_upto_region 1 with fail
  have r0 := RowAt.new w #[.string a, .string b, .string c, .slice al nl cl] 24
  have b0 := below_one w (.cells #[.string a, .string b, .string c, .slice al nl cl] 24)
  obtain ⟨X, hXe⟩ : ∃ X, X = w.heap.size := ⟨_, rfl⟩
  rw [← hXe] at r0 ⊢
  generalize w.alloc (.cells #[.string a, .string b, .string c, .slice al nl cl] 24) = W0 at r0 b0 ⊢
  refine wp_region_tail 6 (by kernel_rfl) (fun _ => none) (by kernel_rfl) (by kernel_rfl) (by decide) (fun i v x => match i with
    | 0 => v = .pointer (some ⟨X, 0, none⟩)
    | 1 => v = .string a
    | 2 => v = .string a1
    | 3 => v = .pointer (some ⟨X, 3, none⟩)
    | 4 => v = .slice al nl cl
    | 5 => RwE v l1 x
    | _ => True) (fun _ => false) (fun _ _ _ _ h => by cases h) ?_ ?_ ?_
  · intro i v x x' hR hb
    match i, hR with
    | 0, h => exact h
    | 1, h => exact h
    | 2, h => exact h
    | 3, h => exact h
    | 4, h => exact h
    | 5, h => exact h.later hb
    | m + 6, h => exact h
  · intro i o hi ho q x vals hX hdep hoth
    have t1 : q.tmps[1]? = some (.pointer (some ⟨X, 0, none⟩)) := by rw [hoth 1 (by kernel_rfl)]; rfl
    match i, hi, ho with
    | 0, _, ho =>
      simp only [List.getElem?_cons_zero, Option.some.injEq] at ho
      subst ho
      unfold Oper.wp
      simp [execOp, go_sem, t1]
      exact came _ rfl (Below.refl _ _) rfl (fun h => absurd h (by decide))
    | 1, _, ho =>
      simp only [List.getElem?_cons_succ, List.getElem?_cons_zero, Option.some.injEq] at ho
      subst ho
      obtain ⟨u0, e0⟩ := hdep ⟨0, .data⟩ (by simp) rfl _ 11 rfl rfl
      rw [show vals 0 = .pointer (some ⟨X, 0, none⟩) from e0] at u0
      have cc : x.cell? ⟨X, 0, none⟩ = some (.string a) := (r0.later hX).is rfl
      unfold Oper.wp
      simp [execOp, go_sem, u0, cc]
      exact came _ rfl (Below.refl _ _) rfl (fun h => absurd h (by decide))
    | 2, _, ho =>
      simp only [List.getElem?_cons_succ, List.getElem?_cons_zero, Option.some.injEq] at ho
      subst ho
      obtain ⟨u1, e1⟩ := hdep ⟨1, .data⟩ (by simp) rfl _ 12 rfl rfl
      rw [show vals 1 = .string a from e1] at u1
      unfold Oper.wp
      simp [go_sem, u1]
      refine (HCa.out x).mono ?_
      rintro r x1 ⟨rfl, hb1⟩
      exact came _ rfl hb1 rfl (fun h => absurd h (by decide))
    | 3, _, ho =>
      simp only [List.getElem?_cons_succ, List.getElem?_cons_zero, Option.some.injEq] at ho
      subst ho
      unfold Oper.wp
      simp [execOp, go_sem, t1]
      exact came _ rfl (Below.refl _ _) rfl (fun h => absurd h (by decide))
    | 4, _, ho =>
      simp only [List.getElem?_cons_succ, List.getElem?_cons_zero, Option.some.injEq] at ho
      subst ho
      obtain ⟨u3, e3⟩ := hdep ⟨3, .data⟩ (by simp) rfl _ 14 rfl rfl
      rw [show vals 3 = .pointer (some ⟨X, 3, none⟩) from e3] at u3
      have cc : x.cell? ⟨X, 3, none⟩ = some (.slice al nl cl) := (r0.later hX).is rfl
      unfold Oper.wp
      simp [execOp, go_sem, u3, cc]
      exact came _ rfl (Below.refl _ _) rfl (fun h => absurd h (by decide))
    | 5, _, ho =>
      simp only [List.getElem?_cons_succ, List.getElem?_cons_zero, Option.some.injEq] at ho
      subst ho
      obtain ⟨u4, e4⟩ := hdep ⟨4, .data⟩ (by simp) rfl _ 15 rfl rfl
      rw [show vals 4 = .slice al nl cl from e4] at u4
      unfold Oper.wp
      simp [go_sem, u4]
      refine (HCt.out x (bgo b0 hX)).mono ?_
      rintro r x1 ⟨u9, rfl, hu9, hb1⟩
      exact came _ rfl hb1 hu9 (fun h => absurd h (by decide))
    | m + 6, hi, _ => exact absurd hi (by omega)
  · intro vals W1 hX hR _
    have f0 : vals 0 = .pointer (some ⟨X, 0, none⟩) := hR 0 (by decide)
    have f1 : vals 1 = .string a := hR 1 (by decide)
    have f2 : vals 2 = .string a1 := hR 2 (by decide)
    have f3 : vals 3 = .pointer (some ⟨X, 3, none⟩) := hR 3 (by decide)
    have f4 : vals 4 = .slice al nl cl := hR 4 (by decide)
    have h5 : RwE (vals 5) l1 W1 := hR 5 (by decide)
    obtain ⟨a5, c5, f5, _⟩ := Rw.form h5
    obtain ⟨n5, hn5⟩ : ∃ n5, n5 = l1.length := ⟨_, rfl⟩
    rw [← hn5] at f5
    rw [f5] at h5
    simp only [List.drop, List.take, putAll, List.setIfInBounds_toArray, List.set_cons_succ, List.set_cons_zero, f0, f1, f2, f3, f4, f5]
    clear f0 f1 f2 f3 f4 f5 hR
    have H5 := hid_of' (And.intro h5 (And.intro (bgo b0 hX) hn5))
    clear h5 hX hn5 r0 b0 hXe
    have HAp := hid_of' (apply_no (HE.out.1.later H5.out.2.1) a1 H5.out.1 HE.out.2.2.1 HE.out.2.1 HE.out.2.2.2)
    have HIv := hid_of' (fun (x : World) (hx : Below W1.heap.size W1 x) => invert_no (HE.out.1.later (bgo H5.out.2.1 hx)) a1 (H5.out.1.later hx) HE.out.2.2.1 HE.out.2.1 HE.out.2.2.2)
    go_upto_region 3 with (go_at_call 8; (with_reducible refine HAp.out.mono ?_); rintro e w2 ⟨z1, rfl, ⟨g1, rfl, _, _, _⟩, hb2⟩)
    go_upto_region 5 with (go_at_call 12; (with_reducible refine (HIv.out _ hb2).mono ?_); rintro e w3 ⟨z2, rfl, ⟨g2, rfl, _, _, _⟩, hb3⟩)
    have H3 := hid_of' (bgo (bgo H5.out.2.1 hb2) hb3)
    have HWk := hid_of' (wakes_is (HE.out.1.later H3.out).env)
    clear hb2 hb3
    go_wp2_with (go_at_call 14; (with_reducible refine HWk.out.mono ?_); rintro e w4 ⟨rfl, hb4⟩)
    go_ret
    exact ⟨rfl, bgo H3.out hb4⟩
set_option maxHeartbeats 8000000 in
theorem back_yes {ad : Nat → Addr} {w : World} (E : Env3 ad w) (a b c : ByteArray) {lv : Value} {l : List Edt} (hs : SlT w lv l) (hz : ∀ e ∈ l, e.ins.size ≤ maxLen) (ha : a.size ≤ 9223372036854775807) (HP : pfW (clB a) (cutL l) = none) :
    Calls Tryd.prog 5 #[.agg #[.string a, .string b, .string c, lv]] w fun e w' => e = .returned (.bool true) ∧ Below w.heap.size w w' := by
  have HCa := hid_of' (fun x => clip_b a ha x)
  have HCt := hid_of' (fun (x : World) (hx : Below w.heap.size w x) => (cut_ok (hs.later hx) hz).mono fun _ _ ⟨u, q1, q2, _, q4⟩ => (⟨u, q1, q2, q4⟩ : ∃ u, _ = Ending.returned u ∧ RwE u (cutL l) _ ∧ Below x.heap.size x _))
  have sa := clB_size a
  have sl := cutL_len l
  have ss := cutL_small l
  generalize clB a = a1 at HCa sa HP
  generalize cutL l = l1 at HCt sl ss HP
  obtain ⟨al, nl, cl, rfl⟩ : ∃ al nl cl, lv = .slice al nl cl := by obtain ⟨x, y, h⟩ := hs.form; exact ⟨_, _, _, h⟩
  have hsm : Sml l1 := ⟨by omega, fun e he => by have := ss e he; omega⟩
  have sa6 : a1.size ≤ 1000000 := by omega
  have hPv := HP
  obtain ⟨hva, hck⟩ := pfW_ok hPv
  obtain ⟨i1, i2⟩ := ivL_ok l1 0 _ (rn_ru _ _ (Nat.le_refl _) hva) hck
  obtain ⟨j1, j2⟩ := apL_small l1 0 _ hck ss
  have hru := apL_ru l1 0 _ (rn_ru _ _ (Nat.le_refl _) hva) hck
  have hil := ivL_len l1 (rn a1.data.toList)
  have hrl := Nat.le_trans (rn_len a1.data.toList) (show a1.data.toList.length ≤ 120 by rw [Array.length_toList]; exact sa)
  have ht9 := tx_size (apL (rn a1.data.toList) l1)
  have hsm2 : Sml (ivL (rn a1.data.toList) l1) := ⟨by omega, fun e he => by have := j2 e he; omega⟩
  have hp2 : pfW (tx (apL (rn a1.data.toList) l1)) (ivL (rn a1.data.toList) l1) = none := by
    unfold pfW
    rw [if_neg (by rw [valid_tx hru]; decide), rn_tx hru, i1]
  have he2 : tx (apL (rn (tx (apL (rn a1.data.toList) l1)).data.toList) (ivL (rn a1.data.toList) l1)) = a1 := by rw [rn_tx hru, i2, tx_rn hva]
  have hs9 : (tx (apL (rn a1.data.toList) l1)).size ≤ 1000000 := by omega
  have HA2 := hid_of' (fun (x : World) (hx : Env3 ad x) (bv : Value) (hb : RwE bv (ivL (rn a1.data.toList) l1) x) => apply_ok hx (tx (apL (rn a1.data.toList) l1)) hb hs9 hsm2 hp2)
  rw [he2] at HA2
  have HE := hid_of' (And.intro E (And.intro hsm (And.intro sa6 (And.intro HP hil))))
  clear E sa sl ss ha hs hz hsm HP hPv hva hck i1 i2 j1 j2 hru hil hrl ht9 hsm2 hp2 he2 hs9
  go_enter Tryd.func5, Tryd.ntmps5
  go_upto_region 1 with fail
  have r0 := RowAt.new w #[.string a, .string b, .string c, .slice al nl cl] 24
  have b0 := below_one w (.cells #[.string a, .string b, .string c, .slice al nl cl] 24)
  obtain ⟨X, hXe⟩ : ∃ X, X = w.heap.size := ⟨_, rfl⟩
  rw [← hXe] at r0 ⊢
  generalize w.alloc (.cells #[.string a, .string b, .string c, .slice al nl cl] 24) = W0 at r0 b0 ⊢
  refine wp_region_tail 6 (by kernel_rfl) (fun _ => none) (by kernel_rfl) (by kernel_rfl) (by decide) (fun i v x => match i with
    | 0 => v = .pointer (some ⟨X, 0, none⟩)
    | 1 => v = .string a
    | 2 => v = .string a1
    | 3 => v = .pointer (some ⟨X, 3, none⟩)
    | 4 => v = .slice al nl cl
    | 5 => RwE v l1 x
    | _ => True) (fun _ => false) (fun _ _ _ _ h => by cases h) ?_ ?_ ?_
  · intro i v x x' hR hb
    match i, hR with
    | 0, h => exact h
    | 1, h => exact h
    | 2, h => exact h
    | 3, h => exact h
    | 4, h => exact h
    | 5, h => exact h.later hb
    | m + 6, h => exact h
  · intro i o hi ho q x vals hX hdep hoth
    have t1 : q.tmps[1]? = some (.pointer (some ⟨X, 0, none⟩)) := by rw [hoth 1 (by kernel_rfl)]; rfl
    match i, hi, ho with
    | 0, _, ho =>
      simp only [List.getElem?_cons_zero, Option.some.injEq] at ho
      subst ho
      unfold Oper.wp
      simp [execOp, go_sem, t1]
      exact came _ rfl (Below.refl _ _) rfl (fun h => absurd h (by decide))
    | 1, _, ho =>
      simp only [List.getElem?_cons_succ, List.getElem?_cons_zero, Option.some.injEq] at ho
      subst ho
      obtain ⟨u0, e0⟩ := hdep ⟨0, .data⟩ (by simp) rfl _ 11 rfl rfl
      rw [show vals 0 = .pointer (some ⟨X, 0, none⟩) from e0] at u0
      have cc : x.cell? ⟨X, 0, none⟩ = some (.string a) := (r0.later hX).is rfl
      unfold Oper.wp
      simp [execOp, go_sem, u0, cc]
      exact came _ rfl (Below.refl _ _) rfl (fun h => absurd h (by decide))
    | 2, _, ho =>
      simp only [List.getElem?_cons_succ, List.getElem?_cons_zero, Option.some.injEq] at ho
      subst ho
      obtain ⟨u1, e1⟩ := hdep ⟨1, .data⟩ (by simp) rfl _ 12 rfl rfl
      rw [show vals 1 = .string a from e1] at u1
      unfold Oper.wp
      simp [go_sem, u1]
      refine (HCa.out x).mono ?_
      rintro r x1 ⟨rfl, hb1⟩
      exact came _ rfl hb1 rfl (fun h => absurd h (by decide))
    | 3, _, ho =>
      simp only [List.getElem?_cons_succ, List.getElem?_cons_zero, Option.some.injEq] at ho
      subst ho
      unfold Oper.wp
      simp [execOp, go_sem, t1]
      exact came _ rfl (Below.refl _ _) rfl (fun h => absurd h (by decide))
    | 4, _, ho =>
      simp only [List.getElem?_cons_succ, List.getElem?_cons_zero, Option.some.injEq] at ho
      subst ho
      obtain ⟨u3, e3⟩ := hdep ⟨3, .data⟩ (by simp) rfl _ 14 rfl rfl
      rw [show vals 3 = .pointer (some ⟨X, 3, none⟩) from e3] at u3
      have cc : x.cell? ⟨X, 3, none⟩ = some (.slice al nl cl) := (r0.later hX).is rfl
      unfold Oper.wp
      simp [execOp, go_sem, u3, cc]
      exact came _ rfl (Below.refl _ _) rfl (fun h => absurd h (by decide))
    | 5, _, ho =>
      simp only [List.getElem?_cons_succ, List.getElem?_cons_zero, Option.some.injEq] at ho
      subst ho
      obtain ⟨u4, e4⟩ := hdep ⟨4, .data⟩ (by simp) rfl _ 15 rfl rfl
      rw [show vals 4 = .slice al nl cl from e4] at u4
      unfold Oper.wp
      simp [go_sem, u4]
      refine (HCt.out x (bgo b0 hX)).mono ?_
      rintro r x1 ⟨u9, rfl, hu9, hb1⟩
      exact came _ rfl hb1 hu9 (fun h => absurd h (by decide))
    | m + 6, hi, _ => exact absurd hi (by omega)
  · intro vals W1 hX hR _
    have f0 : vals 0 = .pointer (some ⟨X, 0, none⟩) := hR 0 (by decide)
    have f1 : vals 1 = .string a := hR 1 (by decide)
    have f2 : vals 2 = .string a1 := hR 2 (by decide)
    have f3 : vals 3 = .pointer (some ⟨X, 3, none⟩) := hR 3 (by decide)
    have f4 : vals 4 = .slice al nl cl := hR 4 (by decide)
    have h5 : RwE (vals 5) l1 W1 := hR 5 (by decide)
    obtain ⟨a5, c5, f5, _⟩ := Rw.form h5
    obtain ⟨n5, hn5⟩ : ∃ n5, n5 = l1.length := ⟨_, rfl⟩
    rw [← hn5] at f5
    rw [f5] at h5
    simp only [List.drop, List.take, putAll, List.setIfInBounds_toArray, List.set_cons_succ, List.set_cons_zero, f0, f1, f2, f3, f4, f5]
    clear f0 f1 f2 f3 f4 f5 hR
    have H5 := hid_of' (And.intro h5 (And.intro (bgo b0 hX) hn5))
    clear h5 hX hn5 r0 b0 hXe
    have HAp := hid_of' (apply_ok (HE.out.1.later H5.out.2.1) a1 H5.out.1 HE.out.2.2.1 HE.out.2.1 HE.out.2.2.2.1)
    have HIv := hid_of' (fun (x : World) (hx : Below W1.heap.size W1 x) => invert_ok (HE.out.1.later (bgo H5.out.2.1 hx)) a1 (H5.out.1.later hx) HE.out.2.2.1 HE.out.2.1 HE.out.2.2.2.1)
    generalize tx (apL (rn a1.data.toList) l1) = s1 at HAp HA2
    have HIL := hid_of' (HE.out.2.2.2.2.trans H5.out.2.2.symm)
    generalize ivL (rn a1.data.toList) l1 = bk at HIv HA2 HIL
    go_upto_region 3 with (go_at_call 8; (with_reducible refine HAp.out.mono ?_); rintro e w2 ⟨rfl, hb2⟩)
    go_upto_region 4 with (go_at_call 12; (with_reducible refine (HIv.out _ hb2).mono ?_); rintro e w3 ⟨z2, rfl, hbk, hb3⟩)
    obtain ⟨a6, c6, f6, _⟩ := Rw.form hbk
    rw [HIL.out] at f6
    subst f6
    have H3 := hid_of' (bgo (bgo H5.out.2.1 hb2) hb3)
    have HA3 := hid_of' (HA2.out w3 (HE.out.1.later H3.out) _ hbk)
    clear hb2 hb3 hbk
    go_upto_region 7 with (go_at_call 8; (with_reducible refine HA3.out.mono ?_); rintro e w4 ⟨rfl, hb4⟩)
    have H4 := hid_of' (bgo H3.out hb4)
    have HWk := hid_of' (wakes_is (HE.out.1.later H4.out).env)
    clear hb4
    go_wp2_with (go_at_call 14; (with_reducible refine HWk.out.mono ?_); rintro e w5 ⟨rfl, hb5⟩)
    go_ret
    exact ⟨rfl, bgo H4.out hb5⟩
theorem diffBack_all {ad : Nat → Addr} {w : World} (E : Env3 ad w) (a b c : ByteArray) {lv : Value} {l : List Edt} (hs : SlT w lv l) (hz : ∀ e ∈ l, e.ins.size ≤ maxLen) (ha : a.size ≤ 9223372036854775807) :
    Calls Tryd.prog 5 #[.agg #[.string a, .string b, .string c, lv]] w fun e w' => e = .returned (.bool true) ∧ Below w.heap.size w w' := by
  cases h : pfW (clB a) (cutL l) with
  | none => exact back_yes E a b c hs hz ha h
  | some ic => exact back_no E a b c hs hz ha (i := ic.1) (code := ic.2) h
end Go.Proofs.YtkiloceaelmcfaaDoor
