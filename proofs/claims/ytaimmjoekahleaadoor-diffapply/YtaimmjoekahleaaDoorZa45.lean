
/-
  slices.Replace of characters.
-/
import Derived.Test.YtaimmjoekahleaaDoorZa42
import Derived.Test.YtaimmjoekahleaaDoorZa43
import Derived.Test.YtaimmjoekahleaaDoorZa44
namespace Go.Proofs.YtaimmjoekahleaaDoor
open Go.RowKit Go.Extern.Stop Go.Stop Go.Extern
set_option maxRecDepth 100000

set_option maxHeartbeats 8000000 in
theorem replace_wide {w : World} {v u : Value} {xs ys : List Int} (hv : RwR v xs w) (hu : RwR u ys w) (hu0 : ¬ u = .slice none 0 0) (hne : ∀ k, v.ownBlock = some k → ¬ u.ownBlock = some k) {p r : Nat} (hpr : p < r) (hrn : r < xs.length) (hb : xs.length + ys.length ≤ 1000000000) {a9 : Option Addr} {n9 c9 : Nat} (h9 : v = .slice a9 n9 c9) (hroom : p + ys.length + (xs.length - r) ≤ c9) (hfit9 : ¬ p + ys.length ≤ r) :
    Calls Tryd.prog 26 #[v, .int .i64 (p : Int), .int .i64 (r : Int), u] w fun e w' => Rpl w v (xs.take p ++ (ys ++ xs.drop r)) e w' := by
  obtain ⟨g, c, sp, rfl, hG, hc, hm, hs⟩ := hv.blk (by rintro rfl; obtain ⟨_, _, e, _⟩ := hv.form; simp only [Value.slice.injEq] at e; omega)
  obtain ⟨g2, c2, sp2, rfl, hG2, hc2, hm2, hs2⟩ := hu.blk hu0
  have hgg : ¬ g = g2 := fun e => hne g rfl (by rw [e]; rfl)
  obtain ⟨X, hX⟩ : ∃ X, X = xs.map (Value.int .i32) := ⟨_, rfl⟩
  obtain ⟨Y, hY⟩ : ∃ Y, Y = ys.map (Value.int .i32) := ⟨_, rfl⟩
  have hX1 : ∀ v ∈ X, v.oneCell' = true := by rw [hX]; exact ints_one xs
  have hY1 : ∀ v ∈ Y, v.oneCell' = true := by rw [hY]; exact ints_one ys
  have hXl : X.length = xs.length := by rw [hX, List.length_map]
  have hYl : Y.length = ys.length := by rw [hY, List.length_map]
  obtain ⟨L, hL⟩ : ∃ L, L = X ++ sp := ⟨_, rfl⟩
  rw [← hX, ← hL] at hG
  rw [← hY] at hG2
  have hLl : L.length = X.length + sp.length := by rw [hL, List.length_append]
  have hLX : ∀ k, k ≤ X.length → L.take k = X.take k := fun k hk => by rw [hL, List.take_append_of_le_length hk]
  have hLd : ∀ (k : Nat) (u : Value), X[k]? = some u → L[k]? = some u := fun k u hu => by rw [hL, List.getElem?_append_left (List.getElem?_eq_some_iff.1 hu).1]; exact hu
  have hcY : ∀ j u, Y[j]? = some u → (Y ++ sp2)[j]? = some u := fun j u hu => by rw [List.getElem?_append_left (List.getElem?_eq_some_iff.1 hu).1]; exact hu
  obtain ⟨n, hn⟩ : ∃ n, n = xs.length := ⟨_, rfl⟩
  obtain ⟨m, hm'⟩ : ∃ m, m = ys.length := ⟨_, rfl⟩
  obtain ⟨tot, htot⟩ : ∃ tot, tot = p + m + (n - r) := ⟨_, rfl⟩
  simp only [Value.slice.injEq] at h9
  obtain ⟨ha9, hn9, hc9⟩ := h9
  subst ha9 hc9
  clear hn9
  rw [← hn] at hXl hc hs hrn hb hroom ⊢
  rw [← hm'] at hYl hc2 hb hs2 hroom hfit9 ⊢
  have hlz : (xs.take p ++ (ys ++ xs.drop r)).length = tot := by simp only [List.length_append, List.length_take, List.length_drop]; omega
  have hzs : (xs.take p ++ (ys ++ xs.drop r)).map (Value.int .i32) = X.take p ++ (Y ++ X.drop r) := by rw [List.map_append, List.map_append, hX, hY, List.map_take, List.map_drop]
  obtain ⟨D, hD⟩ : ∃ D, D = X.drop r := ⟨_, rfl⟩
  have hDl : D.length = n - r := by rw [hD, List.length_drop, hXl]
  have hD1 : ∀ v ∈ D, v.oneCell' = true := fun v hv => hX1 v (by rw [hD] at hv; exact List.mem_of_mem_drop hv)
  have hcD : ∀ j u, D[j]? = some u → L[r + j]? = some u := fun j u hu => hLd _ _ (by rw [hD, List.getElem?_drop] at hu; exact hu)
  have hLi : L.take p = X.take p := hLX p (by omega)
  rw [← hD] at hzs
  have HZ := hid_of' (And.intro hlz (And.intro hzs hLi))
  have HV := hid_of' (And.intro hG (And.intro hG2 (And.intro hcY hcD)))
  have H1 := hid_of' (And.intro hX1 (And.intro hY1 hD1))
  have HN := hid_of' (And.intro hXl (And.intro hYl (And.intro hLl (And.intro hDl (And.intro hs (And.intro hm (And.intro hb htot)))))))
  have hm8 := hm
  unfold maxLen at hm8
  have k1 : (0 : Int) ≤ (p : Int) := by omega
  have k2 : (p : Int) ≤ (r : Int) := by omega
  have k3 : (r : Int) ≤ (c : Int) := by omega
  have k4 : ¬ c = p := by omega
  have k4b : ¬ c = 0 := by omega
  have k6 : ¬ (p : Int) = (r : Int) := by omega
  have k6n : ¬ p = r := by omega
  have k7 : p ≤ n := by omega
  have k8 : p < c := by omega
  have k24 : (p : Int) ≤ (c : Int) := by omega
  have k25 : p ≤ c := by omega
  have k26 : 0 < c := by omega
  have HW3 : Hid (IntKind.i64.wrap ((p : Int) + (m : Int)) = (p : Int) + (m : Int)) := by show _ = _; rw [IntKind.wrap_i64]; omega
  have HW4 : Hid (IntKind.i64.wrap ((p : Int) + (m : Int) + ((n - r : Nat) : Int)) = (tot : Int)) := by show _ = _; rw [IntKind.wrap_i64]; omega
  have HQ1 : Hid ((p : Int) + (m : Int) = ((p + m : Nat) : Int)) := by show _ = _; omega
  have k5 : ¬ (r : Int) = (n : Int) := by omega
  have k5n : ¬ r = n := by omega
  have k9 : r ≤ n := by omega
  have k10 : r < c := by omega
  have k12 : ¬ (c : Int) < (tot : Int) := by omega
  have q2 : p + m ≤ tot := by omega
  have hbt : tot ≤ 1000000000 := by omega
  have k15 : (tot : Int) ≤ (c : Int) := by omega
  have k16 : (0 : Int) ≤ (tot : Int) := by omega
  have k17 : ¬ (p : Int) + (m : Int) ≤ (r : Int) := by omega
  have k18 : (p : Int) ≤ (tot : Int) := by omega
  have k11 : p + m < c := by omega
  have k19 : ¬ c = p + m := by omega
  have k20 : ((p : Int) + (m : Int)).toNat = p + m := by omega
  have k21 : (0 : Int) ≤ (p : Int) + (m : Int) := by omega
  have k22 : (p : Int) + (m : Int) ≤ (tot : Int) := by omega
  have hpt : p ≤ tot := by omega
  have HF : Hid (D.length = Nat.min (n - r) (tot - (p + m)) ∧ p + m + D.length ≤ L.length ∧ Y.length = Nat.min m (tot - p) ∧ p + Y.length ≤ (splice L (p + m) D).length) := by
    refine ⟨?_, ?_, ?_, ?_⟩
    · simp only [Nat.min_def]; split <;> omega
    · omega
    · simp only [Nat.min_def]; split <;> omega
    · rw [splice_len (by omega)]; omega
  have HM : Hid (¬ (Y ++ sp2).length = 0) := by show ¬ _; rw [List.length_append]; omega
  clear hG hG2 hX1 hY1 hX hY hL hLX hLd hcY hXl hYl hLl hn hm' hu hv hne hD hDl hD1 hcD hLi hzs hlz hm hs hs2 hm2 htot hu0 hm8
  go_enter Tryd.func26, Tryd.ntmps26
  go_upto_region 9 with fail
  refine wp_region_tail 12 (by kernel_rfl) (fun _ => none) (by kernel_rfl) (by kernel_rfl) (by decide) (fun i v x => match i with
    | 0 => v = .slice (some ⟨g, 0, none⟩) n c
    | 1 => v = .int .i64 (p : Int)
    | 2 => v = (.slice (some ⟨g, 0, none⟩) p c : Value)
    | 3 => v = .int .i64 (p : Int)
    | 4 => v = .slice (some ⟨g2, 0, none⟩) m c2
    | 5 => v = .int .i64 (m : Int)
    | 6 => v = .int .i64 ((p : Int) + (m : Int))
    | 7 => v = .slice (some ⟨g, 0, none⟩) n c
    | 8 => v = .int .i64 (r : Int)
    | 9 => v = (.slice (some ⟨g, r, none⟩) (n - r) (c - r) : Value)
    | 10 => v = .int .i64 ((n - r : Nat) : Int)
    | 11 => v = .int .i64 (tot : Int)
    | _ => True) (fun _ => false) (fun _ _ _ _ h => by cases h) ?_ ?_ ?_
  · intro i v x x' hR hb
    match i, hR with
    | 0, h => exact h
    | 1, h => exact h
    | 2, h => exact h
    | 3, h => exact h
    | 4, h => exact h
    | 5, h => exact h
    | 6, h => exact h
    | 7, h => exact h
    | 8, h => exact h
    | 9, h => exact h
    | 10, h => exact h
    | 11, h => exact h
    | m + 12, h => exact h
  · intro i o hi ho q x vals hX hdep hoth
    have t0 : q.tmps[0]? = some (.slice (some ⟨g, 0, none⟩) n c) := by rw [hoth 0 (by kernel_rfl)]; rfl
    have t1 : q.tmps[1]? = some (.int .i64 (p : Int)) := by rw [hoth 1 (by kernel_rfl)]; rfl
    have t2 : q.tmps[2]? = some (.int .i64 (r : Int)) := by rw [hoth 2 (by kernel_rfl)]; rfl
    have t3 : q.tmps[3]? = some (.slice (some ⟨g2, 0, none⟩) m c2) := by rw [hoth 3 (by kernel_rfl)]; rfl
    match i, hi, ho with
    | 0, _, ho =>
      simp only [List.getElem?_cons_zero, Option.some.injEq] at ho
      subst ho
      unfold Oper.wp
      simp [execOp, go_sem, t0]
      exact came _ rfl (Below.refl _ _) rfl (fun h => absurd h (by decide))
    | 1, _, ho =>
      simp only [List.getElem?_cons_succ, List.getElem?_cons_zero, Option.some.injEq] at ho
      subst ho
      unfold Oper.wp
      simp [execOp, go_sem, t1]
      exact came _ rfl (Below.refl _ _) rfl (fun h => absurd h (by decide))
    | 2, _, ho =>
      simp only [List.getElem?_cons_succ, List.getElem?_cons_zero, Option.some.injEq] at ho
      subst ho
      obtain ⟨u0, e0⟩ := hdep ⟨0, .data⟩ (by simp) rfl _ 45 rfl rfl
      rw [show vals 0 = .slice (some ⟨g, 0, none⟩) n c from e0] at u0
      obtain ⟨u1, e1⟩ := hdep ⟨1, .data⟩ (by simp) rfl _ 46 rfl rfl
      rw [show vals 1 = .int .i64 (p : Int) from e1] at u1
      exact opw_subH (a := some ⟨g, 0, none⟩) (n := n) (c := c) (h := p) _ _ rfl (by simp [Act.eval, u0]) (by simp [Act.eval, u1]) rfl k25 k26 (came _ rfl (Below.refl _ _) rfl (fun h => absurd h (by decide)))
    | 3, _, ho =>
      simp only [List.getElem?_cons_succ, List.getElem?_cons_zero, Option.some.injEq] at ho
      subst ho
      obtain ⟨u2, e2⟩ := hdep ⟨2, .data⟩ (by simp) rfl _ 47 rfl rfl
      rw [show vals 2 = (.slice (some ⟨g, 0, none⟩) p c : Value) from e2] at u2
      unfold Oper.wp
      simp [go_sem, u2]
      exact came _ rfl (Below.refl _ _) rfl (fun h => absurd h (by decide))
    | 4, _, ho =>
      simp only [List.getElem?_cons_succ, List.getElem?_cons_zero, Option.some.injEq] at ho
      subst ho
      unfold Oper.wp
      simp [execOp, go_sem, t3]
      exact came _ rfl (Below.refl _ _) rfl (fun h => absurd h (by decide))
    | 5, _, ho =>
      simp only [List.getElem?_cons_succ, List.getElem?_cons_zero, Option.some.injEq] at ho
      subst ho
      obtain ⟨u4, e4⟩ := hdep ⟨4, .data⟩ (by simp) rfl _ 49 rfl rfl
      rw [show vals 4 = .slice (some ⟨g2, 0, none⟩) m c2 from e4] at u4
      unfold Oper.wp
      simp [go_sem, u4]
      exact came _ rfl (Below.refl _ _) rfl (fun h => absurd h (by decide))
    | 6, _, ho =>
      simp only [List.getElem?_cons_succ, List.getElem?_cons_zero, Option.some.injEq] at ho
      subst ho
      obtain ⟨u3, e3⟩ := hdep ⟨3, .data⟩ (by simp) rfl _ 48 rfl rfl
      rw [show vals 3 = .int .i64 (p : Int) from e3] at u3
      obtain ⟨u5, e5⟩ := hdep ⟨5, .data⟩ (by simp) rfl _ 50 rfl rfl
      rw [show vals 5 = .int .i64 (m : Int) from e5] at u5
      unfold Oper.wp
      simp [execOp, go_sem, u3, u5, HW3.out]
      exact came _ rfl (Below.refl _ _) rfl (fun h => absurd h (by decide))
    | 7, _, ho =>
      simp only [List.getElem?_cons_succ, List.getElem?_cons_zero, Option.some.injEq] at ho
      subst ho
      unfold Oper.wp
      simp [execOp, go_sem, t0]
      exact came _ rfl (Below.refl _ _) rfl (fun h => absurd h (by decide))
    | 8, _, ho =>
      simp only [List.getElem?_cons_succ, List.getElem?_cons_zero, Option.some.injEq] at ho
      subst ho
      unfold Oper.wp
      simp [execOp, go_sem, t2]
      exact came _ rfl (Below.refl _ _) rfl (fun h => absurd h (by decide))
    | 9, _, ho =>
      simp only [List.getElem?_cons_succ, List.getElem?_cons_zero, Option.some.injEq] at ho
      subst ho
      obtain ⟨u7, e7⟩ := hdep ⟨7, .data⟩ (by simp) rfl _ 52 rfl rfl
      rw [show vals 7 = .slice (some ⟨g, 0, none⟩) n c from e7] at u7
      obtain ⟨u8, e8⟩ := hdep ⟨8, .data⟩ (by simp) rfl _ 53 rfl rfl
      rw [show vals 8 = .int .i64 (r : Int) from e8] at u8
      exact opw_subL _ _ rfl (by simp [Act.eval, u7]) (by simp [Act.eval, u8]) rfl k9 k10 (came _ rfl (Below.refl _ _) rfl (fun h => absurd h (by decide)))
    | 10, _, ho =>
      simp only [List.getElem?_cons_succ, List.getElem?_cons_zero, Option.some.injEq] at ho
      subst ho
      obtain ⟨u9, e9⟩ := hdep ⟨9, .data⟩ (by simp) rfl _ 54 rfl rfl
      rw [show vals 9 = (.slice (some ⟨g, r, none⟩) (n - r) (c - r) : Value) from e9] at u9
      unfold Oper.wp
      simp [go_sem, u9]
      exact came _ rfl (Below.refl _ _) rfl (fun h => absurd h (by decide))
    | 11, _, ho =>
      simp only [List.getElem?_cons_succ, List.getElem?_cons_zero, Option.some.injEq] at ho
      subst ho
      obtain ⟨u6, e6⟩ := hdep ⟨6, .data⟩ (by simp) rfl _ 51 rfl rfl
      rw [show vals 6 = .int .i64 ((p : Int) + (m : Int)) from e6] at u6
      obtain ⟨u10, e10⟩ := hdep ⟨10, .data⟩ (by simp) rfl _ 55 rfl rfl
      rw [show vals 10 = .int .i64 ((n - r : Nat) : Int) from e10] at u10
      unfold Oper.wp
      simp [execOp, go_sem, u6, u10, HW4.out]
      exact came _ rfl (Below.refl _ _) rfl (fun h => absurd h (by decide))
    | m + 12, hi, _ => exact absurd hi (by omega)
  · intro vals W0 hX0 hR0 _
    have f11 : vals 11 = .int .i64 (tot : Int) := hR0 11 (by decide)
    have f0 : vals 0 = .slice (some ⟨g, 0, none⟩) n c := hR0 0 (by decide)
    have f1 : vals 1 = .int .i64 (p : Int) := hR0 1 (by decide)
    have f2 : vals 2 = (.slice (some ⟨g, 0, none⟩) p c : Value) := hR0 2 (by decide)
    have f3 : vals 3 = .int .i64 (p : Int) := hR0 3 (by decide)
    have f4 : vals 4 = .slice (some ⟨g2, 0, none⟩) m c2 := hR0 4 (by decide)
    have f5 : vals 5 = .int .i64 (m : Int) := hR0 5 (by decide)
    have f6 : vals 6 = .int .i64 ((p : Int) + (m : Int)) := hR0 6 (by decide)
    have f7 : vals 7 = .slice (some ⟨g, 0, none⟩) n c := hR0 7 (by decide)
    have f8 : vals 8 = .int .i64 (r : Int) := hR0 8 (by decide)
    have f9 : vals 9 = (.slice (some ⟨g, r, none⟩) (n - r) (c - r) : Value) := hR0 9 (by decide)
    have f10 : vals 10 = .int .i64 ((n - r : Nat) : Int) := hR0 10 (by decide)
    simp only [List.drop, List.take, putAll, List.setIfInBounds_toArray, List.set_cons_succ, List.set_cons_zero, f0, f1, f2, f3, f4, f5, f6, f7, f8, f9, f10, f11]
    clear f0 f1 f2 f3 f4 f5 f6 f7 f8 f9 f10 f11 hR0
    have HX0 := hid_of' (And.intro (HV.out.1.later hX0) (And.intro (HV.out.2.1.later hX0) hX0))
    clear hX0
    have hov := fun la ca lb cb => overlaps_no (w := W0) HX0.out.1 HX0.out.2.1 hgg HM.out (p + m) 0 la ca lb cb
    go_upto_region 22 with (simp only [hov])
    clear hov
    refine wp_region_tail 9 (by kernel_rfl) (fun _ => none) (by kernel_rfl) (by kernel_rfl) (by decide) (fun i v x => match i with
      | 0 => v = .slice (some ⟨g, 0, none⟩) tot c
      | 1 => v = .int .i64 (p : Int)
      | 2 => v = .slice (some ⟨g2, 0, none⟩) m c2
      | 3 => v = .int .i64 (m : Int)
      | 4 => v = .int .i64 ((p : Int) + (m : Int))
      | 5 => v = (.slice (some ⟨g, p + m, none⟩) (tot - (p + m)) (c - (p + m)) : Value)
      | 6 => v = .slice (some ⟨g, 0, none⟩) n c
      | 7 => v = .int .i64 (r : Int)
      | 8 => v = (.slice (some ⟨g, r, none⟩) (n - r) (c - r) : Value)
      | _ => True) (fun _ => false) (fun _ _ _ _ h => by cases h) ?_ ?_ ?_
    · intro i v x x' hR hb
      match i, hR with
      | 0, h => exact h
      | 1, h => exact h
      | 2, h => exact h
      | 3, h => exact h
      | 4, h => exact h
      | 5, h => exact h
      | 6, h => exact h
      | 7, h => exact h
      | 8, h => exact h
      | m + 9, h => exact h
    · intro i o hi ho q x vals hX hdep hoth
      have t12 : q.tmps[12]? = some (.slice (some ⟨g, 0, none⟩) tot c) := by rw [hoth 12 (by kernel_rfl)]; rfl
      have t1 : q.tmps[1]? = some (.int .i64 (p : Int)) := by rw [hoth 1 (by kernel_rfl)]; rfl
      have t2 : q.tmps[2]? = some (.int .i64 (r : Int)) := by rw [hoth 2 (by kernel_rfl)]; rfl
      have t3 : q.tmps[3]? = some (.slice (some ⟨g2, 0, none⟩) m c2) := by rw [hoth 3 (by kernel_rfl)]; rfl
      have t0 : q.tmps[0]? = some (.slice (some ⟨g, 0, none⟩) n c) := by rw [hoth 0 (by kernel_rfl)]; rfl
      match i, hi, ho with
      | 0, _, ho =>
        simp only [List.getElem?_cons_zero, Option.some.injEq] at ho
        subst ho
        unfold Oper.wp
        simp [execOp, go_sem, t12]
        exact came _ rfl (Below.refl _ _) rfl (fun h => absurd h (by decide))
      | 1, _, ho =>
        simp only [List.getElem?_cons_succ, List.getElem?_cons_zero, Option.some.injEq] at ho
        subst ho
        unfold Oper.wp
        simp [execOp, go_sem, t1]
        exact came _ rfl (Below.refl _ _) rfl (fun h => absurd h (by decide))
      | 2, _, ho =>
        simp only [List.getElem?_cons_succ, List.getElem?_cons_zero, Option.some.injEq] at ho
        subst ho
        unfold Oper.wp
        simp [execOp, go_sem, t3]
        exact came _ rfl (Below.refl _ _) rfl (fun h => absurd h (by decide))
      | 3, _, ho =>
        simp only [List.getElem?_cons_succ, List.getElem?_cons_zero, Option.some.injEq] at ho
        subst ho
        obtain ⟨u2, e2⟩ := hdep ⟨2, .data⟩ (by simp) rfl _ 123 rfl rfl
        rw [show vals 2 = .slice (some ⟨g2, 0, none⟩) m c2 from e2] at u2
        unfold Oper.wp
        simp [go_sem, u2]
        exact came _ rfl (Below.refl _ _) rfl (fun h => absurd h (by decide))
      | 4, _, ho =>
        simp only [List.getElem?_cons_succ, List.getElem?_cons_zero, Option.some.injEq] at ho
        subst ho
        obtain ⟨u1, e1⟩ := hdep ⟨1, .data⟩ (by simp) rfl _ 122 rfl rfl
        rw [show vals 1 = .int .i64 (p : Int) from e1] at u1
        obtain ⟨u3, e3⟩ := hdep ⟨3, .data⟩ (by simp) rfl _ 124 rfl rfl
        rw [show vals 3 = .int .i64 (m : Int) from e3] at u3
        unfold Oper.wp
        simp [execOp, go_sem, u1, u3, HW3.out]
        exact came _ rfl (Below.refl _ _) rfl (fun h => absurd h (by decide))
      | 5, _, ho =>
        simp only [List.getElem?_cons_succ, List.getElem?_cons_zero, Option.some.injEq] at ho
        subst ho
        obtain ⟨u0, e0⟩ := hdep ⟨0, .data⟩ (by simp) rfl _ 121 rfl rfl
        rw [show vals 0 = .slice (some ⟨g, 0, none⟩) tot c from e0] at u0
        obtain ⟨u4, e4⟩ := hdep ⟨4, .data⟩ (by simp) rfl _ 125 rfl rfl
        rw [show vals 4 = .int .i64 ((p : Int) + (m : Int)) from e4] at u4
        exact opw_subL _ _ rfl (by simp [Act.eval, u0]) (by simp [Act.eval, u4]) HQ1.out q2 k11 (came _ rfl (Below.refl _ _) rfl (fun h => absurd h (by decide)))
      | 6, _, ho =>
        simp only [List.getElem?_cons_succ, List.getElem?_cons_zero, Option.some.injEq] at ho
        subst ho
        unfold Oper.wp
        simp [execOp, go_sem, t0]
        exact came _ rfl (Below.refl _ _) rfl (fun h => absurd h (by decide))
      | 7, _, ho =>
        simp only [List.getElem?_cons_succ, List.getElem?_cons_zero, Option.some.injEq] at ho
        subst ho
        unfold Oper.wp
        simp [execOp, go_sem, t2]
        exact came _ rfl (Below.refl _ _) rfl (fun h => absurd h (by decide))
      | 8, _, ho =>
        simp only [List.getElem?_cons_succ, List.getElem?_cons_zero, Option.some.injEq] at ho
        subst ho
        obtain ⟨u6, e6⟩ := hdep ⟨6, .data⟩ (by simp) rfl _ 127 rfl rfl
        rw [show vals 6 = .slice (some ⟨g, 0, none⟩) n c from e6] at u6
        obtain ⟨u7, e7⟩ := hdep ⟨7, .data⟩ (by simp) rfl _ 128 rfl rfl
        rw [show vals 7 = .int .i64 (r : Int) from e7] at u7
        exact opw_subL _ _ rfl (by simp [Act.eval, u6]) (by simp [Act.eval, u7]) rfl k9 k10 (came _ rfl (Below.refl _ _) rfl (fun h => absurd h (by decide)))
      | m + 9, hi, _ => exact absurd hi (by omega)
    · intro vals W3 hX3 hR3 _
      have f0 : vals 0 = .slice (some ⟨g, 0, none⟩) tot c := hR3 0 (by decide)
      have f1 : vals 1 = .int .i64 (p : Int) := hR3 1 (by decide)
      have f2 : vals 2 = .slice (some ⟨g2, 0, none⟩) m c2 := hR3 2 (by decide)
      have f3 : vals 3 = .int .i64 (m : Int) := hR3 3 (by decide)
      have f4 : vals 4 = .int .i64 ((p : Int) + (m : Int)) := hR3 4 (by decide)
      have f5 : vals 5 = (.slice (some ⟨g, p + m, none⟩) (tot - (p + m)) (c - (p + m)) : Value) := hR3 5 (by decide)
      have f6 : vals 6 = .slice (some ⟨g, 0, none⟩) n c := hR3 6 (by decide)
      have f7 : vals 7 = .int .i64 (r : Int) := hR3 7 (by decide)
      have f8 : vals 8 = (.slice (some ⟨g, r, none⟩) (n - r) (c - r) : Value) := hR3 8 (by decide)
      simp only [List.drop, List.take, putAll, List.setIfInBounds_toArray, List.set_cons_succ, List.set_cons_zero, f0, f1, f2, f3, f4, f5, f6, f7, f8]
      clear f0 f1 f2 f3 f4 f5 f6 f7 f8 hR3
      have H3 := hid_of' (And.intro (HX0.out.1.later hX3) (And.intro (HX0.out.2.1.later hX3) hX3))
      clear hX3
      go_upto_region 23 with (refine wpL_copyG rfl (.tmp 126) (.tmp 129) 47 rfl 21 Tryd.underlying47 size_r (p + m) rfl rfl H3.out.1 D HF.out.1 (fun _ => ⟨rfl, _, rfl, fun j u hu => by rw [Addr.add_lit]; exact H3.out.1.cell (HV.out.2.2.2 j u hu)⟩) HF.out.2.1 H1.out.2.2 ?_; intro W4 hB4 hg4)
      have H4 := hid_of' (And.intro hB4 (And.intro (H3.out.2.1.grow hg4 (fun e => by cases e; exact hgg rfl)) hg4))
      clear hB4 hg4
      go_wp2_with (refine wpL_copyG rfl (.tmp 133) (.tmp 134) 47 rfl 21 Tryd.underlying47 size_r (p) rfl rfl H4.out.1 Y HF.out.2.2.1 (fun _ => ⟨rfl, _, rfl, fun j u hu => by rw [Addr.add_lit, Nat.zero_add]; exact H4.out.2.1.cell (HV.out.2.2.1 j u hu)⟩) HF.out.2.2.2 H1.out.2.1 ?_; intro W5 hB5 hg5)
      go_ret
      obtain ⟨n1, n2, n3, n4, n5, n6, n7, n8⟩ := HN.out
      refine ⟨.slice (some ⟨g, 0, none⟩) tot c, rfl, ?_, grown_trans (grown_trans (grown_of (bgo HX0.out.2.2 H3.out.2.2)) H4.out.2.2) hg5, fun k hk => .inl hk⟩
      rw [← HZ.out.1]
      refine RwR.of hB5 ?_ (by rw [HZ.out.1]; omega) n6 ?_
      · rw [HZ.out.1, HZ.out.2.1]
        have := splice_back (L := L) (Y := Y) (Z := D) (i := p) (by omega)
        rw [show p + Y.length + D.length = tot by omega, n2] at this
        rw [this, HZ.out.2.2]
      · rw [splice_len (by rw [splice_len (by omega)]; omega), splice_len (by omega)]
        omega

/-- slices.Replace of characters. -/
theorem replace_ok {w : World} {v u : Value} {xs ys : List Int} (hv : RwR v xs w) (hu : RwR u ys w) (hu0 : ¬ u = .slice none 0 0) (hne : ∀ k, v.ownBlock = some k → ¬ u.ownBlock = some k) {p r : Nat} (hpr : p ≤ r) (hrn : r ≤ xs.length) (hb : xs.length + ys.length ≤ 1000000000) :
    Calls Tryd.prog 26 #[v, .int .i64 (p : Int), .int .i64 (r : Int), u] w fun e w' => Rpl w v (xs.take p ++ (ys ++ xs.drop r)) e w' := by
  by_cases h1 : p = r
  · subst h1
    exact replace_ins hv hu hne hrn hb
  · obtain ⟨a, c, hf, _⟩ := hv.form
    by_cases h2 : r = xs.length
    · by_cases h3 : p + ys.length < xs.length
      · exact replace_endc hv hu hu0 hne (by omega) h2 hb hf h3
      · exact replace_end hv hu hu0 hne (by omega) h2 hb hf h3
    · by_cases h3 : p + ys.length + (xs.length - r) ≤ c
      · by_cases h4 : p + ys.length ≤ r
        · exact replace_fit hv hu hu0 hne (by omega) (by omega) hb hf h3 h4
        · exact replace_wide hv hu hu0 hne (by omega) (by omega) hb hf h3 h4
      · exact replace_grow hv hu hu0 hne (by omega) (by omega) hb hf h3

end Go.Proofs.YtaimmjoekahleaaDoor
