
/-
  slices.Replace of characters.
-/
import Derived.Test.YtaimmjoekahleaaDoorZa41
namespace Go.Proofs.YtaimmjoekahleaaDoor
open Go.RowKit Go.Extern.Stop Go.Stop Go.Extern
set_option maxRecDepth 100000

set_option maxHeartbeats 8000000 in
theorem replace_fit {w : World} {v u : Value} {xs ys : List Int} (hv : RwR v xs w) (hu : RwR u ys w) (hu0 : ¬ u = .slice none 0 0) (hne : ∀ k, v.ownBlock = some k → ¬ u.ownBlock = some k) {p r : Nat} (hpr : p < r) (hrn : r < xs.length) (hb : xs.length + ys.length ≤ 1000000000) {a9 : Option Addr} {n9 c9 : Nat} (h9 : v = .slice a9 n9 c9) (hroom : p + ys.length + (xs.length - r) ≤ c9) (hfit9 : p + ys.length ≤ r) :
    Calls Tryd.prog 26 #[v, .int .i64 (p : Int), .int .i64 (r : Int), u] w fun e w' => Rpl w v (xs.take p ++ (ys ++ xs.drop r)) e w' := by
  obtain ⟨g, c, sp, rfl, hG, hc, hm, hs⟩ := hv.blk (by rintro rfl; obtain ⟨_, _, e, _⟩ := hv.form; simp only [Value.slice.injEq] at e; omega)
  obtain ⟨g2, c2, sp2, rfl, hG2, hc2, hm2, hs2⟩ := hu.blk hu0
  have hgg : ¬ g = g2 := fun e => hne g rfl (by rw [e]; rfl)
  obtain ⟨X, hX⟩ : ∃ X, X = xs.map (Value.int .i32) := ⟨_, rfl⟩
  obtain ⟨Y, hY⟩ : ∃ Y, Y = ys.map (Value.int .i32) := ⟨_, rfl⟩
  have hX1 : ∀ v ∈ X, v.oneCell' = true := by rw [hX]; exact ints_one xs
  have hY1 : ∀ v ∈ Y, v.oneCell' = true := by rw [hY]; exact ints_one ys
  have hXl : X.length = xs.length := by rw [hX, List.length_map]
  have hYl : Y.length = ys.length := by rw [hY, List.length_map]
  obtain ⟨L, hL⟩ : ∃ L, L = X ++ sp := ⟨_, rfl⟩
  rw [← hX, ← hL] at hG
  rw [← hY] at hG2
  have hLl : L.length = X.length + sp.length := by rw [hL, List.length_append]
  have hLX : ∀ k, k ≤ X.length → L.take k = X.take k := fun k hk => by rw [hL, List.take_append_of_le_length hk]
  have hLd : ∀ (k : Nat) (u : Value), X[k]? = some u → L[k]? = some u := fun k u hu => by rw [hL, List.getElem?_append_left (List.getElem?_eq_some_iff.1 hu).1]; exact hu
  have hcY : ∀ j u, Y[j]? = some u → (Y ++ sp2)[j]? = some u := fun j u hu => by rw [List.getElem?_append_left (List.getElem?_eq_some_iff.1 hu).1]; exact hu
  obtain ⟨n, hn⟩ : ∃ n, n = xs.length := ⟨_, rfl⟩
  obtain ⟨m, hm'⟩ : ∃ m, m = ys.length := ⟨_, rfl⟩
  obtain ⟨tot, htot⟩ : ∃ tot, tot = p + m + (n - r) := ⟨_, rfl⟩
  simp only [Value.slice.injEq] at h9
  obtain ⟨ha9, hn9, hc9⟩ := h9
  subst ha9 hc9
  clear hn9
  rw [← hn] at hXl hc hs hrn hb hroom ⊢
  rw [← hm'] at hYl hc2 hb hs2 hroom hfit9 ⊢
  have hlz : (xs.take p ++ (ys ++ xs.drop r)).length = tot := by simp only [List.length_append, List.length_take, List.length_drop]; omega
  have hzs : (xs.take p ++ (ys ++ xs.drop r)).map (Value.int .i32) = X.take p ++ (Y ++ X.drop r) := by rw [List.map_append, List.map_append, hX, hY, List.map_take, List.map_drop]
  obtain ⟨D, hD⟩ : ∃ D, D = X.drop r := ⟨_, rfl⟩
  have hDl : D.length = n - r := by rw [hD, List.length_drop, hXl]
  have hD1 : ∀ v ∈ D, v.oneCell' = true := fun v hv => hX1 v (by rw [hD] at hv; exact List.mem_of_mem_drop hv)
  have hcD : ∀ j u, D[j]? = some u → L[r + j]? = some u := fun j u hu => hLd _ _ (by rw [hD, List.getElem?_drop] at hu; exact hu)
  have hLi : L.take p = X.take p := hLX p (by omega)
  rw [← hD] at hzs
  have HZ := hid_of' (And.intro hlz (And.intro hzs hLi))
  have HV := hid_of' (And.intro hG (And.intro hG2 (And.intro hcY hcD)))
  have H1 := hid_of' (And.intro hX1 (And.intro hY1 hD1))
  have HN := hid_of' (And.intro hXl (And.intro hYl (And.intro hLl (And.intro hDl (And.intro hs (And.intro hm (And.intro hb htot)))))))
  have hm8 := hm
  unfold maxLen at hm8
  have k1 : (0 : Int) ≤ (p : Int) := by omega
  have k2 : (p : Int) ≤ (r : Int) := by omega
  have k3 : (r : Int) ≤ (c : Int) := by omega
  have k4 : ¬ c = p := by omega
  have k4b : ¬ c = 0 := by omega
  have k6 : ¬ (p : Int) = (r : Int) := by omega
  have k6n : ¬ p = r := by omega
  have k7 : p ≤ n := by omega
  have k8 : p < c := by omega
  have k24 : (p : Int) ≤ (c : Int) := by omega
  have k25 : p ≤ c := by omega
  have k26 : 0 < c := by omega
  have HW3 : Hid (IntKind.i64.wrap ((p : Int) + (m : Int)) = (p : Int) + (m : Int)) := by show _ = _; rw [IntKind.wrap_i64]; omega
  have HW4 : Hid (IntKind.i64.wrap ((p : Int) + (m : Int) + ((n - r : Nat) : Int)) = (tot : Int)) := by show _ = _; rw [IntKind.wrap_i64]; omega
  have HQ1 : Hid ((p : Int) + (m : Int) = ((p + m : Nat) : Int)) := by show _ = _; omega
  have k5 : ¬ (r : Int) = (n : Int) := by omega
  have k5n : ¬ r = n := by omega
  have k9 : r ≤ n := by omega
  have k10 : r < c := by omega
  have k12 : ¬ (c : Int) < (tot : Int) := by omega
  have q2 : p + m ≤ tot := by omega
  have hbt : tot ≤ 1000000000 := by omega
  have k15 : (tot : Int) ≤ (c : Int) := by omega
  have k16 : (0 : Int) ≤ (tot : Int) := by omega
  have k17 : (p : Int) + (m : Int) ≤ (r : Int) := by omega
  have k18 : (p : Int) ≤ (tot : Int) := by omega
  have k11 : p + m < c := by omega
  have k19 : tot ≤ n := by omega
  have k20 : (tot : Int) ≤ (n : Int) := by omega
  have hpt : p ≤ tot := by omega
  have HF : Hid (Y.length = Nat.min m (tot - p) ∧ p + Y.length ≤ L.length ∧ D.length = Nat.min (n - r) (tot - (p + m)) ∧ p + m + D.length ≤ (splice L p Y).length ∧ tot + (n - tot) ≤ (splice (splice L p Y) (p + m) D).length) := by
    refine ⟨?_, ?_, ?_, ?_, ?_⟩
    · simp only [Nat.min_def]; split <;> omega
    · omega
    · simp only [Nat.min_def]; split <;> omega
    · rw [splice_len (by omega)]; omega
    · rw [splice_len (by rw [splice_len (by omega)]; omega), splice_len (by omega)]; omega
  have HP : Hid (∀ (j : Nat) (u : Value), D[j]? = some u → (splice L p Y)[r + j]? = some u) := fun j u hu => by rw [splice_past (by omega) (by omega)]; exact hcD j u hu
  clear hG hG2 hX1 hY1 hX hY hL hLX hLd hcY hXl hYl hLl hn hm' hu hv hne hD hDl hD1 hcD hLi hzs hlz hm hs hs2 hm2 htot hu0 hm8
  go_enter Tryd.func26, Tryd.ntmps26
  go_upto_region 9 with fail
  refine wp_region_tail 12 (by kernel_rfl) (fun _ => none) (by kernel_rfl) (by kernel_rfl) (by decide) (fun i v x => match i with
    | 0 => v = .slice (some ⟨g, 0, none⟩) n c
    | 1 => v = .int .i64 (p : Int)
    | 2 => v = (.slice (some ⟨g, 0, none⟩) p c : Value)
    | 3 => v = .int .i64 (p : Int)
    | 4 => v = .slice (some ⟨g2, 0, none⟩) m c2
    | 5 => v = .int .i64 (m : Int)
    | 6 => v = .int .i64 ((p : Int) + (m : Int))
    | 7 => v = .slice (some ⟨g, 0, none⟩) n c
    | 8 => v = .int .i64 (r : Int)
    | 9 => v = (.slice (some ⟨g, r, none⟩) (n - r) (c - r) : Value)
    | 10 => v = .int .i64 ((n - r : Nat) : Int)
    | 11 => v = .int .i64 (tot : Int)
    | _ => True) (fun _ => false) (fun _ _ _ _ h => by cases h) ?_ ?_ ?_
  · intro i v x x' hR hb
    match i, hR with
    | 0, h => exact h
    | 1, h => exact h
    | 2, h => exact h
    | 3, h => exact h
    | 4, h => exact h
    | 5, h => exact h
    | 6, h => exact h
    | 7, h => exact h
    | 8, h => exact h
    | 9, h => exact h
    | 10, h => exact h
    | 11, h => exact h
    | m + 12, h => exact h
  · intro i o hi ho q x vals hX hdep hoth
    have t0 : q.tmps[0]? = some (.slice (some ⟨g, 0, none⟩) n c) := by rw [hoth 0 (by kernel_rfl)]; rfl
    have t1 : q.tmps[1]? = some (.int .i64 (p : Int)) := by rw [hoth 1 (by kernel_rfl)]; rfl
    have t2 : q.tmps[2]? = some (.int .i64 (r : Int)) := by rw [hoth 2 (by kernel_rfl)]; rfl
    have t3 : q.tmps[3]? = some (.slice (some ⟨g2, 0, none⟩) m c2) := by rw [hoth 3 (by kernel_rfl)]; rfl
    match i, hi, ho with
    | 0, _, ho =>
      simp only [List.getElem?_cons_zero, Option.some.injEq] at ho
      subst ho
      unfold Oper.wp
      simp [execOp, go_sem, t0]
      exact came _ rfl (Below.refl _ _) rfl (fun h => absurd h (by decide))
    | 1, _, ho =>
      simp only [List.getElem?_cons_succ, List.getElem?_cons_zero, Option.some.injEq] at ho
      subst ho
      unfold Oper.wp
      simp [execOp, go_sem, t1]
      exact came _ rfl (Below.refl _ _) rfl (fun h => absurd h (by decide))
    | 2, _, ho =>
      simp only [List.getElem?_cons_succ, List.getElem?_cons_zero, Option.some.injEq] at ho
      subst ho
      obtain ⟨u0, e0⟩ := hdep ⟨0, .data⟩ (by simp) rfl _ 45 rfl rfl
      rw [show vals 0 = .slice (some ⟨g, 0, none⟩) n c from e0] at u0
      obtain ⟨u1, e1⟩ := hdep ⟨1, .data⟩ (by simp) rfl _ 46 rfl rfl
      rw [show vals 1 = .int .i64 (p : Int) from e1] at u1
      exact opw_subH (a := some ⟨g, 0, none⟩) (n := n) (c := c) (h := p) _ _ rfl (by simp [Act.eval, u0]) (by simp [Act.eval, u1]) rfl k25 k26 (came _ rfl (Below.refl _ _) rfl (fun h => absurd h (by decide)))
    | 3, _, ho =>
      simp only [List.getElem?_cons_succ, List.getElem?_cons_zero, Option.some.injEq] at ho
      subst ho
      obtain ⟨u2, e2⟩ := hdep ⟨2, .data⟩ (by simp) rfl _ 47 rfl rfl
      rw [show vals 2 = (.slice (some ⟨g, 0, none⟩) p c : Value) from e2] at u2
      unfold Oper.wp
      simp [go_sem, u2]
      exact came _ rfl (Below.refl _ _) rfl (fun h => absurd h (by decide))
    | 4, _, ho =>
      simp only [List.getElem?_cons_succ, List.getElem?_cons_zero, Option.some.injEq] at ho
      subst ho
      unfold Oper.wp
      simp [execOp, go_sem, t3]
      exact came _ rfl (Below.refl _ _) rfl (fun h => absurd h (by decide))
    | 5, _, ho =>
      simp only [List.getElem?_cons_succ, List.getElem?_cons_zero, Option.some.injEq] at ho
      subst ho
      obtain ⟨u4, e4⟩ := hdep ⟨4, .data⟩ (by simp) rfl _ 49 rfl rfl
      rw [show vals 4 = .slice (some ⟨g2, 0, none⟩) m c2 from e4] at u4
      unfold Oper.wp
      simp [go_sem, u4]
      exact came _ rfl (Below.refl _ _) rfl (fun h => absurd h (by decide))
    | 6, _, ho =>
      simp only [List.getElem?_cons_succ, List.getElem?_cons_zero, Option.some.injEq] at ho
      subst ho
      obtain ⟨u3, e3⟩ := hdep ⟨3, .data⟩ (by simp) rfl _ 48 rfl rfl
      rw [show vals 3 = .int .i64 (p : Int) from e3] at u3
      obtain ⟨u5, e5⟩ := hdep ⟨5, .data⟩ (by simp) rfl _ 50 rfl rfl
      rw [show vals 5 = .int .i64 (m : Int) from e5] at u5
      unfold Oper.wp
      simp [execOp, go_sem, u3, u5, HW3.out]
      exact came _ rfl (Below.refl _ _) rfl (fun h => absurd h (by decide))
    | 7, _, ho =>
      simp only [List.getElem?_cons_succ, List.getElem?_cons_zero, Option.some.injEq] at ho
      subst ho
      unfold Oper.wp
      simp [execOp, go_sem, t0]
      exact came _ rfl (Below.refl _ _) rfl (fun h => absurd h (by decide))
    | 8, _, ho =>
      simp only [List.getElem?_cons_succ, List.getElem?_cons_zero, Option.some.injEq] at ho
      subst ho
      unfold Oper.wp
      simp [execOp, go_sem, t2]
      exact came _ rfl (Below.refl _ _) rfl (fun h => absurd h (by decide))
    | 9, _, ho =>
      simp only [List.getElem?_cons_succ, List.getElem?_cons_zero, Option.some.injEq] at ho
      subst ho
      obtain ⟨u7, e7⟩ := hdep ⟨7, .data⟩ (by simp) rfl _ 52 rfl rfl
      rw [show vals 7 = .slice (some ⟨g, 0, none⟩) n c from e7] at u7
      obtain ⟨u8, e8⟩ := hdep ⟨8, .data⟩ (by simp) rfl _ 53 rfl rfl
      rw [show vals 8 = .int .i64 (r : Int) from e8] at u8
      exact opw_subL _ _ rfl (by simp [Act.eval, u7]) (by simp [Act.eval, u8]) rfl k9 k10 (came _ rfl (Below.refl _ _) rfl (fun h => absurd h (by decide)))
    | 10, _, ho =>
      simp only [List.getElem?_cons_succ, List.getElem?_cons_zero, Option.some.injEq] at ho
      subst ho
      obtain ⟨u9, e9⟩ := hdep ⟨9, .data⟩ (by simp) rfl _ 54 rfl rfl
      rw [show vals 9 = (.slice (some ⟨g, r, none⟩) (n - r) (c - r) : Value) from e9] at u9
      unfold Oper.wp
      simp [go_sem, u9]
      exact came _ rfl (Below.refl _ _) rfl (fun h => absurd h (by decide))
    | 11, _, ho =>
      simp only [List.getElem?_cons_succ, List.getElem?_cons_zero, Option.some.injEq] at ho
      subst ho
      obtain ⟨u6, e6⟩ := hdep ⟨6, .data⟩ (by simp) rfl _ 51 rfl rfl
      rw [show vals 6 = .int .i64 ((p : Int) + (m : Int)) from e6] at u6
      obtain ⟨u10, e10⟩ := hdep ⟨10, .data⟩ (by simp) rfl _ 55 rfl rfl
      rw [show vals 10 = .int .i64 ((n - r : Nat) : Int) from e10] at u10
      unfold Oper.wp
      simp [execOp, go_sem, u6, u10, HW4.out]
      exact came _ rfl (Below.refl _ _) rfl (fun h => absurd h (by decide))
    | m + 12, hi, _ => exact absurd hi (by omega)
  · intro vals W0 hX0 hR0 _
    have f11 : vals 11 = .int .i64 (tot : Int) := hR0 11 (by decide)
    have f0 : vals 0 = .slice (some ⟨g, 0, none⟩) n c := hR0 0 (by decide)
    have f1 : vals 1 = .int .i64 (p : Int) := hR0 1 (by decide)
    have f2 : vals 2 = (.slice (some ⟨g, 0, none⟩) p c : Value) := hR0 2 (by decide)
    have f3 : vals 3 = .int .i64 (p : Int) := hR0 3 (by decide)
    have f4 : vals 4 = .slice (some ⟨g2, 0, none⟩) m c2 := hR0 4 (by decide)
    have f5 : vals 5 = .int .i64 (m : Int) := hR0 5 (by decide)
    have f6 : vals 6 = .int .i64 ((p : Int) + (m : Int)) := hR0 6 (by decide)
    have f7 : vals 7 = .slice (some ⟨g, 0, none⟩) n c := hR0 7 (by decide)
    have f8 : vals 8 = .int .i64 (r : Int) := hR0 8 (by decide)
    have f9 : vals 9 = (.slice (some ⟨g, r, none⟩) (n - r) (c - r) : Value) := hR0 9 (by decide)
    have f10 : vals 10 = .int .i64 ((n - r : Nat) : Int) := hR0 10 (by decide)
    simp only [List.drop, List.take, putAll, List.setIfInBounds_toArray, List.set_cons_succ, List.set_cons_zero, f0, f1, f2, f3, f4, f5, f6, f7, f8, f9, f10, f11]
    clear f0 f1 f2 f3 f4 f5 f6 f7 f8 f9 f10 f11 hR0
    have HX0 := hid_of' (And.intro (HV.out.1.later hX0) (And.intro (HV.out.2.1.later hX0) hX0))
    clear hX0
    go_upto_region 18 with (refine wpL_copyG rfl (.tmp 95) (.tmp 96) 47 rfl 21 Tryd.underlying47 size_r (p) rfl rfl HX0.out.1 Y HF.out.1 (fun _ => ⟨rfl, _, rfl, fun j u hu => by rw [Addr.add_lit, Nat.zero_add]; exact HX0.out.2.1.cell (HV.out.2.2.1 j u hu)⟩) HF.out.2.1 H1.out.2.1 ?_; intro W2 hB2 hg2)
    simp only [Act.put, List.setIfInBounds_toArray, List.set_cons_succ, List.set_cons_zero]
    have HB2 := hid_of' (And.intro hB2 hg2)
    clear hB2 hg2
    refine wp_region_tail 9 (by kernel_rfl) (fun _ => none) (by kernel_rfl) (by kernel_rfl) (by decide) (fun i v x => match i with
      | 0 => v = .slice (some ⟨g, 0, none⟩) tot c
      | 1 => v = .int .i64 (p : Int)
      | 2 => v = .slice (some ⟨g2, 0, none⟩) m c2
      | 3 => v = .int .i64 (m : Int)
      | 4 => v = .int .i64 ((p : Int) + (m : Int))
      | 5 => v = (.slice (some ⟨g, p + m, none⟩) (tot - (p + m)) (c - (p + m)) : Value)
      | 6 => v = .slice (some ⟨g, 0, none⟩) n c
      | 7 => v = .int .i64 (r : Int)
      | 8 => v = (.slice (some ⟨g, r, none⟩) (n - r) (c - r) : Value)
      | _ => True) (fun _ => false) (fun _ _ _ _ h => by cases h) ?_ ?_ ?_
    · intro i v x x' hR hb
      match i, hR with
      | 0, h => exact h
      | 1, h => exact h
      | 2, h => exact h
      | 3, h => exact h
      | 4, h => exact h
      | 5, h => exact h
      | 6, h => exact h
      | 7, h => exact h
      | 8, h => exact h
      | m + 9, h => exact h
    · intro i o hi ho q x vals hX hdep hoth
      have t12 : q.tmps[12]? = some (.slice (some ⟨g, 0, none⟩) tot c) := by rw [hoth 12 (by kernel_rfl)]; rfl
      have t1 : q.tmps[1]? = some (.int .i64 (p : Int)) := by rw [hoth 1 (by kernel_rfl)]; rfl
      have t2 : q.tmps[2]? = some (.int .i64 (r : Int)) := by rw [hoth 2 (by kernel_rfl)]; rfl
      have t3 : q.tmps[3]? = some (.slice (some ⟨g2, 0, none⟩) m c2) := by rw [hoth 3 (by kernel_rfl)]; rfl
      have t0 : q.tmps[0]? = some (.slice (some ⟨g, 0, none⟩) n c) := by rw [hoth 0 (by kernel_rfl)]; rfl
      match i, hi, ho with
      | 0, _, ho =>
        simp only [List.getElem?_cons_zero, Option.some.injEq] at ho
        subst ho
        unfold Oper.wp
        simp [execOp, go_sem, t12]
        exact came _ rfl (Below.refl _ _) rfl (fun h => absurd h (by decide))
      | 1, _, ho =>
        simp only [List.getElem?_cons_succ, List.getElem?_cons_zero, Option.some.injEq] at ho
        subst ho
        unfold Oper.wp
        simp [execOp, go_sem, t1]
        exact came _ rfl (Below.refl _ _) rfl (fun h => absurd h (by decide))
      | 2, _, ho =>
        simp only [List.getElem?_cons_succ, List.getElem?_cons_zero, Option.some.injEq] at ho
        subst ho
        unfold Oper.wp
        simp [execOp, go_sem, t3]
        exact came _ rfl (Below.refl _ _) rfl (fun h => absurd h (by decide))
      | 3, _, ho =>
        simp only [List.getElem?_cons_succ, List.getElem?_cons_zero, Option.some.injEq] at ho
        subst ho
        obtain ⟨u2, e2⟩ := hdep ⟨2, .data⟩ (by simp) rfl _ 100 rfl rfl
        rw [show vals 2 = .slice (some ⟨g2, 0, none⟩) m c2 from e2] at u2
        unfold Oper.wp
        simp [go_sem, u2]
        exact came _ rfl (Below.refl _ _) rfl (fun h => absurd h (by decide))
      | 4, _, ho =>
        simp only [List.getElem?_cons_succ, List.getElem?_cons_zero, Option.some.injEq] at ho
        subst ho
        obtain ⟨u1, e1⟩ := hdep ⟨1, .data⟩ (by simp) rfl _ 99 rfl rfl
        rw [show vals 1 = .int .i64 (p : Int) from e1] at u1
        obtain ⟨u3, e3⟩ := hdep ⟨3, .data⟩ (by simp) rfl _ 101 rfl rfl
        rw [show vals 3 = .int .i64 (m : Int) from e3] at u3
        unfold Oper.wp
        simp [execOp, go_sem, u1, u3, HW3.out]
        exact came _ rfl (Below.refl _ _) rfl (fun h => absurd h (by decide))
      | 5, _, ho =>
        simp only [List.getElem?_cons_succ, List.getElem?_cons_zero, Option.some.injEq] at ho
        subst ho
        obtain ⟨u0, e0⟩ := hdep ⟨0, .data⟩ (by simp) rfl _ 98 rfl rfl
        rw [show vals 0 = .slice (some ⟨g, 0, none⟩) tot c from e0] at u0
        obtain ⟨u4, e4⟩ := hdep ⟨4, .data⟩ (by simp) rfl _ 102 rfl rfl
        rw [show vals 4 = .int .i64 ((p : Int) + (m : Int)) from e4] at u4
        exact opw_subL _ _ rfl (by simp [Act.eval, u0]) (by simp [Act.eval, u4]) HQ1.out q2 k11 (came _ rfl (Below.refl _ _) rfl (fun h => absurd h (by decide)))
      | 6, _, ho =>
        simp only [List.getElem?_cons_succ, List.getElem?_cons_zero, Option.some.injEq] at ho
        subst ho
        unfold Oper.wp
        simp [execOp, go_sem, t0]
        exact came _ rfl (Below.refl _ _) rfl (fun h => absurd h (by decide))
      | 7, _, ho =>
        simp only [List.getElem?_cons_succ, List.getElem?_cons_zero, Option.some.injEq] at ho
        subst ho
        unfold Oper.wp
        simp [execOp, go_sem, t2]
        exact came _ rfl (Below.refl _ _) rfl (fun h => absurd h (by decide))
      | 8, _, ho =>
        simp only [List.getElem?_cons_succ, List.getElem?_cons_zero, Option.some.injEq] at ho
        subst ho
        obtain ⟨u6, e6⟩ := hdep ⟨6, .data⟩ (by simp) rfl _ 104 rfl rfl
        rw [show vals 6 = .slice (some ⟨g, 0, none⟩) n c from e6] at u6
        obtain ⟨u7, e7⟩ := hdep ⟨7, .data⟩ (by simp) rfl _ 105 rfl rfl
        rw [show vals 7 = .int .i64 (r : Int) from e7] at u7
        exact opw_subL _ _ rfl (by simp [Act.eval, u6]) (by simp [Act.eval, u7]) rfl k9 k10 (came _ rfl (Below.refl _ _) rfl (fun h => absurd h (by decide)))
      | m + 9, hi, _ => exact absurd hi (by omega)
    · intro vals W3 hX3 hR3 _
      have f0 : vals 0 = .slice (some ⟨g, 0, none⟩) tot c := hR3 0 (by decide)
      have f1 : vals 1 = .int .i64 (p : Int) := hR3 1 (by decide)
      have f2 : vals 2 = .slice (some ⟨g2, 0, none⟩) m c2 := hR3 2 (by decide)
      have f3 : vals 3 = .int .i64 (m : Int) := hR3 3 (by decide)
      have f4 : vals 4 = .int .i64 ((p : Int) + (m : Int)) := hR3 4 (by decide)
      have f5 : vals 5 = (.slice (some ⟨g, p + m, none⟩) (tot - (p + m)) (c - (p + m)) : Value) := hR3 5 (by decide)
      have f6 : vals 6 = .slice (some ⟨g, 0, none⟩) n c := hR3 6 (by decide)
      have f7 : vals 7 = .int .i64 (r : Int) := hR3 7 (by decide)
      have f8 : vals 8 = (.slice (some ⟨g, r, none⟩) (n - r) (c - r) : Value) := hR3 8 (by decide)
      simp only [List.drop, List.take, putAll, List.setIfInBounds_toArray, List.set_cons_succ, List.set_cons_zero, f0, f1, f2, f3, f4, f5, f6, f7, f8]
      clear f0 f1 f2 f3 f4 f5 f6 f7 f8 hR3
      have H3 := hid_of' (And.intro (HB2.out.1.later hX3) hX3)
      clear hX3
      go_upto_region 19 with (refine wpL_copyG rfl (.tmp 103) (.tmp 106) 47 rfl 21 Tryd.underlying47 size_r (p + m) rfl rfl H3.out.1 D HF.out.2.2.1 (fun _ => ⟨rfl, _, rfl, fun j u hu => by rw [Addr.add_lit]; exact H3.out.1.cell (HP.out j u hu)⟩) HF.out.2.2.2.1 H1.out.2.2 ?_; intro W4 hB4 hg4)
      have H4 := hid_of' (And.intro hB4 hg4)
      clear hB4 hg4
      have fin : ∀ W5, Blk g (splice (splice (splice L p Y) (p + m) D) tot (List.replicate (n - tot) (Value.int .i32 0))) 21 W5 → W4.grownBy W5 (some g) → Rpl w (.slice (some ⟨g, 0, none⟩) n c) (xs.take p ++ (ys ++ xs.drop r)) (.returned (.slice (some ⟨g, 0, none⟩) tot c)) W5 := by
        intro W5 hB5 hg5
        obtain ⟨n1, n2, n3, n4, n5, n6, n7, n8⟩ := HN.out
        refine ⟨_, rfl, ?_, grown_trans (grown_trans (grown_later (grown_trans (grown_of HX0.out.2.2) HB2.out.2) H3.out.2) H4.out.2) hg5, fun k hk => .inl hk⟩
        rw [← HZ.out.1]
        refine RwR.of hB5 ?_ (by rw [HZ.out.1]; omega) n6 ?_
        · rw [HZ.out.1, HZ.out.2.1, splice_take (by have := HF.out.2.2.2.2; omega)]
          have := splice_two (L := L) (Y := Y) (Z := D) (i := p) (by omega)
          rw [show p + Y.length + D.length = tot by omega, n2] at this
          rw [this, HZ.out.2.2]
        · rw [splice_len (by rw [List.length_replicate]; exact HF.out.2.2.2.2), splice_len (by rw [splice_len (by omega)]; omega), splice_len (by omega)]
          omega
      have HFin := hid_of' fin
      clear fin
      by_cases hct : c = tot
      · subst hct
        have h0 : n - c = 0 := by omega
        have HF0 : Hid (c + 0 ≤ (splice (splice L p Y) (p + m) D).length) := by show _ ≤ _; have := HF.out.2.2.2.2; omega
        have HH0 := hid_of' h0
        clear h0
        go_wp2_with (refine wpL_clearR rfl (.tmp 110) rfl (n := 0) c rfl H4.out.1 (fun h => absurd h (Nat.lt_irrefl 0)) HF0.out ?_; intro W5 hB5 hg5)
        go_ret
        exact HFin.out _ (by rw [HH0.out]; exact hB5) hg5
      · go_wp2_with (refine wpL_clearR rfl (.tmp 110) rfl tot rfl H4.out.1 (fun _ => rfl) HF.out.2.2.2.2 ?_; intro W5 hB5 hg5)
        go_ret
        exact HFin.out _ hB5 hg5

end Go.Proofs.YtaimmjoekahleaaDoor
