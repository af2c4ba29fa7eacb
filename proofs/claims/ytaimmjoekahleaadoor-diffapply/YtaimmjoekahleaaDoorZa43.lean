
/-
  slices.Replace of characters.
-/
import Derived.Test.YtaimmjoekahleaaDoorZa41
namespace Go.Proofs.YtaimmjoekahleaaDoor
open Go.RowKit Go.Extern.Stop Go.Stop Go.Extern
set_option maxRecDepth 100000

set_option maxHeartbeats 8000000 in
theorem replace_grow {w : World} {v u : Value} {xs ys : List Int} (hv : RwR v xs w) (hu : RwR u ys w) (hu0 : ¬ u = .slice none 0 0) (hne : ∀ k, v.ownBlock = some k → ¬ u.ownBlock = some k) {p r : Nat} (hpr : p < r) (hrn : r < xs.length) (hb : xs.length + ys.length ≤ 1000000000) {a9 : Option Addr} {n9 c9 : Nat} (h9 : v = .slice a9 n9 c9) (hroom : ¬ p + ys.length + (xs.length - r) ≤ c9) :
    Calls Tryd.prog 26 #[v, .int .i64 (p : Int), .int .i64 (r : Int), u] w fun e w' => Rpl w v (xs.take p ++ (ys ++ xs.drop r)) e w' := by
  obtain ⟨g, c, sp, rfl, hG, hc, hm, hs⟩ := hv.blk (by rintro rfl; obtain ⟨_, _, e, _⟩ := hv.form; simp only [Value.slice.injEq] at e; omega)
  obtain ⟨g2, c2, sp2, rfl, hG2, hc2, hm2, hs2⟩ := hu.blk hu0
  have hgg : ¬ g = g2 := fun e => hne g rfl (by rw [e]; rfl)
  obtain ⟨X, hX⟩ : ∃ X, X = xs.map (Value.int .i32) := ⟨_, rfl⟩
  obtain ⟨Y, hY⟩ : ∃ Y, Y = ys.map (Value.int .i32) := ⟨_, rfl⟩
  have hX1 : ∀ v ∈ X, v.oneCell' = true := by rw [hX]; exact ints_one xs
  have hY1 : ∀ v ∈ Y, v.oneCell' = true := by rw [hY]; exact ints_one ys
  have hXl : X.length = xs.length := by rw [hX, List.length_map]
  have hYl : Y.length = ys.length := by rw [hY, List.length_map]
  obtain ⟨L, hL⟩ : ∃ L, L = X ++ sp := ⟨_, rfl⟩
  rw [← hX, ← hL] at hG
  rw [← hY] at hG2
  have hLl : L.length = X.length + sp.length := by rw [hL, List.length_append]
  have hLX : ∀ k, k ≤ X.length → L.take k = X.take k := fun k hk => by rw [hL, List.take_append_of_le_length hk]
  have hLd : ∀ (k : Nat) (u : Value), X[k]? = some u → L[k]? = some u := fun k u hu => by rw [hL, List.getElem?_append_left (List.getElem?_eq_some_iff.1 hu).1]; exact hu
  have hcY : ∀ j u, Y[j]? = some u → (Y ++ sp2)[j]? = some u := fun j u hu => by rw [List.getElem?_append_left (List.getElem?_eq_some_iff.1 hu).1]; exact hu
  obtain ⟨n, hn⟩ : ∃ n, n = xs.length := ⟨_, rfl⟩
  obtain ⟨m, hm'⟩ : ∃ m, m = ys.length := ⟨_, rfl⟩
  obtain ⟨tot, htot⟩ : ∃ tot, tot = p + m + (n - r) := ⟨_, rfl⟩
  simp only [Value.slice.injEq] at h9
  obtain ⟨ha9, hn9, hc9⟩ := h9
  subst ha9 hc9
  clear hn9
  rw [← hn] at hXl hc hs hrn hb hroom ⊢
  rw [← hm'] at hYl hc2 hb hs2 hroom ⊢
  have hlz : (xs.take p ++ (ys ++ xs.drop r)).length = tot := by simp only [List.length_append, List.length_take, List.length_drop]; omega
  have hzs : (xs.take p ++ (ys ++ xs.drop r)).map (Value.int .i32) = X.take p ++ (Y ++ X.drop r) := by rw [List.map_append, List.map_append, hX, hY, List.map_take, List.map_drop]
  obtain ⟨D, hD⟩ : ∃ D, D = X.drop r := ⟨_, rfl⟩
  have hDl : D.length = n - r := by rw [hD, List.length_drop, hXl]
  have hD1 : ∀ v ∈ D, v.oneCell' = true := fun v hv => hX1 v (by rw [hD] at hv; exact List.mem_of_mem_drop hv)
  have hcD : ∀ j u, D[j]? = some u → L[r + j]? = some u := fun j u hu => hLd _ _ (by rw [hD, List.getElem?_drop] at hu; exact hu)
  have hLi : L.take p = X.take p := hLX p (by omega)
  rw [← hD] at hzs
  have HZ := hid_of' (And.intro hlz (And.intro hzs hLi))
  have HV := hid_of' (And.intro hG (And.intro hG2 (And.intro hcY hcD)))
  have H1 := hid_of' (And.intro hX1 (And.intro hY1 hD1))
  have HN := hid_of' (And.intro hXl (And.intro hYl (And.intro hLl (And.intro hDl (And.intro hs (And.intro hm (And.intro hb htot)))))))
  have hm8 := hm
  unfold maxLen at hm8
  have k1 : (0 : Int) ≤ (p : Int) := by omega
  have k2 : (p : Int) ≤ (r : Int) := by omega
  have k3 : (r : Int) ≤ (c : Int) := by omega
  have k4 : ¬ c = p := by omega
  have k4b : ¬ c = 0 := by omega
  have k6 : ¬ (p : Int) = (r : Int) := by omega
  have k6n : ¬ p = r := by omega
  have k7 : p ≤ n := by omega
  have k8 : p < c := by omega
  have k24 : (p : Int) ≤ (c : Int) := by omega
  have k25 : p ≤ c := by omega
  have k26 : 0 < c := by omega
  have HW3 : Hid (IntKind.i64.wrap ((p : Int) + (m : Int)) = (p : Int) + (m : Int)) := by show _ = _; rw [IntKind.wrap_i64]; omega
  have HW4 : Hid (IntKind.i64.wrap ((p : Int) + (m : Int) + ((n - r : Nat) : Int)) = (tot : Int)) := by show _ = _; rw [IntKind.wrap_i64]; omega
  have HQ1 : Hid ((p : Int) + (m : Int) = ((p + m : Nat) : Int)) := by show _ = _; omega
  have k5 : ¬ (r : Int) = (n : Int) := by omega
  have k5n : ¬ r = n := by omega
  have k9 : r ≤ n := by omega
  have k10 : r < c := by omega
  have k12 : (c : Int) < (tot : Int) := by omega
  have q2 : p + m ≤ tot := by omega
  have hbt : tot ≤ 1000000000 := by omega
  have hpt : p ≤ tot := by omega
  have HG0 : Hid (∀ x : World, Below w.heap.size w x → ∃ c' sp' W1, (∀ ty, (Builtin.append_ #[47, 3] ty #[.slice (some ⟨g, 0, none⟩) p c, .int .i64 ((tot : Int) - (p : Int))]).run Tryd.prog x = .ok (.slice (some ⟨x.heap.size, 0, none⟩) tot c') W1) ∧ Blk x.heap.size (L.take p ++ sp') 21 W1 ∧ tot ≤ c' ∧ c' ≤ maxLen ∧ c' ≤ p + sp'.length ∧ Below x.heap.size x W1) := by
    intro x hx
    obtain ⟨c', sp', W1, a1, a2, a3, a4, a5, a6⟩ := run_zeros (c := c) (k := tot - p) (hG.later hx) (i := p) (by omega) (by omega) (by omega) (by omega)
    have e1 : p + (tot - p) = tot := by omega
    have e2 : ((tot - p : Nat) : Int) = (tot : Int) - (p : Int) := by omega
    rw [e1, e2] at a1
    rw [e1] at a3
    exact ⟨c', sp', W1, a1, a2, a3, a4, a5, a6⟩
  clear hG hG2 hX1 hY1 hX hY hL hLX hLd hcY hXl hYl hLl hn hm' hu hv hne hD hDl hD1 hcD hLi hzs hlz hm hs hs2 hm2 htot hu0 hm8
  go_enter Tryd.func26, Tryd.ntmps26
  go_upto_region 9 with fail
  refine wp_region_tail 12 (by kernel_rfl) (fun _ => none) (by kernel_rfl) (by kernel_rfl) (by decide) (fun i v x => match i with
    | 0 => v = .slice (some ⟨g, 0, none⟩) n c
    | 1 => v = .int .i64 (p : Int)
    | 2 => v = (.slice (some ⟨g, 0, none⟩) p c : Value)
    | 3 => v = .int .i64 (p : Int)
    | 4 => v = .slice (some ⟨g2, 0, none⟩) m c2
    | 5 => v = .int .i64 (m : Int)
    | 6 => v = .int .i64 ((p : Int) + (m : Int))
    | 7 => v = .slice (some ⟨g, 0, none⟩) n c
    | 8 => v = .int .i64 (r : Int)
    | 9 => v = (.slice (some ⟨g, r, none⟩) (n - r) (c - r) : Value)
    | 10 => v = .int .i64 ((n - r : Nat) : Int)
    | 11 => v = .int .i64 (tot : Int)
    | _ => True) (fun _ => false) (fun _ _ _ _ h => by cases h) ?_ ?_ ?_
  · intro i v x x' hR hb
    match i, hR with
    | 0, h => exact h
    | 1, h => exact h
    | 2, h => exact h
    | 3, h => exact h
    | 4, h => exact h
    | 5, h => exact h
    | 6, h => exact h
    | 7, h => exact h
    | 8, h => exact h
    | 9, h => exact h
    | 10, h => exact h
    | 11, h => exact h
    | m + 12, h => exact h
  · intro i o hi ho q x vals hX hdep hoth
    have t0 : q.tmps[0]? = some (.slice (some ⟨g, 0, none⟩) n c) := by rw [hoth 0 (by kernel_rfl)]; rfl
    have t1 : q.tmps[1]? = some (.int .i64 (p : Int)) := by rw [hoth 1 (by kernel_rfl)]; rfl
    have t2 : q.tmps[2]? = some (.int .i64 (r : Int)) := by rw [hoth 2 (by kernel_rfl)]; rfl
    have t3 : q.tmps[3]? = some (.slice (some ⟨g2, 0, none⟩) m c2) := by rw [hoth 3 (by kernel_rfl)]; rfl
    match i, hi, ho with
    | 0, _, ho =>
      simp only [List.getElem?_cons_zero, Option.some.injEq] at ho
      subst ho
      unfold Oper.wp
      simp [execOp, go_sem, t0]
      exact came _ rfl (Below.refl _ _) rfl (fun h => absurd h (by decide))
    | 1, _, ho =>
      simp only [List.getElem?_cons_succ, List.getElem?_cons_zero, Option.some.injEq] at ho
      subst ho
      unfold Oper.wp
      simp [execOp, go_sem, t1]
      exact came _ rfl (Below.refl _ _) rfl (fun h => absurd h (by decide))
    | 2, _, ho =>
      simp only [List.getElem?_cons_succ, List.getElem?_cons_zero, Option.some.injEq] at ho
      subst ho
      obtain ⟨u0, e0⟩ := hdep ⟨0, .data⟩ (by simp) rfl _ 45 rfl rfl
      rw [show vals 0 = .slice (some ⟨g, 0, none⟩) n c from e0] at u0
      obtain ⟨u1, e1⟩ := hdep ⟨1, .data⟩ (by simp) rfl _ 46 rfl rfl
      rw [show vals 1 = .int .i64 (p : Int) from e1] at u1
      exact opw_subH (a := some ⟨g, 0, none⟩) (n := n) (c := c) (h := p) _ _ rfl (by simp [Act.eval, u0]) (by simp [Act.eval, u1]) rfl k25 k26 (came _ rfl (Below.refl _ _) rfl (fun h => absurd h (by decide)))
    | 3, _, ho =>
      simp only [List.getElem?_cons_succ, List.getElem?_cons_zero, Option.some.injEq] at ho
      subst ho
      obtain ⟨u2, e2⟩ := hdep ⟨2, .data⟩ (by simp) rfl _ 47 rfl rfl
      rw [show vals 2 = (.slice (some ⟨g, 0, none⟩) p c : Value) from e2] at u2
      unfold Oper.wp
      simp [go_sem, u2]
      exact came _ rfl (Below.refl _ _) rfl (fun h => absurd h (by decide))
    | 4, _, ho =>
      simp only [List.getElem?_cons_succ, List.getElem?_cons_zero, Option.some.injEq] at ho
      subst ho
      unfold Oper.wp
      simp [execOp, go_sem, t3]
      exact came _ rfl (Below.refl _ _) rfl (fun h => absurd h (by decide))
    | 5, _, ho =>
      simp only [List.getElem?_cons_succ, List.getElem?_cons_zero, Option.some.injEq] at ho
      subst ho
      obtain ⟨u4, e4⟩ := hdep ⟨4, .data⟩ (by simp) rfl _ 49 rfl rfl
      rw [show vals 4 = .slice (some ⟨g2, 0, none⟩) m c2 from e4] at u4
      unfold Oper.wp
      simp [go_sem, u4]
      exact came _ rfl (Below.refl _ _) rfl (fun h => absurd h (by decide))
    | 6, _, ho =>
      simp only [List.getElem?_cons_succ, List.getElem?_cons_zero, Option.some.injEq] at ho
      subst ho
      obtain ⟨u3, e3⟩ := hdep ⟨3, .data⟩ (by simp) rfl _ 48 rfl rfl
      rw [show vals 3 = .int .i64 (p : Int) from e3] at u3
      obtain ⟨u5, e5⟩ := hdep ⟨5, .data⟩ (by simp) rfl _ 50 rfl rfl
      rw [show vals 5 = .int .i64 (m : Int) from e5] at u5
      unfold Oper.wp
      simp [execOp, go_sem, u3, u5, HW3.out]
      exact came _ rfl (Below.refl _ _) rfl (fun h => absurd h (by decide))
    | 7, _, ho =>
      simp only [List.getElem?_cons_succ, List.getElem?_cons_zero, Option.some.injEq] at ho
      subst ho
      unfold Oper.wp
      simp [execOp, go_sem, t0]
      exact came _ rfl (Below.refl _ _) rfl (fun h => absurd h (by decide))
    | 8, _, ho =>
      simp only [List.getElem?_cons_succ, List.getElem?_cons_zero, Option.some.injEq] at ho
      subst ho
      unfold Oper.wp
      simp [execOp, go_sem, t2]
      exact came _ rfl (Below.refl _ _) rfl (fun h => absurd h (by decide))
    | 9, _, ho =>
      simp only [List.getElem?_cons_succ, List.getElem?_cons_zero, Option.some.injEq] at ho
      subst ho
      obtain ⟨u7, e7⟩ := hdep ⟨7, .data⟩ (by simp) rfl _ 52 rfl rfl
      rw [show vals 7 = .slice (some ⟨g, 0, none⟩) n c from e7] at u7
      obtain ⟨u8, e8⟩ := hdep ⟨8, .data⟩ (by simp) rfl _ 53 rfl rfl
      rw [show vals 8 = .int .i64 (r : Int) from e8] at u8
      exact opw_subL _ _ rfl (by simp [Act.eval, u7]) (by simp [Act.eval, u8]) rfl k9 k10 (came _ rfl (Below.refl _ _) rfl (fun h => absurd h (by decide)))
    | 10, _, ho =>
      simp only [List.getElem?_cons_succ, List.getElem?_cons_zero, Option.some.injEq] at ho
      subst ho
      obtain ⟨u9, e9⟩ := hdep ⟨9, .data⟩ (by simp) rfl _ 54 rfl rfl
      rw [show vals 9 = (.slice (some ⟨g, r, none⟩) (n - r) (c - r) : Value) from e9] at u9
      unfold Oper.wp
      simp [go_sem, u9]
      exact came _ rfl (Below.refl _ _) rfl (fun h => absurd h (by decide))
    | 11, _, ho =>
      simp only [List.getElem?_cons_succ, List.getElem?_cons_zero, Option.some.injEq] at ho
      subst ho
      obtain ⟨u6, e6⟩ := hdep ⟨6, .data⟩ (by simp) rfl _ 51 rfl rfl
      rw [show vals 6 = .int .i64 ((p : Int) + (m : Int)) from e6] at u6
      obtain ⟨u10, e10⟩ := hdep ⟨10, .data⟩ (by simp) rfl _ 55 rfl rfl
      rw [show vals 10 = .int .i64 ((n - r : Nat) : Int) from e10] at u10
      unfold Oper.wp
      simp [execOp, go_sem, u6, u10, HW4.out]
      exact came _ rfl (Below.refl _ _) rfl (fun h => absurd h (by decide))
    | m + 12, hi, _ => exact absurd hi (by omega)
  · intro vals W0 hX0 hR0 _
    have f11 : vals 11 = .int .i64 (tot : Int) := hR0 11 (by decide)
    have f0 : vals 0 = .slice (some ⟨g, 0, none⟩) n c := hR0 0 (by decide)
    have f1 : vals 1 = .int .i64 (p : Int) := hR0 1 (by decide)
    have f2 : vals 2 = (.slice (some ⟨g, 0, none⟩) p c : Value) := hR0 2 (by decide)
    have f3 : vals 3 = .int .i64 (p : Int) := hR0 3 (by decide)
    have f4 : vals 4 = .slice (some ⟨g2, 0, none⟩) m c2 := hR0 4 (by decide)
    have f5 : vals 5 = .int .i64 (m : Int) := hR0 5 (by decide)
    have f6 : vals 6 = .int .i64 ((p : Int) + (m : Int)) := hR0 6 (by decide)
    have f7 : vals 7 = .slice (some ⟨g, 0, none⟩) n c := hR0 7 (by decide)
    have f8 : vals 8 = .int .i64 (r : Int) := hR0 8 (by decide)
    have f9 : vals 9 = (.slice (some ⟨g, r, none⟩) (n - r) (c - r) : Value) := hR0 9 (by decide)
    have f10 : vals 10 = .int .i64 ((n - r : Nat) : Int) := hR0 10 (by decide)
    simp only [List.drop, List.take, putAll, List.setIfInBounds_toArray, List.set_cons_succ, List.set_cons_zero, f0, f1, f2, f3, f4, f5, f6, f7, f8, f9, f10, f11]
    clear f0 f1 f2 f3 f4 f5 f6 f7 f8 f9 f10 f11 hR0
    have HX0 := hid_of' (And.intro (HV.out.1.later hX0) (And.intro (HV.out.2.1.later hX0) hX0))
    clear hX0
    obtain ⟨c', sp', W1, hz, hB1, hc1, hc2', hc3, hBl⟩ := HG0.out W0 HX0.out.2.2
    obtain ⟨G, hGe⟩ : ∃ G, G = W0.heap.size := ⟨_, rfl⟩
    have k13 : ¬ G = g := by have := HX0.out.1.lt; omega
    have k14 : ¬ G = g2 := by have := HX0.out.2.1.lt; omega
    have hGw : w.heap.size ≤ G := by rw [hGe]; exact HX0.out.2.2.size
    rw [← hGe] at hz hB1
    have k15 : ¬ c' = p := by have := HN.out; omega
    have k11 : p + m < c' := by have := HN.out; omega
    have hlen : (L.take p ++ sp').length = p + sp'.length := by rw [List.length_append, List.length_take]; have := HN.out; omega
    have HF : Hid (Y.length = Nat.min m (tot - p) ∧ p + Y.length ≤ (L.take p ++ sp').length ∧ D.length = Nat.min (n - r) (tot - (p + m)) ∧ p + m + D.length ≤ (splice (L.take p ++ sp') p Y).length) := by
      obtain ⟨n1, n2, n3, n4, n5, n6, n7, n8⟩ := HN.out
      refine ⟨?_, ?_, ?_, ?_⟩
      · simp only [Nat.min_def]; split <;> omega
      · omega
      · simp only [Nat.min_def]; split <;> omega
      · rw [splice_len (by omega)]; omega
    have HB1 := hid_of' (And.intro hB1 (And.intro hBl (And.intro hGw (And.intro hc3 (And.intro hc2' (And.intro hc1 hlen))))))
    have HBy := hid_of' (HX0.out.2.1.later hBl)
    have HBx := hid_of' (HX0.out.1.later hBl)
    clear hB1 hBl hGe hGw hc3 hc2' hc1 hlen HG0
    go_upto_region 12 with (at_builtin; refine Lib.wpList_append_run _ rfl _ _ _ _ rfl _ _ rfl rfl _ _ (hz _) ?_)
    clear hz
    go_upto_region 13 with (refine wpL_copyG rfl (.tmp 70) (.tmp 71) 47 rfl 21 Tryd.underlying47 size_r (p) rfl rfl HB1.out.1 Y HF.out.1 (fun _ => ⟨rfl, _, rfl, fun j u hu => by rw [Addr.add_lit, Nat.zero_add]; exact HBy.out.cell (HV.out.2.2.1 j u hu)⟩) HF.out.2.1 H1.out.2.1 ?_; intro W2 hB2 hg2)
    simp only [Act.put, List.setIfInBounds_toArray, List.set_cons_succ, List.set_cons_zero]
    have HB2 := hid_of' (And.intro hB2 hg2)
    clear hB2 hg2
    refine wp_region_tail 9 (by kernel_rfl) (fun _ => none) (by kernel_rfl) (by kernel_rfl) (by decide) (fun i v x => match i with
      | 0 => v = .slice (some ⟨G, 0, none⟩) tot c'
      | 1 => v = .int .i64 (p : Int)
      | 2 => v = .slice (some ⟨g2, 0, none⟩) m c2
      | 3 => v = .int .i64 (m : Int)
      | 4 => v = .int .i64 ((p : Int) + (m : Int))
      | 5 => v = (.slice (some ⟨G, p + m, none⟩) (tot - (p + m)) (c' - (p + m)) : Value)
      | 6 => v = .slice (some ⟨g, 0, none⟩) n c
      | 7 => v = .int .i64 (r : Int)
      | 8 => v = (.slice (some ⟨g, r, none⟩) (n - r) (c - r) : Value)
      | _ => True) (fun _ => false) (fun _ _ _ _ h => by cases h) ?_ ?_ ?_
    · intro i v x x' hR hb
      match i, hR with
      | 0, h => exact h
      | 1, h => exact h
      | 2, h => exact h
      | 3, h => exact h
      | 4, h => exact h
      | 5, h => exact h
      | 6, h => exact h
      | 7, h => exact h
      | 8, h => exact h
      | m + 9, h => exact h
    · intro i o hi ho q x vals hX hdep hoth
      have t11 : q.tmps[11]? = some (.slice (some ⟨G, 0, none⟩) tot c') := by rw [hoth 11 (by kernel_rfl)]; rfl
      have t1 : q.tmps[1]? = some (.int .i64 (p : Int)) := by rw [hoth 1 (by kernel_rfl)]; rfl
      have t2 : q.tmps[2]? = some (.int .i64 (r : Int)) := by rw [hoth 2 (by kernel_rfl)]; rfl
      have t3 : q.tmps[3]? = some (.slice (some ⟨g2, 0, none⟩) m c2) := by rw [hoth 3 (by kernel_rfl)]; rfl
      have t0 : q.tmps[0]? = some (.slice (some ⟨g, 0, none⟩) n c) := by rw [hoth 0 (by kernel_rfl)]; rfl
      match i, hi, ho with
      | 0, _, ho =>
        simp only [List.getElem?_cons_zero, Option.some.injEq] at ho
        subst ho
        unfold Oper.wp
        simp [execOp, go_sem, t11]
        exact came _ rfl (Below.refl _ _) rfl (fun h => absurd h (by decide))
      | 1, _, ho =>
        simp only [List.getElem?_cons_succ, List.getElem?_cons_zero, Option.some.injEq] at ho
        subst ho
        unfold Oper.wp
        simp [execOp, go_sem, t1]
        exact came _ rfl (Below.refl _ _) rfl (fun h => absurd h (by decide))
      | 2, _, ho =>
        simp only [List.getElem?_cons_succ, List.getElem?_cons_zero, Option.some.injEq] at ho
        subst ho
        unfold Oper.wp
        simp [execOp, go_sem, t3]
        exact came _ rfl (Below.refl _ _) rfl (fun h => absurd h (by decide))
      | 3, _, ho =>
        simp only [List.getElem?_cons_succ, List.getElem?_cons_zero, Option.some.injEq] at ho
        subst ho
        obtain ⟨u2, e2⟩ := hdep ⟨2, .data⟩ (by simp) rfl _ 75 rfl rfl
        rw [show vals 2 = .slice (some ⟨g2, 0, none⟩) m c2 from e2] at u2
        unfold Oper.wp
        simp [go_sem, u2]
        exact came _ rfl (Below.refl _ _) rfl (fun h => absurd h (by decide))
      | 4, _, ho =>
        simp only [List.getElem?_cons_succ, List.getElem?_cons_zero, Option.some.injEq] at ho
        subst ho
        obtain ⟨u1, e1⟩ := hdep ⟨1, .data⟩ (by simp) rfl _ 74 rfl rfl
        rw [show vals 1 = .int .i64 (p : Int) from e1] at u1
        obtain ⟨u3, e3⟩ := hdep ⟨3, .data⟩ (by simp) rfl _ 76 rfl rfl
        rw [show vals 3 = .int .i64 (m : Int) from e3] at u3
        unfold Oper.wp
        simp [execOp, go_sem, u1, u3, HW3.out]
        exact came _ rfl (Below.refl _ _) rfl (fun h => absurd h (by decide))
      | 5, _, ho =>
        simp only [List.getElem?_cons_succ, List.getElem?_cons_zero, Option.some.injEq] at ho
        subst ho
        obtain ⟨u0, e0⟩ := hdep ⟨0, .data⟩ (by simp) rfl _ 73 rfl rfl
        rw [show vals 0 = .slice (some ⟨G, 0, none⟩) tot c' from e0] at u0
        obtain ⟨u4, e4⟩ := hdep ⟨4, .data⟩ (by simp) rfl _ 77 rfl rfl
        rw [show vals 4 = .int .i64 ((p : Int) + (m : Int)) from e4] at u4
        exact opw_subL _ _ rfl (by simp [Act.eval, u0]) (by simp [Act.eval, u4]) HQ1.out q2 k11 (came _ rfl (Below.refl _ _) rfl (fun h => absurd h (by decide)))
      | 6, _, ho =>
        simp only [List.getElem?_cons_succ, List.getElem?_cons_zero, Option.some.injEq] at ho
        subst ho
        unfold Oper.wp
        simp [execOp, go_sem, t0]
        exact came _ rfl (Below.refl _ _) rfl (fun h => absurd h (by decide))
      | 7, _, ho =>
        simp only [List.getElem?_cons_succ, List.getElem?_cons_zero, Option.some.injEq] at ho
        subst ho
        unfold Oper.wp
        simp [execOp, go_sem, t2]
        exact came _ rfl (Below.refl _ _) rfl (fun h => absurd h (by decide))
      | 8, _, ho =>
        simp only [List.getElem?_cons_succ, List.getElem?_cons_zero, Option.some.injEq] at ho
        subst ho
        obtain ⟨u6, e6⟩ := hdep ⟨6, .data⟩ (by simp) rfl _ 79 rfl rfl
        rw [show vals 6 = .slice (some ⟨g, 0, none⟩) n c from e6] at u6
        obtain ⟨u7, e7⟩ := hdep ⟨7, .data⟩ (by simp) rfl _ 80 rfl rfl
        rw [show vals 7 = .int .i64 (r : Int) from e7] at u7
        exact opw_subL _ _ rfl (by simp [Act.eval, u6]) (by simp [Act.eval, u7]) rfl k9 k10 (came _ rfl (Below.refl _ _) rfl (fun h => absurd h (by decide)))
      | m + 9, hi, _ => exact absurd hi (by omega)
    · intro vals W3 hX3 hR3 _
      have f0 : vals 0 = .slice (some ⟨G, 0, none⟩) tot c' := hR3 0 (by decide)
      have f1 : vals 1 = .int .i64 (p : Int) := hR3 1 (by decide)
      have f2 : vals 2 = .slice (some ⟨g2, 0, none⟩) m c2 := hR3 2 (by decide)
      have f3 : vals 3 = .int .i64 (m : Int) := hR3 3 (by decide)
      have f4 : vals 4 = .int .i64 ((p : Int) + (m : Int)) := hR3 4 (by decide)
      have f5 : vals 5 = (.slice (some ⟨G, p + m, none⟩) (tot - (p + m)) (c' - (p + m)) : Value) := hR3 5 (by decide)
      have f6 : vals 6 = .slice (some ⟨g, 0, none⟩) n c := hR3 6 (by decide)
      have f7 : vals 7 = .int .i64 (r : Int) := hR3 7 (by decide)
      have f8 : vals 8 = (.slice (some ⟨g, r, none⟩) (n - r) (c - r) : Value) := hR3 8 (by decide)
      simp only [List.drop, List.take, putAll, List.setIfInBounds_toArray, List.set_cons_succ, List.set_cons_zero, f0, f1, f2, f3, f4, f5, f6, f7, f8]
      clear f0 f1 f2 f3 f4 f5 f6 f7 f8 hR3
      have H3 := hid_of' (And.intro (HB2.out.1.later hX3) (And.intro ((HBx.out.grow HB2.out.2 (fun e => by cases e; exact k13 rfl)).later hX3) hX3))
      clear hX3
      go_wp2_with (refine wpL_copyG rfl (.tmp 78) (.tmp 81) 47 rfl 21 Tryd.underlying47 size_r (p + m) rfl rfl H3.out.1 D HF.out.2.2.1 (fun _ => ⟨rfl, _, rfl, fun j u hu => by rw [Addr.add_lit]; exact H3.out.2.1.cell (HV.out.2.2.2 j u hu)⟩) HF.out.2.2.2 H1.out.2.2 ?_; intro W4 hB4 hg4)
      go_ret
      obtain ⟨b1, b2, b3, b4, b5, b6, b7⟩ := HB1.out
      obtain ⟨n1, n2, n3, n4, n5, n6, n7, n8⟩ := HN.out
      refine ⟨.slice (some ⟨G, 0, none⟩) tot c', rfl, ?_, ?_, fun k hk => .inr (by cases hk; exact b3)⟩
      · rw [← HZ.out.1]
        refine RwR.of hB4 ?_ (by rw [HZ.out.1]; exact b6) b5 ?_
        · rw [HZ.out.1, HZ.out.2.1]
          have := splice_two (L := L.take p ++ sp') (Y := Y) (Z := D) (i := p) (by rw [b7]; omega)
          rw [show p + Y.length + D.length = tot by omega, n2] at this
          rw [this, List.take_append_of_le_length (by rw [List.length_take]; omega), List.take_take, Nat.min_self, HZ.out.2.2]
        · rw [splice_len (by rw [splice_len (by rw [b7]; omega), b7]; omega), splice_len (by rw [b7]; omega), b7]
          exact b4
      · have s1 := HX0.out.2.2
        exact grown_new (grown_later (grown_new (grown_of (bgo s1 b2)) HB2.out.2 b3) H3.out.2.2) hg4 b3

end Go.Proofs.YtaimmjoekahleaaDoor
