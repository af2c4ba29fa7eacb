
/-
  slices.Insert of characters, inside.
-/
import Derived.Test.YtaimmjoekahleaaDoorZa40
import Derived.Test.YtaimmjoekahleaaDoorZa02
namespace Go.Proofs.YtaimmjoekahleaaDoor
open Go.RowKit Go.Extern.Stop Go.Stop Go.Extern
set_option maxRecDepth 100000

set_option maxHeartbeats 8000000 in
theorem insert_grow {w : World} {v u : Value} {xs ys : List Int} (hv : RwR v xs w) (hu : RwR u ys w) (hy : ys ≠ []) (hne : ∀ k, v.ownBlock = some k → ¬ u.ownBlock = some k) {p : Nat} (hi : p < xs.length) (hb : xs.length + ys.length ≤ 1000000000) {a9 : Option Addr} {n9 c9 : Nat} (h9 : v = .slice a9 n9 c9) (hroom : ¬ xs.length + ys.length ≤ c9) :
    Calls Tryd.prog 38 #[v, .int .i64 (p : Int), u] w fun e w' => Rpl w v (xs.take p ++ (ys ++ xs.drop p)) e w' := by
  obtain ⟨g, c, sp, rfl, hG, hc, hm, hs⟩ := hv.blk (by rintro rfl; obtain ⟨_, _, e, _⟩ := hv.form; simp only [Value.slice.injEq] at e; omega)
  obtain ⟨g2, c2, sp2, rfl, hG2, hc2, _, _⟩ := hu.blk (by rintro rfl; obtain ⟨_, _, e, _⟩ := hu.form; simp only [Value.slice.injEq] at e; exact hy (List.eq_nil_of_length_eq_zero e.2.1.symm))
  have hgg : ¬ g = g2 := fun e => hne g rfl (by rw [e]; rfl)
  have hyl := List.length_pos_iff.2 hy
  obtain ⟨X, hX⟩ : ∃ X, X = xs.map (Value.int .i32) := ⟨_, rfl⟩
  obtain ⟨Y, hY⟩ : ∃ Y, Y = ys.map (Value.int .i32) := ⟨_, rfl⟩
  have hX1 : ∀ v ∈ X, v.oneCell' = true := by rw [hX]; exact ints_one xs
  have hY1 : ∀ v ∈ Y, v.oneCell' = true := by rw [hY]; exact ints_one ys
  have hXl : X.length = xs.length := by rw [hX, List.length_map]
  have hYl : Y.length = ys.length := by rw [hY, List.length_map]
  obtain ⟨L, hL⟩ : ∃ L, L = X ++ sp := ⟨_, rfl⟩
  rw [← hX, ← hL] at hG
  rw [← hY] at hG2
  have hLl : L.length = X.length + sp.length := by rw [hL, List.length_append]
  have hLX : ∀ k, k ≤ X.length → L.take k = X.take k := fun k hk => by rw [hL, List.take_append_of_le_length hk]
  have hLd : ∀ (k : Nat) (u : Value), X[k]? = some u → L[k]? = some u := fun k u hu => by rw [hL, List.getElem?_append_left (List.getElem?_eq_some_iff.1 hu).1]; exact hu
  have hcY : ∀ j u, Y[j]? = some u → w.cell? ⟨g2, j, none⟩ = some u := fun j u hu => hG2.cell (by rw [List.getElem?_append_left (List.getElem?_eq_some_iff.1 hu).1]; exact hu)
  obtain ⟨n, hn⟩ : ∃ n, n = xs.length := ⟨_, rfl⟩
  obtain ⟨m, hm'⟩ : ∃ m, m = ys.length := ⟨_, rfl⟩
  rw [← hn] at hXl hc hs hi hb hroom ⊢
  rw [← hm'] at hYl hyl hc2 hb hroom ⊢
  simp only [Value.slice.injEq] at h9
  obtain ⟨ha9, hn9, hc9⟩ := h9
  subst ha9 hc9
  clear hn9
  have hlz : (xs.take p ++ (ys ++ xs.drop p)).length = n + m := by simp only [List.length_append, List.length_take, List.length_drop]; omega
  have hzs : (xs.take p ++ (ys ++ xs.drop p)).map (Value.int .i32) = X.take p ++ (Y ++ X.drop p) := by rw [List.map_append, List.map_append, hX, hY, List.map_take, List.map_drop]
  obtain ⟨D, hD⟩ : ∃ D, D = X.drop p := ⟨_, rfl⟩
  have hDl : D.length = n - p := by rw [hD, List.length_drop, hXl]
  have hD1 : ∀ v ∈ D, v.oneCell' = true := fun v hv => hX1 v (by rw [hD] at hv; exact List.mem_of_mem_drop hv)
  have hcD : ∀ j u, D[j]? = some u → L[p + j]? = some u := fun j u hu => hLd _ _ (by rw [hD, List.getElem?_drop] at hu; exact hu)
  have hLi : L.take p = X.take p := hLX p (by omega)
  rw [← hD] at hzs
  have HZ := hid_of' (And.intro hlz (And.intro hzs hLi))
  have HV := hid_of' (And.intro hG (And.intro hG2 (And.intro hcY hcD)))
  have H1 := hid_of' (And.intro hX1 (And.intro hY1 hD1))
  have HN := hid_of' (And.intro hXl (And.intro hYl (And.intro hLl (And.intro hDl (And.intro hs (And.intro hm hb))))))
  unfold maxLen at hm
  have k1 : (0 : Int) ≤ (p : Int) := by omega
  have k2 : (p : Int) ≤ (n : Int) := by omega
  have k3 : (n : Int) ≤ (c : Int) := by omega
  have k4 : ¬ c = p := by omega
  have k5 : ¬ (m : Int) = 0 := by omega
  have k6 : ¬ (p : Int) = (n : Int) := by omega
  have k5n : ¬ m = 0 := by omega
  have k6n : ¬ p = n := by omega
  have k7 : p ≤ n := by omega
  have k8 : p < c := by omega
  have k24 : (p : Int) ≤ (c : Int) := by omega
  have HW3 : Hid (IntKind.i64.wrap ((p : Int) + (m : Int)) = (p : Int) + (m : Int)) := by show _ = _; rw [IntKind.wrap_i64]; omega
  have HQ1 : Hid ((p : Int) + (m : Int) = ((p + m : Nat) : Int)) := by show _ = _; omega
  have q2 : p + m ≤ n + m := by omega
  obtain ⟨c', sp', W1, hz, hB1, hc1, hc2', hc3, hBl⟩ := run_zeros (c := c) (k := n + m - p) hG (i := p) (by omega) (by omega) (by omega) (by omega)
  have e1 : p + (n + m - p) = n + m := by omega
  have e2 : ((n + m - p : Nat) : Int) = (n : Int) + (m : Int) - (p : Int) := by omega
  rw [e1, e2] at hz
  rw [e1] at hc1
  obtain ⟨G, hGe⟩ : ∃ G, G = w.heap.size := ⟨_, rfl⟩
  have hgl := hG.lt
  have hgl2 := hG2.lt
  rw [← hGe] at hz hB1 hgl hgl2
  have HB1 := hid_of' (And.intro hB1 (And.intro hBl (And.intro hGe (And.intro hc3 (And.intro hc2' hc1)))))
  have k9 : ¬ c' = p := by omega
  have k10 : p < c' := by omega
  have k11 : p + m < c' := by omega
  have k12 : (c : Int) < (n : Int) + (m : Int) := by omega
  have k13 : ¬ G = g := by omega
  have k14 : ¬ G = g2 := by omega
  have hlen : (L.take p ++ sp').length = p + sp'.length := by rw [List.length_append, List.length_take]; omega
  have HF : Hid (Y.length = Nat.min m (n + m - p) ∧ p + Y.length ≤ (L.take p ++ sp').length ∧ D.length = Nat.min (n - p) (n + m - (p + m)) ∧ p + m + D.length ≤ (splice (L.take p ++ sp') p Y).length) := by
    refine ⟨?_, ?_, ?_, ?_⟩
    · simp only [Nat.min_def]; split <;> omega
    · omega
    · simp only [Nat.min_def]; split <;> omega
    · rw [splice_len (by omega)]; omega
  clear hG hG2 hX1 hY1 hX hY hL hLX hLd hcY hXl hYl hLl hn hm' hu hv hne hD hDl hD1 hcD hLi hzs hlz hy e1 e2 hB1 hBl hGe hc3 hc2' hc1 hm hs hgl hgl2 hlen
  go_enter Tryd.func38, Tryd.ntmps38
  go_upto_region 8 with fail
  go_upto_region 10 with (at_builtin; refine Lib.wpList_append_run _ rfl _ _ _ _ rfl _ _ rfl rfl _ _ (hz _) ?_)
  go_upto_region 11 with (refine wpL_copyG rfl (.tmp 43) (.tmp 44) 47 rfl 21 Tryd.underlying47 size_r p rfl rfl HB1.out.1 Y HF.out.1 (fun _ => ⟨rfl, _, rfl, fun j u hu => by rw [Addr.add_lit, Nat.zero_add, HB1.out.2.1.cell (p := ⟨g2, j, none⟩) HV.out.2.1.lt]; exact HV.out.2.2.1 j u hu⟩) HF.out.2.1 H1.out.2.1 ?_; intro W2 hB2 hg2)
  simp only [Act.put, List.setIfInBounds_toArray, List.set_cons_succ, List.set_cons_zero]
  have HB2 := hid_of' (And.intro hB2 hg2)
  clear hB2 hg2 hz
  refine wp_region_tail 8 (by kernel_rfl) (fun _ => none) (by kernel_rfl) (by kernel_rfl) (by decide) (fun i v x => match i with
    | 0 => v = .slice (some ⟨G, 0, none⟩) (n + m) c'
    | 1 => v = .int .i64 (p : Int)
    | 2 => v = .int .i64 (m : Int)
    | 3 => v = .int .i64 ((p : Int) + (m : Int))
    | 4 => v = (.slice (some ⟨G, p + m, none⟩) (n + m - (p + m)) (c' - (p + m)) : Value)
    | 5 => v = .slice (some ⟨g, 0, none⟩) n c
    | 6 => v = .int .i64 (p : Int)
    | 7 => v = (.slice (some ⟨g, p, none⟩) (n - p) (c - p) : Value)
    | _ => True) (fun _ => false) (fun _ _ _ _ h => by cases h) ?_ ?_ ?_
  · intro i v x x' hR hb
    match i, hR with
    | 0, h => exact h
    | 1, h => exact h
    | 2, h => exact h
    | 3, h => exact h
    | 4, h => exact h
    | 5, h => exact h
    | 6, h => exact h
    | 7, h => exact h
    | m + 8, h => exact h
  · intro i o hi ho q x vals hX hdep hoth
    have t9 : q.tmps[9]? = some (.slice (some ⟨G, 0, none⟩) (n + m) c') := by rw [hoth 9 (by kernel_rfl)]; rfl
    have t1 : q.tmps[1]? = some (.int .i64 (p : Int)) := by rw [hoth 1 (by kernel_rfl)]; rfl
    have t7 : q.tmps[7]? = some (.int .i64 (m : Int)) := by rw [hoth 7 (by kernel_rfl)]; rfl
    have t0 : q.tmps[0]? = some (.slice (some ⟨g, 0, none⟩) n c) := by rw [hoth 0 (by kernel_rfl)]; rfl
    match i, hi, ho with
    | 0, _, ho =>
      simp only [List.getElem?_cons_zero, Option.some.injEq] at ho
      subst ho
      unfold Oper.wp
      simp [execOp, go_sem, t9]
      exact came _ rfl (Below.refl _ _) rfl (fun h => absurd h (by decide))
    | 1, _, ho =>
      simp only [List.getElem?_cons_succ, List.getElem?_cons_zero, Option.some.injEq] at ho
      subst ho
      unfold Oper.wp
      simp [execOp, go_sem, t1]
      exact came _ rfl (Below.refl _ _) rfl (fun h => absurd h (by decide))
    | 2, _, ho =>
      simp only [List.getElem?_cons_succ, List.getElem?_cons_zero, Option.some.injEq] at ho
      subst ho
      unfold Oper.wp
      simp [execOp, go_sem, t7]
      exact came _ rfl (Below.refl _ _) rfl (fun h => absurd h (by decide))
    | 3, _, ho =>
      simp only [List.getElem?_cons_succ, List.getElem?_cons_zero, Option.some.injEq] at ho
      subst ho
      obtain ⟨u1, e1⟩ := hdep ⟨1, .data⟩ (by simp) rfl _ 47 rfl rfl
      rw [show vals 1 = .int .i64 (p : Int) from e1] at u1
      obtain ⟨u2, e2⟩ := hdep ⟨2, .data⟩ (by simp) rfl _ 48 rfl rfl
      rw [show vals 2 = .int .i64 (m : Int) from e2] at u2
      unfold Oper.wp
      simp [execOp, go_sem, u1, u2, HW3.out]
      exact came _ rfl (Below.refl _ _) rfl (fun h => absurd h (by decide))
    | 4, _, ho =>
      simp only [List.getElem?_cons_succ, List.getElem?_cons_zero, Option.some.injEq] at ho
      subst ho
      obtain ⟨u0, e0⟩ := hdep ⟨0, .data⟩ (by simp) rfl _ 46 rfl rfl
      rw [show vals 0 = .slice (some ⟨G, 0, none⟩) (n + m) c' from e0] at u0
      obtain ⟨u3, e3⟩ := hdep ⟨3, .data⟩ (by simp) rfl _ 49 rfl rfl
      rw [show vals 3 = .int .i64 ((p : Int) + (m : Int)) from e3] at u3
      exact opw_subL _ _ rfl (by simp [Act.eval, u0]) (by simp [Act.eval, u3]) HQ1.out q2 k11 (came _ rfl (Below.refl _ _) rfl (fun h => absurd h (by decide)))
    | 5, _, ho =>
      simp only [List.getElem?_cons_succ, List.getElem?_cons_zero, Option.some.injEq] at ho
      subst ho
      unfold Oper.wp
      simp [execOp, go_sem, t0]
      exact came _ rfl (Below.refl _ _) rfl (fun h => absurd h (by decide))
    | 6, _, ho =>
      simp only [List.getElem?_cons_succ, List.getElem?_cons_zero, Option.some.injEq] at ho
      subst ho
      unfold Oper.wp
      simp [execOp, go_sem, t1]
      exact came _ rfl (Below.refl _ _) rfl (fun h => absurd h (by decide))
    | 7, _, ho =>
      simp only [List.getElem?_cons_succ, List.getElem?_cons_zero, Option.some.injEq] at ho
      subst ho
      obtain ⟨u5, e5⟩ := hdep ⟨5, .data⟩ (by simp) rfl _ 51 rfl rfl
      rw [show vals 5 = .slice (some ⟨g, 0, none⟩) n c from e5] at u5
      obtain ⟨u6, e6⟩ := hdep ⟨6, .data⟩ (by simp) rfl _ 52 rfl rfl
      rw [show vals 6 = .int .i64 (p : Int) from e6] at u6
      exact opw_subL _ _ rfl (by simp [Act.eval, u5]) (by simp [Act.eval, u6]) rfl k7 k8 (came _ rfl (Below.refl _ _) rfl (fun h => absurd h (by decide)))
    | m + 8, hi, _ => exact absurd hi (by omega)
  · intro vals W3 hX hR _
    have f4 : vals 4 = .slice (some ⟨G, p + m, none⟩) (n + m - (p + m)) (c' - (p + m)) := hR 4 (by decide)
    have f7 : vals 7 = .slice (some ⟨g, p, none⟩) (n - p) (c - p) := hR 7 (by decide)
    simp only [List.drop, List.take, putAll, List.setIfInBounds_toArray, List.set_cons_succ, List.set_cons_zero, f4, f7]
    clear f4 f7 hR
    have h3 := HB2.out.1.later hX
    have hg3 : Blk g L 21 W3 := ((HV.out.1.later HB1.out.2.1).grow HB2.out.2 (fun e => by cases e; exact k13 rfl)).later hX
    have H3 := hid_of' (And.intro h3 (And.intro hg3 hX))
    clear h3 hg3 hX
    go_wp2_with (refine wpL_copyG rfl (.tmp 50) (.tmp 53) 47 rfl 21 Tryd.underlying47 size_r (p + m) rfl rfl H3.out.1 D HF.out.2.2.1 (fun _ => ⟨rfl, _, rfl, fun j u hu => by rw [Addr.add_lit]; exact H3.out.2.1.cell (HV.out.2.2.2 j u hu)⟩) HF.out.2.2.2 H1.out.2.2 ?_; intro W4 hB4 hg4)
    go_ret
    obtain ⟨b1, b2, b3, b4, b5, b6⟩ := HB1.out
    obtain ⟨n1, n2, n3, n4, n5, n6, n7⟩ := HN.out
    have hlen : (L.take p ++ sp').length = p + sp'.length := by rw [List.length_append, List.length_take]; omega
    refine ⟨.slice (some ⟨G, 0, none⟩) (n + m) c', rfl, ?_, ?_, fun k hk => .inr (by cases hk; rw [b3]; exact Nat.le_refl _)⟩
    · rw [← HZ.out.1]
      refine RwR.of hB4 ?_ (by rw [HZ.out.1]; exact b6) b5 ?_
      · rw [HZ.out.1, HZ.out.2.1]
        have := splice_two (L := L.take p ++ sp') (Y := Y) (Z := D) (i := p) (by rw [hlen]; omega)
        rw [show p + Y.length + D.length = n + m by omega, n2] at this
        rw [this, List.take_append_of_le_length (by rw [List.length_take]; omega), List.take_take, Nat.min_self, HZ.out.2.2]
      · rw [splice_len (by rw [splice_len (by rw [hlen]; omega), hlen]; omega), splice_len (by rw [hlen]; omega), hlen]
        exact b4
    · exact grown_new (grown_later (grown_new (grown_of b2) HB2.out.2 (by omega)) H3.out.2.2) hg4 (by omega)

set_option maxHeartbeats 8000000 in
theorem insert_shift {w : World} {v u : Value} {xs ys : List Int} (hv : RwR v xs w) (hu : RwR u ys w) (hy : ys ≠ []) (hne : ∀ k, v.ownBlock = some k → ¬ u.ownBlock = some k) {p : Nat} (hi : p < xs.length) (hb : xs.length + ys.length ≤ 1000000000) {a9 : Option Addr} {n9 c9 : Nat} (h9 : v = .slice a9 n9 c9) (hroom : xs.length + ys.length ≤ c9) :
    Calls Tryd.prog 38 #[v, .int .i64 (p : Int), u] w fun e w' => Rpl w v (xs.take p ++ (ys ++ xs.drop p)) e w' := by
  obtain ⟨g, c, sp, rfl, hG, hc, hm, hs⟩ := hv.blk (by rintro rfl; obtain ⟨_, _, e, _⟩ := hv.form; simp only [Value.slice.injEq] at e; omega)
  obtain ⟨g2, c2, sp2, rfl, hG2, hc2, _, _⟩ := hu.blk (by rintro rfl; obtain ⟨_, _, e, _⟩ := hu.form; simp only [Value.slice.injEq] at e; exact hy (List.eq_nil_of_length_eq_zero e.2.1.symm))
  have hgg : ¬ g = g2 := fun e => hne g rfl (by rw [e]; rfl)
  have hyl := List.length_pos_iff.2 hy
  obtain ⟨X, hX⟩ : ∃ X, X = xs.map (Value.int .i32) := ⟨_, rfl⟩
  obtain ⟨Y, hY⟩ : ∃ Y, Y = ys.map (Value.int .i32) := ⟨_, rfl⟩
  have hX1 : ∀ v ∈ X, v.oneCell' = true := by rw [hX]; exact ints_one xs
  have hY1 : ∀ v ∈ Y, v.oneCell' = true := by rw [hY]; exact ints_one ys
  have hXl : X.length = xs.length := by rw [hX, List.length_map]
  have hYl : Y.length = ys.length := by rw [hY, List.length_map]
  obtain ⟨L, hL⟩ : ∃ L, L = X ++ sp := ⟨_, rfl⟩
  rw [← hX, ← hL] at hG
  rw [← hY] at hG2
  have hLl : L.length = X.length + sp.length := by rw [hL, List.length_append]
  have hLX : ∀ k, k ≤ X.length → L.take k = X.take k := fun k hk => by rw [hL, List.take_append_of_le_length hk]
  have hLd : ∀ (k : Nat) (u : Value), X[k]? = some u → L[k]? = some u := fun k u hu => by rw [hL, List.getElem?_append_left (List.getElem?_eq_some_iff.1 hu).1]; exact hu
  have hcY : ∀ j u, Y[j]? = some u → w.cell? ⟨g2, j, none⟩ = some u := fun j u hu => hG2.cell (by rw [List.getElem?_append_left (List.getElem?_eq_some_iff.1 hu).1]; exact hu)
  obtain ⟨n, hn⟩ : ∃ n, n = xs.length := ⟨_, rfl⟩
  obtain ⟨m, hm'⟩ : ∃ m, m = ys.length := ⟨_, rfl⟩
  rw [← hn] at hXl hc hs hi hb hroom ⊢
  rw [← hm'] at hYl hyl hc2 hb hroom ⊢
  simp only [Value.slice.injEq] at h9
  obtain ⟨ha9, hn9, hc9⟩ := h9
  subst ha9 hc9
  clear hn9
  have hlz : (xs.take p ++ (ys ++ xs.drop p)).length = n + m := by simp only [List.length_append, List.length_take, List.length_drop]; omega
  have hzs : (xs.take p ++ (ys ++ xs.drop p)).map (Value.int .i32) = X.take p ++ (Y ++ X.drop p) := by rw [List.map_append, List.map_append, hX, hY, List.map_take, List.map_drop]
  obtain ⟨D, hD⟩ : ∃ D, D = X.drop p := ⟨_, rfl⟩
  have hDl : D.length = n - p := by rw [hD, List.length_drop, hXl]
  have hD1 : ∀ v ∈ D, v.oneCell' = true := fun v hv => hX1 v (by rw [hD] at hv; exact List.mem_of_mem_drop hv)
  have hcD : ∀ j u, D[j]? = some u → L[p + j]? = some u := fun j u hu => hLd _ _ (by rw [hD, List.getElem?_drop] at hu; exact hu)
  have hLi : L.take p = X.take p := hLX p (by omega)
  rw [← hD] at hzs
  have HZ := hid_of' (And.intro hlz (And.intro hzs hLi))
  have HV := hid_of' (And.intro hG (And.intro hG2 (And.intro hcY hcD)))
  have H1 := hid_of' (And.intro hX1 (And.intro hY1 hD1))
  have HN := hid_of' (And.intro hXl (And.intro hYl (And.intro hLl (And.intro hDl (And.intro hs (And.intro hm hb))))))
  unfold maxLen at hm
  have k1 : (0 : Int) ≤ (p : Int) := by omega
  have k2 : (p : Int) ≤ (n : Int) := by omega
  have k3 : (n : Int) ≤ (c : Int) := by omega
  have k4 : ¬ c = p := by omega
  have k5 : ¬ (m : Int) = 0 := by omega
  have k6 : ¬ (p : Int) = (n : Int) := by omega
  have k5n : ¬ m = 0 := by omega
  have k6n : ¬ p = n := by omega
  have k7 : p ≤ n := by omega
  have k8 : p < c := by omega
  have k24 : (p : Int) ≤ (c : Int) := by omega
  have HW3 : Hid (IntKind.i64.wrap ((p : Int) + (m : Int)) = (p : Int) + (m : Int)) := by show _ = _; rw [IntKind.wrap_i64]; omega
  have HQ1 : Hid ((p : Int) + (m : Int) = ((p + m : Nat) : Int)) := by show _ = _; omega
  have q2 : p + m ≤ n + m := by omega
  have k11 : p + m < c := by omega
  have k12 : ¬ (c : Int) < (n : Int) + (m : Int) := by omega
  have k15 : (n : Int) + (m : Int) ≤ (c : Int) := by omega
  have k16 : (0 : Int) ≤ (n : Int) + (m : Int) := by omega
  have k17 : ((n : Int) + (m : Int)).toNat = n + m := by omega
  have k18 : ¬ c = 0 := by omega
  have k19 : ¬ c = p + m := by omega
  have k20 : ((p : Int) + (m : Int)).toNat = p + m := by omega
  have k21 : (0 : Int) ≤ (p : Int) + (m : Int) := by omega
  have k22 : (p : Int) ≤ (n : Int) + (m : Int) := by omega
  have k23 : p ≤ n + m := by omega
  have HF : Hid (D.length = Nat.min (n + m - p) (n + m - (p + m)) ∧ p + m + D.length ≤ L.length ∧ Y.length = Nat.min m (n + m - p) ∧ p + Y.length ≤ (splice L (p + m) D).length) := by
    refine ⟨?_, ?_, ?_, ?_⟩
    · simp only [Nat.min_def]; split <;> omega
    · omega
    · simp only [Nat.min_def]; split <;> omega
    · rw [splice_len (by omega)]; omega
  have hov := fun lb cb => overlaps_no (w := w) hG2 hG (fun e => hgg e.symm) (by omega) 0 (p + m) m c2 lb cb
  clear hG hG2 hX1 hY1 hX hY hL hLX hLd hcY hXl hYl hLl hn hm' hu hv hne hD hDl hD1 hcD hLi hzs hlz hy hm hs
  go_enter Tryd.func38, Tryd.ntmps38
  go_upto_region 8 with fail
  go_upto_region 15 with (simp only [hov])
  clear hov
  refine wp_region_tail 8 (by kernel_rfl) (fun _ => none) (by kernel_rfl) (by kernel_rfl) (by decide) (fun i v x => match i with
    | 0 => v = .slice (some ⟨g, 0, none⟩) (n + m) c
    | 1 => v = .int .i64 (p : Int)
    | 2 => v = .int .i64 (m : Int)
    | 3 => v = .int .i64 ((p : Int) + (m : Int))
    | 4 => v = (.slice (some ⟨g, p + m, none⟩) (n + m - (p + m)) (c - (p + m)) : Value)
    | 5 => v = .slice (some ⟨g, 0, none⟩) (n + m) c
    | 6 => v = .int .i64 (p : Int)
    | 7 => v = (.slice (some ⟨g, p, none⟩) (n + m - p) (c - p) : Value)
    | _ => True) (fun _ => false) (fun _ _ _ _ h => by cases h) ?_ ?_ ?_
  · intro i v x x' hR hb
    match i, hR with
    | 0, h => exact h
    | 1, h => exact h
    | 2, h => exact h
    | 3, h => exact h
    | 4, h => exact h
    | 5, h => exact h
    | 6, h => exact h
    | 7, h => exact h
    | m + 8, h => exact h
  · intro i o hi ho q x vals hX hdep hoth
    have t1 : q.tmps[1]? = some (.int .i64 (p : Int)) := by rw [hoth 1 (by kernel_rfl)]; rfl
    have t7 : q.tmps[7]? = some (.int .i64 (m : Int)) := by rw [hoth 7 (by kernel_rfl)]; rfl
    have t0 : q.tmps[0]? = some (.slice (some ⟨g, 0, none⟩) (n + m) c) := by rw [hoth 0 (by kernel_rfl)]; rfl
    match i, hi, ho with
    | 0, _, ho =>
      simp only [List.getElem?_cons_zero, Option.some.injEq] at ho
      subst ho
      unfold Oper.wp
      simp [execOp, go_sem, t0]
      exact came _ rfl (Below.refl _ _) rfl (fun h => absurd h (by decide))
    | 1, _, ho =>
      simp only [List.getElem?_cons_succ, List.getElem?_cons_zero, Option.some.injEq] at ho
      subst ho
      unfold Oper.wp
      simp [execOp, go_sem, t1]
      exact came _ rfl (Below.refl _ _) rfl (fun h => absurd h (by decide))
    | 2, _, ho =>
      simp only [List.getElem?_cons_succ, List.getElem?_cons_zero, Option.some.injEq] at ho
      subst ho
      unfold Oper.wp
      simp [execOp, go_sem, t7]
      exact came _ rfl (Below.refl _ _) rfl (fun h => absurd h (by decide))
    | 3, _, ho =>
      simp only [List.getElem?_cons_succ, List.getElem?_cons_zero, Option.some.injEq] at ho
      subst ho
      obtain ⟨u1, e1⟩ := hdep ⟨1, .data⟩ (by simp) rfl _ 70 rfl rfl
      rw [show vals 1 = .int .i64 (p : Int) from e1] at u1
      obtain ⟨u2, e2⟩ := hdep ⟨2, .data⟩ (by simp) rfl _ 71 rfl rfl
      rw [show vals 2 = .int .i64 (m : Int) from e2] at u2
      unfold Oper.wp
      simp [execOp, go_sem, u1, u2, HW3.out]
      exact came _ rfl (Below.refl _ _) rfl (fun h => absurd h (by decide))
    | 4, _, ho =>
      simp only [List.getElem?_cons_succ, List.getElem?_cons_zero, Option.some.injEq] at ho
      subst ho
      obtain ⟨u0, e0⟩ := hdep ⟨0, .data⟩ (by simp) rfl _ 69 rfl rfl
      rw [show vals 0 = .slice (some ⟨g, 0, none⟩) (n + m) c from e0] at u0
      obtain ⟨u3, e3⟩ := hdep ⟨3, .data⟩ (by simp) rfl _ 72 rfl rfl
      rw [show vals 3 = .int .i64 ((p : Int) + (m : Int)) from e3] at u3
      exact opw_subL _ _ rfl (by simp [Act.eval, u0]) (by simp [Act.eval, u3]) HQ1.out q2 k11 (came _ rfl (Below.refl _ _) rfl (fun h => absurd h (by decide)))
    | 5, _, ho =>
      simp only [List.getElem?_cons_succ, List.getElem?_cons_zero, Option.some.injEq] at ho
      subst ho
      unfold Oper.wp
      simp [execOp, go_sem, t0]
      exact came _ rfl (Below.refl _ _) rfl (fun h => absurd h (by decide))
    | 6, _, ho =>
      simp only [List.getElem?_cons_succ, List.getElem?_cons_zero, Option.some.injEq] at ho
      subst ho
      unfold Oper.wp
      simp [execOp, go_sem, t1]
      exact came _ rfl (Below.refl _ _) rfl (fun h => absurd h (by decide))
    | 7, _, ho =>
      simp only [List.getElem?_cons_succ, List.getElem?_cons_zero, Option.some.injEq] at ho
      subst ho
      obtain ⟨u5, e5⟩ := hdep ⟨5, .data⟩ (by simp) rfl _ 74 rfl rfl
      rw [show vals 5 = .slice (some ⟨g, 0, none⟩) (n + m) c from e5] at u5
      obtain ⟨u6, e6⟩ := hdep ⟨6, .data⟩ (by simp) rfl _ 75 rfl rfl
      rw [show vals 6 = .int .i64 (p : Int) from e6] at u6
      exact opw_subL _ _ rfl (by simp [Act.eval, u5]) (by simp [Act.eval, u6]) rfl k23 k8 (came _ rfl (Below.refl _ _) rfl (fun h => absurd h (by decide)))
    | m + 8, hi, _ => exact absurd hi (by omega)
  · intro vals W3 hX hR _
    have f4 : vals 4 = .slice (some ⟨g, p + m, none⟩) (n + m - (p + m)) (c - (p + m)) := hR 4 (by decide)
    have f7 : vals 7 = .slice (some ⟨g, p, none⟩) (n + m - p) (c - p) := hR 7 (by decide)
    simp only [List.drop, List.take, putAll, List.setIfInBounds_toArray, List.set_cons_succ, List.set_cons_zero, f4, f7]
    clear f4 f7 hR
    have hg3 : Blk g L 21 W3 := HV.out.1.later hX
    have hg4 : Blk g2 (Y ++ sp2) 21 W3 := HV.out.2.1.later hX
    have H3 := hid_of' (And.intro hg3 (And.intro hg4 hX))
    clear hg3 hg4 hX
    go_upto_region 16 with (refine wpL_copyG rfl (.tmp 73) (.tmp 76) 47 rfl 21 Tryd.underlying47 size_r (p + m) rfl rfl H3.out.1 D HF.out.1 (fun _ => ⟨rfl, _, rfl, fun j u hu => by rw [Addr.add_lit]; exact H3.out.1.cell (HV.out.2.2.2 j u hu)⟩) HF.out.2.1 H1.out.2.2 ?_; intro W4 hB4 hg4)
    have H4 := hid_of' (And.intro hB4 (And.intro (H3.out.2.1.grow hg4 (fun e => by cases e; exact hgg rfl)) hg4))
    clear hB4 hg4
    go_wp2_with (refine wpL_copyG rfl (.tmp 80) (.tmp 81) 47 rfl 21 Tryd.underlying47 size_r p rfl rfl H4.out.1 Y HF.out.2.2.1 (fun _ => ⟨rfl, _, rfl, fun j u hu => by rw [Addr.add_lit, Nat.zero_add]; exact H4.out.2.1.cell (by rw [List.getElem?_append_left (List.getElem?_eq_some_iff.1 hu).1]; exact hu)⟩) HF.out.2.2.2 H1.out.2.1 ?_; intro W5 hB5 hg5)
    go_ret
    obtain ⟨n1, n2, n3, n4, n5, n6, n7⟩ := HN.out
    refine ⟨_, rfl, ?_, grown_trans (grown_later (grown_of H3.out.2.2) (Below.refl _ _) |> fun h => grown_trans h H4.out.2.2) hg5, fun k hk => .inl hk⟩
    rw [← HZ.out.1]
    refine RwR.of hB5 ?_ (by rw [HZ.out.1]; omega) n6 ?_
    · rw [HZ.out.1, HZ.out.2.1]
      have := splice_back (L := L) (Y := Y) (Z := D) (i := p) (by omega)
      rw [show p + Y.length + D.length = n + m by omega, n2] at this
      rw [this, HZ.out.2.2]
    · rw [splice_len (by rw [splice_len (by omega)]; omega), splice_len (by omega)]
      omega

/-- slices.Insert of characters. -/
theorem insert_ok {w : World} {v u : Value} {xs ys : List Int} (hv : RwR v xs w) (hu : RwR u ys w) (hne : ∀ k, v.ownBlock = some k → ¬ u.ownBlock = some k) {i : Nat} (hi : i ≤ xs.length) (hb : xs.length + ys.length ≤ 1000000000) :
    Calls Tryd.prog 38 #[v, .int .i64 (i : Int), u] w fun e w' => Rpl w v (xs.take i ++ (ys ++ xs.drop i)) e w' := by
  by_cases hy : ys = []
  · subst hy
    rw [List.nil_append, List.take_append_drop]
    exact insert_none hv hu hi
  · by_cases he : i = xs.length
    · subst he
      rw [List.take_length, List.drop_length, List.append_nil]
      exact insert_end hv hu hy hb
    · obtain ⟨a, c, hf, _⟩ := hv.form
      by_cases hr : xs.length + ys.length ≤ c
      · exact insert_shift hv hu hy hne (by omega) hb hf hr
      · exact insert_grow hv hu hy hne (by omega) hb hf hr
end Go.Proofs.YtaimmjoekahleaaDoor
