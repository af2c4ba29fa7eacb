
/-
  slices.Replace of characters.
-/
import Derived.Test.YtaimmjoekahleaaDoorZa41
namespace Go.Proofs.YtaimmjoekahleaaDoor
open Go.RowKit Go.Extern.Stop Go.Stop Go.Extern
set_option maxRecDepth 100000

set_option maxHeartbeats 4000000 in
theorem replace_ins {w : World} {v u : Value} {xs ys : List Int} (hv : RwR v xs w) (hu : RwR u ys w) (hne : ∀ k, v.ownBlock = some k → ¬ u.ownBlock = some k) {p : Nat} (hi : p ≤ xs.length) (hb : xs.length + ys.length ≤ 1000000000) :
    Calls Tryd.prog 26 #[v, .int .i64 (p : Int), .int .i64 (p : Int), u] w fun e w' => Rpl w v (xs.take p ++ (ys ++ xs.drop p)) e w' := by
  have HI := hid_of' (insert_ok hv hu hne hi hb)
  obtain ⟨a, c, rfl, hc, hm⟩ := hv.form
  obtain ⟨a2, c2, rfl, _⟩ := hu.form
  obtain ⟨n, hn⟩ : ∃ n, n = xs.length := ⟨_, rfl⟩
  obtain ⟨m, hm'⟩ : ∃ m, m = ys.length := ⟨_, rfl⟩
  rw [← hn] at hi hb hc HI ⊢
  rw [← hm'] at hb HI ⊢
  unfold maxLen at hm
  clear hv hu hn hm' hne
  have k1 : (0 : Int) ≤ (p : Int) := by omega
  have k2 : (p : Int) ≤ (c : Int) := by omega
  by_cases hci : c = p
  · subst hci
    go_enter Tryd.func26, Tryd.ntmps26
    go_wp2_with (go_at_call 38; (with_reducible refine HI.out.mono ?_); rintro e w1 ⟨v1, rfl, q1, q2, q3⟩; have HQ := hid_of' (And.intro q1 (And.intro q2 q3)); clear q1 q2 q3)
    go_ret
    exact ⟨_, rfl, HQ.out.1, HQ.out.2.1, HQ.out.2.2⟩
  · go_enter Tryd.func26, Tryd.ntmps26
    go_wp2_with (go_at_call 38; (with_reducible refine HI.out.mono ?_); rintro e w1 ⟨v1, rfl, q1, q2, q3⟩; have HQ := hid_of' (And.intro q1 (And.intro q2 q3)); clear q1 q2 q3)
    go_ret
    exact ⟨_, rfl, HQ.out.1, HQ.out.2.1, HQ.out.2.2⟩

set_option maxHeartbeats 8000000 in
theorem replace_endc {w : World} {v u : Value} {xs ys : List Int} (hv : RwR v xs w) (hu : RwR u ys w) (hu0 : ¬ u = .slice none 0 0) (hne : ∀ k, v.ownBlock = some k → ¬ u.ownBlock = some k) {p r : Nat} (hpr : p < r) (hrn : r = xs.length) (hb : xs.length + ys.length ≤ 1000000000) {a9 : Option Addr} {n9 c9 : Nat} (h9 : v = .slice a9 n9 c9) (hroom : p + ys.length < xs.length) :
    Calls Tryd.prog 26 #[v, .int .i64 (p : Int), .int .i64 (r : Int), u] w fun e w' => Rpl w v (xs.take p ++ (ys ++ xs.drop r)) e w' := by
  obtain ⟨g, c, sp, rfl, hG, hc, hm, hs⟩ := hv.blk (by rintro rfl; obtain ⟨_, _, e, _⟩ := hv.form; simp only [Value.slice.injEq] at e; omega)
  obtain ⟨g2, c2, sp2, rfl, hG2, hc2, hm2, hs2⟩ := hu.blk hu0
  have hgg : ¬ g = g2 := fun e => hne g rfl (by rw [e]; rfl)
  obtain ⟨X, hX⟩ : ∃ X, X = xs.map (Value.int .i32) := ⟨_, rfl⟩
  obtain ⟨Y, hY⟩ : ∃ Y, Y = ys.map (Value.int .i32) := ⟨_, rfl⟩
  have hX1 : ∀ v ∈ X, v.oneCell' = true := by rw [hX]; exact ints_one xs
  have hY1 : ∀ v ∈ Y, v.oneCell' = true := by rw [hY]; exact ints_one ys
  have hXl : X.length = xs.length := by rw [hX, List.length_map]
  have hYl : Y.length = ys.length := by rw [hY, List.length_map]
  obtain ⟨L, hL⟩ : ∃ L, L = X ++ sp := ⟨_, rfl⟩
  rw [← hX, ← hL] at hG
  rw [← hY] at hG2
  have hLl : L.length = X.length + sp.length := by rw [hL, List.length_append]
  have hLX : ∀ k, k ≤ X.length → L.take k = X.take k := fun k hk => by rw [hL, List.take_append_of_le_length hk]
  have hLd : ∀ (k : Nat) (u : Value), X[k]? = some u → L[k]? = some u := fun k u hu => by rw [hL, List.getElem?_append_left (List.getElem?_eq_some_iff.1 hu).1]; exact hu
  have hcY : ∀ j u, Y[j]? = some u → (Y ++ sp2)[j]? = some u := fun j u hu => by rw [List.getElem?_append_left (List.getElem?_eq_some_iff.1 hu).1]; exact hu
  obtain ⟨n, hn⟩ : ∃ n, n = xs.length := ⟨_, rfl⟩
  obtain ⟨m, hm'⟩ : ∃ m, m = ys.length := ⟨_, rfl⟩
  obtain ⟨tot, htot⟩ : ∃ tot, tot = p + m + (n - r) := ⟨_, rfl⟩
  simp only [Value.slice.injEq] at h9
  obtain ⟨ha9, hn9, hc9⟩ := h9
  subst ha9 hc9
  clear hn9
  rw [← hn] at hXl hc hs hrn hb hroom ⊢
  rw [← hm'] at hYl hc2 hb hs2 hroom ⊢
  have hlz : (xs.take p ++ (ys ++ xs.drop r)).length = tot := by simp only [List.length_append, List.length_take, List.length_drop]; omega
  have hzs : (xs.take p ++ (ys ++ xs.drop r)).map (Value.int .i32) = X.take p ++ (Y ++ X.drop r) := by rw [List.map_append, List.map_append, hX, hY, List.map_take, List.map_drop]
  obtain ⟨D, hD⟩ : ∃ D, D = X.drop r := ⟨_, rfl⟩
  have hDl : D.length = n - r := by rw [hD, List.length_drop, hXl]
  have hD1 : ∀ v ∈ D, v.oneCell' = true := fun v hv => hX1 v (by rw [hD] at hv; exact List.mem_of_mem_drop hv)
  have hcD : ∀ j u, D[j]? = some u → L[r + j]? = some u := fun j u hu => hLd _ _ (by rw [hD, List.getElem?_drop] at hu; exact hu)
  have hLi : L.take p = X.take p := hLX p (by omega)
  rw [← hD] at hzs
  have HZ := hid_of' (And.intro hlz (And.intro hzs hLi))
  have HV := hid_of' (And.intro hG (And.intro hG2 (And.intro hcY hcD)))
  have H1 := hid_of' (And.intro hX1 (And.intro hY1 hD1))
  have HN := hid_of' (And.intro hXl (And.intro hYl (And.intro hLl (And.intro hDl (And.intro hs (And.intro hm (And.intro hb htot)))))))
  have hm8 := hm
  unfold maxLen at hm8
  have k1 : (0 : Int) ≤ (p : Int) := by omega
  have k2 : (p : Int) ≤ (r : Int) := by omega
  have k3 : (r : Int) ≤ (c : Int) := by omega
  have k4 : ¬ c = p := by omega
  have k4b : ¬ c = 0 := by omega
  have k6 : ¬ (p : Int) = (r : Int) := by omega
  have k6n : ¬ p = r := by omega
  have k7 : p ≤ n := by omega
  have k8 : p < c := by omega
  have k24 : (p : Int) ≤ (c : Int) := by omega
  have k25 : p ≤ c := by omega
  have k26 : 0 < c := by omega
  have HW3 : Hid (IntKind.i64.wrap ((p : Int) + (m : Int)) = (p : Int) + (m : Int)) := by show _ = _; rw [IntKind.wrap_i64]; omega
  have HW4 : Hid (IntKind.i64.wrap ((p : Int) + (m : Int) + ((n - r : Nat) : Int)) = (tot : Int)) := by show _ = _; rw [IntKind.wrap_i64]; omega
  have HQ1 : Hid ((p : Int) + (m : Int) = ((p + m : Nat) : Int)) := by show _ = _; omega
  subst hrn
  have hDn : D = [] := List.eq_nil_of_length_eq_zero (by omega)
  have htt : tot = p + m := by omega
  have HF : Hid (p + m ≤ c ∧ c ≤ L.length ∧ (p + m) + (r - (p + m)) ≤ (splice L p Y).length ∧ D = [] ∧ tot = p + m ∧ c ≤ maxLen) := ⟨by omega, by omega, by rw [splice_len (by omega)]; omega, hDn, htt, hm⟩
  have k11 : ((p + m : Nat) : Int) < (r : Int) := by omega
  have k12 : (p : Int) + (m : Int) < (r : Int) := by omega
  have k13 : ¬ c = p + m := by omega
  have k14 : p + m ≤ r := by omega
  have k15 : (p : Int) + (m : Int) ≤ (r : Int) := by omega
  have k16 : (0 : Int) ≤ (p : Int) + (m : Int) := by omega
  have k17 : ((p : Int) + (m : Int)).toNat = p + m := by omega
  clear hG hG2 hX1 hY1 hX hY hL hLX hLd hcY hXl hYl hLl hn hm' hu hv hne hD hDl hD1 hcD hLi hzs hlz hm hs hs2 hm2 htot hDn htt hu0 hm8
  go_enter Tryd.func26, Tryd.ntmps26
  go_upto_region 6 with (at_builtin; refine wpL_appB rfl (.tmp 32) (.tmp 33) rfl rfl rfl HV.out.1 HV.out.2.1 (hcs := HV.out.2.2.1) HN.out.2.1 H1.out.2.1 HF.out.1 HF.out.2.1 ?_; intro W1 hB1 hg1)
  have HB1 := hid_of' (And.intro hB1 hg1)
  clear hB1 hg1
  go_wp2_with (refine wpL_clearR rfl (.tmp 43) rfl (p + m) rfl HB1.out.1 (fun _ => rfl) HF.out.2.2.1 ?_; intro W2 hB2 hg2)
  go_ret
  obtain ⟨f1, f2, f3, f4, f5, f6⟩ := HF.out
  obtain ⟨n1, n2, n3, n4, n5, n6, n7, n8⟩ := HN.out
  refine ⟨.slice (some ⟨g, 0, none⟩) (p + m) c, rfl, ?_, grown_trans HB1.out.2 hg2, fun k hk => .inl hk⟩
  rw [← f5, ← HZ.out.1]
  refine RwR.of hB2 ?_ (by rw [HZ.out.1, f5]; exact f1) f6 ?_
  · rw [HZ.out.1, HZ.out.2.1, f4, List.append_nil, f5, splice_take (by rw [splice_len (by omega)]; omega), show p + m = p + Y.length by omega, splice_takes (by omega), HZ.out.2.2]
  · rw [splice_len (by rw [List.length_replicate]; exact f3), splice_len (by omega)]
    exact f2

set_option maxHeartbeats 8000000 in
theorem replace_end {w : World} {v u : Value} {xs ys : List Int} (hv : RwR v xs w) (hu : RwR u ys w) (hu0 : ¬ u = .slice none 0 0) (hne : ∀ k, v.ownBlock = some k → ¬ u.ownBlock = some k) {p r : Nat} (hpr : p < r) (hrn : r = xs.length) (hb : xs.length + ys.length ≤ 1000000000) {a9 : Option Addr} {n9 c9 : Nat} (h9 : v = .slice a9 n9 c9) (hroom : ¬ p + ys.length < xs.length) :
    Calls Tryd.prog 26 #[v, .int .i64 (p : Int), .int .i64 (r : Int), u] w fun e w' => Rpl w v (xs.take p ++ (ys ++ xs.drop r)) e w' := by
  obtain ⟨g, c, sp, rfl, hG, hc, hm, hs⟩ := hv.blk (by rintro rfl; obtain ⟨_, _, e, _⟩ := hv.form; simp only [Value.slice.injEq] at e; omega)
  obtain ⟨g2, c2, sp2, rfl, hG2, hc2, hm2, hs2⟩ := hu.blk hu0
  have hgg : ¬ g = g2 := fun e => hne g rfl (by rw [e]; rfl)
  obtain ⟨X, hX⟩ : ∃ X, X = xs.map (Value.int .i32) := ⟨_, rfl⟩
  obtain ⟨Y, hY⟩ : ∃ Y, Y = ys.map (Value.int .i32) := ⟨_, rfl⟩
  have hX1 : ∀ v ∈ X, v.oneCell' = true := by rw [hX]; exact ints_one xs
  have hY1 : ∀ v ∈ Y, v.oneCell' = true := by rw [hY]; exact ints_one ys
  have hXl : X.length = xs.length := by rw [hX, List.length_map]
  have hYl : Y.length = ys.length := by rw [hY, List.length_map]
  obtain ⟨L, hL⟩ : ∃ L, L = X ++ sp := ⟨_, rfl⟩
  rw [← hX, ← hL] at hG
  rw [← hY] at hG2
  have hLl : L.length = X.length + sp.length := by rw [hL, List.length_append]
  have hLX : ∀ k, k ≤ X.length → L.take k = X.take k := fun k hk => by rw [hL, List.take_append_of_le_length hk]
  have hLd : ∀ (k : Nat) (u : Value), X[k]? = some u → L[k]? = some u := fun k u hu => by rw [hL, List.getElem?_append_left (List.getElem?_eq_some_iff.1 hu).1]; exact hu
  have hcY : ∀ j u, Y[j]? = some u → (Y ++ sp2)[j]? = some u := fun j u hu => by rw [List.getElem?_append_left (List.getElem?_eq_some_iff.1 hu).1]; exact hu
  obtain ⟨n, hn⟩ : ∃ n, n = xs.length := ⟨_, rfl⟩
  obtain ⟨m, hm'⟩ : ∃ m, m = ys.length := ⟨_, rfl⟩
  obtain ⟨tot, htot⟩ : ∃ tot, tot = p + m + (n - r) := ⟨_, rfl⟩
  simp only [Value.slice.injEq] at h9
  obtain ⟨ha9, hn9, hc9⟩ := h9
  subst ha9 hc9
  clear hn9
  rw [← hn] at hXl hc hs hrn hb hroom ⊢
  rw [← hm'] at hYl hc2 hb hs2 hroom ⊢
  have hlz : (xs.take p ++ (ys ++ xs.drop r)).length = tot := by simp only [List.length_append, List.length_take, List.length_drop]; omega
  have hzs : (xs.take p ++ (ys ++ xs.drop r)).map (Value.int .i32) = X.take p ++ (Y ++ X.drop r) := by rw [List.map_append, List.map_append, hX, hY, List.map_take, List.map_drop]
  obtain ⟨D, hD⟩ : ∃ D, D = X.drop r := ⟨_, rfl⟩
  have hDl : D.length = n - r := by rw [hD, List.length_drop, hXl]
  have hD1 : ∀ v ∈ D, v.oneCell' = true := fun v hv => hX1 v (by rw [hD] at hv; exact List.mem_of_mem_drop hv)
  have hcD : ∀ j u, D[j]? = some u → L[r + j]? = some u := fun j u hu => hLd _ _ (by rw [hD, List.getElem?_drop] at hu; exact hu)
  have hLi : L.take p = X.take p := hLX p (by omega)
  rw [← hD] at hzs
  have HZ := hid_of' (And.intro hlz (And.intro hzs hLi))
  have HV := hid_of' (And.intro hG (And.intro hG2 (And.intro hcY hcD)))
  have H1 := hid_of' (And.intro hX1 (And.intro hY1 hD1))
  have HN := hid_of' (And.intro hXl (And.intro hYl (And.intro hLl (And.intro hDl (And.intro hs (And.intro hm (And.intro hb htot)))))))
  have hm8 := hm
  unfold maxLen at hm8
  have k1 : (0 : Int) ≤ (p : Int) := by omega
  have k2 : (p : Int) ≤ (r : Int) := by omega
  have k3 : (r : Int) ≤ (c : Int) := by omega
  have k4 : ¬ c = p := by omega
  have k4b : ¬ c = 0 := by omega
  have k6 : ¬ (p : Int) = (r : Int) := by omega
  have k6n : ¬ p = r := by omega
  have k7 : p ≤ n := by omega
  have k8 : p < c := by omega
  have k24 : (p : Int) ≤ (c : Int) := by omega
  have k25 : p ≤ c := by omega
  have k26 : 0 < c := by omega
  have HW3 : Hid (IntKind.i64.wrap ((p : Int) + (m : Int)) = (p : Int) + (m : Int)) := by show _ = _; rw [IntKind.wrap_i64]; omega
  have HW4 : Hid (IntKind.i64.wrap ((p : Int) + (m : Int) + ((n - r : Nat) : Int)) = (tot : Int)) := by show _ = _; rw [IntKind.wrap_i64]; omega
  have HQ1 : Hid ((p : Int) + (m : Int) = ((p + m : Nat) : Int)) := by show _ = _; omega
  have hDn : D = [] := List.eq_nil_of_length_eq_zero (by omega)
  have htt : tot = p + m := by omega
  have hvp : RwR (.slice (some ⟨g, 0, none⟩) p c) (xs.take p) w := by
    have hl : (xs.take p).length = p := by rw [List.length_take]; omega
    have := RwR.of (cap := c) (xs := xs.take p) hG (by rw [hl, hLi, hX, List.map_take]) (by omega) hm (by omega)
    rwa [hl] at this
  have hz9 : xs.take p ++ (ys ++ xs.drop r) = xs.take p ++ ys := by rw [List.drop_eq_nil_of_le (by omega), List.append_nil]
  have hso : So 1 (.slice (some ⟨g2, 0, none⟩) m c2) ys.length (ys.map (Value.int .i32)) w := by rw [hm']; exact RwR.so hu
  have HF := hid_of' (And.intro hvp (And.intro hz9 (And.intro hso (show (xs.take p).length + ys.length ≤ 4398046511104 by rw [List.length_take]; omega))))
  subst hrn
  have k11 : ¬ (p : Int) + (m : Int) < (r : Int) := by omega
  clear hG hG2 hX1 hY1 hX hY hL hLX hLd hcY hXl hYl hLl hn hm' hu hv hne hD hDl hD1 hcD hLi hzs hlz hm hs hs2 hm2 htot hDn htt hvp hz9 hso hu0 hm8
  rw [HF.out.2.1]
  go_enter Tryd.func26, Tryd.ntmps26
  go_upto_region 6 with (at_builtin; refine wpL_appR rfl (.tmp 32) (.tmp 33) rfl rfl rfl HF.out.1 HF.out.2.2.1 HF.out.2.2.2 ?_; intro v1 W1 q1 q2 q3)
  obtain ⟨a1, c1, hv1, _⟩ := q1.form
  have hl1 : (xs.take p ++ ys).length = p + m := by rw [← HF.out.2.1, HZ.out.1]; have := HN.out; omega
  rw [hl1] at hv1
  subst hv1
  have HQ := hid_of' (And.intro q1 (And.intro q2 q3))
  clear q1 q2 q3 hl1
  go_wp2
  go_ret
  exact ⟨_, rfl, HQ.out.1, HQ.out.2.1, HQ.out.2.2⟩

end Go.Proofs.YtaimmjoekahleaaDoor
