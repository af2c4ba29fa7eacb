
/-
  Package script: readText.
-/
import Derived.Test.YtphdkniplhkkfaaDoorSq2
namespace Go.Proofs.YtphdkniplhkkfaaDoor
open Go.RowKit Go.Extern.Stop Go.Stop Go.Extern
set_option maxRecDepth 100000

/-- Bytes that only are read, with their room. -/
def SlC (w : World) (v : Value) (bs : List UInt8) : Prop := SlB w v bs ∧ ∃ a c, v = .slice a bs.length c ∧ bs.length ≤ c
theorem SlC.later {w w' : World} {v : Value} {bs : List UInt8} (h : SlC w v bs) (hb : Below w.heap.size w w') : SlC w' v bs := ⟨h.1.later hb, h.2⟩
theorem readText_no (a : Option Addr) (c : Nat) (w : World) : Calls Tryd.prog 38 #[.slice a 0 c] w fun e w' => e = .returned (.tuple #[.string .empty, .slice none 0 0]) ∧ w' = w := by
  go_enter Tryd.func38, Tryd.ntmps38
  go_wp2
  go_ret2
  exact ⟨rfl, rfl⟩
theorem so_r (w : World) (z : Int) : So 1 (.slice (some ⟨w.heap.size, 0, none⟩) 1 1) [z].length ([z].map (Value.int .i32)) (w.alloc (.cells #[.int .i32 z] 21)) := so_new w 21 1 #[.int .i32 z] rfl _ rfl
theorem rest_ok {w : World} {g o c L X C : Nat} {A : Option Addr} {n0 : UInt8} {r : List UInt8} (hb : SlB w (.slice (some ⟨g, o, none⟩) (r.length + 1) c) (n0 :: r)) (hL : L = min (n0.toNat % 16) r.length) (hX : X = r.length - L) (hC : X ≤ C) (hA : 0 < X → A = some ⟨g, o + 1 + L, none⟩) : SlC w (.slice A X C) (rtR (n0 :: r)) := by
  have e : rtR (n0 :: r) = (n0 :: r).drop (1 + L) := by
    show (List.drop 1 (n0 :: r)).drop (n0.toNat % 16) = _
    rw [List.drop_drop]
    by_cases h : n0.toNat % 16 ≤ r.length
    · rw [hL, Nat.min_eq_left h]
    · rw [List.drop_of_length_le (by rw [List.length_cons]; omega), List.drop_of_length_le (by rw [List.length_cons]; omega)]
  have hl : (n0 :: r).length - (1 + L) = X := by
    rw [List.length_cons]
    omega
  rw [e]
  refine ⟨hb.drop (by rw [List.length_cons]; omega) ⟨A, C, by rw [hl], fun hlt g' o' m c' hv => ?_⟩, A, C, by rw [List.length_drop, hl], by rw [List.length_drop, hl]; exact hC⟩
  cases hv
  rw [hA (by rw [List.length_cons] at hlt; omega), Nat.add_assoc]
theorem quiet_str {o : Oper} {a : Act} {C : World → Prop} {K : Act → Prop} (x : Operand) (ho : o.op = .convert 40 9 x) {v : Value} {xs : List Int} (hx : a.eval x = v) (h : ∀ w, C w → RwR v xs w) (hr : ∀ r ∈ xs, Ru r)
    (k : K (a.put o.dst (.string (tx xs)))) : o.quiet Tryd.prog a C K :=
  ⟨.string (tx xs), fun w hw => by
    unfold Oper.quietAt execOp
    simp only [ho, hx, Sem.run_bind, Result.andThen, run_str (h w hw) hr]
    exact ⟨rfl, rfl⟩, k⟩
set_option maxHeartbeats 4000000 in
theorem readText_ok {w : World} {g o c : Nat} {n0 : UInt8} {r : List UInt8} (hb : SlB w (.slice (some ⟨g, o, none⟩) (r.length + 1) c) (n0 :: r)) (hc : r.length + 1 ≤ c) (hl : r.length ≤ 1000000) :
    Calls Tryd.prog 38 #[.slice (some ⟨g, o, none⟩) (r.length + 1) c] w fun e w' => ∃ u, e = .returned (.tuple #[.string (tx (rtC (n0 :: r))), u]) ∧ (∀ w0, SlB w0 (.slice (some ⟨g, o, none⟩) (r.length + 1) c) (n0 :: r) → SlC w0 u (rtR (n0 :: r))) ∧ Below w.heap.size w w' := by
  have hm : n0.toNat % 16 < 16 := Nat.mod_lt _ (by omega)
  have hn0 : n0.toNat < 256 := n0.toNat_lt
  obtain ⟨g', o', c', e, hg, hcell⟩ := hb.at (by simp)
  cases e
  have c0 := hcell 0 n0 rfl
  rw [Nat.add_zero] at c0
  obtain ⟨L, hL⟩ : ∃ L, L = min (n0.toNat % 16) r.length := ⟨_, rfl⟩
  obtain ⟨N, hN⟩ : ∃ N, N = r.length := ⟨_, rfl⟩
  have hcL : ∀ k, k < L → ∃ b, r[k]? = some b ∧ w.cell? ⟨g, o + 1 + k, none⟩ = some (.int .u8 b.toNat) := fun k hk => by
    have hkr : k < r.length := by omega
    refine ⟨r[k], List.getElem?_eq_getElem hkr, ?_⟩
    rw [Nat.add_assoc, Nat.add_comm 1 k]
    exact hcell (k + 1) _ (List.getElem?_eq_getElem (by simpa using hkr))
  have htx : rtC (n0 :: r) = (r.take L).map fun b => chN b.toNat := by
    show ((List.drop 1 (n0 :: r)).take (n0.toNat % 16)).map _ = _
    rw [List.drop_one, List.tail_cons, hL]
    by_cases h : n0.toNat % 16 ≤ r.length
    · rw [Nat.min_eq_left h]
    · rw [Nat.min_eq_right (by omega), List.take_of_length_le (by omega), List.take_of_length_le (Nat.le_refl _)]
  have HH := hid_of' (And.intro hb (And.intro hL (And.intro hcL htx)))
  rw [← hN] at hc hl ⊢
  have hLN : L ≤ N := by omega
  have hL16 : L < 16 := by omega
  obtain ⟨m, hmi⟩ : ∃ m, m = n0.toNat % 16 := ⟨_, rfl⟩
  have hmz : (n0.toNat : Int) % 16 = (m : Int) := by omega
  have HN := hid_of' hN
  rw [← hmi, ← hN] at hL
  rw [← hmi] at hm
  have hcase : (m ≤ N ∧ L = m) ∨ (¬ m ≤ N ∧ L = N) := by omega
  clear hcell hcL htx hN hb hmi hL
  rcases hcase with ⟨hle, rfl⟩ | ⟨hle, rfl⟩
  all_goals
    go_enter Tryd.func38, Tryd.ntmps38
    go_upto_region 3 with fail
    go_quiet (fail)
    generalize hA1 : (ite (c = 1) (some (⟨g, o, none⟩ : Addr)) (some ⟨g, o + 1, none⟩)) = A1
    have hA : 1 < c → A1 = some ⟨g, o + 1, none⟩ := fun h => by rw [← hA1, if_neg (by omega)]
    clear hA1
    rw [hmz]
  · have hlz : (L : Int) ≤ (N : Int) := by omega
    go_upto_region 7 with fail
    go_loopw [5, 26] (fun tv kv wr => ∃ k : Nat, kv = .int .i64 (k : Int) ∧ k ≤ L ∧ RwR tv ((r.take k).map fun b => chN b.toNat) wr ∧ (∀ q, tv.ownBlock = some q → w.heap.size ≤ q) ∧ Below w.heap.size w wr) (fun _ kv _ => L - (intOf kv).toNat)
    case atStart => exact ⟨0, rfl, Nat.zero_le _, RwR.nil _, (fun q hq => by cases hq), below_drewN (Below.refl _ _) _⟩
    case round =>
      obtain ⟨k, rfl, hk, hR, hO, hB⟩ := hrel
      obtain ⟨ta, tc, htv, _, _⟩ := Rw.form hR
      obtain ⟨xs, hxs⟩ : ∃ xs, xs = (r.take k).map fun b => chN b.toNat := ⟨_, rfl⟩
      rw [← hxs] at hR htv
      obtain ⟨tn, htn⟩ : ∃ tn, tn = xs.length := ⟨_, rfl⟩
      rw [← htn] at htv
      subst htv
      have hxl : xs.length ≤ k := by rw [hxs, List.length_map, List.length_take]; omega
      by_cases hkL : k < L
      · have hki : (k : Int) < (L : Int) := by omega
        obtain ⟨b, hbk, hcb⟩ := HH.out.2.2.1 k hkL
        have hcb' : wr.cell? ⟨g, o + 1 + k, none⟩ = some (.int .u8 (b.toNat : Int)) := by rw [hB.cell hg]; exact hcb
        obtain rfl := hA (by omega)
        have HC := hid_of' (fun x => charOf_is b.toNat b.toNat_lt x)
        have HR := hid_of' (And.intro hR (And.intro hO (And.intro hB (And.intro hxl (And.intro hbk hxs)))))
        clear hR hO hB htn hcb hA hxl hxs
        go_upto_region 10 with (first | (go_at_call 42; with_reducible refine (HC.out _).mono ?_; rintro e w3 ⟨rfl, rfl⟩) | (at_builtin; refine wpL_appR (m := [chN b.toNat]) rfl _ _ rfl rfl rfl (HR.out.1.later (below_one _ _)) (so_r _ _) (by have := HR.out.2.2.2.1; simp only [List.length_cons, List.length_nil]; omega) ?_; intro u6 w6 q1 q2 q3))
        have hB6 : Below w.heap.size w w6 := (bgo HR.out.2.2.1 (below_one _ _)).grown q2 (bgo HR.out.2.2.1 (below_one _ _)).size HR.out.2.1
        have hO6 : ∀ q, u6.ownBlock = some q → w.heap.size ≤ q := fun q hq => (q3 q hq).elim (fun e => HR.out.2.1 q e) (fun e => by have h2 := HR.out.2.2.1.size; rw [World.size_alloc] at e; omega)
        have q4 : RwR u6 ((r.take (k + 1)).map fun b => chN b.toNat) w6 := by rw [List.take_add_one, HR.out.2.2.2.2.1, List.map_append, ← HR.out.2.2.2.2.2]; exact q1
        have H6 := hid_of' (And.intro q4 (And.intro hO6 hB6))
        clear q1 q2 q3 q4 hO6 hB6 HC
        go_wp2
        go_roundw
        case rel => exact ⟨_, _, _, _, _, _, _, _, _, _, _, _, ⟨k + 1, by go_num, by omega, H6.out.1, H6.out.2.1, H6.out.2.2⟩, rfl⟩
        case measure => simp [intOf]; omega
      · obtain rfl : k = L := by omega
        have HR := hid_of' (And.intro hR (And.intro hO (And.intro hB htn)))
        have hru : ∀ x ∈ xs, Ru x := fun x hx => by
          rw [hxs] at hx
          obtain ⟨y, _, rfl⟩ := List.mem_map.1 hx
          exact chN_ru _
        have HX := hid_of' hxs
        clear hR hO hB htn hxs
        have HQ : ∀ w', (∃ n, w' = wr.drewN n) → RwR (.slice ta tn tc) xs w' := fun w' ⟨n, e⟩ => by
          rw [e]
          exact HR.out.1.later (below_drewN (Below.refl _ _) n)
        go_upto_region 11 with fail
        refine wp_region_quiet_lit (by kernel_rfl) (by kernel_rfl) ?_
        repeat (first | go_big_quiet_skip | (go_big_quiet_want; first | (refine quiet_str _ rfl rfl HQ hru ?_; simp only [Act.put, List.setIfInBounds_toArray, List.set_cons_succ, List.set_cons_zero]; go_big_quiet_on) | (go_big_quiet_op; go_big_quiet_on)))
        refine wpQuiet_nil ?_
        rintro _ ⟨nq2, rfl⟩
        go_wp2
        all_goals
          go_ret2
          refine ⟨_, by rw [HH.out.2.2.2, ← HX.out]; rfl, fun w0 h0 => rest_ok (g := g) (o := o) (c := c) (by rw [← HN.out]; exact h0) HH.out.2.1 (by have := HN.out; omega) (by omega) (fun hX => ?_), below_drewN HR.out.2.2.1 _⟩
        · omega
        · rw [hA (by omega)]
          rw [Option.map_some, Addr.add_lit]
  · have hlz : (L : Int) ≤ (L : Int) := Int.le_refl _
    go_upto_region 7 with fail
    go_loopw [5, 26] (fun tv kv wr => ∃ k : Nat, kv = .int .i64 (k : Int) ∧ k ≤ L ∧ RwR tv ((r.take k).map fun b => chN b.toNat) wr ∧ (∀ q, tv.ownBlock = some q → w.heap.size ≤ q) ∧ Below w.heap.size w wr) (fun _ kv _ => L - (intOf kv).toNat)
    case atStart => exact ⟨0, rfl, Nat.zero_le _, RwR.nil _, (fun q hq => by cases hq), below_drewN (Below.refl _ _) _⟩
    case round =>
      obtain ⟨k, rfl, hk, hR, hO, hB⟩ := hrel
      obtain ⟨ta, tc, htv, _, _⟩ := Rw.form hR
      obtain ⟨xs, hxs⟩ : ∃ xs, xs = (r.take k).map fun b => chN b.toNat := ⟨_, rfl⟩
      rw [← hxs] at hR htv
      obtain ⟨tn, htn⟩ : ∃ tn, tn = xs.length := ⟨_, rfl⟩
      rw [← htn] at htv
      subst htv
      have hxl : xs.length ≤ k := by rw [hxs, List.length_map, List.length_take]; omega
      by_cases hkL : k < L
      · have hki : (k : Int) < (L : Int) := by omega
        obtain ⟨b, hbk, hcb⟩ := HH.out.2.2.1 k hkL
        have hcb' : wr.cell? ⟨g, o + 1 + k, none⟩ = some (.int .u8 (b.toNat : Int)) := by rw [hB.cell hg]; exact hcb
        obtain rfl := hA (by omega)
        have HC := hid_of' (fun x => charOf_is b.toNat b.toNat_lt x)
        have HR := hid_of' (And.intro hR (And.intro hO (And.intro hB (And.intro hxl (And.intro hbk hxs)))))
        clear hR hO hB htn hcb hA hxl hxs
        go_upto_region 10 with (first | (go_at_call 42; with_reducible refine (HC.out _).mono ?_; rintro e w3 ⟨rfl, rfl⟩) | (at_builtin; refine wpL_appR (m := [chN b.toNat]) rfl _ _ rfl rfl rfl (HR.out.1.later (below_one _ _)) (so_r _ _) (by have := HR.out.2.2.2.1; simp only [List.length_cons, List.length_nil]; omega) ?_; intro u6 w6 q1 q2 q3))
        have hB6 : Below w.heap.size w w6 := (bgo HR.out.2.2.1 (below_one _ _)).grown q2 (bgo HR.out.2.2.1 (below_one _ _)).size HR.out.2.1
        have hO6 : ∀ q, u6.ownBlock = some q → w.heap.size ≤ q := fun q hq => (q3 q hq).elim (fun e => HR.out.2.1 q e) (fun e => by have h2 := HR.out.2.2.1.size; rw [World.size_alloc] at e; omega)
        have q4 : RwR u6 ((r.take (k + 1)).map fun b => chN b.toNat) w6 := by rw [List.take_add_one, HR.out.2.2.2.2.1, List.map_append, ← HR.out.2.2.2.2.2]; exact q1
        have H6 := hid_of' (And.intro q4 (And.intro hO6 hB6))
        clear q1 q2 q3 q4 hO6 hB6 HC
        go_wp2
        go_roundw
        case rel => exact ⟨_, _, _, _, _, _, _, _, _, _, _, _, ⟨k + 1, by go_num, by omega, H6.out.1, H6.out.2.1, H6.out.2.2⟩, rfl⟩
        case measure => simp [intOf]; omega
      · obtain rfl : k = L := by omega
        have HR := hid_of' (And.intro hR (And.intro hO (And.intro hB htn)))
        have hru : ∀ x ∈ xs, Ru x := fun x hx => by
          rw [hxs] at hx
          obtain ⟨y, _, rfl⟩ := List.mem_map.1 hx
          exact chN_ru _
        have HX := hid_of' hxs
        clear hR hO hB htn hxs
        have HQ : ∀ w', (∃ n, w' = wr.drewN n) → RwR (.slice ta tn tc) xs w' := fun w' ⟨n, e⟩ => by
          rw [e]
          exact HR.out.1.later (below_drewN (Below.refl _ _) n)
        go_upto_region 11 with fail
        refine wp_region_quiet_lit (by kernel_rfl) (by kernel_rfl) ?_
        repeat (first | go_big_quiet_skip | (go_big_quiet_want; first | (refine quiet_str _ rfl rfl HQ hru ?_; simp only [Act.put, List.setIfInBounds_toArray, List.set_cons_succ, List.set_cons_zero]; go_big_quiet_on) | (go_big_quiet_op; go_big_quiet_on)))
        refine wpQuiet_nil ?_
        rintro _ ⟨nq2, rfl⟩
        go_wp2
        all_goals
          go_ret2
          refine ⟨_, by rw [HH.out.2.2.2, ← HX.out]; rfl, fun w0 h0 => rest_ok (g := g) (o := o) (c := c) (by rw [← HN.out]; exact h0) HH.out.2.1 (by have := HN.out; omega) (by omega) (fun hX => ?_), below_drewN HR.out.2.2.1 _⟩
        · omega
        · rw [hA (by omega)]
          rw [Option.map_some, Addr.add_lit]
end Go.Proofs.YtphdkniplhkkfaaDoor
