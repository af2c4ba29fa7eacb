
/-
  barrowref13.push, Push.
-/
import Derived.Test.YtgkbgojgpomcdaaDoorUn15
namespace Go.Proofs.YtgkbgojgpomcdaaDoor
open Go.RowKit Go.Extern.Stop Go.Stop Go.Extern
set_option maxRecDepth 100000

theorem So.later' {size : Nat} {v : Value} {n : Nat} {xs : List Value} {w w' : World} (h : So size v n xs w) (hb : Below w.heap.size w w') : So size v n xs w' := by
  refine ⟨h.1, ?_⟩
  rcases h.2 with q | ⟨a, c, rfl, q⟩
  · exact .inl q
  · exact .inr ⟨a, c, rfl, fun j x hx => by have := q j x hx; rw [hb.cell (World.block_lt_of_cell? _ _ this)]; exact this⟩
theorem own_emptyV (w : World) : OwnV (.slice (some ⟨w.heap.size, 0, none⟩) 0 0) [] (w.alloc (.cells #[] 33)) :=
  ⟨⟨rfl, .inr ⟨w.heap.size, 0, #[], rfl, heap_alloc_last w _, Nat.le_refl _, Nat.zero_le _, by simp, by simp⟩⟩, fun u hu => by cases hu⟩
/-- A new row with one edit more. -/
structure NwP (N : Nat) (us : List Value) (l : List Xg) (v : Value) (w : World) : Prop where
  ex : ∃ y, OwnV v (nwL us y) w ∧ EdAt (fun k => N ≤ k) y l w
  own : ∀ k, v.ownBlock = some k → N ≤ k
theorem NwP.later {N : Nat} {us : List Value} {l : List Xg} {v : Value} {w w' : World} (h : NwP N us l v w) (hb : Below w.heap.size w w') : NwP N us l v w' := by
  obtain ⟨⟨y, h1, h2⟩, h3⟩ := h
  exact ⟨⟨y, h1.later hb, h2.later hb⟩, h3⟩
theorem NwP.mono {N M : Nat} {us : List Value} {l : List Xg} {v : Value} {w : World} (h : NwP N us l v w) (hm : M ≤ N) : NwP M us l v w := by
  obtain ⟨⟨y, h1, h2⟩, h3⟩ := h
  exact ⟨⟨y, h1, h2.mono (fun k hk _ => Nat.le_trans hm hk)⟩, fun k hk => Nat.le_trans hm (h3 k hk)⟩
theorem push_end {us vs : List Value} {l : List Xg} {w w5 w7 w8 : World} {v5 y v8 : Value} (hnw : ∀ y, vs ++ [y] = nwL us y) (h5 : OwnV v5 vs w5) (b5 : Below w.heap.size w w5) (o5 : ∀ k, v5.ownBlock = some k → w.heap.size ≤ k) (hne : l ≠ []) (hl : l.length ≤ 4398046510976)
    (h7 : RwX y ([] ++ l) w7) (a7 : At' (w5.alloc (.cells #[] 66)) (.slice (some ⟨w5.heap.size, 0, none⟩) 0 0) y) (b7 : Below w5.heap.size w5 w7)
    (h8 : OwnV v8 (vs ++ [y]) w8) (g8 : (w7.alloc (.cells #[y] 33)).grownBy w8 v5.ownBlock) (a8 : At' (w7.alloc (.cells #[y] 33)) v5 v8) :
    ∃ u, Ending.returned v8 = Ending.returned u ∧ NwP w.heap.size us l u w8 ∧ Below w.heap.size w w8 := by
  have b8 := below_one w7 (.cells #[y] 33)
  have s5 := b5.size
  have s7 := b7.size
  have e7 : EdAt (fun k => w.heap.size ≤ k) y l w7 := ⟨h7, fun k hk => by
    rcases a7 k hk with q | q
    · cases q; exact s5
    · rw [World.size_alloc] at q; omega, hne, hl⟩
  have e8 := e7.later b8
  have hty : ∀ k, y.ownBlock = some k → ¬ v5.ownBlock = some k := fun k hk hk' => by
    obtain ⟨cur, h1⟩ := Rw.typ (h5.later b7).1 k hk'
    obtain ⟨_, _, cur', h2⟩ := e7.typ k hk
    rw [h1] at h2
    simp at h2
  refine ⟨_, rfl, ⟨⟨y, (hnw y) ▸ h8, ⟨Rw.grow e8.row g8 hty, e8.own, e8.ne, e8.le⟩⟩, fun k hk => ?_⟩, ?_⟩
  · rcases a8 k hk with q | q
    · exact o5 k q
    · rw [World.size_alloc] at q; omega
  · exact (bgo b5 (bgo b7 b8)).grown g8 (by rw [World.size_alloc]; omega) (fun k hk => o5 k hk)
set_option maxHeartbeats 4000000 in
theorem push_ok {w : World} {v x : Value} {us : List Value} {l : List Xg} (h : OwnV v us w) (hx : SlD w x l) (hne : l ≠ []) (hl : l.length ≤ 4398046510976) (h64 : us.length ≤ 64) :
    Calls Tryd.prog 42 #[v, x] w fun e w' => ∃ u, e = .returned u ∧ NwP w.heap.size us l u w' ∧ Below w.heap.size w w' := by
  obtain ⟨ax, cx, hx9⟩ := hx.form
  have HX := hid_of' (And.intro hx (And.intro hne hl))
  generalize l.length = nl at hx9
  subst hx9
  clear hx hne hl
  by_cases hc : us.length < 64
  · obtain ⟨a, c, hv9⟩ := h.form
    have HSO := hid_of' (And.intro (h.1.so.later' (below_one w (.cells #[] 33))) h.2)
    have HNW : Hid (∀ y, us ++ [y] = nwL us y) := fun y => by unfold nwL; rw [show us.length + 1 - 64 = 0 by omega, List.drop_zero]
    have HL5 := hid_of' (show us.length ≤ 100 by omega)
    obtain ⟨n, hn⟩ : ∃ n, n = us.length := ⟨_, rfl⟩
    rw [← hn] at hv9 HSO hc
    subst hv9
    have k1 : ¬ 64 ≤ (n : Int) := by omega
    clear h h64 hn
    go_enter Tryd.func42, Tryd.ntmps42
    go_upto_region 4 with (at_builtin; refine wpL_appE (m := us) rfl _ _ rfl rfl rfl (own_emptyV w) HSO.out.1 HSO.out.2 (by show 0 + _ ≤ _; omega) ?_; intro v5 w5 q1 q2 q3; obtain ⟨a5, c5, hv5⟩ := q1.form; generalize List.length _ = n5 at hv5; subst hv5)
    have b5 : Below w.heap.size w w5 := (below_one w (.cells #[] 33)).grown q2 (by simp) (fun k hk => by cases hk; exact Nat.le_refl _)
    have o5 : ∀ k, Value.ownBlock (.slice a5 n5 c5) = some k → w.heap.size ≤ k := fun k hk => by
      rcases q3 k hk with q | q
      · cases q; exact Nat.le_refl _
      · rw [World.size_alloc] at q; omega
    rw [List.nil_append] at q1
    have H5 := hid_of' (And.intro q1 (And.intro b5 o5))
    have HS6 := hid_of' ((HX.out.1.later b5).later (below_one w5 (.cells #[] 66))).so
    clear q1 q2 q3 b5 o5
    go_wp2_with (first | (at_builtin; refine wpL_appG (m := l) rfl _ _ rfl rfl rfl (own_emptyX w5) HS6.out (by show 0 + _ ≤ _; have := HX.out.2.2; omega) ?_; intro v7 w7 q1 q2 q3; obtain ⟨a7, c7, hv7, _⟩ := Rw.form q1; generalize List.length _ = n7 at hv7; subst hv7; have H7 := hid_of' (And.intro q1 (And.intro q2 q3)); clear q1 q2 q3; have b7 := hid_of' ((below_one w5 (.cells #[] 66)).grown H7.out.2.1 (by simp) (fun k hk => by cases hk; exact Nat.le_refl _))) | (at_builtin; refine wpL_appE (m := [.slice a7 n7 c7]) rfl _ _ rfl rfl rfl ((H5.out.1.later b7.out).later (below_one w7 (.cells #[.slice a7 n7 c7] 33))) (so_e w7 (.slice a7 n7 c7)) (fun y hy => by rw [List.mem_singleton] at hy; subst hy; exact ⟨_, _, _, rfl⟩) (by have := HL5.out; omega) ?_; intro v8 w8 q1 q2 q3; obtain ⟨a8, c8, hv8⟩ := q1.form; generalize List.length _ = n8 at hv8; subst hv8; have H8 := hid_of' (And.intro q1 (And.intro q2 q3)); clear q1 q2 q3))
    go_ret
    exact push_end HNW.out H5.out.1 H5.out.2.1 H5.out.2.2 HX.out.2.1 HX.out.2.2 H7.out.1 H7.out.2.2 b7.out H8.out.1 H8.out.2.1 H8.out.2.2
  · have h0 := h
    obtain ⟨g, c, hv9, hnc, hcm⟩ : ∃ g c, v = .slice (some ⟨g, 0, none⟩) 64 c ∧ 64 ≤ c ∧ c ≤ maxLen := by
      rcases h.1.2 with ⟨_, hz⟩ | ⟨g, cap, cur, hv, _, h1, h2, _⟩
      · omega
      · exact ⟨g, cap, by rw [hv, show us.length = 64 by omega], by omega, h2⟩
    subst hv9
    unfold maxLen at hcm
    have HNW : Hid (∀ y, us.drop 1 ++ [y] = nwL us y) := fun y => by
      unfold nwL
      rw [show us.length + 1 - 64 = 1 by omega, List.drop_append_of_le_length (by omega)]
    have HL5 := hid_of' (show (us.drop 1).length ≤ 100 by rw [List.length_drop]; omega)
    have hso : So 1 (.slice (some ⟨g, 1, none⟩) 63 (c - 1)) 63 (us.drop 1) w := by
      refine ⟨by rw [List.length_drop]; omega, .inr ⟨⟨g, 1, none⟩, c - 1, rfl, fun j u hu => ?_⟩⟩
      rw [List.getElem?_drop] at hu
      have h9 := h0.1
      rw [show us.length = 64 by omega] at h9
      have := h9.cells _ _ hu
      rw [Addr.add_lit]
      rwa [Nat.zero_add] at this
    have HSO := hid_of' (And.intro (hso.later' (below_one w (.cells #[] 33))) (show ∀ y ∈ us.drop 1, ∃ a n c, y = Value.slice a n c from fun y hy => h0.2 y (List.mem_of_mem_drop hy)))
    have k1 : ¬ c = 1 := by omega
    have k2 : 64 ≤ (c : Int) := by omega
    have k3 : 1 ≤ c := by omega
    have k4 : 1 ≤ (c : Int) := by omega
    clear h h0 h64 hso hc
    go_enter Tryd.func42, Tryd.ntmps42
    go_upto_region 4 with (at_builtin; refine wpL_appE (m := us.drop 1) rfl _ _ rfl rfl rfl (own_emptyV w) HSO.out.1 HSO.out.2 (by show 0 + _ ≤ _; omega) ?_; intro v5 w5 q1 q2 q3; obtain ⟨a5, c5, hv5⟩ := q1.form; generalize List.length _ = n5 at hv5; subst hv5)
    have b5 : Below w.heap.size w w5 := (below_one w (.cells #[] 33)).grown q2 (by simp) (fun k hk => by cases hk; exact Nat.le_refl _)
    have o5 : ∀ k, Value.ownBlock (.slice a5 n5 c5) = some k → w.heap.size ≤ k := fun k hk => by
      rcases q3 k hk with q | q
      · cases q; exact Nat.le_refl _
      · rw [World.size_alloc] at q; omega
    rw [List.nil_append] at q1
    have H5 := hid_of' (And.intro q1 (And.intro b5 o5))
    have HS6 := hid_of' ((HX.out.1.later b5).later (below_one w5 (.cells #[] 66))).so
    clear q1 q2 q3 b5 o5
    go_wp2_with (first | (at_builtin; refine wpL_appG (m := l) rfl _ _ rfl rfl rfl (own_emptyX w5) HS6.out (by show 0 + _ ≤ _; have := HX.out.2.2; omega) ?_; intro v7 w7 q1 q2 q3; obtain ⟨a7, c7, hv7, _⟩ := Rw.form q1; generalize List.length _ = n7 at hv7; subst hv7; have H7 := hid_of' (And.intro q1 (And.intro q2 q3)); clear q1 q2 q3; have b7 := hid_of' ((below_one w5 (.cells #[] 66)).grown H7.out.2.1 (by simp) (fun k hk => by cases hk; exact Nat.le_refl _))) | (at_builtin; refine wpL_appE (m := [.slice a7 n7 c7]) rfl _ _ rfl rfl rfl ((H5.out.1.later b7.out).later (below_one w7 (.cells #[.slice a7 n7 c7] 33))) (so_e w7 (.slice a7 n7 c7)) (fun y hy => by rw [List.mem_singleton] at hy; subst hy; exact ⟨_, _, _, rfl⟩) (by have := HL5.out; omega) ?_; intro v8 w8 q1 q2 q3; obtain ⟨a8, c8, hv8⟩ := q1.form; generalize List.length _ = n8 at hv8; subst hv8; have H8 := hid_of' (And.intro q1 (And.intro q2 q3)); clear q1 q2 q3))
    go_ret
    exact push_end HNW.out H5.out.1 H5.out.2.1 H5.out.2.2 HX.out.2.1 HX.out.2.2 H7.out.1 H7.out.2.2 b7.out H8.out.1 H8.out.2.1 H8.out.2.2
set_option maxHeartbeats 2000000 in
theorem refPush_ok {B : Nat} {vd vu v : Value} {F : Nat → Prop} {d u : List (List Xg)} {l : List Xg} {w : World} (h : SkAt 29 B vd vu F d u w) (hv : SlD w v l) (hne : l ≠ []) (hl : l.length ≤ 4398046510976) :
    Calls Tryd.prog 32 #[.pointer (some ⟨B, 0, none⟩), v] w fun e w' => (∃ z, e = .returned z) ∧ ∃ vd' F', SkAt 29 B vd' (.slice none 0 0) F' (nwL d l) [] w' ∧ Ch F w w' ∧ ∀ k, F' k → F k ∨ w.heap.size ≤ k := by
  obtain ⟨us, hO, hE⟩ := h.rd.open
  obtain ⟨a0, c0, hv0⟩ := hO.form
  have h64 : us.length ≤ 64 := by rw [hE.1]; exact h.ld
  have HP := hid_of' (push_ok hO hv hne hl h64)
  generalize us.length = n0 at hv0
  subst hv0
  obtain ⟨al, cl, hv1⟩ := hv.form
  have hl0 : ¬ l.length = 0 := fun e => hne (List.eq_nil_of_length_eq_zero e)
  generalize l.length = nl at hv1 hl0
  subst hv1
  have hl1 : ¬ (nl : Int) = 0 := by omega
  have HK := hid_of' (And.intro h hE)
  have k0 := h.lies.cellIs 0 rfl
  clear h hO hE hv hne hl h64
  go_enter Tryd.func32, Tryd.ntmps32
  go_upto_region 1 with fail
  obtain ⟨h, hE⟩ := HK.out
  have H0 : Hid (∀ x (v8 : Value), Below w.heap.size w x → NwP w.heap.size us l v8 x → ∀ a8 n8 c8, v8 = .slice a8 n8 c8 → (x.cell? ⟨B, 0, none⟩ = some (.slice a0 n0 c0) ∧ x.frozen? ⟨B, 0, none⟩ = false) ∧ ((x.setCell ⟨B, 0, none⟩ v8).cell? ⟨B, 1, none⟩ = some vu ∧ (x.setCell ⟨B, 0, none⟩ v8).frozen? ⟨B, 1, none⟩ = false) ∧ ∃ vd' F', SkAt 29 B vd' (.slice none 0 0) F' (nwL d l) [] ((x.setCell ⟨B, 0, none⟩ v8).setCell ⟨B, 1, none⟩ (.slice none 0 0)) ∧ Ch F w ((x.setCell ⟨B, 0, none⟩ v8).setCell ⟨B, 1, none⟩ (.slice none 0 0)) ∧ ∀ k, F' k → F k ∨ w.heap.size ≤ k) := by
    intro x v8 hX hP a8 n8 c8 e8
    subst e8
    obtain ⟨⟨y, q1, q2⟩, q3⟩ := hP
    have rX := h.lies.later hX
    have r1 := rX.setc 0 (.slice a8 n8 c8)
    have r2 := r1.setc 1 (.slice none 0 0)
    refine ⟨⟨rX.cellIs 0 rfl, rX.froz 0⟩, ⟨r1.cellIs 1 rfl, r1.froz 1⟩, ?_⟩
    have cB : Ch (fun k => k = B) x ((x.setCell ⟨B, 0, none⟩ (.slice a8 n8 c8)).setCell ⟨B, 1, none⟩ (.slice none 0 0)) := ((Ch.refl (fun k => k = B) x).set (p := ⟨B, 0, none⟩) (.inl rfl) _).set (p := ⟨B, 1, none⟩) (.inl rfl) _
    have c2 : Ch (fun k => k = B) w ((x.setCell ⟨B, 0, none⟩ (.slice a8 n8 c8)).setCell ⟨B, 1, none⟩ (.slice none 0 0)) := (Ch.of hX).go cB (fun s q => .inl q)
    have hBl := h.lt B h.fB
    have q1' := q1.ch cB (fun k hk e => by subst e; have := q3 k hk; omega)
    have q2' := q2.ch cB (fun k hk e => by subst e; omega)
    have hEx := hE.apartOf c2 (fun k hk hlt hc => by
      obtain ⟨cur, hc⟩ := hc
      exact typ_ne h.lies hc (by decide) hk)
    have hlt8 := q1'.1.lt
    exact ⟨.slice a8 n8 c8, fun k => (F k ∨ w.heap.size ≤ k) ∧ k < ((x.setCell ⟨B, 0, none⟩ (.slice a8 n8 c8)).setCell ⟨B, 1, none⟩ (.slice none 0 0)).heap.size, ⟨r2, ERow.of q1' (EsAt.nw (hEx.mono (fun k hk hq => ⟨.inl hk, hq⟩)) (q2'.mono (fun k hk hq => ⟨.inr hk, hq⟩))), ERow.nil _ _, fun k _ hk => (by cases hk), nwL_len d l h.ld, by simp, ⟨.inl h.fB, r2.lt⟩, fun k hk => ⟨.inr (q3 k hk), hlt8 k hk⟩, fun k hk => (by cases hk), fun k hk => hk.2⟩, c2.mono (fun s q => .inl (by subst q; exact h.fB)), fun k hk => hk.1⟩
  clear h hE HK
  go_upto_region 2 with (first | (go_at_call 42; (with_reducible refine HP.out.mono ?_); rintro e w1 ⟨u1, rfl, hu1, hb1⟩; clear HP; obtain ⟨y1, hy1, _⟩ := hu1.ex; obtain ⟨a1, c1, hv9⟩ := hy1.form; generalize List.length _ = n1 at hv9; have h1 := H0.out w1 u1 hb1 hu1 a1 n1 c1 hv9; subst hv9; have k0' := h1.1.1; have f0' := h1.1.2; have HZ := hid_of' h1.2; clear hu1 hb1 h1 hy1 k0 H0))
  have k1 := HZ.out.1.1
  have f1 := HZ.out.1.2
  clear k0' f0'
  go_wp2
  go_end0
  exact ⟨⟨_, rfl⟩, HZ.out.2⟩
set_option maxHeartbeats 1000000 in
theorem refPush_none {B : Nat} {w : World} {a : Option Addr} {c : Nat} :
    Calls Tryd.prog 32 #[.pointer (some ⟨B, 0, none⟩), .slice a 0 c] w fun e w' => (∃ z, e = .returned z) ∧ w' = w := by
  go_enter Tryd.func32, Tryd.ntmps32
  go_wp2
  (try simp only [Exit.inBlock, Exit.then])
  refine bodyPost_ret (results_none rfl _ _ _) rfl ?_
  exact ⟨⟨_, rfl⟩, rfl⟩
end Go.Proofs.YtgkbgojgpomcdaaDoor
