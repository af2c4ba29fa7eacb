
/-
  The document's Bag: Drop, Swap.
-/
import Derived.Test.YtdojjhhnciaegaaDoorZb35
namespace Go.Proofs.YtdojjhhnciaegaaDoor
open Go.RowKit Go.Extern.Stop Go.Stop Go.Extern
set_option maxRecDepth 100000

theorem wpL_loadNo {ops : Array Oper} {rest : List Oper} {o : Oper} {A : Act} {w : World} {Q : Exit → Act → World → Prop} (hgd : o.guard = none) (x : Operand) (ho : o.op = .load 32 x) {b : Nat} (hx : A.eval x = .pointer (some ⟨b, 0, none⟩)) {cs : Array Value} (h : RowAt b cs 32 w) (hs : cs.size = 3)
    (k : wpList Tryd.prog ops Q rest (A.put o.dst (.agg cs)) w) : wpList Tryd.prog ops Q (o :: rest) A w :=
  wpList_plain hgd fun _ hK => opw_loadNo x ho hx h hs (hK _ _ k)
theorem wpL_noneP {ops : Array Oper} {rest : List Oper} {o : Oper} {A : Act} {w : World} {Q : Exit → Act → World → Prop} (hgd : o.guard = none) (ho : o.op = .buildSlice 45 0 #[])
    (k : ∀ x, x.heap[w.heap.size]? = some (.cells #[] 65 (0, 0)) → Below w.heap.size w x → wpList Tryd.prog ops Q rest (A.put o.dst (.slice (some ⟨w.heap.size, 0, none⟩) 0 0)) x) : wpList Tryd.prog ops Q (o :: rest) A w :=
  wpList_plain hgd fun _ hK => opw_noneP ho (hK _ _ (k _ (heap_alloc_last w _) (below_one _ _)))
theorem wpL_appP0 {ops : Array Oper} {rest : List Oper} {o : Oper} {A : Act} {w : World} {Q : Exit → Act → World → Prop} (hgd : o.guard = none) (s x : Operand) (ho : o.op = .call { callee := .builtin .append, args := #[s, x], argTypes := #[45, 45] })
    {g : Nat} {u : Value} {m : List Pc} (hs : A.eval s = .slice (some ⟨g, 0, none⟩) 0 0) (hx : A.eval x = u) (hg : w.heap[g]? = some (.cells #[] 65 (0, 0))) (hu : SoQ u m w) (hn : m.length ≤ 1000000)
    (k : ∀ v' w', RwQ v' m w' → Below w.heap.size w w' → (∀ k, v'.ownBlock = some k → k = g ∨ w.heap.size ≤ k) → wpList Tryd.prog ops Q rest (A.put o.dst v') w') : wpList Tryd.prog ops Q (o :: rest) A w :=
  wpList_plain hgd fun _ hK => opw_appP0 s x ho hs hx hg hu hn fun v' w' q1 q2 q3 => hK _ _ (k v' w' q1 q2 q3)
theorem prow_apart {K : Nat → Prop} {v : Value} {l : List Pl} {w : World} {b : Nat} {cs : Array Value} {t : TypeId} (h : PRow K v l w) (hr : RowAt b cs t w) (hne : ¬ 65 = t) : ∀ k, v.ownBlock = some k → ¬ k = b := by
  obtain ⟨ps, h1, _⟩ := h
  exact h1.neRow hr hne
theorem SoQ.later {u : Value} {m : List Pc} {w w' : World} (h : SoQ u m w) (hb : Below w.heap.size w w') : SoQ u m w' := by
  refine ⟨h.1, ?_⟩
  rcases h.2 with q | ⟨a, c, e, q⟩
  · exact .inl q
  · exact .inr ⟨a, c, e, fun j x hj => by rw [hb.cell (World.block_lt_of_cell? _ _ (q j x hj))]; exact q j x hj⟩
theorem RwQ.pos {v : Value} {ps : List Pc} {w : World} (h : RwQ v ps w) (hp : 0 < ps.length) : ∃ g c, v = .slice (some ⟨g, 0, none⟩) ps.length c := by
  rcases h.2 with ⟨_, q⟩ | ⟨g, cap, cur, q, _⟩
  · omega
  · exact ⟨g, cap, q⟩
theorem RwQ.in {g c : Nat} {ps : List Pc} {w : World} (h : RwQ (.slice (some ⟨g, 0, none⟩) ps.length c) ps w) {i : Nat} {p : Pc} (hp : ps[i]? = some p) : CsIn g (i * 4) (pcv p) w :=
  ⟨Rw.lt h g rfl, fun j u hu => by
    have := Rw.cells h _ _ (pcells_at ps i p hp j u hu)
    rwa [Nat.zero_add] at this⟩
set_option maxHeartbeats 4000000 in
theorem refDrop_in {B : Nat} {v : Value} {g : Bg} {K : Nat → Prop} {w : World} (h : RgAt B v g K w) {n : Nat} {y : Pl} (hy : g.l[n]? = some y) :
    Calls Tryd.prog 31 #[.pointer (some ⟨B, 0, none⟩), .int .i64 (n : Int)] w fun e w' => e = .returned nov0 ∧ ∃ v', RgAt B v' { g with drp := wrap64 (g.drp + 1), l := g.l.eraseIdx n } K w' ∧ NewB w v' ∧ Ch (fun k => k = B) w w' := by
  have hn := (List.getElem?_eq_some_iff.1 hy).1
  have r4 := row_new w #[.int .i64 0, .slice none 0 0, .slice none 0 0] 32
  have hb1 := below_one w (.cells #[.int .i64 0, .slice none 0 0, .slice none 0 0] 32)
  have hB0 := h.lies.lt
  go_enter Tryd.func31, Tryd.ntmps31
  go_upto_region 1 with fail
  generalize w.alloc (.cells #[.int .i64 0, .slice none 0 0, .slice none 0 0] 32) = w2 at r4 hb1 ⊢
  have HIs := hid_of' (refIs_in (h.later hb1) bDrop hn)
  have H := hid_of' (And.intro (h.mono (K' := fun k => K k ∧ k < w.heap.size) (fun k hk hl => ⟨hk, hl⟩)) (And.intro r4 hb1))
  have HQ0 := hid_of' hy
  clear h r4 hb1 hy
  go_upto_region 2 with (first | (go_at_call 62; refine HIs.out.mono ?_; rintro e w3 ⟨rfl, hb3⟩; clear HIs; unfold nov0) | (refine wpL_storeNo rfl _ _ rfl rfl (code := 0) (a := none) (n := 0) (c := 0) (a' := none) (n' := 0) (c' := 0) rfl (row_new w3 _ _) ?_))
  have r6 := (row_new w3 #[.int .i64 0, .slice none 0 0, .slice none 0 0] 32).put (nov 0 none 0 0 none 0 0)
  have hb4 := below_row (below_one w3 (.cells #[.int .i64 0, .slice none 0 0, .slice none 0 0] 32)) (Nat.le_refl _) (nov 0 none 0 0 none 0 0)
  generalize (w3.alloc (.cells #[.int .i64 0, .slice none 0 0, .slice none 0 0] 32)).setRow w3.heap.size (nov 0 none 0 0 none 0 0) = w4 at r6 hb4 ⊢
  have hb24 := bgo hb3 hb4
  have hbw4 := bgo H.out.2.2 hb24
  have c6 : w4.cell? ⟨w3.heap.size, 0, none⟩ = some (.int .i64 0) := r6.cellIs 0 rfl
  obtain ⟨b6, hb6⟩ : ∃ b6, w3.heap.size = b6 := ⟨_, rfl⟩
  obtain ⟨b4, hb4'⟩ : ∃ b4, w.heap.size = b4 := ⟨_, rfl⟩
  have r4' := H.out.2.1.later hb24
  have hs2 := H.out.2.1.lt
  have hs3 := hb3.size
  have hR4 := H.out.1.later hbw4
  rw [hb6] at r6 c6 ⊢
  rw [hb4'] at r4' hR4 ⊢
  have hs6 := r6.lt
  have cA := hR4.lies.cellIs 5 rfl
  have fA := hR4.lies.froz 5
  have hR5 := hR4.set 5 (.int .i64 (wrap64 (g.drp + 1))) { g with drp := wrap64 (g.drp + 1) } rfl rfl rfl
  have sA := chR_set B w4 5 (.int .i64 (wrap64 (g.drp + 1)))
  have r6' := r6.ch sA (by omega)
  have r4'' := r4'.ch sA (by omega)
  have hsz : (w4.setCell ⟨B, 5, none⟩ (.int .i64 (wrap64 (g.drp + 1)))).heap.size = w4.heap.size := by simp [World.setCell]
  have H5 := hid_of' (And.intro hR5 (And.intro r6' (And.intro r4'' ((Ch.of (S := fun k => k = B) hbw4).go sA (fun s q => .inl q)))))
  have HQ : Hid (({ g with drp := wrap64 (g.drp + 1) } : Bg).l[n]? = some y) := HQ0.out
  clear r6 r4' hR4 hR5 sA r6' r4'' hb3 hb4 hb24 hbw4 H
  go_upto_region 3 with fail
  clear c6
  go_upto_region 4 with fail
  clear cA fA
  generalize w4.setCell ⟨B, 5, none⟩ (.int .i64 (wrap64 (g.drp + 1))) = W at H5 hsz ⊢
  have HT := hid_of' (refOut_ok H5.out.1 HQ.out)
  go_upto_region 5 with (go_at_call 63; refine HT.out.mono ?_; rintro e w6 ⟨p, v9, rfl, _, q2, q3, q4⟩; have H6 := hid_of' (And.intro q2 (And.intro q3 q4)); clear q2 q3 q4 HT)
  have r6x := H5.out.2.1.ch H6.out.2.2 (by omega)
  have r4x := H5.out.2.2.1.ch H6.out.2.2 (by omega)
  go_wp2_with (first | (refine wpL_loadNo rfl _ rfl rfl r6x rfl ?_) | (refine wpL_storeNo rfl _ _ rfl rfl (code := 0) (a := none) (n := 0) (c := 0) (a' := none) (n' := 0) (c' := 0) rfl r4x ?_))
  have c7 := Ch.row (S := fun s => s = b4) (Ch.refl _ w6) (.inl rfl) (nov 0 none 0 0 none 0 0)
  obtain ⟨y3, y4, y5⟩ := H6.out
  refine bodyPost_ret (v := nov0) (results_n (fn := Tryd.f31) (p := 4) (g := b4) rfl rfl (r4x.put _) rfl) rfl ⟨rfl, v9, ?_, fun k hk => by have := y4 k hk; omega, (H5.out.2.2.2.go y5 (fun s q => .inl q)).go c7 (fun s q => .inr (by omega))⟩
  exact (y3.ch c7 (by omega) (fun k hk => by have := y4 k hk; omega) (fun k hk e => by have := hk.2; omega)).mono (fun k hk _ => hk.1)
set_option maxHeartbeats 4000000 in
theorem refDrop_out {B : Nat} {v : Value} {g : Bg} {K : Nat → Prop} {w : World} (h : RgAt B v g K w) {i : Int} (hi : i < 0 ∨ (g.l.length : Int) ≤ i) :
    Calls Tryd.prog 31 #[.pointer (some ⟨B, 0, none⟩), .int .i64 i] w fun e w' => ∃ u, e = .returned u ∧ NoR w.heap.size (some (bDrop, i, 1)) u w' ∧ Below w.heap.size w w' := by
  have r4 := row_new w #[.int .i64 0, .slice none 0 0, .slice none 0 0] 32
  have hb1 := below_one w (.cells #[.int .i64 0, .slice none 0 0, .slice none 0 0] 32)
  have hB0 := h.lies.lt
  go_enter Tryd.func31, Tryd.ntmps31
  go_upto_region 1 with fail
  generalize w.alloc (.cells #[.int .i64 0, .slice none 0 0, .slice none 0 0] 32) = w2 at r4 hb1 ⊢
  have HIs := hid_of' (refIs_out (h.later hb1) bDrop hi)
  have H := hid_of' (And.intro r4 hb1)
  clear h r4 hb1 hi
  go_upto_region 2 with (first | (go_at_call 62; refine HIs.out.mono ?_; rintro e w3 ⟨u, rfl, ⟨g1, g2, rfl, h2, h3, h4, h5⟩, hb3⟩; clear HIs; have HN := hid_of' (And.intro h2 (And.intro h3 (And.intro h4 h5))); clear h2 h3 h4 h5) | (refine wpL_storeNo rfl _ _ rfl rfl (code := ((1 : Nat) : Int) + 1) (a := some ⟨g2, 0, none⟩) (n := 1) (c := 1) (a' := some ⟨g1, 0, none⟩) (n' := 1) (c' := 1) rfl (row_new w3 _ _) ?_))
  have r6 := (row_new w3 #[.int .i64 0, .slice none 0 0, .slice none 0 0] 32).put (nov (((1 : Nat) : Int) + 1) (some ⟨g2, 0, none⟩) 1 1 (some ⟨g1, 0, none⟩) 1 1)
  have hb4 := below_row (below_one w3 (.cells #[.int .i64 0, .slice none 0 0, .slice none 0 0] 32)) (Nat.le_refl _) (nov (((1 : Nat) : Int) + 1) (some ⟨g2, 0, none⟩) 1 1 (some ⟨g1, 0, none⟩) 1 1)
  generalize (w3.alloc (.cells #[.int .i64 0, .slice none 0 0, .slice none 0 0] 32)).setRow w3.heap.size (nov (((1 : Nat) : Int) + 1) (some ⟨g2, 0, none⟩) 1 1 (some ⟨g1, 0, none⟩) 1 1) = w4 at r6 hb4 ⊢
  have hb24 := bgo hb3 hb4
  have hbw4 := bgo H.out.2 hb24
  have c6 : w4.cell? ⟨w3.heap.size, 0, none⟩ = some (.int .i64 2) := r6.cellIs 0 rfl
  obtain ⟨b6, hb6⟩ : ∃ b6, w3.heap.size = b6 := ⟨_, rfl⟩
  obtain ⟨b4, hb4'⟩ : ∃ b4, w.heap.size = b4 := ⟨_, rfl⟩
  have r4' := H.out.1.later hb24
  have hs2 := H.out.1.lt
  have hs3 := hb3.size
  have hg1 := HN.out.1
  have hg2 := HN.out.2.1
  rw [hb6] at r6 c6 ⊢
  rw [hb4'] at r4' ⊢
  have hs6 := r6.lt
  have H4 := hid_of' (And.intro r6 (And.intro r4' (And.intro hbw4 (And.intro (HN.out.2.2.1.later hb4) (HN.out.2.2.2.later hb4)))))
  clear r6 r4' hb24 hbw4 hb3 hb4 H HN
  go_wp2_with (first | (refine wpL_loadNo rfl _ rfl rfl H4.out.1 rfl ?_) | (refine wpL_storeNo rfl _ _ rfl rfl (code := ((1 : Nat) : Int) + 1) (a := some ⟨g2, 0, none⟩) (n := 1) (c := 1) (a' := some ⟨g1, 0, none⟩) (n' := 1) (c' := 1) rfl H4.out.2.1 ?_))
  have cR := Ch.row (S := fun s => s = b4) (Ch.refl _ w4) (.inl rfl) (nov (((1 : Nat) : Int) + 1) (some ⟨g2, 0, none⟩) 1 1 (some ⟨g1, 0, none⟩) 1 1)
  exact bodyPost_ret (v := .agg (nov (((1 : Nat) : Int) + 1) (some ⟨g2, 0, none⟩) 1 1 (some ⟨g1, 0, none⟩) 1 1)) (results_n (fn := Tryd.f31) (p := 4) (g := b4) rfl rfl (H4.out.2.1.put _) rfl) rfl ⟨_, rfl, ⟨g1, g2, rfl, by omega, by omega, H4.out.2.2.2.1.ch cR (by omega), H4.out.2.2.2.2.ch cR (by omega)⟩, below_row H4.out.2.2.1 (by omega) _⟩
set_option maxHeartbeats 4000000 in
theorem refSwap_no1 {B : Nat} {v : Value} {g : Bg} {K : Nat → Prop} {w : World} (h : RgAt B v g K w) {i : Int} (j : Int) (hi : i < 0 ∨ (g.l.length : Int) ≤ i) :
    Calls Tryd.prog 35 #[.pointer (some ⟨B, 0, none⟩), .int .i64 i, .int .i64 j] w fun e w' => ∃ u, e = .returned u ∧ NoR w.heap.size (some (bSwap, i, 1)) u w' ∧ Below w.heap.size w w' := by
  have r4 := row_new w #[.int .i64 0, .slice none 0 0, .slice none 0 0] 32
  have hb1 := below_one w (.cells #[.int .i64 0, .slice none 0 0, .slice none 0 0] 32)
  have hB0 := h.lies.lt
  go_enter Tryd.func35, Tryd.ntmps35
  go_upto_region 1 with fail
  generalize w.alloc (.cells #[.int .i64 0, .slice none 0 0, .slice none 0 0] 32) = w2 at r4 hb1 ⊢
  have HIs := hid_of' (refIs_out (h.later hb1) bSwap hi)
  have H := hid_of' (And.intro r4 hb1)
  clear h r4 hb1 hi
  go_upto_region 2 with (first | (go_at_call 62; refine HIs.out.mono ?_; rintro e w3 ⟨u, rfl, ⟨g1, g2, rfl, h2, h3, h4, h5⟩, hb3⟩; clear HIs; have HN := hid_of' (And.intro h2 (And.intro h3 (And.intro h4 h5))); clear h2 h3 h4 h5) | (refine wpL_storeNo rfl _ _ rfl rfl (code := ((1 : Nat) : Int) + 1) (a := some ⟨g2, 0, none⟩) (n := 1) (c := 1) (a' := some ⟨g1, 0, none⟩) (n' := 1) (c' := 1) rfl (row_new w3 _ _) ?_))
  have r6 := (row_new w3 #[.int .i64 0, .slice none 0 0, .slice none 0 0] 32).put (nov (((1 : Nat) : Int) + 1) (some ⟨g2, 0, none⟩) 1 1 (some ⟨g1, 0, none⟩) 1 1)
  have hb4 := below_row (below_one w3 (.cells #[.int .i64 0, .slice none 0 0, .slice none 0 0] 32)) (Nat.le_refl _) (nov (((1 : Nat) : Int) + 1) (some ⟨g2, 0, none⟩) 1 1 (some ⟨g1, 0, none⟩) 1 1)
  generalize (w3.alloc (.cells #[.int .i64 0, .slice none 0 0, .slice none 0 0] 32)).setRow w3.heap.size (nov (((1 : Nat) : Int) + 1) (some ⟨g2, 0, none⟩) 1 1 (some ⟨g1, 0, none⟩) 1 1) = w4 at r6 hb4 ⊢
  have hb24 := bgo hb3 hb4
  have hbw4 := bgo H.out.2 hb24
  have c6 : w4.cell? ⟨w3.heap.size, 0, none⟩ = some (.int .i64 2) := r6.cellIs 0 rfl
  obtain ⟨b6, hb6⟩ : ∃ b6, w3.heap.size = b6 := ⟨_, rfl⟩
  obtain ⟨b4, hb4'⟩ : ∃ b4, w.heap.size = b4 := ⟨_, rfl⟩
  have r4' := H.out.1.later hb24
  have hs2 := H.out.1.lt
  have hs3 := hb3.size
  have hg1 := HN.out.1
  have hg2 := HN.out.2.1
  rw [hb6] at r6 c6 ⊢
  rw [hb4'] at r4' ⊢
  have hs6 := r6.lt
  have H4 := hid_of' (And.intro r6 (And.intro r4' (And.intro hbw4 (And.intro (HN.out.2.2.1.later hb4) (HN.out.2.2.2.later hb4)))))
  clear r6 r4' hb24 hbw4 hb3 hb4 H HN
  go_upto_region 5 with fail
  clear c6
  go_wp2_with (first | (refine wpL_loadNo rfl _ rfl rfl H4.out.1 rfl ?_) | (refine wpL_storeNo rfl _ _ rfl rfl (code := ((1 : Nat) : Int) + 1) (a := some ⟨g2, 0, none⟩) (n := 1) (c := 1) (a' := some ⟨g1, 0, none⟩) (n' := 1) (c' := 1) rfl H4.out.2.1 ?_))
  have cR := Ch.row (S := fun s => s = b4) (Ch.refl _ w4) (.inl rfl) (nov (((1 : Nat) : Int) + 1) (some ⟨g2, 0, none⟩) 1 1 (some ⟨g1, 0, none⟩) 1 1)
  exact bodyPost_ret (v := .agg (nov (((1 : Nat) : Int) + 1) (some ⟨g2, 0, none⟩) 1 1 (some ⟨g1, 0, none⟩) 1 1)) (results_n (fn := Tryd.f35) (p := 6) (g := b4) rfl rfl (H4.out.2.1.put _) rfl) rfl ⟨_, rfl, ⟨g1, g2, rfl, by omega, by omega, H4.out.2.2.2.1.ch cR (by omega), H4.out.2.2.2.2.ch cR (by omega)⟩, below_row H4.out.2.2.1 (by omega) _⟩
set_option maxHeartbeats 4000000 in
theorem refSwap_no2 {B : Nat} {v : Value} {g : Bg} {K : Nat → Prop} {w : World} (h : RgAt B v g K w) {n : Nat} {y : Pl} (hy : g.l[n]? = some y) {j : Int} (hj : j < 0 ∨ (g.l.length : Int) ≤ j) :
    Calls Tryd.prog 35 #[.pointer (some ⟨B, 0, none⟩), .int .i64 (n : Int), .int .i64 j] w fun e w' => ∃ u, e = .returned u ∧ NoR w.heap.size (some (bSwap, j, 1)) u w' ∧ Below w.heap.size w w' := by
  have hn := (List.getElem?_eq_some_iff.1 hy).1
  have r4 := row_new w #[.int .i64 0, .slice none 0 0, .slice none 0 0] 32
  have hb1 := below_one w (.cells #[.int .i64 0, .slice none 0 0, .slice none 0 0] 32)
  have hB0 := h.lies.lt
  go_enter Tryd.func35, Tryd.ntmps35
  go_upto_region 1 with fail
  generalize w.alloc (.cells #[.int .i64 0, .slice none 0 0, .slice none 0 0] 32) = w2 at r4 hb1 ⊢
  have HIs := hid_of' (refIs_in (h.later hb1) bSwap hn)
  have H := hid_of' (And.intro (h.mono (K' := fun k => K k ∧ k < w.heap.size) (fun k hk hl => ⟨hk, hl⟩)) (And.intro r4 hb1))
  have HQ0 := hid_of' hy
  clear h r4 hb1 hy
  go_upto_region 2 with (first | (go_at_call 62; refine HIs.out.mono ?_; rintro e w3 ⟨rfl, hb3⟩; clear HIs; unfold nov0) | (refine wpL_storeNo rfl _ _ rfl rfl (code := 0) (a := none) (n := 0) (c := 0) (a' := none) (n' := 0) (c' := 0) rfl (row_new w3 _ _) ?_))
  have r6 := (row_new w3 #[.int .i64 0, .slice none 0 0, .slice none 0 0] 32).put (nov 0 none 0 0 none 0 0)
  have hb4 := below_row (below_one w3 (.cells #[.int .i64 0, .slice none 0 0, .slice none 0 0] 32)) (Nat.le_refl _) (nov 0 none 0 0 none 0 0)
  generalize (w3.alloc (.cells #[.int .i64 0, .slice none 0 0, .slice none 0 0] 32)).setRow w3.heap.size (nov 0 none 0 0 none 0 0) = w4 at r6 hb4 ⊢
  have hb24 := bgo hb3 hb4
  have hbw4 := bgo H.out.2.2 hb24
  have c6 : w4.cell? ⟨w3.heap.size, 0, none⟩ = some (.int .i64 0) := r6.cellIs 0 rfl
  obtain ⟨b6, hb6⟩ : ∃ b6, w3.heap.size = b6 := ⟨_, rfl⟩
  obtain ⟨b4, hb4'⟩ : ∃ b4, w.heap.size = b4 := ⟨_, rfl⟩
  have r4' := H.out.2.1.later hb24
  have hs2 := H.out.2.1.lt
  have hs3 := hb3.size
  have hR4 := H.out.1.later hbw4
  rw [hb6] at r6 c6 ⊢
  rw [hb4'] at r4' hR4 ⊢
  have hs6 := r6.lt
  have HIj := hid_of' (refIs_out hR4 bSwap hj)
  have H5 := hid_of' (And.intro r6 (And.intro r4' hbw4))
  clear r6 r4' hR4 hb3 hb4 hb24 hbw4 H hj
  go_upto_region 3 with fail
  clear c6
  go_upto_region 4 with (first | (go_at_call 62; refine HIj.out.mono ?_; rintro e w5 ⟨u, rfl, ⟨g1, g2, rfl, h2, h3, h4, h5⟩, hb5⟩; clear HIj; have HN := hid_of' (And.intro h2 (And.intro h3 (And.intro h4 (And.intro h5 hb5)))); clear h2 h3 h4 h5 hb5) | (refine wpL_storeNo rfl _ _ rfl rfl (code := ((1 : Nat) : Int) + 1) (a := some ⟨g2, 0, none⟩) (n := 1) (c := 1) (a' := some ⟨g1, 0, none⟩) (n' := 1) (c' := 1) rfl (H5.out.1.later HN.out.2.2.2.2) ?_))
  have hg1 := HN.out.1
  have hg2 := HN.out.2.1
  have hb5 := HN.out.2.2.2.2
  have c7 := Ch.row (S := fun s => s = b6) (Ch.refl _ w5) (.inl rfl) (nov (((1 : Nat) : Int) + 1) (some ⟨g2, 0, none⟩) 1 1 (some ⟨g1, 0, none⟩) 1 1)
  have r6' := (H5.out.1.later hb5).put (nov (((1 : Nat) : Int) + 1) (some ⟨g2, 0, none⟩) 1 1 (some ⟨g1, 0, none⟩) 1 1)
  have c6 : (w5.setRow b6 (nov (((1 : Nat) : Int) + 1) (some ⟨g2, 0, none⟩) 1 1 (some ⟨g1, 0, none⟩) 1 1)).cell? ⟨b6, 0, none⟩ = some (.int .i64 2) := r6'.cellIs 0 rfl
  have H4 := hid_of' (And.intro r6' (And.intro ((H5.out.2.1.later hb5).ch c7 (by omega)) (And.intro (below_row (bgo H5.out.2.2 hb5) (show w.heap.size ≤ b6 by omega) (nov (((1 : Nat) : Int) + 1) (some ⟨g2, 0, none⟩) 1 1 (some ⟨g1, 0, none⟩) 1 1)) (And.intro (HN.out.2.2.1.ch c7 (by omega)) (HN.out.2.2.2.1.ch c7 (by omega))))))
  clear r6' hb5 c7 HN
  generalize w5.setRow b6 (nov (((1 : Nat) : Int) + 1) (some ⟨g2, 0, none⟩) 1 1 (some ⟨g1, 0, none⟩) 1 1) = w4x at H4 c6 ⊢
  go_upto_region 5 with fail
  clear c6
  go_wp2_with (first | (refine wpL_loadNo rfl _ rfl rfl H4.out.1 rfl ?_) | (refine wpL_storeNo rfl _ _ rfl rfl (code := ((1 : Nat) : Int) + 1) (a := some ⟨g2, 0, none⟩) (n := 1) (c := 1) (a' := some ⟨g1, 0, none⟩) (n' := 1) (c' := 1) rfl H4.out.2.1 ?_))
  have cR := Ch.row (S := fun s => s = b4) (Ch.refl _ w4x) (.inl rfl) (nov (((1 : Nat) : Int) + 1) (some ⟨g2, 0, none⟩) 1 1 (some ⟨g1, 0, none⟩) 1 1)
  exact bodyPost_ret (v := .agg (nov (((1 : Nat) : Int) + 1) (some ⟨g2, 0, none⟩) 1 1 (some ⟨g1, 0, none⟩) 1 1)) (results_n (fn := Tryd.f35) (p := 6) (g := b4) rfl rfl (H4.out.2.1.put _) rfl) rfl ⟨_, rfl, ⟨g1, g2, rfl, by omega, by omega, H4.out.2.2.2.1.ch cR (by omega), H4.out.2.2.2.2.ch cR (by omega)⟩, below_row H4.out.2.2.1 (by omega) _⟩
set_option maxHeartbeats 8000000 in
theorem refSwap_ok {B : Nat} {v : Value} {g : Bg} {K : Nat → Prop} {w : World} (h : RgAt B v g K w) {n m : Nat} {y z : Pl} (hy : g.l[n]? = some y) (hz : g.l[m]? = some z) :
    Calls Tryd.prog 35 #[.pointer (some ⟨B, 0, none⟩), .int .i64 (n : Int), .int .i64 (m : Int)] w fun e w' => e = .returned nov0 ∧ ∃ v', RgAt B v' { g with l := swpL g.l n m y z } K w' ∧ NewB w v' ∧ Ch (fun k => k = B) w w' := by
  have hm := (List.getElem?_eq_some_iff.1 hz).1
  have hn := (List.getElem?_eq_some_iff.1 hy).1
  have r4 := row_new w #[.int .i64 0, .slice none 0 0, .slice none 0 0] 32
  have hb1 := below_one w (.cells #[.int .i64 0, .slice none 0 0, .slice none 0 0] 32)
  have hB0 := h.lies.lt
  go_enter Tryd.func35, Tryd.ntmps35
  go_upto_region 1 with fail
  generalize w.alloc (.cells #[.int .i64 0, .slice none 0 0, .slice none 0 0] 32) = w2 at r4 hb1 ⊢
  have HIs := hid_of' (refIs_in (h.later hb1) bSwap hn)
  have H := hid_of' (And.intro (h.mono (K' := fun k => K k ∧ k < w.heap.size) (fun k hk hl => ⟨hk, hl⟩)) (And.intro r4 hb1))
  have HQ0 := hid_of' hy
  clear h r4 hb1 hy
  go_upto_region 2 with (first | (go_at_call 62; refine HIs.out.mono ?_; rintro e w3 ⟨rfl, hb3⟩; clear HIs; unfold nov0) | (refine wpL_storeNo rfl _ _ rfl rfl (code := 0) (a := none) (n := 0) (c := 0) (a' := none) (n' := 0) (c' := 0) rfl (row_new w3 _ _) ?_))
  have r6 := (row_new w3 #[.int .i64 0, .slice none 0 0, .slice none 0 0] 32).put (nov 0 none 0 0 none 0 0)
  have hb4 := below_row (below_one w3 (.cells #[.int .i64 0, .slice none 0 0, .slice none 0 0] 32)) (Nat.le_refl _) (nov 0 none 0 0 none 0 0)
  generalize (w3.alloc (.cells #[.int .i64 0, .slice none 0 0, .slice none 0 0] 32)).setRow w3.heap.size (nov 0 none 0 0 none 0 0) = w4 at r6 hb4 ⊢
  have hb24 := bgo hb3 hb4
  have hbw4 := bgo H.out.2.2 hb24
  have c6 : w4.cell? ⟨w3.heap.size, 0, none⟩ = some (.int .i64 0) := r6.cellIs 0 rfl
  obtain ⟨b6, hb6⟩ : ∃ b6, w3.heap.size = b6 := ⟨_, rfl⟩
  obtain ⟨b4, hb4'⟩ : ∃ b4, w.heap.size = b4 := ⟨_, rfl⟩
  have r4' := H.out.2.1.later hb24
  have hs2 := H.out.2.1.lt
  have hs3 := hb3.size
  have hR4 := H.out.1.later hbw4
  rw [hb6] at r6 c6 ⊢
  rw [hb4'] at r4' hR4 ⊢
  have hs6 := r6.lt
  have HIj := hid_of' (refIs_in hR4 bSwap hm)
  have H5 := hid_of' (And.intro r6 (And.intro r4' (And.intro hbw4 hR4)))
  have HZ0 := hid_of' hz
  clear r6 r4' hR4 hb3 hb4 hb24 hbw4 H hz
  go_upto_region 3 with fail
  clear c6
  go_upto_region 4 with (first | (go_at_call 62; refine HIj.out.mono ?_; rintro e w5 ⟨rfl, hb5⟩; clear HIj; unfold nov0) | (refine wpL_storeNo rfl _ _ rfl rfl (code := 0) (a := none) (n := 0) (c := 0) (a' := none) (n' := 0) (c' := 0) rfl (H5.out.1.later hb5) ?_))
  have c7 := Ch.row (S := fun s => s = b6) (Ch.refl _ w5) (.inl rfl) (nov 0 none 0 0 none 0 0)
  have r6' := (H5.out.1.later hb5).put (nov 0 none 0 0 none 0 0)
  have c6 : (w5.setRow b6 (nov 0 none 0 0 none 0 0)).cell? ⟨b6, 0, none⟩ = some (.int .i64 0) := r6'.cellIs 0 rfl
  have hvl := H5.out.2.2.2.row.lt
  have hs5 := hb5.size
  have hR7 : RgAt B v g (fun k => K k ∧ k < b4) (w5.setRow b6 (nov 0 none 0 0 none 0 0)) := (H5.out.2.2.2.later hb5).ch c7 (by omega) (prow_apart (H5.out.2.2.2.later hb5).row (H5.out.1.later hb5) (by decide)) (fun k hk e => by have := hk.2; omega)
  have H7 := hid_of' (And.intro hR7 (And.intro r6' (And.intro ((H5.out.2.1.later hb5).ch c7 (by omega)) (below_row (bgo H5.out.2.2.1 hb5) (show w.heap.size ≤ b6 by omega) (nov 0 none 0 0 none 0 0)))))
  clear r6' hb5 c7 hR7 hvl hs5 H5
  generalize w5.setRow b6 (nov 0 none 0 0 none 0 0) = W at H7 c6 ⊢
  go_upto_region 6 with fail
  clear c6
  have hkn := H7.out.1.kne
  obtain ⟨g9, c9, p0, rfl, hc1, hc2, _, _, _⟩ := hkn.at HQ0.out
  obtain ⟨ps, hrw, hps⟩ := hkn
  obtain ⟨N, hN⟩ : ∃ N, g.l.length = N := ⟨_, rfl⟩
  have hl4 : N ≤ 4096 := by have := H7.out.1.room; have := H7.out.1.most1; omega
  have hpl : ps.length = N := by rw [← hN]; exact hps.1
  have hrow := H7.out.1.lies
  rw [hN] at hrw hn hm
  simp only [hN] at hrow
  have c2 := hrow.cellIs 2 rfl
  have hso : SoQ (.slice (some ⟨g9, 0, none⟩) N c9) ps W := by
    have := so_take (n := N) hrw (by omega)
    rwa [List.take_of_length_le (by omega)] at this
  have hone := OneQ.of hps
  have HW := hid_of' (And.intro hrw (And.intro hps (And.intro hso (And.intro hone (And.intro hrow (And.intro hpl hN))))))
  have hnm : (n : Int) < (N : Int) := by omega
  have hmm : (m : Int) < (N : Int) := by omega
  clear hrw hps hso hone hrow hpl hc1 hc2
  go_upto_region 7 with (first
    | (refine wpL_noneP rfl rfl ?_; intro X hX0 hb0; have cB := (HW.out.2.2.2.2.1.later hb0).cellIs 2 rfl; have HX0 := hid_of' (And.intro hX0 hb0); clear hX0 hb0)
    | (at_builtin; refine wpL_appP0 rfl _ _ rfl rfl rfl HX0.out.1 (SoQ.later HW.out.2.2.1 HX0.out.2) (by have := HW.out.2.2.2.2.2.1; omega) ?_; intro v8 w8 q1 q2 q3; have H8 := hid_of' (And.intro q1 (And.intro (bgo HX0.out.2 q2) (fun k hk => (q3 k hk).elim (fun e => by rw [e]; exact Nat.le_refl _) (fun e => Nat.le_trans HX0.out.2.size e) : ∀ k, v8.ownBlock = some k → W.heap.size ≤ k))); clear q1 q2 q3))
  clear cB c2
  obtain ⟨g8, c8, hv8⟩ := H8.out.1.pos (by have := HW.out.2.2.2.2.2.1; omega)
  subst hv8
  obtain ⟨pn, hpn, hpqn⟩ := HW.out.2.1.at HQ0.out
  obtain ⟨pm, hpm, hpqm⟩ := HW.out.2.1.at HZ0.out
  have HPn : pn.b.oneCell' = true := hpqn.b.sl.one
  have HPm : pm.b.oneCell' = true := hpqm.b.sl.one
  have i1 := H8.out.1.in hpn
  have i2 := H8.out.1.in hpm
  have hrw8 := H8.out.1
  unfold RwQ at hrw8
  have hpl8 := HW.out.2.2.2.2.2.1
  rw [hpl8] at hrw8 ⊢
  have hg8 := H8.out.2.2 g8 rfl
  have hg8l := Rw.lt hrw8 g8 rfl
  have HP := hid_of' (And.intro hpqn (And.intro hpqm (And.intro hrw8 (And.intro i2 (And.intro hpn hpm)))))
  clear hpqn hpqm hrw8 i2 hpl8 hpn hpm
  go_upto_region 8 with (first | (refine wpL_loadP (p := pn) rfl _ rfl rfl i1 ?_) | (refine wpL_stNewP (p := pn) rfl _ _ rfl rfl rfl rfl rfl rfl HPn ?_; go_simp))
  have r9 : RowAt w8.heap.size (pcv pn) 65 (w8.alloc (.cells (pcv pn) 65)) := row_new w8 _ _
  have hb9 := below_one w8 (.cells (pcv pn) 65)
  generalize w8.alloc (.cells (pcv pn) 65) = w9 at r9 hb9 ⊢
  have h9 := Rw.later HP.out.2.2.1 hb9
  have i9 := HP.out.2.2.2.1.later hb9
  have th9 := Rw.there h9 hn
  have H9 := hid_of' (And.intro h9 (And.intro r9 hb9))
  clear h9 r9 hb9 i1
  go_upto_region 9 with (first | (refine wpL_loadP (p := pm) rfl _ rfl rfl i9 ?_) | (refine wpL_storeP (p := pm) rfl _ _ rfl rfl rfl HPm th9 ?_))
  have h10 := Rw.put H9.out.1 hn pm
  have g10 := grown_cells w9 g8 (n * 4) (pcv pm).toList
  have r10 := H9.out.2.1.grow g10 (fun e => by have := Option.some.inj e; omega)
  have b10 := (bgo H8.out.2.1 H9.out.2.2).grown g10 (bgo H8.out.2.1 H9.out.2.2).size (fun k hk => by have := Option.some.inj hk; omega)
  generalize w9.setCells g8 (n * 4) (pcv pm).toList = w10 at h10 g10 r10 b10 ⊢
  have i10 := r10.in
  have th10 := Rw.there h10 hm
  have H10 := hid_of' (And.intro h10 (And.intro r10 b10))
  clear h10 g10 r10 b10 i9 th9
  go_upto_region 10 with (first | (refine wpL_loadP (p := pn) rfl _ rfl rfl i10 ?_) | (refine wpL_storeP (p := pn) rfl _ _ rfl rfl rfl HPn th10 ?_))
  have h11 := Rw.put H10.out.1 hm pn
  have g11 := grown_cells w10 g8 (m * 4) (pcv pn).toList
  have b11 := H10.out.2.2.grown g11 H10.out.2.2.size (fun k hk => by have := Option.some.inj hk; omega)
  generalize w10.setCells g8 (m * 4) (pcv pn).toList = w11 at h11 g11 b11 ⊢
  have cA := (HW.out.2.2.2.2.1.later b11).cellIs 2 rfl
  have fA := (HW.out.2.2.2.2.1.later b11).froz 2
  have H11 := hid_of' (And.intro h11 b11)
  clear h11 g11 b11 i10 th10
  go_upto_region 11 with fail
  clear cA fA
  have hBl := (HW.out.2.2.2.2.1).lt
  have s12 := chR_set B w11 2 (.slice (some ⟨g8, 0, none⟩) N c8)
  have r12 := (HW.out.2.2.2.2.1.later H11.out.2).setc 2 (.slice (some ⟨g8, 0, none⟩) N c8)
  have h12 := Rw.ch H11.out.1 s12 (fun k hk e => by cases hk; have e' : g8 = _ := e; omega)
  have p12 := (((HW.out.2.1.later H11.out.2).set n (HP.out.2.1.later H11.out.2)).set m (HP.out.1.later H11.out.2)).ch s12 (fun k hk e => hk.2.2.1 e)
  have hW6 := H7.out.2.1.lt
  have n12 := (H7.out.2.1.later H11.out.2).ch s12 (by omega)
  have a12 := (H7.out.2.2.1.later H11.out.2).ch s12 (by omega)
  have k12 := ((Ch.of (S := fun k => k = B) (bgo H7.out.2.2.2 H11.out.2)).go s12 (fun s q => .inl q))
  have H12 := hid_of' (And.intro r12 (And.intro h12 (And.intro p12 (And.intro n12 (And.intro a12 k12)))))
  clear r12 h12 p12 n12 a12 k12 s12
  generalize w11.setCell ⟨B, 2, none⟩ (.slice (some ⟨g8, 0, none⟩) N c8) = w12 at H12 ⊢
  go_wp2_with (first | (refine wpL_loadNo rfl _ rfl rfl H12.out.2.2.2.1 rfl ?_) | (refine wpL_storeNo rfl _ _ rfl rfl (code := 0) (a := none) (n := 0) (c := 0) (a' := none) (n' := 0) (c' := 0) rfl H12.out.2.2.2.2.1 ?_))
  obtain ⟨r12, h12, p12, _, a12, k12⟩ := H12.out
  have c7 := Ch.row (S := fun s => s = b4) (Ch.refl _ w12) (.inl rfl) (nov 0 none 0 0 none 0 0)
  refine bodyPost_ret (v := nov0) (results_n (fn := Tryd.f35) (p := 6) (g := b4) rfl rfl (a12.put _) rfl) rfl ⟨rfl, .slice (some ⟨g8, 0, none⟩) N c8, ⟨r12.ch c7 (by omega), ⟨(ps.set n pm).set m pn, ?_, ?_⟩, H7.out.1.most1, ?_⟩, fun k hk => by cases hk; exact Nat.le_trans H7.out.2.2.2.size hg8, k12.go c7 (fun s q => .inr (by omega))⟩
  · have h := Rw.ch h12 c7 (fun k hk e => by cases hk; have e' : g8 = _ := e; omega)
    have e : (swpL g.l n m y z).length = N := by unfold swpL; rw [List.length_set, List.length_set, HW.out.2.2.2.2.2.2]
    show Rw _ _ _ (swpL g.l n m y z).length _ _
    rw [e]
    exact h
  · exact (p12.ch c7 (fun k hk e => by have := hk.1.2; omega)).mono (fun k hk _ => hk.1.1)
  · have := H7.out.1.room
    show ((swpL g.l n m y z).length : Int) ≤ g.most
    unfold swpL
    rw [List.length_set, List.length_set]
    exact this
end Go.Proofs.YtdojjhhnciaegaaDoor
