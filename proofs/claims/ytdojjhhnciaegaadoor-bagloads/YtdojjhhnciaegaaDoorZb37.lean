
/-
  The document's Bag: Double, Send.
-/
import Derived.Test.YtdojjhhnciaegaaDoorZb36
namespace Go.Proofs.YtdojjhhnciaegaaDoor
open Go.RowKit Go.Extern.Stop Go.Stop Go.Extern
set_option maxRecDepth 100000

set_option maxHeartbeats 4000000 in
theorem refDouble_out {B : Nat} {v : Value} {g : Bg} {K : Nat → Prop} {w : World} (h : RgAt B v g K w) {i : Int} (hi : i < 0 ∨ (g.l.length : Int) ≤ i) :
    Calls Tryd.prog 33 #[.pointer (some ⟨B, 0, none⟩), .int .i64 i] w fun e w' => ∃ u, e = .returned u ∧ NoR w.heap.size (some (bDouble, i, 1)) u w' ∧ Below w.heap.size w w' := by
  have r4 := row_new w #[.int .i64 0, .slice none 0 0, .slice none 0 0] 32
  have hb1 := below_one w (.cells #[.int .i64 0, .slice none 0 0, .slice none 0 0] 32)
  have hB0 := h.lies.lt
  go_enter Tryd.func33, Tryd.ntmps33
  go_upto_region 1 with fail
  generalize w.alloc (.cells #[.int .i64 0, .slice none 0 0, .slice none 0 0] 32) = w2 at r4 hb1 ⊢
  have HIs := hid_of' (refIs_out (h.later hb1) bDouble hi)
  have H := hid_of' (And.intro r4 hb1)
  clear h r4 hb1 hi
  go_upto_region 2 with (first | (go_at_call 62; refine HIs.out.mono ?_; rintro e w3 ⟨u, rfl, ⟨g1, g2, rfl, h2, h3, h4, h5⟩, hb3⟩; clear HIs; have HN := hid_of' (And.intro h2 (And.intro h3 (And.intro h4 h5))); clear h2 h3 h4 h5) | (refine wpL_storeNo rfl _ _ rfl rfl (code := ((1 : Nat) : Int) + 1) (a := some ⟨g2, 0, none⟩) (n := 1) (c := 1) (a' := some ⟨g1, 0, none⟩) (n' := 1) (c' := 1) rfl (row_new w3 _ _) ?_))
  have r6 := (row_new w3 #[.int .i64 0, .slice none 0 0, .slice none 0 0] 32).put (nov (((1 : Nat) : Int) + 1) (some ⟨g2, 0, none⟩) 1 1 (some ⟨g1, 0, none⟩) 1 1)
  have hb4 := below_row (below_one w3 (.cells #[.int .i64 0, .slice none 0 0, .slice none 0 0] 32)) (Nat.le_refl _) (nov (((1 : Nat) : Int) + 1) (some ⟨g2, 0, none⟩) 1 1 (some ⟨g1, 0, none⟩) 1 1)
  generalize (w3.alloc (.cells #[.int .i64 0, .slice none 0 0, .slice none 0 0] 32)).setRow w3.heap.size (nov (((1 : Nat) : Int) + 1) (some ⟨g2, 0, none⟩) 1 1 (some ⟨g1, 0, none⟩) 1 1) = w4 at r6 hb4 ⊢
  have hb24 := bgo hb3 hb4
  have hbw4 := bgo H.out.2 hb24
  have c6 : w4.cell? ⟨w3.heap.size, 0, none⟩ = some (.int .i64 2) := r6.cellIs 0 rfl
  obtain ⟨b6, hb6⟩ : ∃ b6, w3.heap.size = b6 := ⟨_, rfl⟩
  obtain ⟨b4, hb4'⟩ : ∃ b4, w.heap.size = b4 := ⟨_, rfl⟩
  have r4' := H.out.1.later hb24
  have hs2 := H.out.1.lt
  have hs3 := hb3.size
  have hg1 := HN.out.1
  have hg2 := HN.out.2.1
  rw [hb6] at r6 c6 ⊢
  rw [hb4'] at r4' ⊢
  have hs6 := r6.lt
  have H4 := hid_of' (And.intro r6 (And.intro r4' (And.intro hbw4 (And.intro (HN.out.2.2.1.later hb4) (HN.out.2.2.2.later hb4)))))
  clear r6 r4' hb24 hbw4 hb3 hb4 H HN
  go_upto_region 3 with fail
  clear c6
  go_wp2_with (first | (refine wpL_loadNo rfl _ rfl rfl H4.out.1 rfl ?_) | (refine wpL_storeNo rfl _ _ rfl rfl (code := ((1 : Nat) : Int) + 1) (a := some ⟨g2, 0, none⟩) (n := 1) (c := 1) (a' := some ⟨g1, 0, none⟩) (n' := 1) (c' := 1) rfl H4.out.2.1 ?_))
  have cR := Ch.row (S := fun s => s = b4) (Ch.refl _ w4) (.inl rfl) (nov (((1 : Nat) : Int) + 1) (some ⟨g2, 0, none⟩) 1 1 (some ⟨g1, 0, none⟩) 1 1)
  exact bodyPost_ret (v := .agg (nov (((1 : Nat) : Int) + 1) (some ⟨g2, 0, none⟩) 1 1 (some ⟨g1, 0, none⟩) 1 1)) (results_n (fn := Tryd.f33) (p := 4) (g := b4) rfl rfl (H4.out.2.1.put _) rfl) rfl ⟨_, rfl, ⟨g1, g2, rfl, by omega, by omega, H4.out.2.2.2.1.ch cR (by omega), H4.out.2.2.2.2.ch cR (by omega)⟩, below_row H4.out.2.2.1 (by omega) _⟩
set_option maxHeartbeats 4000000 in
theorem refDouble_full {B : Nat} {v : Value} {g : Bg} {K : Nat → Prop} {w : World} (h : RgAt B v g K w) {n : Nat} {y : Pl} (hy : g.l[n]? = some y) (hroom : g.most ≤ (g.l.length : Int)) :
    Calls Tryd.prog 33 #[.pointer (some ⟨B, 0, none⟩), .int .i64 (n : Int)] w fun e w' => ∃ u, e = .returned u ∧ NoR w.heap.size (some (bDouble, (n : Int), 12)) u w' ∧ Below w.heap.size w w' := by
  obtain ⟨a9, c9, rfl⟩ := h.slice
  have hn := (List.getElem?_eq_some_iff.1 hy).1
  have r4 := row_new w #[.int .i64 0, .slice none 0 0, .slice none 0 0] 32
  have hb1 := below_one w (.cells #[.int .i64 0, .slice none 0 0, .slice none 0 0] 32)
  have hB0 := h.lies.lt
  go_enter Tryd.func33, Tryd.ntmps33
  go_upto_region 1 with fail
  generalize w.alloc (.cells #[.int .i64 0, .slice none 0 0, .slice none 0 0] 32) = w2 at r4 hb1 ⊢
  have HIs := hid_of' (refIs_in (h.later hb1) bDouble hn)
  have H := hid_of' (And.intro (h.mono (K' := fun k => K k ∧ k < w.heap.size) (fun k hk hl => ⟨hk, hl⟩)) (And.intro r4 hb1))
  have HQ0 := hid_of' hy
  clear h r4 hb1 hy
  go_upto_region 2 with (first | (go_at_call 62; refine HIs.out.mono ?_; rintro e w3 ⟨rfl, hb3⟩; clear HIs; unfold nov0) | (refine wpL_storeNo rfl _ _ rfl rfl (code := 0) (a := none) (n := 0) (c := 0) (a' := none) (n' := 0) (c' := 0) rfl (row_new w3 _ _) ?_))
  have r6 := (row_new w3 #[.int .i64 0, .slice none 0 0, .slice none 0 0] 32).put (nov 0 none 0 0 none 0 0)
  have hb4 := below_row (below_one w3 (.cells #[.int .i64 0, .slice none 0 0, .slice none 0 0] 32)) (Nat.le_refl _) (nov 0 none 0 0 none 0 0)
  generalize (w3.alloc (.cells #[.int .i64 0, .slice none 0 0, .slice none 0 0] 32)).setRow w3.heap.size (nov 0 none 0 0 none 0 0) = w4 at r6 hb4 ⊢
  have hb24 := bgo hb3 hb4
  have hbw4 := bgo H.out.2.2 hb24
  have c6 : w4.cell? ⟨w3.heap.size, 0, none⟩ = some (.int .i64 0) := r6.cellIs 0 rfl
  obtain ⟨b6, hb6⟩ : ∃ b6, w3.heap.size = b6 := ⟨_, rfl⟩
  obtain ⟨b4, hb4'⟩ : ∃ b4, w.heap.size = b4 := ⟨_, rfl⟩
  have r4' := H.out.2.1.later hb24
  have hs2 := H.out.2.1.lt
  have hs3 := hb3.size
  have hR4 := H.out.1.later hbw4
  rw [hb6] at r6 c6 ⊢
  rw [hb4'] at r4' hR4 ⊢
  have hs6 := r6.lt
  have HS : Hid (∀ x, Calls Tryd.prog 16 #[.string bBag, .string bDouble, .int .i64 (n : Int), .int .i64 13] x fun e w' => ∃ v, e = .returned v ∧ NoR x.heap.size (some (bDouble, (n : Int), 12)) v w' ∧ Below x.heap.size x w') := fun x => say_is bDouble (n : Int) 12 x
  have d0 := hR4.lies.cellIs 0 rfl
  have d2 := hR4.lies.cellIs 2 rfl
  have H5 := hid_of' (And.intro r4' hbw4)
  clear r6 r4' hR4 hb3 hb4 hb24 hbw4 H
  go_upto_region 4 with fail
  clear c6
  go_region
  have hd : Below w4.heap.size w4 w4.drew := below_drewN (Below.refl _ _) 1
  clear d0 d2
  generalize w4.drew = W at hd ⊢
  replace H5 := hid_of' (And.intro (H5.out.1.later hd) (bgo H5.out.2 hd))
  clear hd
  go_wp2_with (first | (go_at_call 16; refine (HS.out _).mono ?_; rintro e w5 ⟨u, rfl, ⟨g1, g2, rfl, h2, h3, h4, h5⟩, hb5⟩; have HN := hid_of' (And.intro h2 (And.intro h3 (And.intro h4 (And.intro h5 hb5)))); clear h2 h3 h4 h5 hb5) | (refine wpL_storeNo rfl _ _ rfl rfl (code := ((12 : Nat) : Int) + 1) (a := some ⟨g2, 0, none⟩) (n := 1) (c := 1) (a' := some ⟨g1, 0, none⟩) (n' := 1) (c' := 1) rfl (H5.out.1.later HN.out.2.2.2.2) ?_))
  have hg1 := HN.out.1
  have hg2 := HN.out.2.1
  have hWs := H5.out.1.lt
  have cR := Ch.row (S := fun s => s = b4) (Ch.refl _ w5) (.inl rfl) (nov (((12 : Nat) : Int) + 1) (some ⟨g2, 0, none⟩) 1 1 (some ⟨g1, 0, none⟩) 1 1)
  exact bodyPost_ret (v := .agg (nov (((12 : Nat) : Int) + 1) (some ⟨g2, 0, none⟩) 1 1 (some ⟨g1, 0, none⟩) 1 1)) (results_n (fn := Tryd.f33) (p := 4) (g := b4) rfl rfl ((H5.out.1.later HN.out.2.2.2.2).put _) rfl) rfl ⟨_, rfl, ⟨g1, g2, rfl, by omega, by omega, HN.out.2.2.1.ch cR (by omega), HN.out.2.2.2.1.ch cR (by omega)⟩, below_row (bgo H5.out.2 HN.out.2.2.2.2) (show w.heap.size ≤ b4 by omega) _⟩
set_option maxHeartbeats 8000000 in
theorem refDouble_ok {B : Nat} {v : Value} {g : Bg} {K : Nat → Prop} {w : World} (h : RgAt B v g K w) {n : Nat} {y : Pl} (hy : g.l[n]? = some y) (hroom : (g.l.length : Int) < g.most) :
    Calls Tryd.prog 33 #[.pointer (some ⟨B, 0, none⟩), .int .i64 (n : Int)] w fun e w' => e = .returned nov0 ∧ ∃ v', RgAt B v' { g with dbl := wrap64 (g.dbl + 1), l := g.l ++ [y] } K w' ∧ NewB w v' ∧ Ch (fun k => k = B) w w' := by
  obtain ⟨a9, c9, rfl⟩ := h.slice
  have hn := (List.getElem?_eq_some_iff.1 hy).1
  have r4 := row_new w #[.int .i64 0, .slice none 0 0, .slice none 0 0] 32
  have hb1 := below_one w (.cells #[.int .i64 0, .slice none 0 0, .slice none 0 0] 32)
  have hB0 := h.lies.lt
  go_enter Tryd.func33, Tryd.ntmps33
  go_upto_region 1 with fail
  generalize w.alloc (.cells #[.int .i64 0, .slice none 0 0, .slice none 0 0] 32) = w2 at r4 hb1 ⊢
  have HIs := hid_of' (refIs_in (h.later hb1) bDouble hn)
  have H := hid_of' (And.intro (h.mono (K' := fun k => K k ∧ k < w.heap.size) (fun k hk hl => ⟨hk, hl⟩)) (And.intro r4 hb1))
  have HQ0 := hid_of' hy
  clear h r4 hb1 hy
  go_upto_region 2 with (first | (go_at_call 62; refine HIs.out.mono ?_; rintro e w3 ⟨rfl, hb3⟩; clear HIs; unfold nov0) | (refine wpL_storeNo rfl _ _ rfl rfl (code := 0) (a := none) (n := 0) (c := 0) (a' := none) (n' := 0) (c' := 0) rfl (row_new w3 _ _) ?_))
  have r6 := (row_new w3 #[.int .i64 0, .slice none 0 0, .slice none 0 0] 32).put (nov 0 none 0 0 none 0 0)
  have hb4 := below_row (below_one w3 (.cells #[.int .i64 0, .slice none 0 0, .slice none 0 0] 32)) (Nat.le_refl _) (nov 0 none 0 0 none 0 0)
  generalize (w3.alloc (.cells #[.int .i64 0, .slice none 0 0, .slice none 0 0] 32)).setRow w3.heap.size (nov 0 none 0 0 none 0 0) = w4 at r6 hb4 ⊢
  have hb24 := bgo hb3 hb4
  have hbw4 := bgo H.out.2.2 hb24
  have c6 : w4.cell? ⟨w3.heap.size, 0, none⟩ = some (.int .i64 0) := r6.cellIs 0 rfl
  obtain ⟨b6, hb6⟩ : ∃ b6, w3.heap.size = b6 := ⟨_, rfl⟩
  obtain ⟨b4, hb4'⟩ : ∃ b4, w.heap.size = b4 := ⟨_, rfl⟩
  have r4' := H.out.2.1.later hb24
  have hs2 := H.out.2.1.lt
  have hs3 := hb3.size
  have hR4 := H.out.1.later hbw4
  rw [hb6] at r6 c6 ⊢
  rw [hb4'] at r4' hR4 ⊢
  have hs6 := r6.lt
  have hroom2 : ¬ g.most ≤ (g.l.length : Int) := by omega
  have d0 := hR4.lies.cellIs 0 rfl
  have d2 := hR4.lies.cellIs 2 rfl
  have H5 := hid_of' (And.intro r6 (And.intro r4' (And.intro hbw4 hR4)))
  clear r6 r4' hR4 hb3 hb4 hb24 hbw4 H
  go_upto_region 4 with fail
  clear c6
  go_region
  have hd : Below w4.heap.size w4 w4.drew := below_drewN (Below.refl _ _) 1
  clear d0 d2
  generalize w4.drew = wd at hd ⊢
  have hRd := H5.out.2.2.2.later hd
  have cA := hRd.lies.cellIs 6 rfl
  have fA := hRd.lies.froz 6
  have hR6 := hRd.set 6 (.int .i64 (wrap64 (g.dbl + 1))) { g with dbl := wrap64 (g.dbl + 1) } rfl rfl rfl
  have sA := chR_set B wd 6 (.int .i64 (wrap64 (g.dbl + 1)))
  have hds := hd.size
  have hsz : (wd.setCell ⟨B, 6, none⟩ (.int .i64 (wrap64 (g.dbl + 1)))).heap.size = wd.heap.size := by simp [World.setCell]
  have H7 := hid_of' (And.intro hR6 (And.intro ((H5.out.1.later hd).ch sA (by omega)) (And.intro ((H5.out.2.1.later hd).ch sA (by omega)) ((Ch.of (S := fun k => k = B) (bgo H5.out.2.2.1 hd)).go sA (fun s q => .inl q)))))
  clear hRd hR6 sA hd H5
  go_upto_region 7 with fail
  clear cA fA
  generalize wd.setCell ⟨B, 6, none⟩ (.int .i64 (wrap64 (g.dbl + 1))) = W at H7 hsz ⊢
  have hkn := H7.out.1.kne
  obtain ⟨g9, c9', p0, hv9, _, _, _, _, _⟩ := hkn.at (show ({ g with dbl := wrap64 (g.dbl + 1) } : Bg).l[n]? = some y from HQ0.out)
  simp only [Value.slice.injEq, true_and] at hv9
  obtain ⟨rfl, rfl⟩ := hv9
  obtain ⟨ps, hrw, hps⟩ := hkn
  obtain ⟨N, hN⟩ : ∃ N, g.l.length = N := ⟨_, rfl⟩
  have hl4 : N ≤ 4096 := by have h1 : (g.l.length : Int) ≤ g.most := H7.out.1.room; have h2 : g.most ≤ 4096 := H7.out.1.most1; omega
  have hpl : ps.length = N := by rw [← hN]; exact hps.1
  obtain ⟨p, hp, hpq⟩ := hps.at (show ({ g with dbl := wrap64 (g.dbl + 1) } : Bg).l[n]? = some y from HQ0.out)
  have hrow := H7.out.1.lies
  have hrw' : Rw 65 4 (.slice (some ⟨g9, 0, none⟩) N c9) N (pcells ps) W := by
    have := hrw
    simp only [hN] at this
    exact this
  rw [hN] at hn
  simp only [hN] at hrow
  have hso : SoQ (.slice (some ⟨g9, 0, none⟩) N c9) ps W := by
    have := so_take (n := N) hrw' (by omega)
    rwa [List.take_of_length_le (by omega)] at this
  have hone : OneQ [p] := OneQ.of (PsAt.one hpq)
  have HPp : p.b.oneCell' = true := hpq.b.sl.one
  have hin : CsIn g9 (n * 4) (pcv p) W := RwQ.in (c := c9) (ps := ps) (by unfold RwQ; rw [hpl]; exact hrw') hp
  have HW := hid_of' (And.intro hrw' (And.intro hps (And.intro hso (And.intro trivial (And.intro hrow (And.intro hpl hN))))))
  have HP := hid_of' (And.intro hpq hin)
  have hnm : (n : Int) < (N : Int) := by omega
  have hl7 : ps.length ≤ 1000000 := by omega
  have hln : ps.length + [p].length ≤ 1000000 := by show _ + 1 ≤ _; omega
  have hBl := hrow.lt
  clear hrw hrw' hps hso hrow hpl hpq hin hp
  refine wp_region_onceD 16 (by kernel_rfl) (fun _ => none) (by kernel_rfl) (by kernel_rfl) (by decide) (fun ii u X => match ii with
    | 0 => u = .pointer (some ⟨B, 0, none⟩)
    | 1 => ∃ g, u = .slice (some ⟨g, 0, none⟩) 0 0 ∧ W.heap.size ≤ g ∧ X.heap[g]? = some (.cells #[] 65 (0, 0))
    | 2 => u = .pointer (some ⟨B, 0, none⟩)
    | 3 => u = .pointer (some ⟨B, 0, none⟩)
    | 4 => u = .pointer (some ⟨B, 2, none⟩)
    | 5 => u = .slice (some ⟨g9, 0, none⟩) N c9
    | 6 => RwQ u ps X ∧ NewB W u
    | 7 => u = .pointer (some ⟨B, 0, none⟩)
    | 8 => u = .pointer (some ⟨B, 0, none⟩)
    | 9 => u = .pointer (some ⟨B, 2, none⟩)
    | 10 => u = .slice (some ⟨g9, 0, none⟩) N c9
    | 11 => u = .int .i64 (n : Int)
    | 12 => u = .pointer (some ⟨g9, n * 4, none⟩)
    | 13 => u = .agg (pcv p)
    | 14 => ∃ gs, u = .slice (some ⟨gs, 0, none⟩) 1 1 ∧ CsIn gs 0 (pcv p) X
    | 15 => RwQ u (ps ++ [p]) X ∧ NewB W u
    | _ => True) (fun _ => false) (fun i => i == 0 || i == 15) (fun _ h => absurd rfl h) (fun _ _ _ _ h => by cases h) 15 (by decide) (fun a b => Below a.heap.size a b) (fun a b => Below (W.heap.size) a b) (fun _ _ g h => g.trans (h.mono g.size)) (fun _ h => h) (fun _ _ h g => ⟨g.os.trans h.os, g.tape.trans h.tape, g.output.trans h.output, Nat.le_trans h.size g.size, fun k hk => (g.block k hk).trans (h.block k hk)⟩) (fun _ _ g => g.size) ?_ ?_ ?_ ?_
  · intro ii u X X' hR hb
    match ii, hR with
    | 0, h => exact h
    | 1, h => exact (by obtain ⟨g, h1, h2, h3⟩ := h; exact ⟨g, h1, h2, (hb.block g (Array.getElem?_eq_some_iff.1 h3).1).trans h3⟩)
    | 2, h => exact h
    | 3, h => exact h
    | 4, h => exact h
    | 5, h => exact h
    | 6, h => exact ⟨Rw.later h.1 hb, h.2⟩
    | 7, h => exact h
    | 8, h => exact h
    | 9, h => exact h
    | 10, h => exact h
    | 11, h => exact h
    | 12, h => exact h
    | 13, h => exact h
    | 14, h => exact (by obtain ⟨gs, h1, h3⟩ := h; exact ⟨gs, h1, h3.later hb⟩)
    | 15, h => exact ⟨Rw.later h.1 hb, h.2⟩
    | m + 16, h => exact h
  · intro ii u X X' hne hD hR hb
    match ii, hne, hD, hR with
    | 0, hne, hD, h => exact h
    | 1, hne, hD, h => cases hD
    | 2, hne, hD, h => cases hD
    | 3, hne, hD, h => cases hD
    | 4, hne, hD, h => cases hD
    | 5, hne, hD, h => cases hD
    | 6, hne, hD, h => cases hD
    | 7, hne, hD, h => cases hD
    | 8, hne, hD, h => cases hD
    | 9, hne, hD, h => cases hD
    | 10, hne, hD, h => cases hD
    | 11, hne, hD, h => cases hD
    | 12, hne, hD, h => cases hD
    | 13, hne, hD, h => cases hD
    | 14, hne, hD, h => cases hD
    | 15, hne, hD, h => exact absurd rfl hne
    | m + 16, _, _, h => exact h
  · intro ii o hi ho q X vals hX hC hdep hoth
    have t0 : q.tmps[0]? = some (.pointer (some ⟨B, 0, none⟩)) := by rw [hoth 0 (by kernel_rfl)]; rfl
    have t1 : q.tmps[1]? = some (.int .i64 (n : Int)) := by rw [hoth 1 (by kernel_rfl)]; rfl
    match ii, hi, ho, hC with
    | 0, _, ho, hC =>
      simp only [List.getElem?_cons_zero, Option.some.injEq] at ho
      subst ho
      unfold Oper.wp
      simp [execOp, go_sem, t0]
      exact cameB _ rfl (by decide) (Below.refl _ _) rfl (fun h => absurd h (by decide))
    | 1, _, ho, hC =>
      simp only [List.getElem?_cons_succ, List.getElem?_cons_zero, Option.some.injEq] at ho
      subst ho
      refine opw_noneP rfl ?_
      exact cameB _ rfl (by decide) (below_one _ _) ⟨X.heap.size, rfl, hX.size, heap_alloc_last X _⟩ (fun h => absurd h (by decide))
    | 2, _, ho, hC =>
      simp only [List.getElem?_cons_succ, List.getElem?_cons_zero, Option.some.injEq] at ho
      subst ho
      unfold Oper.wp
      simp [execOp, go_sem, t0]
      exact cameB _ rfl (by decide) (Below.refl _ _) rfl (fun h => absurd h (by decide))
    | 3, _, ho, hC =>
      simp only [List.getElem?_cons_succ, List.getElem?_cons_zero, Option.some.injEq] at ho
      subst ho
      obtain ⟨u2, e2⟩ := hdep ⟨2, .data⟩ (by simp) rfl _ 34 rfl rfl
      replace e2 := e2 (.inr (.inr (by kernel_rfl)))
      rw [show vals 2 = .pointer (some ⟨B, 0, none⟩) from e2] at u2
      unfold Oper.wp
      simp [execOp, go_sem, u2]
      exact cameB _ rfl (by decide) (Below.refl _ _) rfl (fun h => absurd h (by decide))
    | 4, _, ho, hC =>
      simp only [List.getElem?_cons_succ, List.getElem?_cons_zero, Option.some.injEq] at ho
      subst ho
      obtain ⟨u3, e3⟩ := hdep ⟨3, .data⟩ (by simp) rfl _ 35 rfl rfl
      replace e3 := e3 (.inr (.inr (by kernel_rfl)))
      rw [show vals 3 = .pointer (some ⟨B, 0, none⟩) from e3] at u3
      unfold Oper.wp
      simp [execOp, go_sem, u3]
      exact cameB _ rfl (by decide) (Below.refl _ _) rfl (fun h => absurd h (by decide))
    | 5, _, ho, hC =>
      simp only [List.getElem?_cons_succ, List.getElem?_cons_zero, Option.some.injEq] at ho
      subst ho
      obtain ⟨u4, e4⟩ := hdep ⟨4, .data⟩ (by simp) rfl _ 36 rfl rfl
      replace e4 := e4 (.inr (.inr (by kernel_rfl)))
      rw [show vals 4 = .pointer (some ⟨B, 2, none⟩) from e4] at u4
      have cc : X.cell? ⟨B, 2, none⟩ = some (.slice (some ⟨g9, 0, none⟩) N c9) := (HW.out.2.2.2.2.1.later hX).cellIs 2 rfl
      unfold Oper.wp
      simp [execOp, go_sem, u4, cc]
      exact cameB _ rfl (by decide) (Below.refl _ _) rfl (fun h => absurd h (by decide))
    | 6, _, ho, hC =>
      simp only [List.getElem?_cons_succ, List.getElem?_cons_zero, Option.some.injEq] at ho
      subst ho
      obtain ⟨u1, e1⟩ := hdep ⟨1, .data⟩ (by simp) rfl _ 33 rfl rfl
      replace e1 := e1 (.inr (.inr (by kernel_rfl)))
      obtain ⟨u5, e5⟩ := hdep ⟨5, .data⟩ (by simp) rfl _ 37 rfl rfl
      replace e5 := e5 (.inr (.inr (by kernel_rfl)))
      rw [show vals 5 = .slice (some ⟨g9, 0, none⟩) N c9 from e5] at u5
      obtain ⟨g1, e1, hg1, hc1⟩ : ∃ g, vals 1 = .slice (some ⟨g, 0, none⟩) 0 0 ∧ W.heap.size ≤ g ∧ X.heap[g]? = some (.cells #[] 65 (0, 0)) := e1
      rw [e1] at u1
      refine opw_appP0 _ _ rfl (by simp [Act.eval, u1]) (by simp [Act.eval, u5]) hc1 (SoQ.later HW.out.2.2.1 hX) hl7 ?_
      intro v' X' q1 q2 q3
      exact cameB _ rfl (by decide) q2 ⟨q1, fun k hk => (q3 k hk).elim (fun e => by omega) (fun q => Nat.le_trans hX.size q)⟩ (fun h => absurd h (by decide))
    | 7, _, ho, hC =>
      simp only [List.getElem?_cons_succ, List.getElem?_cons_zero, Option.some.injEq] at ho
      subst ho
      unfold Oper.wp
      simp [execOp, go_sem, t0]
      exact cameB _ rfl (by decide) (Below.refl _ _) rfl (fun h => absurd h (by decide))
    | 8, _, ho, hC =>
      simp only [List.getElem?_cons_succ, List.getElem?_cons_zero, Option.some.injEq] at ho
      subst ho
      obtain ⟨u7, e7⟩ := hdep ⟨7, .data⟩ (by simp) rfl _ 39 rfl rfl
      replace e7 := e7 (.inr (.inr (by kernel_rfl)))
      rw [show vals 7 = .pointer (some ⟨B, 0, none⟩) from e7] at u7
      unfold Oper.wp
      simp [execOp, go_sem, u7]
      exact cameB _ rfl (by decide) (Below.refl _ _) rfl (fun h => absurd h (by decide))
    | 9, _, ho, hC =>
      simp only [List.getElem?_cons_succ, List.getElem?_cons_zero, Option.some.injEq] at ho
      subst ho
      obtain ⟨u8, e8⟩ := hdep ⟨8, .data⟩ (by simp) rfl _ 40 rfl rfl
      replace e8 := e8 (.inr (.inr (by kernel_rfl)))
      rw [show vals 8 = .pointer (some ⟨B, 0, none⟩) from e8] at u8
      unfold Oper.wp
      simp [execOp, go_sem, u8]
      exact cameB _ rfl (by decide) (Below.refl _ _) rfl (fun h => absurd h (by decide))
    | 10, _, ho, hC =>
      simp only [List.getElem?_cons_succ, List.getElem?_cons_zero, Option.some.injEq] at ho
      subst ho
      obtain ⟨u9, e9⟩ := hdep ⟨9, .data⟩ (by simp) rfl _ 41 rfl rfl
      replace e9 := e9 (.inr (.inr (by kernel_rfl)))
      rw [show vals 9 = .pointer (some ⟨B, 2, none⟩) from e9] at u9
      have cc : X.cell? ⟨B, 2, none⟩ = some (.slice (some ⟨g9, 0, none⟩) N c9) := (HW.out.2.2.2.2.1.later hX).cellIs 2 rfl
      unfold Oper.wp
      simp [execOp, go_sem, u9, cc]
      exact cameB _ rfl (by decide) (Below.refl _ _) rfl (fun h => absurd h (by decide))
    | 11, _, ho, hC =>
      simp only [List.getElem?_cons_succ, List.getElem?_cons_zero, Option.some.injEq] at ho
      subst ho
      unfold Oper.wp
      simp [execOp, go_sem, t1]
      exact cameB _ rfl (by decide) (Below.refl _ _) rfl (fun h => absurd h (by decide))
    | 12, _, ho, hC =>
      simp only [List.getElem?_cons_succ, List.getElem?_cons_zero, Option.some.injEq] at ho
      subst ho
      obtain ⟨u10, e10⟩ := hdep ⟨10, .data⟩ (by simp) rfl _ 42 rfl rfl
      replace e10 := e10 (.inr (.inr (by kernel_rfl)))
      rw [show vals 10 = .slice (some ⟨g9, 0, none⟩) N c9 from e10] at u10
      obtain ⟨u11, e11⟩ := hdep ⟨11, .data⟩ (by simp) rfl _ 43 rfl rfl
      replace e11 := e11 (.inr (.inr (by kernel_rfl)))
      rw [show vals 11 = .int .i64 (n : Int) from e11] at u11
      unfold Oper.wp
      simp [execOp, go_sem, u10, u11, hnm]
      exact cameB _ rfl (by decide) (Below.refl _ _) rfl (fun h => absurd h (by decide))
    | 13, _, ho, hC =>
      simp only [List.getElem?_cons_succ, List.getElem?_cons_zero, Option.some.injEq] at ho
      subst ho
      obtain ⟨u12, e12⟩ := hdep ⟨12, .data⟩ (by simp) rfl _ 44 rfl rfl
      replace e12 := e12 (.inr (.inr (by kernel_rfl)))
      rw [show vals 12 = .pointer (some ⟨g9, n * 4, none⟩) from e12] at u12
      refine opw_loadP (p := p) _ rfl (by simp [Act.eval, u12]) (HP.out.2.later hX) ?_
      exact cameB _ rfl (by decide) (Below.refl _ _) rfl (fun h => absurd h (by decide))
    | 14, _, ho, hC =>
      simp only [List.getElem?_cons_succ, List.getElem?_cons_zero, Option.some.injEq] at ho
      subst ho
      obtain ⟨u13, e13⟩ := hdep ⟨13, .data⟩ (by simp) rfl _ 45 rfl rfl
      replace e13 := e13 (.inr (.inr (by kernel_rfl)))
      rw [show vals 13 = .agg (pcv p) from e13] at u13
      refine opw_one (p := p) _ rfl (by simp [Act.eval, u13]) HPp ?_
      exact cameB _ rfl (by decide) (below_one _ _) ⟨X.heap.size, rfl, (row_new X _ _).in⟩ (fun h => absurd h (by decide))
    | 15, _, ho, hC =>
      simp only [List.getElem?_cons_succ, List.getElem?_cons_zero, Option.some.injEq] at ho
      subst ho
      obtain ⟨u6, e6⟩ := hdep ⟨6, .data⟩ (by simp) rfl _ 38 rfl rfl
      replace e6 := e6 (.inr (.inl rfl))
      obtain ⟨u14, e14⟩ := hdep ⟨14, .data⟩ (by simp) rfl _ 46 rfl rfl
      replace e14 := e14 (.inr (.inl rfl))
      obtain ⟨q8, n8⟩ : RwQ (vals 6) ps X ∧ NewB W (vals 6) := e6
      obtain ⟨gs, e14, h3⟩ : ∃ gs, vals 14 = .slice (some ⟨gs, 0, none⟩) 1 1 ∧ CsIn gs 0 (pcv p) X := e14
      rw [e14] at u14
      have hb := hC (.inl rfl)
      refine opw_appP (m := [p]) _ _ rfl (by simp [Act.eval, u6]) (by simp [Act.eval, u14]) q8 (so_one h3) hone hln ?_
      intro v' X' p1 p2 p3
      exact cameX _ rfl (newB_grow n8 p2 hb.size) ⟨p1, newB_at n8 p3 hb.size⟩ rfl
    | m + 16, hi, _, _ => exact absurd hi (by omega)
  · intro vals X hX hR _
    have e0 : vals 0 = .pointer (some ⟨B, 0, none⟩) := hR 0 (by decide) rfl
    obtain ⟨p1, n9⟩ : RwQ (vals 15) (ps ++ [p]) X ∧ NewB W (vals 15) := hR 15 (by decide) rfl
    obtain ⟨xa, xc, e9, _, _⟩ := Rw.form p1
    obtain ⟨M, hM⟩ : ∃ M, (ps ++ [p]).length = M := ⟨_, rfl⟩
    rw [hM] at e9
    rw [e9] at p1 n9
    have hR5 := HW.out.2.2.2.2.1.later hX
    have c5 := hR5.cellIs 2 rfl
    have f5 := hR5.froz 2
    have s5 := chR_set B X 2 (.slice xa M xc)
    have hsx := hX.size
    have ps5 := ((HW.out.2.1.later hX).app (PsAt.one (PcIs.later HP.out.1 hX))).ch s5 (fun k hk e => hk.2.2.1 e)
    have n12 := (H7.out.2.1.later hX).ch s5 (by omega)
    have a12 := (H7.out.2.2.1.later hX).ch s5 (by omega)
    have k12 := (Ch.later H7.out.2.2.2 hX).go s5 (fun s q => .inl q)
    have H12 := hid_of' (And.intro (hR5.setc 2 (.slice xa M xc)) (And.intro (Rw.ch p1 s5 (fun k hk e => by have := n9 k hk; have e' : k = B := e; omega)) (And.intro ps5 (And.intro n12 (And.intro a12 (And.intro k12 n9))))))
    clear hR p1 n9 hX hR5 s5 ps5 n12 a12 k12
    simp only [List.drop, List.take, putAll, List.setIfInBounds_toArray, List.set_cons_succ, List.set_cons_zero, e0, e9]
    clear e0 e9
    go_upto_region 8 with fail
    clear c5 f5
    generalize X.setCell ⟨B, 2, none⟩ (.slice xa M xc) = w12 at H12 ⊢
    go_wp2_with (first | (refine wpL_loadNo rfl _ rfl rfl H12.out.2.2.2.1 rfl ?_) | (refine wpL_storeNo rfl _ _ rfl rfl (code := 0) (a := none) (n := 0) (c := 0) (a' := none) (n' := 0) (c' := 0) rfl H12.out.2.2.2.2.1 ?_))
    obtain ⟨r12, h12, p12, _, a12, k12, n12⟩ := H12.out
    have c7 := Ch.row (S := fun s => s = b4) (Ch.refl _ w12) (.inl rfl) (nov 0 none 0 0 none 0 0)
    refine bodyPost_ret (v := nov0) (results_n (fn := Tryd.f33) (p := 4) (g := b4) rfl rfl (a12.put _) rfl) rfl ⟨rfl, .slice xa M xc, ⟨r12.ch c7 (by omega), ⟨ps ++ [p], ?_, ?_⟩, H7.out.1.most1, ?_⟩, fun k hk => by have := n12 k hk; omega, k12.go c7 (fun s q => .inr (by omega))⟩
    · have h := Rw.ch h12 c7 (fun k hk e => by have := n12 k hk; have e' : k = b4 := e; omega)
      have e : (g.l ++ [y]).length = (ps ++ [p]).length := by rw [List.length_append, List.length_append, HW.out.2.2.2.2.2.1, HW.out.2.2.2.2.2.2]; rfl
      show Rw _ _ _ (g.l ++ [y]).length _ _
      rw [e]
      exact h
    · exact (p12.ch c7 (fun k hk e => by have := hk.1.2; omega)).mono (fun k hk _ => hk.1.1)
    · show ((g.l ++ [y]).length : Int) ≤ g.most
      rw [List.length_append, List.length_singleton]
      omega
end Go.Proofs.YtdojjhhnciaegaaDoor
