
/-
  barrowlaw14.wakes.
-/
import Derived.Test.YtgkbgojgpomcdaaDoorUn10
namespace Go.Proofs.YtgkbgojgpomcdaaDoor
open Go.RowKit Go.Extern.Stop Go.Stop Go.Extern
set_option maxRecDepth 100000

theorem SlD.cells1 {w : World} {a : Option Addr} {c : Nat} {e : Xg} (h : SlD w (.slice a 1 c) [e]) : ∃ g o_, a = some ⟨g, o_, none⟩ ∧ CsIn g o_ (xgv e) w := by
  obtain ⟨_, g, o_, rfl, hc⟩ := h.some' (by simp)
  exact ⟨g, o_, rfl, hc 0 e rfl⟩
set_option maxHeartbeats 4000000 in
theorem wakes14_ok (w : World) : Calls Tryd.prog 13 #[] w fun e w' => e = .returned (.bool true) ∧ Below w.heap.size w w' := by
  have HN := hid_of' (new_ok w)
  go_enter Tryd.func13, Tryd.ntmps13
  go_upto_region 4 with (go_at_call 9; refine HN.out.mono ?_; rintro e w1 ⟨rfl, hg1, hb1⟩; clear HN)
  have H1 := hid_of' (And.intro hg1 hb1)
  clear hg1 hb1
  have r2 := (row_new w1 #[.int .i64 0, .int .i64 0, .int .i64 0] 64).put #[.int .i64 0, .int .i64 0, .int .i64 4]
  have b2 := below_row (below_one w1 (.cells #[.int .i64 0, .int .i64 0, .int .i64 0] 64)) (Nat.le_refl _) #[.int .i64 0, .int .i64 0, .int .i64 4]
  go_upto_region 5 with (refine wpList_store_row rfl _ _ _ rfl w1.heap.size #[.int .i64 0, .int .i64 0, .int .i64 4] rfl rfl _ _ (row_new w1 _ _) (by kernel_rfl) rfl (by simp [Value.oneCell']) ?_)
  change Code.wp _ _ _ _ ((w1.alloc (.cells #[.int .i64 0, .int .i64 0, .int .i64 0] 64)).setRow w1.heap.size #[.int .i64 0, .int .i64 0, .int .i64 4])
  generalize (w1.alloc (.cells #[.int .i64 0, .int .i64 0, .int .i64 0] 64)).setRow w1.heap.size #[.int .i64 0, .int .i64 0, .int .i64 4] = W2 at r2 b2 ⊢
  generalize hib : w1.heap.size = ib at r2 ⊢
  have k0 := r2.cellIs 0 rfl
  have k1 := r2.cellIs 1 rfl
  have k2 := r2.cellIs 2 rfl
  have b3 := below_one W2 (.cells #[.int .i64 1, .int .i64 0, .int .i64 0, .int .i64 4] 66)
  have sl : SlD (W2.alloc (.cells #[.int .i64 1, .int .i64 0, .int .i64 0, .int .i64 4] 66)) (.slice (some ⟨W2.heap.size, 0, none⟩) 1 1) [⟨1, 0, 0, 4⟩] := .inr ⟨W2.heap.size, 0, 1, rfl, fun i x hx => by
    match i, hx with
    | 0, hx => cases hx; exact (row_new W2 (xgv ⟨1, 0, 0, 4⟩) 66).in
    | i + 1, hx => simp at hx⟩
  have HS := hid_of' (done_ok ((H1.out.1.later b2).later b3) sl (by simp) (by simp))
  have H2 := hid_of' (And.intro r2 (And.intro b2 b3))
  clear r2 b2 b3 sl
  go_upto_region 6 with (go_at_call 28; (with_reducible refine HS.out.mono ?_); rintro e w3 ⟨⟨z, rfl⟩, vd', F', hk3, hc3, hf3⟩; clear HS)
  have hc3b : Ch (fun k => k = w.heap.size) W2 w3 := (Ch.of H2.out.2.2).go hc3 (fun s q => .inl q)
  have hwl : w.heap.size < w1.heap.size := H1.out.1.lt _ rfl
  have r3 := H2.out.1.ch hc3b (by show ¬ ib = w.heap.size; omega)
  have HU := hid_of' (undo_yes (n := 0) (l := [⟨1, 0, 0, 4⟩]) hk3 rfl rfl)
  have hb3 : Below w.heap.size w w3 := (bgo H1.out.2 (bgo H2.out.2.1 H2.out.2.2)).trans (hc3.below (fun s hs e => by have e' : s = w.heap.size := e; omega) (Nat.le_trans H1.out.2.size (bgo H2.out.2.1 H2.out.2.2).size))
  have H3 := hid_of' (And.intro r3 (And.intro hb3 (And.intro hk3 (And.intro hf3 (And.intro hib hwl)))))
  clear r3 hb3 hk3 hf3 hc3 hc3b hwl k0 k1 k2
  go_upto_region 7 with (go_at_call 25; (with_reducible refine HU.out.mono ?_); rintro e w4 ⟨v4, vd4, vu4, F4, rfl, hv4, _, hk4, hc4, _⟩; clear HU; obtain ⟨a4, c4, hv9, _⟩ := Rw.form hv4.1; have e9 : (bkL [⟨1, 0, 0, 4⟩]).length = 1 := rfl; rw [e9] at hv9; clear e9; subst hv9)
  obtain ⟨r3, hb3, hk3, hf3, hib, hwl⟩ := H3.out
  obtain ⟨g4, o4, rfl, hc⟩ := SlD.cells1 (e := ⟨2, 0, 0, 4⟩) hv4.1.sl
  have hnF : ¬ F' ib := fun q => by
    rcases hf3 ib q with e | e
    · have e' : ib = w.heap.size := e
      omega
    · have := H2.out.2.2.size
      have := H2.out.1.lt
      omega
  have r4 := r3.ch hc4 hnF
  have hb4 : Below w.heap.size w w4 := hb3.trans (hc4.below (fun s hs q => by
    rcases hf3 s q with e | e
    · have e' : s = w.heap.size := e
      omega
    · have := (bgo H1.out.2 (bgo H2.out.2.1 H2.out.2.2)).size
      omega) hb3.size)
  have q0 : ∀ s : Wld w4, (wOf s).cell? ⟨g4, o4, none⟩ = some (.int .i64 2) := fun s => (hc.later (wOf_below s)).2 0 _ rfl
  have q1 : ∀ s : Wld w4, (wOf s).cell? ⟨g4, o4 + 1, none⟩ = some (.int .i64 0) := fun s => (hc.later (wOf_below s)).2 1 _ rfl
  have q2 : ∀ s : Wld w4, (wOf s).cell? ⟨g4, o4 + 2, none⟩ = some (.int .i64 0) := fun s => (hc.later (wOf_below s)).2 2 _ rfl
  have q3 : ∀ s : Wld w4, (wOf s).cell? ⟨g4, o4 + 3, none⟩ = some (.int .i64 4) := fun s => (hc.later (wOf_below s)).2 3 _ rfl
  have p0 := r4.cls 0 _ rfl
  have p1 := r4.cls 1 _ rfl
  have p2 := r4.cls 2 _ rfl
  have HB := hid_of' hb4
  clear hk4 hc4 hv4 hc hnF r4 r3 hb3 hb4 hk3 hf3 H3 H2 H1 hib hwl
  have hB := Below.refl w4.heap.size w4
  go_upto_region 7 with fail
  refine wp_region_cls (by kernel_rfl) (by kernel_rfl) ?_
  repeat (first | go_big_quiet_skip | (go_big_quiet_want; first | (go_big_quiet_op; first | go_big_quiet_on | go_big_quiet_call ((fail)))))
  refine wpQuiet_nil ?_
  rintro w1 ⟨s1, e1⟩
  have hb1 := wOf_below s1
  rw [← e1] at hb1
  clear e1 s1
  replace hB := bgo hB hb1
  clear hb1
  go_wp2
  go_ret
  exact ⟨rfl, bgo HB.out hB⟩
end Go.Proofs.YtgkbgojgpomcdaaDoor
