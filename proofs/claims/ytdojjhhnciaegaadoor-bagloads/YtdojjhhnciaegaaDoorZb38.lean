
/-
  The document's Bag: Send.
-/
import Derived.Test.YtdojjhhnciaegaaDoorZb37
namespace Go.Proofs.YtdojjhhnciaegaaDoor
open Go.RowKit Go.Extern.Stop Go.Stop Go.Extern
set_option maxRecDepth 100000

theorem bsGrow {W x x' : World} {row : Option Nat} {v : Value} {bs : List UInt8} (h : BsAt (fun k => W.heap.size ≤ k) v bs x) (g : x.grownBy x' row) (hr : ∀ k, row = some k → k < W.heap.size) : BsAt (fun k => W.heap.size ≤ k) v bs x' :=
  h.ch (grown_ch g) (fun k hk e => by have := hr k e; omega)
set_option maxHeartbeats 4000000 in
theorem SlB.chN {S : Nat → Prop} {w w' : World} {v : Value} {bs : List UInt8} (h : SlB w v bs) (c : Ch S w w') (hn : bs ≠ [] → ∀ k, v.ownBlock = some k → ¬ S k) : SlB w' v bs := by
  by_cases e : bs = []
  · rcases h with h | ⟨g, o, c', rfl, _⟩
    · exact .inl h
    · exact .inl ⟨e, _, _, by rw [e]; rfl⟩
  · exact h.ch c (hn e)
theorem refSend_ways {B : Nat} {w : World} (f t : Int) (hft : endsB f t = false) {ru : Value} {raw : List UInt8} (hraw : SlB w ru raw) :
    Calls Tryd.prog 26 #[.pointer (some ⟨B, 0, none⟩), .int .i64 f, .int .i64 t, ru] w fun e w' => ∃ u, e = .returned (.tuple #[.int .i64 0, u]) ∧ NoR w.heap.size (some (bSend, t, 0)) u w' ∧ Below w.heap.size w w' := by
  obtain ⟨ra, rn, rc, rfl⟩ : ∃ ra rn rc, ru = .slice ra rn rc := by
    rcases hraw with ⟨_, a, c, rfl⟩ | ⟨g, o, c, rfl, _⟩
    · exact ⟨_, _, _, rfl⟩
    · exact ⟨_, _, _, rfl⟩
  have HS : Hid (∀ x, Calls Tryd.prog 16 #[.string bBag, .string bSend, .int .i64 t, .int .i64 1] x fun e w' => ∃ v, e = .returned v ∧ NoR x.heap.size (some (bSend, t, 0)) v w' ∧ Below x.heap.size x w') := fun x => say_is bSend t 0 x
  have r4 := row_new w #[.int .i64 0, .slice none 0 0, .slice none 0 0] 32
  have hb1 := below_one w (.cells #[.int .i64 0, .slice none 0 0, .slice none 0 0] 32)
  go_enter Tryd.func26, Tryd.ntmps26
  go_upto_region 1 with fail
  generalize w.alloc (.cells #[.int .i64 0, .slice none 0 0, .slice none 0 0] 32) = w2 at r4 hb1 ⊢
  have hwy := ways_is f t w2
  rw [hft] at hwy
  have HWy := hid_of' hwy
  have H := hid_of' (And.intro r4 hb1)
  have hs2 := r4.lt
  clear hwy r4 hb1 hraw hft
  go_wp2_with (first | (go_at_call 49; refine HWy.out.mono ?_; rintro e w3 ⟨rfl, h0⟩; obtain rfl := h0.symm) | (go_at_call 16; refine (HS.out _).mono ?_; rintro e w5 ⟨u, rfl, ⟨g1, g2, rfl, h2, h3, h4, h5⟩, hb5⟩; have HN := hid_of' (And.intro h2 (And.intro h3 (And.intro h4 (And.intro h5 hb5)))); clear h2 h3 h4 h5 hb5) | (refine wpL_storeNo rfl _ _ rfl rfl (code := ((0 : Nat) : Int) + 1) (a := some ⟨g2, 0, none⟩) (n := 1) (c := 1) (a' := some ⟨g1, 0, none⟩) (n' := 1) (c' := 1) rfl (H.out.1.later HN.out.2.2.2.2) ?_))
  have hg1 := HN.out.1
  have hg2 := HN.out.2.1
  have cR := Ch.row (S := fun s => s = w.heap.size) (Ch.refl _ w5) (.inl rfl) (nov (((0 : Nat) : Int) + 1) (some ⟨g2, 0, none⟩) 1 1 (some ⟨g1, 0, none⟩) 1 1)
  exact bodyPost_ret (v := .tuple #[.int .i64 0, .agg (nov (((0 : Nat) : Int) + 1) (some ⟨g2, 0, none⟩) 1 1 (some ⟨g1, 0, none⟩) 1 1)]) (results_pn (fn := Tryd.f26) (p := 8) (q := 9) (g := w.heap.size) rfl rfl ((H.out.1.later HN.out.2.2.2.2).put _) rfl) rfl ⟨_, rfl, ⟨g1, g2, rfl, by omega, by omega, HN.out.2.2.1.ch cR (by omega), HN.out.2.2.2.1.ch cR (by omega)⟩, below_row (bgo H.out.2 HN.out.2.2.2.2) (Nat.le_refl _) _⟩
set_option maxHeartbeats 4000000 in
theorem refSend_full {B : Nat} {v : Value} {g : Bg} {K : Nat → Prop} {w : World} (h : RgAt B v g K w) (f t : Int) (hft : endsB f t = true) (hroom : g.most ≤ (g.l.length : Int)) {ru : Value} {raw : List UInt8} (hraw : SlB w ru raw) :
    Calls Tryd.prog 26 #[.pointer (some ⟨B, 0, none⟩), .int .i64 f, .int .i64 t, ru] w fun e w' => ∃ u, e = .returned (.tuple #[.int .i64 0, u]) ∧ NoR w.heap.size (some (bSend, t, 12)) u w' ∧ RgAt B v { g with sent := wrap64 (g.sent + 1), drp := wrap64 (g.drp + 1) } K w' ∧ Ch (fun k => k = B) w w' := by
  obtain ⟨a9, c9, rfl⟩ := h.slice
  obtain ⟨ra, rn, rc, rfl⟩ : ∃ ra rn rc, ru = .slice ra rn rc := by
    rcases hraw with ⟨_, a, c, rfl⟩ | ⟨g, o, c, rfl, _⟩
    · exact ⟨_, _, _, rfl⟩
    · exact ⟨_, _, _, rfl⟩
  have HS : Hid (∀ x, Calls Tryd.prog 16 #[.string bBag, .string bSend, .int .i64 t, .int .i64 13] x fun e w' => ∃ v, e = .returned v ∧ NoR x.heap.size (some (bSend, t, 12)) v w' ∧ Below x.heap.size x w') := fun x => say_is bSend t 12 x
  have r4 := row_new w #[.int .i64 0, .slice none 0 0, .slice none 0 0] 32
  have hb1 := below_one w (.cells #[.int .i64 0, .slice none 0 0, .slice none 0 0] 32)
  go_enter Tryd.func26, Tryd.ntmps26
  go_upto_region 1 with fail
  generalize w.alloc (.cells #[.int .i64 0, .slice none 0 0, .slice none 0 0] 32) = w2 at r4 hb1 ⊢
  have hwy := ways_is f t w2
  rw [hft] at hwy
  have HWy := hid_of' hwy
  have hB0 := h.lies.lt
  have hs2 := r4.lt
  have hR2 := (h.mono (K' := fun k => K k ∧ k < w.heap.size) (fun k hk hl => ⟨hk, hl⟩)).later hb1
  have cA := hR2.lies.cellIs 3 rfl
  have fA := hR2.lies.froz 3
  have hR3 := hR2.set 3 (.int .i64 (wrap64 (g.sent + 1))) { g with sent := wrap64 (g.sent + 1) } rfl rfl rfl
  have sA := chR_set B w2 3 (.int .i64 (wrap64 (g.sent + 1)))
  have hsz : (w2.setCell ⟨B, 3, none⟩ (.int .i64 (wrap64 (g.sent + 1)))).heap.size = w2.heap.size := by simp [World.setCell]
  have H3 := hid_of' (And.intro hR3 (And.intro (r4.ch sA (by omega)) ((Ch.of (S := fun k => k = B) hb1).go sA (fun s q => .inl q))))
  clear h hraw hwy hft hR2 hR3 sA r4 hb1
  go_upto_region 4 with (go_at_call 49; refine HWy.out.mono ?_; rintro e w3 ⟨rfl, h0⟩; obtain rfl := h0.symm)
  clear cA fA
  generalize w2.setCell ⟨B, 3, none⟩ (.int .i64 (wrap64 (g.sent + 1))) = w4 at H3 hsz ⊢
  have d0 := H3.out.1.lies.cellIs 0 rfl
  have d2 := H3.out.1.lies.cellIs 2 rfl
  go_region
  have hd : Below w4.heap.size w4 w4.drew := below_drewN (Below.refl _ _) 1
  clear d0 d2
  generalize w4.drew = wd at hd ⊢
  have hds := hd.size
  have H4 := hid_of' (And.intro (H3.out.1.later hd) (And.intro (H3.out.2.1.later hd) (H3.out.2.2.later hd)))
  clear hd H3
  have cA := H4.out.1.lies.cellIs 5 rfl
  have fA := H4.out.1.lies.froz 5
  have hR3 := H4.out.1.set 5 (.int .i64 (wrap64 (g.drp + 1))) { g with sent := wrap64 (g.sent + 1), drp := wrap64 (g.drp + 1) } rfl rfl rfl
  have sA := chR_set B wd 5 (.int .i64 (wrap64 (g.drp + 1)))
  have hsz5 : (wd.setCell ⟨B, 5, none⟩ (.int .i64 (wrap64 (g.drp + 1)))).heap.size = wd.heap.size := by simp [World.setCell]
  have H5 := hid_of' (And.intro hR3 (And.intro (H4.out.2.1.ch sA (by omega)) (H4.out.2.2.go sA (fun s q => .inl q))))
  clear hR3 sA H4
  go_upto_region 6 with fail
  clear cA fA
  generalize wd.setCell ⟨B, 5, none⟩ (.int .i64 (wrap64 (g.drp + 1))) = w6 at H5 hsz5 ⊢
  go_wp2_with (first | (go_at_call 16; refine (HS.out _).mono ?_; rintro e w5 ⟨u, rfl, ⟨g1, g2, rfl, h2, h3, h4, h5⟩, hb5⟩; have HN := hid_of' (And.intro h2 (And.intro h3 (And.intro h4 (And.intro h5 hb5)))); clear h2 h3 h4 h5 hb5) | (refine wpL_storeNo rfl _ _ rfl rfl (code := ((12 : Nat) : Int) + 1) (a := some ⟨g2, 0, none⟩) (n := 1) (c := 1) (a' := some ⟨g1, 0, none⟩) (n' := 1) (c' := 1) rfl (H5.out.2.1.later HN.out.2.2.2.2) ?_))
  have hg1 := HN.out.1
  have hg2 := HN.out.2.1
  have cR := Ch.row (S := fun s => s = w.heap.size) (Ch.refl _ w5) (.inl rfl) (nov (((12 : Nat) : Int) + 1) (some ⟨g2, 0, none⟩) 1 1 (some ⟨g1, 0, none⟩) 1 1)
  have hap := prow_apart (H5.out.1.later HN.out.2.2.2.2).row (H5.out.2.1.later HN.out.2.2.2.2) (by decide)
  refine bodyPost_ret (v := .tuple #[.int .i64 0, .agg (nov (((12 : Nat) : Int) + 1) (some ⟨g2, 0, none⟩) 1 1 (some ⟨g1, 0, none⟩) 1 1)]) (results_pn (fn := Tryd.f26) (p := 8) (q := 9) (g := w.heap.size) rfl rfl ((H5.out.2.1.later HN.out.2.2.2.2).put _) rfl) rfl ⟨_, rfl, ⟨g1, g2, rfl, by omega, by omega, HN.out.2.2.1.ch cR (by omega), HN.out.2.2.2.1.ch cR (by omega)⟩, ?_, (H5.out.2.2.later HN.out.2.2.2.2).go cR (fun s q => .inr (by omega))⟩
  exact ((H5.out.1.later HN.out.2.2.2.2).ch cR (by omega) hap (fun k hk e => by have := hk.2; omega)).mono (fun k hk _ => hk.1)
set_option maxHeartbeats 8000000 in
theorem refSend_ok {B : Nat} {v : Value} {g : Bg} {K : Nat → Prop} {w : World} (h : RgAt B v g K w) (f t : Int) (hft : endsB f t = true) (hroom : (g.l.length : Int) < g.most) {ru : Value} {raw : List UInt8} (hraw : SlB w ru raw) (hrl : raw.length ≤ 140737488351232) (hrb : raw ≠ [] → ∀ k, ru.ownBlock = some k → ¬ Bch B v k) :
    Calls Tryd.prog 26 #[.pointer (some ⟨B, 0, none⟩), .int .i64 f, .int .i64 t, ru] w fun e w' => e = .returned (.tuple #[.int .i64 (wrap64 (g.last + 1)), nov0]) ∧ ∃ v', RgAt B v' (sndG g f t raw) (fun k => K k ∨ w.heap.size ≤ k) w' ∧ At' w v v' ∧ Ch (Bch B v) w w' := by
  obtain ⟨i0, hi0, hz0, hz1, hz2⟩ := info_parts info_p
  have HI := hid_of' (And.intro hi0 (And.intro hz0 (And.intro hz1 hz2)))
  clear hi0 hz0 hz1 hz2
  obtain ⟨a9, c9, rfl⟩ := h.slice
  obtain ⟨ra, rn, rc, rfl⟩ : ∃ ra rn rc, ru = .slice ra rn rc := by
    rcases hraw with ⟨_, a, c, rfl⟩ | ⟨g, o, c, rfl, _⟩
    · exact ⟨_, _, _, rfl⟩
    · exact ⟨_, _, _, rfl⟩
  have r4 := row_new w #[.int .i64 0, .slice none 0 0, .slice none 0 0] 32
  have hb1 := below_one w (.cells #[.int .i64 0, .slice none 0 0, .slice none 0 0] 32)
  go_enter Tryd.func26, Tryd.ntmps26
  go_upto_region 1 with fail
  generalize w.alloc (.cells #[.int .i64 0, .slice none 0 0, .slice none 0 0] 32) = w2 at r4 hb1 ⊢
  have hroom2 : ¬ g.most ≤ (g.l.length : Int) := by omega
  have HRAW := hid_of' (And.intro hraw (And.intro hrl (And.intro hrb h.row.lt)))
  have hwy := ways_is f t w2
  rw [hft] at hwy
  have HWy := hid_of' hwy
  have hB0 := h.lies.lt
  have hs2 := r4.lt
  have hR2 := (h.mono (K' := fun k => K k ∧ k < w.heap.size) (fun k hk hl => ⟨hk, hl⟩)).later hb1
  have cA := hR2.lies.cellIs 3 rfl
  have fA := hR2.lies.froz 3
  have hR3 := hR2.set 3 (.int .i64 (wrap64 (g.sent + 1))) { g with sent := wrap64 (g.sent + 1) } rfl rfl rfl
  have sA := chR_set B w2 3 (.int .i64 (wrap64 (g.sent + 1)))
  have hsz : (w2.setCell ⟨B, 3, none⟩ (.int .i64 (wrap64 (g.sent + 1)))).heap.size = w2.heap.size := by simp [World.setCell]
  have H3 := hid_of' (And.intro hR3 (And.intro (r4.ch sA (by omega)) ((Ch.of (S := fun k => k = B) hb1).go sA (fun s q => .inl q))))
  have HRL : raw.length ≤ 140737488351232 := hrl
  clear h hraw hrl hrb hwy hft hR2 hR3 sA r4 hb1
  go_upto_region 4 with (go_at_call 49; refine HWy.out.mono ?_; rintro e w3 ⟨rfl, h0⟩; obtain rfl := h0.symm)
  clear cA fA
  generalize w2.setCell ⟨B, 3, none⟩ (.int .i64 (wrap64 (g.sent + 1))) = w4 at H3 hsz ⊢
  have d0 := H3.out.1.lies.cellIs 0 rfl
  have d2 := H3.out.1.lies.cellIs 2 rfl
  go_region
  have hd : Below w4.heap.size w4 w4.drew := below_drewN (Below.refl _ _) 1
  clear d0 d2
  generalize w4.drew = wd at hd ⊢
  have hds := hd.size
  have H4 := hid_of' (And.intro (H3.out.1.later hd) (And.intro (H3.out.2.1.later hd) (H3.out.2.2.later hd)))
  clear hd H3
  have cA := H4.out.1.lies.cellIs 1 rfl
  have fA := H4.out.1.lies.froz 1
  have hR3 := H4.out.1.set 1 (.int .i64 (wrap64 (wrap64 (g.last + 1) + 1))) { g with sent := wrap64 (g.sent + 1), last := wrap64 (g.last + 1) } rfl rfl rfl
  have sA := chR_set B wd 1 (.int .i64 (wrap64 (wrap64 (g.last + 1) + 1)))
  have hsz5 : (wd.setCell ⟨B, 1, none⟩ (.int .i64 (wrap64 (wrap64 (g.last + 1) + 1)))).heap.size = wd.heap.size := by simp [World.setCell]
  have H5 := hid_of' (And.intro hR3 (And.intro (H4.out.2.1.ch sA (by omega)) (H4.out.2.2.go sA (fun s q => .inl q))))
  clear hR3 sA H4
  obtain ⟨nx, hnx⟩ : ∃ nx, nx = wrap64 (g.last + 1) := ⟨_, rfl⟩
  have HNX := hid_of' hnx
  rw [← hnx] at cA
  have knx : wrap64 (nx + 1) = wrap64 (wrap64 (g.last + 1) + 1) := by rw [hnx]
  clear hnx
  go_upto_region 8 with fail
  go_upto_region 9 with fail
  clear cA fA
  rw [knx]
  clear knx
  generalize wd.setCell ⟨B, 1, none⟩ (.int .i64 (wrap64 (wrap64 (g.last + 1) + 1))) = W at H5 hsz5 ⊢
  obtain ⟨ps, hrw, hps⟩ := H5.out.1.kne
  obtain ⟨N, hN⟩ : ∃ N, g.l.length = N := ⟨_, rfl⟩
  have hl4 : N ≤ 4096 := by have h1 : (g.l.length : Int) ≤ g.most := H5.out.1.room; have h2 : g.most ≤ 4096 := H5.out.1.most1; omega
  have hrow := H5.out.1.lies
  have hvl := H5.out.1.row.lt
  have hne := H5.out.1.ne
  simp only [hN] at hrow hvl hne
  have hrw' : Rw 65 4 (.slice a9 N c9) N (pcells ps) W := by
    have := hrw
    simp only [hN] at this
    exact this
  have HV := hid_of' hvl
  have HR : Hid (Rw 65 4 (.slice a9 N c9) N (pcells ps) W ∧ N + 1 ≤ maxLen ∧ (N + 1) * 48 ≤ 140737488355328) := ⟨hrw', by unfold maxLen; omega, by omega⟩
  have hrb2 := HRAW.out.2.2.1
  have hrlt := HRAW.out.2.2.2
  rw [hN] at hrb2 hrlt
  have HC : Hid (∀ x, W.grownBy x (Value.ownBlock (.slice a9 N c9)) → Calls Tryd.prog 50 #[.slice ra rn rc] x fun r x1 => ∃ v1, r = .returned v1 ∧ BsAt (fun k => W.heap.size ≤ k) v1 raw x1 ∧ Below x.heap.size x x1) := fun x hx => by
    have s1 := HRAW.out.1.chN H5.out.2.2 (fun hnn k hk e => hrb2 hnn k hk (.inl e))
    have s2 := s1.chN (grown_ch hx) (fun hnn k hk e => hrb2 hnn k hk (.inr e))
    refine (refCopied_any s2 HRAW.out.2.1).mono ?_
    rintro r x1 ⟨v1, rfl, hc, hb1⟩
    exact ⟨_, rfl, hc.mono (fun k hk _ => Nat.le_trans hx.size hk), hb1⟩
  have HP := hid_of' hps
  have HW := hid_of' (And.intro hN (And.intro hne hrow))
  have HRB := hid_of' (And.intro hrb2 hrlt)
  have hBl := hrow.lt
  clear hrw hrw' hps hrow hvl hne hrb2 hrlt HRAW hN
  refine wp_region_once 13 (by kernel_rfl) (fun _ => none) (by kernel_rfl) (by kernel_rfl) (by decide) (fun ii u X => match ii with
    | 0 => u = .pointer (some ⟨B, 0, none⟩)
    | 1 => u = .pointer (some ⟨B, 0, none⟩)
    | 2 => u = .pointer (some ⟨B, 0, none⟩)
    | 3 => u = .pointer (some ⟨B, 2, none⟩)
    | 4 => u = .slice a9 N c9
    | 5 => u = .int .i64 nx
    | 6 => u = .int .i64 f
    | 7 => u = .int .i64 t
    | 8 => u = .slice ra rn rc
    | 9 => BsAt (fun k => W.heap.size ≤ k) u raw X
    | 10 => ∃ bv, u = .agg (pcv ⟨nx, f, t, bv⟩) ∧ BsAt (fun k => W.heap.size ≤ k) bv raw X
    | 11 => ∃ gs bv, u = .slice (some ⟨gs, 0, none⟩) 1 1 ∧ W.heap.size ≤ gs ∧ CsIn gs 0 (pcv ⟨nx, f, t, bv⟩) X ∧ BsAt (fun k => W.heap.size ≤ k) bv raw X
    | 12 => ∃ bv, Rw 65 4 u (N + 1) (pcells (ps ++ [⟨nx, f, t, bv⟩])) X ∧ At' W (.slice a9 N c9) u ∧ BsAt (fun k => W.heap.size ≤ k) bv raw X
    | _ => True) (fun _ => false) (fun _ _ _ _ h => by cases h) 12 (by decide) (fun a b => World.grownBy a b (Value.ownBlock (.slice a9 N c9))) (fun a b => World.grownBy a b (Value.ownBlock (.slice a9 N c9))) (fun _ _ g h => grown_later g h) (fun _ h => grown_of h) (fun _ _ h g => grown_first h g) (fun _ _ g => g.size) ?_ ?_ ?_ ?_
  · intro ii u X X' hR hb
    match ii, hR with
    | 0, h => exact h
    | 1, h => exact h
    | 2, h => exact h
    | 3, h => exact h
    | 4, h => exact h
    | 5, h => exact h
    | 6, h => exact h
    | 7, h => exact h
    | 8, h => exact h
    | 9, h => exact h.later hb
    | 10, h => exact (by obtain ⟨bv, h1, h2⟩ := h; exact ⟨bv, h1, h2.later hb⟩)
    | 11, h => exact (by obtain ⟨gs, bv, h1, h2, h3, h4⟩ := h; exact ⟨gs, bv, h1, h2, h3.later hb, h4.later hb⟩)
    | 12, h => exact (by obtain ⟨bv, h1, h2, h3⟩ := h; exact ⟨bv, h1.later hb, h2, h3.later hb⟩)
    | m + 13, h => exact h
  · intro ii u X X' hne hR hb
    match ii, hne, hR with
    | 0, hne, h => exact h
    | 1, hne, h => exact h
    | 2, hne, h => exact h
    | 3, hne, h => exact h
    | 4, hne, h => exact h
    | 5, hne, h => exact h
    | 6, hne, h => exact h
    | 7, hne, h => exact h
    | 8, hne, h => exact h
    | 9, hne, h => exact bsGrow h hb HV.out
    | 10, hne, h => exact (by obtain ⟨bv, h1, h2⟩ := h; exact ⟨bv, h1, bsGrow h2 hb HV.out⟩)
    | 11, hne, h => exact (by obtain ⟨gs, bv, h1, h2, h3, h4⟩ := h; exact ⟨gs, bv, h1, h2, h3.ch (grown_ch hb) (fun e => by have := HV.out gs e; omega), bsGrow h4 hb HV.out⟩)
    | 12, hne, h => exact absurd rfl hne
    | m + 13, _, h => exact h
  · intro ii o hi ho q X vals hX hC hdep hoth
    have t0 : q.tmps[0]? = some (.pointer (some ⟨B, 0, none⟩)) := by rw [hoth 0 (by kernel_rfl)]; rfl
    have t10 : q.tmps[10]? = some (.int .i64 nx) := by rw [hoth 10 (by kernel_rfl)]; rfl
    have t1 : q.tmps[1]? = some (.int .i64 f) := by rw [hoth 1 (by kernel_rfl)]; rfl
    have t2 : q.tmps[2]? = some (.int .i64 t) := by rw [hoth 2 (by kernel_rfl)]; rfl
    have t3 : q.tmps[3]? = some (.slice ra rn rc) := by rw [hoth 3 (by kernel_rfl)]; rfl
    match ii, hi, ho, hC with
    | 0, _, ho, hC =>
      simp only [List.getElem?_cons_zero, Option.some.injEq] at ho
      subst ho
      unfold Oper.wp
      simp [execOp, go_sem, t0]
      exact cameB _ rfl (by decide) (Below.refl _ _) rfl (fun h => absurd h (by decide))
    | 1, _, ho, hC =>
      simp only [List.getElem?_cons_succ, List.getElem?_cons_zero, Option.some.injEq] at ho
      subst ho
      unfold Oper.wp
      simp [execOp, go_sem, t0]
      exact cameB _ rfl (by decide) (Below.refl _ _) rfl (fun h => absurd h (by decide))
    | 2, _, ho, hC =>
      simp only [List.getElem?_cons_succ, List.getElem?_cons_zero, Option.some.injEq] at ho
      subst ho
      obtain ⟨u1, e1⟩ := hdep ⟨1, .data⟩ (by simp) rfl _ 55 rfl rfl
      rw [show vals 1 = .pointer (some ⟨B, 0, none⟩) from e1] at u1
      unfold Oper.wp
      simp [execOp, go_sem, u1]
      exact cameB _ rfl (by decide) (Below.refl _ _) rfl (fun h => absurd h (by decide))
    | 3, _, ho, hC =>
      simp only [List.getElem?_cons_succ, List.getElem?_cons_zero, Option.some.injEq] at ho
      subst ho
      obtain ⟨u2, e2⟩ := hdep ⟨2, .data⟩ (by simp) rfl _ 56 rfl rfl
      rw [show vals 2 = .pointer (some ⟨B, 0, none⟩) from e2] at u2
      unfold Oper.wp
      simp [execOp, go_sem, u2]
      exact cameB _ rfl (by decide) (Below.refl _ _) rfl (fun h => absurd h (by decide))
    | 4, _, ho, hC =>
      simp only [List.getElem?_cons_succ, List.getElem?_cons_zero, Option.some.injEq] at ho
      subst ho
      obtain ⟨u3, e3⟩ := hdep ⟨3, .data⟩ (by simp) rfl _ 57 rfl rfl
      rw [show vals 3 = .pointer (some ⟨B, 2, none⟩) from e3] at u3
      have hb := hC (.inr (by kernel_rfl))
      have cc : X.cell? ⟨B, 2, none⟩ = some (.slice a9 N c9) := (HW.out.2.2.later hb).cellIs 2 rfl
      unfold Oper.wp
      simp [execOp, go_sem, u3, cc]
      exact cameB _ rfl (by decide) (Below.refl _ _) rfl (fun h => absurd h (by decide))
    | 5, _, ho, hC =>
      simp only [List.getElem?_cons_succ, List.getElem?_cons_zero, Option.some.injEq] at ho
      subst ho
      unfold Oper.wp
      simp [execOp, go_sem, t10]
      exact cameB _ rfl (by decide) (Below.refl _ _) rfl (fun h => absurd h (by decide))
    | 6, _, ho, hC =>
      simp only [List.getElem?_cons_succ, List.getElem?_cons_zero, Option.some.injEq] at ho
      subst ho
      unfold Oper.wp
      simp [execOp, go_sem, t1]
      exact cameB _ rfl (by decide) (Below.refl _ _) rfl (fun h => absurd h (by decide))
    | 7, _, ho, hC =>
      simp only [List.getElem?_cons_succ, List.getElem?_cons_zero, Option.some.injEq] at ho
      subst ho
      unfold Oper.wp
      simp [execOp, go_sem, t2]
      exact cameB _ rfl (by decide) (Below.refl _ _) rfl (fun h => absurd h (by decide))
    | 8, _, ho, hC =>
      simp only [List.getElem?_cons_succ, List.getElem?_cons_zero, Option.some.injEq] at ho
      subst ho
      unfold Oper.wp
      simp [execOp, go_sem, t3]
      exact cameB _ rfl (by decide) (Below.refl _ _) rfl (fun h => absurd h (by decide))
    | 9, _, ho, hC =>
      simp only [List.getElem?_cons_succ, List.getElem?_cons_zero, Option.some.injEq] at ho
      subst ho
      obtain ⟨u8, e8⟩ := hdep ⟨8, .data⟩ (by simp) rfl _ 62 rfl rfl
      rw [show vals 8 = .slice ra rn rc from e8] at u8
      unfold Oper.wp
      simp [go_sem, u8]
      refine (HC.out X hX).mono ?_
      rintro r x1 ⟨v1, rfl, hcp, hb1⟩
      exact cameB _ rfl (by decide) hb1 hcp (fun h => absurd h (by decide))
    | 10, _, ho, hC =>
      simp only [List.getElem?_cons_succ, List.getElem?_cons_zero, Option.some.injEq] at ho
      subst ho
      obtain ⟨u5, e5⟩ := hdep ⟨5, .data⟩ (by simp) rfl _ 59 rfl rfl
      rw [show vals 5 = .int .i64 nx from e5] at u5
      obtain ⟨u6, e6⟩ := hdep ⟨6, .data⟩ (by simp) rfl _ 60 rfl rfl
      rw [show vals 6 = .int .i64 f from e6] at u6
      obtain ⟨u7, e7⟩ := hdep ⟨7, .data⟩ (by simp) rfl _ 61 rfl rfl
      rw [show vals 7 = .int .i64 t from e7] at u7
      obtain ⟨u9, e9⟩ := hdep ⟨9, .data⟩ (by simp) rfl _ 63 rfl rfl
      have e9 : BsAt (fun k => W.heap.size ≤ k) (vals 9) raw X := e9
      obtain ⟨za, zc, ez, _, _⟩ := Rw.form e9.1
      rw [ez] at e9
      rw [ez] at u9
      unfold Oper.wp
      simp [execOp, go_sem, u5, u6, u7, u9]
      exact cameB (.agg (pcv ⟨nx, f, t, .slice za raw.length zc⟩)) rfl (by decide) (Below.refl _ _) ⟨_, rfl, e9⟩ (fun h => absurd h (by decide))
    | 11, _, ho, hC =>
      simp only [List.getElem?_cons_succ, List.getElem?_cons_zero, Option.some.injEq] at ho
      subst ho
      obtain ⟨u10, e10⟩ := hdep ⟨10, .data⟩ (by simp) rfl _ 64 rfl rfl
      obtain ⟨bv, e10, hcv⟩ : ∃ bv, vals 10 = .agg (pcv ⟨nx, f, t, bv⟩) ∧ BsAt (fun k => W.heap.size ≤ k) bv raw X := e10
      rw [e10] at u10
      have hgx := hX.size
      refine opw_one (p := ⟨nx, f, t, bv⟩) _ rfl (by simp [Act.eval, u10]) hcv.sl.one ?_
      exact cameB _ rfl (by decide) (below_one _ _) ⟨X.heap.size, bv, rfl, by omega, (row_new X _ _).in, hcv.later (below_one _ _)⟩ (fun h => absurd h (by decide))
    | 12, _, ho, hC =>
      simp only [List.getElem?_cons_succ, List.getElem?_cons_zero, Option.some.injEq] at ho
      subst ho
      obtain ⟨u4, e4⟩ := hdep ⟨4, .data⟩ (by simp) rfl _ 58 rfl rfl
      rw [show vals 4 = .slice a9 N c9 from e4] at u4
      obtain ⟨u11, e11⟩ := hdep ⟨11, .data⟩ (by simp) rfl _ 65 rfl rfl
      have hb := hC (.inl rfl)
      obtain ⟨gs, bv, e11, h2, h3, h4⟩ : ∃ gs bv, vals 11 = .slice (some ⟨gs, 0, none⟩) 1 1 ∧ W.heap.size ≤ gs ∧ CsIn gs 0 (pcv ⟨nx, f, t, bv⟩) X ∧ BsAt (fun k => W.heap.size ≤ k) bv raw X := e11
      rw [e11] at u11
      refine opw_app (P := Tryd.prog) _ _ 45 rfl 65 i0 _ 4 48 Tryd.underlying45 HI.out.1 HI.out.2.1 HI.out.2.2.1 HI.out.2.2.2 rfl (by simp [Act.eval, u4]) (by simp [Act.eval, u11]) (HR.out.1.later hb) (so_one h3) (pcells_one [⟨nx, f, t, bv⟩] (fun p hp => by rw [List.mem_singleton] at hp; subst hp; exact h4.sl.one)) HR.out.2.1 HR.out.2.2 ?_
      intro v' X' q1 q2 q3
      exact cameX _ rfl q2 ⟨bv, by rw [pcells_app]; exact q1, fun k hk => (q3 k hk).elim (fun q => .inl q) (fun q => .inr (Nat.le_trans hb.size q)), bsGrow h4 q2 HV.out⟩ rfl
    | m + 13, hi, _, _ => exact absurd hi (by omega)
  · intro vals X hX hR _
    have e0 : vals 0 = .pointer (some ⟨B, 0, none⟩) := hR 0 (by decide)
    obtain ⟨bv, p1, p2, p3⟩ : ∃ bv, Rw 65 4 (vals 12) (N + 1) (pcells (ps ++ [⟨nx, f, t, bv⟩])) X ∧ At' W (.slice a9 N c9) (vals 12) ∧ BsAt (fun k => W.heap.size ≤ k) bv raw X := hR 12 (by decide)
    obtain ⟨xa, xc, e9, _, _⟩ := Rw.form p1
    rw [e9] at p1 p2
    have hBR : ¬ Value.ownBlock (.slice a9 N c9) = some B := fun e => HW.out.2.1 B e rfl
    have hR5 := HW.out.2.2.grow hX hBR
    have c5 := hR5.cellIs 2 rfl
    have f5 := hR5.froz 2
    have s5 := chR_set B X 2 (.slice xa (N + 1) xc)
    have hsx := hX.size
    have gx := grown_ch hX
    have r4x := (H5.out.2.1.ch gx (fun e => by have := HRB.out.2 _ e; omega)).ch s5 (show ¬ w.heap.size = B by omega)
    have hq2 : ∀ k, Value.ownBlock (.slice xa (N + 1) xc) = some k → ¬ k = B := fun k hk e => by
      rcases p2 k hk with q | q
      · exact hBR (e ▸ q)
      · omega
    have k12 : Ch (Bch B (.slice a9 N c9)) w (X.setCell ⟨B, 2, none⟩ (.slice xa (N + 1) xc)) := ((H5.out.2.2.mono (S' := Bch B (.slice a9 N c9)) (fun s q => .inl (.inl q))).go gx (fun s q => .inl (.inr q))).go s5 (fun s q => .inl (.inl q))
    have ps5 := (HP.out.ch gx (fun k hk e => hk.2.2.2 k (by rw [HW.out.1]; exact e) rfl)).ch s5 (fun k hk e => hk.2.2.1 e)
    have bv5 := p3.ch s5 (fun k hk e => by have e' : k = B := e; omega)
    have H12 := hid_of' (And.intro (hR5.setc 2 (.slice xa (N + 1) xc)) (And.intro (Rw.ch p1 s5 hq2) (And.intro ps5 (And.intro bv5 (And.intro r4x (And.intro k12 p2))))))
    clear hR p1 p2 p3 hX hR5 s5 gx r4x hq2 k12 ps5 bv5
    simp only [List.drop, List.take, putAll, List.setIfInBounds_toArray, List.set_cons_succ, List.set_cons_zero, e0, e9]
    clear e0 e9
    go_upto_region 10 with fail
    clear c5 f5
    generalize X.setCell ⟨B, 2, none⟩ (.slice xa (N + 1) xc) = w12 at H12 ⊢
    go_wp2_with (first | (refine wpL_storeNo rfl _ _ rfl rfl (code := 0) (a := none) (n := 0) (c := 0) (a' := none) (n' := 0) (c' := 0) rfl H12.out.2.2.2.2.1 ?_))
    obtain ⟨r12, h12, p12, b12, a12, k12, n12⟩ := H12.out
    have c7 := Ch.row (S := fun s => s = w.heap.size) (Ch.refl _ w12) (.inl rfl) (nov 0 none 0 0 none 0 0)
    refine bodyPost_ret (v := .tuple #[.int .i64 nx, nov0]) (results_pn (fn := Tryd.f26) (p := 8) (q := 9) (g := w.heap.size) rfl rfl (a12.put _) rfl) rfl ⟨by rw [HNX.out], .slice xa (N + 1) xc, ⟨?_, ⟨ps ++ [⟨nx, f, t, bv⟩], ?_, ?_⟩, H5.out.1.most1, ?_⟩, ?_, ?_⟩
    · exact r12.ch c7 (by omega)
    · have h := Rw.ch h12 c7 (fun k hk e => by
        have e' : k = w.heap.size := e
        rcases n12 k hk with q | q
        · have := HRB.out.2 _ q
          omega
        · omega)
      have e : (sndG g f t raw).l.length = N + 1 := by rw [← HW.out.1]; simp [sndG]
      show Rw _ _ _ (sndG g f t raw).l.length _ _
      rw [e]
      exact h
    · refine ((p12.ch c7 (fun k hk e => by have := hk.1.2; have e' : k = w.heap.size := e; omega)).mono (fun k hk _ => .inl hk.1.1)).app (PsAt.one ⟨HNX.out, rfl, rfl, ?_, HRL⟩)
      exact (b12.ch c7 (fun k hk e => by have e' : k = w.heap.size := e; omega)).mono (fun k hk _ => .inr (by omega))
    · show ((g.l ++ [_]).length : Int) ≤ g.most
      rw [List.length_append, List.length_singleton]
      omega
    · intro k hk
      rw [HW.out.1]
      exact (n12 k hk).elim (fun q => .inl q) (fun q => .inr (by omega))
    · rw [HW.out.1]
      exact k12.go c7 (fun s q => .inr (by omega))
end Go.Proofs.YtdojjhhnciaegaaDoor
