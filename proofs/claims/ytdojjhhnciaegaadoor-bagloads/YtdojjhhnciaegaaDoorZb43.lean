
/-
  The document's Bag: all calls, whatever the place; a pair of Bags.
-/
import Derived.Test.YtdojjhhnciaegaaDoorZb38
import Derived.Test.YtdojjhhnciaegaaDoorZb41
import Derived.Test.YtdojjhhnciaegaaDoorZb42
namespace Go.Proofs.YtdojjhhnciaegaaDoor
open Go.RowKit Go.Extern.Stop Go.Stop Go.Extern
set_option maxRecDepth 100000

theorem NewB.at' {w : World} {v v' : Value} (h : NewB w v') : At' w v v' := fun k hk => .inr (h k hk)
theorem chBch {B : Nat} {v : Value} {w w' : World} (h : Ch (fun k => k = B) w w') : Ch (Bch B v) w w' := h.mono (fun _ q => .inl (.inl q))
theorem refLook_any {B : Nat} {v : Value} {g : Bg} {K : Nat → Prop} {w : World} (h : RgAt B v g K w) (i : Int) :
    Calls Tryd.prog 37 #[.pointer (some ⟨B, 0, none⟩), .int .i64 i] w fun e w' => ∃ p u, e = .returned (.tuple #[.agg (pcv p), u]) ∧ PcIs K p (plAt g i) w' ∧ NoR w.heap.size (rfAt bLook g i) u w' ∧ Below w.heap.size w w' := by
  rcases place_cases g i with ⟨n, q, rfl, hq, hn⟩ | hi
  · rw [plAt_in hq, rfAt_in hn]
    exact (refLook_in h hq).mono fun _ _ ⟨p, h1, h2, h3⟩ => ⟨p, _, h1, h2, rfl, h3⟩
  · rw [plAt_out hi, rfAt_out hi]
    exact (refLook_out h hi).mono fun _ _ ⟨u, h1, h2, h3⟩ => ⟨_, u, h1, pc0_is _ _, h2, h3⟩
theorem refDeliver_any {B : Nat} {v : Value} {g : Bg} {K : Nat → Prop} {w : World} (h : RgAt B v g K w) (i : Int) :
    Calls Tryd.prog 28 #[.pointer (some ⟨B, 0, none⟩), .int .i64 i] w fun e w' => ∃ p u v', e = .returned (.tuple #[.agg (pcv p), u]) ∧ PcIs K p (plAt g i) w' ∧ NoR w.heap.size (rfAt bDeliver g i) u w' ∧ RgAt B v' (dlvG g i) K w' ∧ At' w v v' ∧ Ch (Bch B v) w w' := by
  rcases place_cases g i with ⟨n, q, rfl, hq, hn⟩ | hi
  · rw [plAt_in hq, rfAt_in hn, dlvG_in hn]
    exact (refDeliver_in h hq).mono fun _ _ ⟨p, v', h1, h2, h3, h4, h5⟩ => ⟨p, _, v', h1, h2, rfl, h3, h4.at', chBch h5⟩
  · rw [plAt_out hi, rfAt_out hi, dlvG_out hi]
    exact (refDeliver_out h hi).mono fun _ _ ⟨u, h1, h2, h3⟩ => ⟨_, u, v, h1, pc0_is _ _, h2, h.later h3, At'.refl _ _, Ch.of h3⟩
theorem refDrop_any {B : Nat} {v : Value} {g : Bg} {K : Nat → Prop} {w : World} (h : RgAt B v g K w) (i : Int) :
    Calls Tryd.prog 31 #[.pointer (some ⟨B, 0, none⟩), .int .i64 i] w fun e w' => ∃ u v', e = .returned u ∧ NoR w.heap.size (rfAt bDrop g i) u w' ∧ RgAt B v' (drpG g i) K w' ∧ At' w v v' ∧ Ch (Bch B v) w w' := by
  rcases place_cases g i with ⟨n, q, rfl, hq, hn⟩ | hi
  · rw [rfAt_in hn, drpG_in hn]
    exact (refDrop_in h hq).mono fun _ _ ⟨h1, v', h3, h4, h5⟩ => ⟨_, v', h1, rfl, h3, h4.at', chBch h5⟩
  · rw [rfAt_out hi, drpG_out hi]
    exact (refDrop_out h hi).mono fun _ _ ⟨u, h1, h2, h3⟩ => ⟨u, v, h1, h2, h.later h3, At'.refl _ _, Ch.of h3⟩
theorem refDouble_any {B : Nat} {v : Value} {g : Bg} {K : Nat → Prop} {w : World} (h : RgAt B v g K w) (i : Int) :
    Calls Tryd.prog 33 #[.pointer (some ⟨B, 0, none⟩), .int .i64 i] w fun e w' => ∃ u v', e = .returned u ∧ NoR w.heap.size (dblA g i).2 u w' ∧ RgAt B v' (dblA g i).1 K w' ∧ At' w v v' ∧ Ch (Bch B v) w w' := by
  unfold dblA
  rcases place_cases g i with ⟨n, q, rfl, hq, hn⟩ | hi
  · rw [if_pos ⟨by omega, by omega⟩, plAt_in hq]
    by_cases hr : g.most ≤ (g.l.length : Int)
    · rw [if_pos hr]
      exact (refDouble_full h hq hr).mono fun _ _ ⟨u, h1, h2, h3⟩ => ⟨u, v, h1, h2, h.later h3, At'.refl _ _, Ch.of h3⟩
    · rw [if_neg hr]
      exact (refDouble_ok h hq (by omega)).mono fun _ _ ⟨h1, v', h2, h3, h4⟩ => ⟨_, v', h1, rfl, h2, h3.at', chBch h4⟩
  · rw [if_neg (by omega)]
    exact (refDouble_out h hi).mono fun _ _ ⟨u, h1, h2, h3⟩ => ⟨u, v, h1, h2, h.later h3, At'.refl _ _, Ch.of h3⟩
theorem refSwap_any {B : Nat} {v : Value} {g : Bg} {K : Nat → Prop} {w : World} (h : RgAt B v g K w) (i j : Int) :
    Calls Tryd.prog 35 #[.pointer (some ⟨B, 0, none⟩), .int .i64 i, .int .i64 j] w fun e w' => ∃ u v', e = .returned u ∧ NoR w.heap.size (swpA g i j).2 u w' ∧ RgAt B v' (swpA g i j).1 K w' ∧ At' w v v' ∧ Ch (Bch B v) w w' := by
  unfold swpA
  rcases place_cases g i with ⟨n, q, rfl, hq, hn⟩ | hi
  · rw [if_pos ⟨by omega, by omega⟩, plAt_in hq]
    rcases place_cases g j with ⟨m, r, rfl, hr, hm⟩ | hj
    · rw [if_pos ⟨by omega, by omega⟩, plAt_in hr, Int.toNat_natCast, Int.toNat_natCast]
      exact (refSwap_ok h hq hr).mono fun _ _ ⟨h1, v', h2, h3, h4⟩ => ⟨_, v', h1, rfl, h2, h3.at', chBch h4⟩
    · rw [if_neg (by omega)]
      exact (refSwap_no2 h hq hj).mono fun _ _ ⟨u, h1, h2, h3⟩ => ⟨u, v, h1, h2, h.later h3, At'.refl _ _, Ch.of h3⟩
  · rw [if_neg (by omega)]
    exact (refSwap_no1 h j hi).mono fun _ _ ⟨u, h1, h2, h3⟩ => ⟨u, v, h1, h2, h.later h3, At'.refl _ _, Ch.of h3⟩
theorem refSend_any {B : Nat} {v : Value} {g : Bg} {K : Nat → Prop} {w : World} (h : RgAt B v g K w) (f t : Int) {ru : Value} {raw : List UInt8} (hraw : SlB w ru raw) (hrl : raw.length ≤ 140737488351232) (hrb : raw ≠ [] → ∀ k, ru.ownBlock = some k → ¬ Bch B v k) :
    Calls Tryd.prog 26 #[.pointer (some ⟨B, 0, none⟩), .int .i64 f, .int .i64 t, ru] w fun e w' => ∃ u v', e = .returned (.tuple #[.int .i64 (sndA g f t raw).2.1, u]) ∧ NoR w.heap.size (sndA g f t raw).2.2 u w' ∧ RgAt B v' (sndA g f t raw).1 (fun k => K k ∨ w.heap.size ≤ k) w' ∧ At' w v v' ∧ Ch (Bch B v) w w' := by
  unfold sndA
  cases hft : endsB f t
  · rw [if_neg (by decide)]
    exact (refSend_ways f t hft hraw).mono fun _ _ ⟨u, h1, h2, h3⟩ => ⟨u, v, h1, h2, (h.later h3).mono (fun k hk _ => .inl hk), At'.refl _ _, Ch.of h3⟩
  · rw [if_pos rfl]
    by_cases hr : g.most ≤ (g.l.length : Int)
    · rw [if_pos hr]
      exact (refSend_full h f t hft hr hraw).mono fun _ _ ⟨u, h1, h2, h3, h4⟩ => ⟨u, v, h1, h2, h3.mono (fun k hk _ => .inl hk), At'.refl _ _, chBch h4⟩
    · rw [if_neg hr]
      exact (refSend_ok h f t hft (by omega) hraw hrl hrb).mono fun _ _ ⟨h1, v', h2, h3, h4⟩ => ⟨_, v', h1, rfl, h2, h3, h4⟩

/-- Blocks that hold no bytes. -/
def NoU8 (S : Nat → Prop) (w : World) : Prop := ∀ k, S k → ∀ cur f, ¬ w.heap[k]? = some (.cells cur 5 f)
theorem PRow.notS {K S : Nat → Prop} {v : Value} {l : List Pl} {w : World} (h : PRow K v l w) (hS : NoU8 S w) : PRow (fun k => K k ∧ ¬ S k) v l w := by
  obtain ⟨ps, h1, h2⟩ := h
  refine ⟨ps, h1, h2.1, fun i p q hp hq => ?_⟩
  have hpq := h2.2 i p q hp hq
  refine ⟨hpq.s, hpq.f, hpq.t, ⟨hpq.b.1, fun k hk => ⟨hpq.b.2 k hk, fun e => ?_⟩⟩, hpq.le⟩
  rcases hpq.b.1.2 with ⟨e1, _⟩ | ⟨g', cap, cur, e1, hg, _⟩
  · rw [e1] at hk; cases hk
  · rw [e1] at hk
    cases hk
    exact hS _ e _ _ hg
theorem bch_noU8 {B : Nat} {v : Value} {l : List Pl} {K : Nat → Prop} {cs : Array Value} {t : TypeId} {w : World} (hr : RowAt B cs t w) (ht : ¬ t = 5) (h : PRow K v l w) : NoU8 (Bch B v) w := by
  intro k hk cur f e
  rcases hk with rfl | hk
  · rw [show w.heap[k]? = _ from hr] at e
    simp only [Option.some.injEq, Obj.cells.injEq] at e
    exact ht e.2.1
  · obtain ⟨ps, h1, _⟩ := h
    rcases h1.2 with ⟨e1, _⟩ | ⟨g', cap, cur', e1, hg, _⟩
    · rw [e1] at hk; cases hk
    · rw [e1] at hk
      cases hk
      rw [hg] at e
      simp at e
theorem BgAt.noU8 {B : Nat} {v : Value} {g : Bg} {K : Nat → Prop} {w : World} (h : BgAt B v g K w) : NoU8 (Bch B v) w := bch_noU8 h.lies (by decide) h.row
theorem RgAt.noU8 {B : Nat} {v : Value} {g : Bg} {K : Nat → Prop} {w : World} (h : RgAt B v g K w) : NoU8 (Bch B v) w := bch_noU8 h.lies (by decide) h.row
theorem BgAt.chT {B : Nat} {v : Value} {g : Bg} {S : Nat → Prop} {w w' : World} (h : BgAt B v g (fun _ => True) w) (c : Ch S w w') (hn : ∀ k, Bch B v k → ¬ S k) (hS : NoU8 S w) : BgAt B v g (fun _ => True) w' :=
  ⟨h.lies.ch c (hn B (.inl rfl)), ((h.row.notS hS).ch c (fun k hk => hn k (.inr hk)) (fun _k hk => hk.2)).mono (fun _ _ _ => trivial), h.most0, h.most1, h.room⟩
theorem RgAt.chT {B : Nat} {v : Value} {g : Bg} {S : Nat → Prop} {w w' : World} (h : RgAt B v g (fun _ => True) w) (c : Ch S w w') (hn : ∀ k, Bch B v k → ¬ S k) (hS : NoU8 S w) : RgAt B v g (fun _ => True) w' :=
  ⟨h.lies.ch c (hn B (.inl rfl)), ((h.row.notS hS).ch c (fun k hk => hn k (.inr hk)) (fun _k hk => hk.2)).mono (fun _ _ _ => trivial), h.most1, h.room⟩
/-- A Bag of the program and the document's, both laid behind M. -/
structure PrAt (M P B R : Nat) (vb vr : Value) (g gr : Bg) (w : World) : Prop where
  p : RowAt P #[.pointer (some ⟨B, 0, none⟩), .pointer (some ⟨R, 0, none⟩)] 39 w
  b : BgAt B vb g (fun _ => True) w
  r : RgAt R vr gr (fun _ => True) w
  fb : ∀ k, Bch B vb k → M ≤ k ∧ ¬ k = P ∧ ¬ Bch R vr k
  fr : ∀ k, Bch R vr k → M ≤ k ∧ ¬ k = P
  p0 : M ≤ P
theorem PrAt.later {M P B R : Nat} {vb vr : Value} {g gr : Bg} {w w' : World} (h : PrAt M P B R vb vr g gr w) (hb : Below w.heap.size w w') : PrAt M P B R vb vr g gr w' := ⟨h.p.later hb, h.b.later hb, h.r.later hb, h.fb, h.fr, h.p0⟩
theorem PrAt.ltB {M P B R : Nat} {vb vr : Value} {g gr : Bg} {w : World} (h : PrAt M P B R vb vr g gr w) : ∀ k, Bch B vb k → k < w.heap.size := fun k hk => by
  rcases hk with rfl | hk
  · exact h.b.lies.lt
  · exact h.b.row.lt k hk
theorem PrAt.ltR {M P B R : Nat} {vb vr : Value} {g gr : Bg} {w : World} (h : PrAt M P B R vb vr g gr w) : ∀ k, Bch R vr k → k < w.heap.size := fun k hk => by
  rcases hk with rfl | hk
  · exact h.r.lies.lt
  · exact h.r.row.lt k hk
/-- The program's has changed. -/
theorem PrAt.goB {M P B R : Nat} {vb vr : Value} {g gr : Bg} {K : Nat → Prop} {vb' : Value} {g' : Bg} {w w' : World} (h : PrAt M P B R vb vr g gr w) (hi : BgAt B vb' g' K w') (ha : At' w vb vb') (hc : Ch (Bch B vb) w w') : PrAt M P B R vb' vr g' gr w' ∧ Below M w w' := by
  have hP := h.p.lt
  have hp0 := h.p0
  refine ⟨⟨h.p.ch hc (fun q => (h.fb P q).2.1 rfl), hi.mono (fun _ _ _ => trivial), h.r.chT hc (fun k hk q => (h.fb k q).2.2 hk) h.b.noU8, fun k hk => ?_, h.fr, h.p0⟩, hc.below (fun s hs q => by have := (h.fb s q).1; omega) (by omega)⟩
  rcases hk with rfl | hk
  · exact h.fb _ (.inl rfl)
  · rcases ha k hk with q | q
    · exact h.fb k (.inr q)
    · exact ⟨by omega, by omega, fun e => by have := h.ltR k e; omega⟩
/-- The document's has changed. -/
theorem PrAt.goR {M P B R : Nat} {vb vr : Value} {g gr : Bg} {K : Nat → Prop} {vr' : Value} {g' : Bg} {w w' : World} (h : PrAt M P B R vb vr g gr w) (hi : RgAt R vr' g' K w') (ha : At' w vr vr') (hc : Ch (Bch R vr) w w') : PrAt M P B R vb vr' g g' w' ∧ Below M w w' := by
  have hP := h.p.lt
  have hp0 := h.p0
  refine ⟨⟨h.p.ch hc (fun q => (h.fr P q).2 rfl), h.b.chT hc (fun k hk q => (h.fb k hk).2.2 q) h.r.noU8, hi.mono (fun _ _ _ => trivial), fun k hk => ⟨(h.fb k hk).1, (h.fb k hk).2.1, ?_⟩, fun k hk => ?_, h.p0⟩, hc.below (fun s hs q => by have := (h.fr s q).1; omega) (by omega)⟩
  · rintro (e | e)
    · exact (h.fb k hk).2.2 (.inl e)
    · rcases ha k e with q | q
      · exact (h.fb k hk).2.2 (.inr q)
      · have := h.ltB k hk; omega
  · rcases hk with rfl | hk
    · exact h.fr _ (.inl rfl)
    · rcases ha k hk with q | q
      · exact h.fr k (.inr q)
      · exact ⟨by omega, by omega⟩
end Go.Proofs.YtdojjhhnciaegaaDoor
