
/-
  barrowlaw11.CausalDelivers answers true.
-/
import Derived.Test.YtlgdaaofpjpobaaDoorZca30
namespace Go.Proofs.YtlgdaaofpjpobaaDoor
open Go.RowKit Go.Maps
set_option maxRecDepth 100000

def wiN (n : Int) (m : Nat) : Nat := if n.tmod (m : Int) < 0 then (n.tmod (m : Int) + m).toNat else (n.tmod (m : Int)).toNat
theorem wiN_lt {n : Int} {m : Nat} (hm : 0 < m) : wiN n m < m := by
  have t1 : n.tmod (m : Int) < (m : Int) := Int.tmod_lt_of_pos n (by omega)
  unfold wiN
  split <;> omega
theorem within_is (n : Int) (m : Nat) (w : World) (hm : 0 < m) (hm2 : m ≤ 1073741824) (_h : fitsI n) :
    Calls Tryd.prog 20 #[.int .i64 n, .int .i64 (m : Int)] w fun r w' => r = .returned (.int .i64 (wiN n m : Int)) ∧ w' = w := by
  obtain ⟨_h1, _h2⟩ := _h
  have m0 : ((m : Int) == 0) = false := by rw [beq_eq_false_iff_ne]; omega
  have t1 : n.tmod (m : Int) < (m : Int) := Int.tmod_lt_of_pos n (by omega)
  have t2 : -(m : Int) < n.tmod (m : Int) := by
    have := Int.tmod_lt_of_pos (-n) (show (0 : Int) < (m : Int) by omega)
    rw [Int.neg_tmod] at this
    omega
  unfold wiN
  obtain ⟨t, et⟩ : ∃ t, n.tmod (m : Int) = t := ⟨_, rfl⟩
  rw [et] at t1 t2 ⊢
  by_cases ht : t < 0
  · rw [if_pos ht, Int.toNat_of_nonneg (by omega)]
    go_enter Tryd.func20, Tryd.ntmps20
    go_wp2
    go_ret
    exact ⟨rfl, rfl⟩
  · rw [if_neg ht, Int.toNat_of_nonneg (by omega)]
    go_enter Tryd.func20, Tryd.ntmps20
    go_wp2
    go_ret
    exact ⟨rfl, rfl⟩
theorem ibS_not {B : Nat} {v : Value} {kb n : Nat} {m : Int} {row : List Ac} {w : World} (h : IbAt B v kb n m row w) {b : Nat} {cs : Array Value} {t : TypeId} {p : Nat × Nat} (hb : w.heap[b]? = some (.cells cs t p)) (h1 : t ≠ 55) (h2 : t ≠ 48 ∨ ¬ v.ownBlock = some b) : ¬ ibS B v kb b := by
  rintro (e | e | e)
  · subst e
    have := h.lies
    unfold RowAt at this
    rw [hb] at this
    simp only [Option.some.injEq, Obj.cells.injEq] at this
    exact h1 this.2.1
  · exact h.map.ne hb e.symm
  · rcases h2 with h2 | h2
    · rcases h.row.1.2 with ⟨hv, _⟩ | ⟨g, cap, cur, hv, hg, _⟩
      · rw [hv] at e; cases e
      · rw [hv] at e
        have hgb : g = b := by simpa [Value.ownBlock] using e
        rw [hgb, hb] at hg
        simp only [Option.some.injEq, Obj.cells.injEq] at hg
        exact h2 hg.2.1
    · exact h2 e
/-- The worlds of a delivering. -/
structure DvW (w Wb : World) (B kb Nb : Nat) (L : List Ac) (rl : Value) (h c : List Int) (v : Value) (nn : Nat) (m : Int) (row : List Ac) (wr : World) : Prop where
  ib : IbAt B v kb nn m row wr
  now : CkAt Nb c wr
  have' : CkAt w.heap.size h wr
  lrow : OwnA rl L wr
  vnew : NewB Wb v
  below : Below w.heap.size w wr
  size : Wb.heap.size ≤ wr.heap.size
theorem DvW.later {w Wb : World} {B kb Nb : Nat} {L : List Ac} {rl : Value} {h c : List Int} {v : Value} {nn : Nat} {m : Int} {row : List Ac} {wr w' : World} (D : DvW w Wb B kb Nb L rl h c v nn m row wr) (hb : Below wr.heap.size wr w') : DvW w Wb B kb Nb L rl h c v nn m row w' :=
  ⟨D.ib.later hb, D.now.later hb, D.have'.later hb, D.lrow.later hb, D.vnew, bgo D.below hb, Nat.le_trans D.size hb.size⟩
/-- What does not turn but the inbox. -/
theorem DvW.go {w Wb : World} {B kb Nb : Nat} {L : List Ac} {rl : Value} {h c : List Int} {v v' : Value} {nn nn' : Nat} {m : Int} {row row' : List Ac} {wr w' : World} (D : DvW w Wb B kb Nb L rl h c v nn m row wr) (hrl : ∀ k, rl.ownBlock = some k → k < Wb.heap.size) (hB : w.heap.size ≤ B) (hk : w.heap.size ≤ kb) (hWb : w.heap.size ≤ Wb.heap.size)
    (hi : IbAt B v' kb nn' m row' w') (ha : At' wr v v') (hc : Ch (ibS B v kb) wr w') : DvW w Wb B kb Nb L rl h c v' nn' m row' w' := by
  refine ⟨hi, ⟨hc.heap D.now.1 (ibS_not D.ib D.now.1 (by decide) (.inl (by decide))), D.now.2⟩, ⟨hc.heap D.have'.1 (ibS_not D.ib D.have'.1 (by decide) (.inl (by decide))), D.have'.2⟩, D.lrow.ch hc (fun k hk' => ?_), newB_at D.vnew ha D.size, ?_, Nat.le_trans D.size hc.size⟩
  · rcases D.lrow.1.2 with ⟨hv, _⟩ | ⟨g, cap, cur, hv, hg, _⟩
    · rw [hv] at hk'; cases hk'
    · have hgk : g = k := by rw [hv] at hk'; simpa [Value.ownBlock] using hk'
      rw [hgk] at hg
      exact ibS_not D.ib hg (by decide) (.inr (fun e => by have := hrl k hk'; have := D.vnew k e; omega))
  · refine Ch.none ((Ch.of (S := fun k => w.heap.size ≤ k) D.below).go hc (fun s q => ?_)) (fun s hs q => by omega)
    rcases q with q | q | q
    · exact .inl (by omega)
    · exact .inl (by omega)
    · have := D.vnew s q; exact .inl (by omega)
theorem DvW.tick {w Wb : World} {B kb Nb : Nat} {L : List Ac} {rl : Value} {h c : List Int} {v : Value} {nn : Nat} {m : Int} {row : List Ac} {wr : World} (D : DvW w Wb B kb Nb L rl h c v nn m row wr) (hNb : w.heap.size < Nb) (r : Nat) (x : Int) : DvW w Wb B kb Nb L rl h (c.set r x) v nn m row (wr.setCell ⟨Nb, r, none⟩ (.int .i64 x)) := by
  have hc := ch_cell (w := wr) (b := Nb) (k := r) (.int .i64 x)
  have hn := D.now.1
  refine ⟨D.ib.ch hc ?_ ?_ ?_, D.now.set r x, ⟨hc.heap D.have'.1 (by omega), D.have'.2⟩, D.lrow.ch hc (fun k hk e => ?_), D.vnew, D.below.setCell (Nat.le_of_lt hNb) _, Nat.le_trans D.size hc.size⟩
  · intro e
    have := D.ib.lies
    unfold RowAt at this
    rw [e, hn] at this
    simp at this
  · exact D.ib.map.ne hn
  · intro k hk e
    rcases D.ib.row.1.2 with ⟨hv, _⟩ | ⟨g, cap, cur, hv, hg, _⟩
    · rw [hv] at hk; cases hk
    · have hgk : g = k := by rw [hv] at hk; simpa [Value.ownBlock] using hk
      rw [hgk, e, hn] at hg
      simp at hg
  · rcases D.lrow.1.2 with ⟨hv, _⟩ | ⟨g, cap, cur, hv, hg, _⟩
    · rw [hv] at hk; cases hk
    · have hgk : g = k := by rw [hv] at hk; simpa [Value.ownBlock] using hk
      rw [hgk, e, hn] at hg
      simp at hg
end Go.Proofs.YtlgdaaofpjpobaaDoor
