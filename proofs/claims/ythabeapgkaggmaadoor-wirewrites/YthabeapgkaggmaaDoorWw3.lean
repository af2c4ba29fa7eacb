
/-
  Two Writers and a row of bytes of one's own, apart.
-/
import Derived.Test.YthabeapgkaggmaaDoorWw2
namespace Go.Proofs.YthabeapgkaggmaaDoor
open Go.RowKit
set_option maxRecDepth 100000

structure Tri (W : World) (b1 b2 : Nat) (p q r : List UInt8) (v1 v2 v3 : Value) (w : World) : Prop where
  a : WwAt b1 p v1 w
  b : WwAt b2 q v2 w
  c : Rw 5 1 v3 r.length (Lib.byteCells r) w
  nb : b1 ≠ b2
  d12 : ∀ k, v1.ownBlock = some k → ¬ v2.ownBlock = some k
  d13 : ∀ k, v1.ownBlock = some k → ¬ v3.ownBlock = some k
  d23 : ∀ k, v2.ownBlock = some k → ¬ v3.ownBlock = some k
  o1 : ∀ k, v1.ownBlock = some k → W.heap.size ≤ k
  o2 : ∀ k, v2.ownBlock = some k → W.heap.size ≤ k
  o3 : ∀ k, v3.ownBlock = some k → W.heap.size ≤ k
  ob1 : W.heap.size ≤ b1
  ob2 : W.heap.size ≤ b2
  bel : Below W.heap.size W w
variable {W w w' : World} {b1 b2 : Nat} {p q r p' q' r' : List UInt8} {v1 v2 v3 : Value}
theorem Tri.later (h : Tri W b1 b2 p q r v1 v2 v3 w) (hb : Below w.heap.size w w') : Tri W b1 b2 p q r v1 v2 v3 w' :=
  ⟨h.a.later hb, h.b.later hb, h.c.later hb, h.nb, h.d12, h.d13, h.d23, h.o1, h.o2, h.o3, h.ob1, h.ob2, bgo h.bel hb⟩
theorem Tri.swap (h : Tri W b1 b2 p q r v1 v2 v3 w) : Tri W b2 b1 q p r v2 v1 v3 w :=
  ⟨h.b, h.a, h.c, fun e => h.nb e.symm, fun k e f => h.d12 k f e, h.d23, h.d13, h.o2, h.o1, h.o3, h.ob2, h.ob1, h.bel⟩
theorem Tri.one (h : Tri W b1 b2 p q r v1 v2 v3 w) (hp : PutW b1 p' v1 w w') : ∃ v1', Tri W b1 b2 p' q r v1' v2 v3 w' := by
  obtain ⟨v', h1, h2, h3⟩ := hp
  have hs := h.bel.size
  refine ⟨v', h1, h.b.ch h3 (fun e => e.elim (fun e => h.nb e.symm) (fun e => rw_ne h.a.own h.b.row _ e rfl)) (fun k hk e => e.elim (rw_ne h.b.own h.a.row k hk) (fun e => h.d12 k e hk)),
    h.c.ch h3 (fun k hk e => e.elim (rw_ne h.c h.a.row k hk) (fun e => h.d13 k e hk)), h.nb, ?_, ?_, h.d23, ?_, h.o2, h.o3, h.ob1, h.ob2, ?_⟩
  · exact fun k hk e => (h2 k hk).elim (fun f => h.d12 k f e) (fun f => by have := h.b.own.lt k e; omega)
  · exact fun k hk e => (h2 k hk).elim (fun f => h.d13 k f e) (fun f => by have := h.c.lt k e; omega)
  · exact fun k hk => (h2 k hk).elim (fun f => h.o1 k f) (fun f => by omega)
  · exact h.bel.trans (h3.below (fun s hs' e => e.elim (fun f => by have := h.ob1; omega) (fun f => by have := h.o1 s f; omega)) hs)
theorem Tri.two (h : Tri W b1 b2 p q r v1 v2 v3 w) (hp : PutW b2 q' v2 w w') : ∃ v2', Tri W b1 b2 p q' r v1 v2' v3 w' := by
  obtain ⟨v', h'⟩ := h.swap.one hp
  exact ⟨v', h'.swap⟩
theorem Tri.three (h : Tri W b1 b2 p q r v1 v2 v3 w) {v : Value} (q1 : Rw 5 1 v r'.length (Lib.byteCells r') w') (q2 : w.grownBy w' v3.ownBlock) (q3 : At' w v3 v) : Tri W b1 b2 p q r' v1 v2 v w' := by
  have hc := grown_ch q2
  have hs := h.bel.size
  refine ⟨h.a.ch hc (fun e => rw_ne h.c h.a.row _ e rfl) (fun k hk e => h.d13 k hk e), h.b.ch hc (fun e => rw_ne h.c h.b.row _ e rfl) (fun k hk e => h.d23 k hk e), q1, h.nb, h.d12, ?_, ?_, h.o1, h.o2, ?_, h.ob1, h.ob2, ?_⟩
  · exact fun k hk e => (q3 k e).elim (fun f => h.d13 k hk f) (fun f => by have := h.a.own.lt k hk; omega)
  · exact fun k hk e => (q3 k e).elim (fun f => h.d23 k hk f) (fun f => by have := h.b.own.lt k hk; omega)
  · exact fun k hk => (q3 k hk).elim (fun f => h.o3 k f) (fun f => by omega)
  · exact h.bel.trans (hc.below (fun s hs' e => by have := h.o3 s e; omega) hs)
/-- Both Writers, whatever their rows. -/
def TriE (W : World) (b1 b2 : Nat) (p q r : List UInt8) (v3 : Value) (w : World) : Prop := ∃ v1 v2, Tri W b1 b2 p q r v1 v2 v3 w
theorem TriE.later (h : TriE W b1 b2 p q r v3 w) (hb : Below w.heap.size w w') : TriE W b1 b2 p q r v3 w' := by
  obtain ⟨v1, v2, h⟩ := h
  exact ⟨v1, v2, h.later hb⟩
end Go.Proofs.YthabeapgkaggmaaDoor
