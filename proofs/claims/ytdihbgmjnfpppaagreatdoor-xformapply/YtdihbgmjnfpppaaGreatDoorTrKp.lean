
/-
  Worlds in which one block alone was written to; trees stand while it is none of theirs.
-/
import Derived.Test.YtdihbgmjnfpppaaGreatDoorTrRp
import Derived.Test.YtdihbgmjnfpppaaGreatDoorTrWake
namespace Go.Proofs.YtdihbgmjnfpppaaGreatDoor
open Go.RowKit
set_option maxRecDepth 100000

/-- All that was there but block x is as it was. -/
structure Kp (x : Nat) (w w' : World) : Prop where
  os : w'.os = w.os
  tape : w'.tape = w.tape
  output : w'.output = w.output
  size : w.heap.size ≤ w'.heap.size
  block : ∀ k, k < w.heap.size → ¬ k = x → w'.heap[k]? = w.heap[k]?
theorem Kp.of {x : Nat} {w w' : World} (h : Below w.heap.size w w') : Kp x w w' := ⟨h.os, h.tape, h.output, h.size, fun k hk _ => h.block k hk⟩
theorem Kp.trans {x : Nat} {a b c : World} (h : Kp x a b) (k : Kp x b c) : Kp x a c :=
  ⟨k.os.trans h.os, k.tape.trans h.tape, k.output.trans h.output, Nat.le_trans h.size k.size, fun i hi hn => (k.block i (Nat.lt_of_lt_of_le hi h.size) hn).trans (h.block i hi hn)⟩
theorem Kp.cell {w : World} (x i : Nat) (v : Value) : Kp x w (w.setCell ⟨x, i, none⟩ v) :=
  ⟨rfl, rfl, rfl, by simp, fun k _ hn => Below.heap_setCell _ _ _ _ hn⟩
theorem Kp.row {w : World} (x : Nat) (c : Array Value) : Kp x w (w.setRow x c) :=
  ⟨rfl, rfl, rfl, by simp, fun k _ hn => setRow_other w x k c hn⟩
theorem Kp.below {x B : Nat} {a w w' : World} (h : Below B a w) (k : Kp x w w') (hx : B ≤ x) (hB : B ≤ w.heap.size) : Below B a w' :=
  ⟨k.os.trans h.os, k.tape.trans h.tape, k.output.trans h.output, Nat.le_trans h.size k.size, fun i hi => (k.block i (by omega) (by omega)).trans (h.block i hi)⟩
/-- What was written to is new: nothing that was there has turned. -/
theorem Kp.new {x : Nat} {a w w' : World} (h : Below a.heap.size a w) (k : Kp x w w') (hx : a.heap.size ≤ x) : Below a.heap.size a w' := k.below h hx h.size
theorem RowAt.kp {x b : Nat} {cs : Array Value} {t : TypeId} {w w' : World} (h : RowAt b cs t w) (k : Kp x w w') (hn : ¬ b = x) : RowAt b cs t w' := (k.block b h.lt hn).trans h
theorem CsIn.kp {x b off : Nat} {cs : Array Value} {w w' : World} (h : CsIn b off cs w) (k : Kp x w w') (hn : ¬ b = x) : CsIn b off cs w' :=
  ⟨Nat.lt_of_lt_of_le h.1 k.size, fun j v hv => by rw [World.cell?_of_block (w := w) (a := ⟨b, off + j, none⟩) (k.block b h.1 hn)]; exact h.2 j v hv⟩
theorem ElsAt.kp {x g o_ : Nat} {l : List El} {w w' : World} (h : ElsAt g o_ l w) (k : Kp x w w') (hn : ¬ g = x) : ElsAt g o_ l w' := fun i e he => (h i e he).kp k hn
theorem ElsAt.lt {g o_ : Nat} {l : List El} {w : World} (h : ElsAt g o_ l w) (hl : l ≠ []) : g < w.heap.size := by
  obtain ⟨e, l', rfl⟩ := List.exists_cons_of_ne_nil hl
  exact (h 0 e rfl).1
/-- A list of elements that lies in none of these blocks. -/
def SlN (R : Rows) (w : World) (v : Value) (l : List El) : Prop := (l = [] ∧ ∃ a c, v = .slice a 0 c ∧ c ≤ 9223372036854775807) ∨ ∃ g o_ c, v = .slice (some ⟨g, o_, none⟩) l.length c ∧ ElsAt g o_ l w ∧ Rk R g ∧ l.length ≤ c ∧ c ≤ 9223372036854775807
theorem SlN.sl {R : Rows} {w : World} {v : Value} {l : List El} (h : SlN R w v l) : SlE w v l := by
  rcases h with ⟨h1, a, c, h2, _⟩ | ⟨g, o_, c, h1, h2, _⟩
  · exact .inl ⟨h1, a, c, h2⟩
  · exact .inr ⟨g, o_, c, h1, h2⟩
theorem SlN.later {R : Rows} {w w' : World} {v : Value} {l : List El} (h : SlN R w v l) (hb : Below w.heap.size w w') : SlN R w' v l := by
  rcases h with h | ⟨g, o_, c, h1, h2, h3⟩
  · exact .inl h
  · exact .inr ⟨g, o_, c, h1, h2.later hb, h3⟩
theorem SlN.kp {R : Rows} {x : Nat} {w w' : World} {v : Value} {l : List El} (h : SlN R w v l) (k : Kp x w w') (hx : R.no x) : SlN R w' v l := by
  rcases h with h | ⟨g, o_, c, h1, h2, h3, h4⟩
  · exact .inl h
  · exact .inr ⟨g, o_, c, h1, h2.kp k (fun e => by subst e; exact h3 hx), h3, h4⟩
theorem SlN.widen {R R' : Rows} {w : World} {v : Value} {l : List El} (h : SlN R w v l) (hr : ∀ g, R'.no g → R.no g ∨ w.heap.size ≤ g) : SlN R' w v l := by
  rcases h with h | ⟨g, o_, c, h1, h2, h3, h4⟩
  · exact .inl h
  · by_cases hl : l = []
    · subst hl; exact .inl ⟨rfl, _, _, h1, h4.2⟩
    · exact .inr ⟨g, o_, c, h1, h2, fun k => (hr g k).elim h3 (fun e => by have := h2.lt hl; omega), h4⟩
theorem SlN.weak {R R' : Rows} {w : World} {v : Value} {l : List El} (h : SlN R w v l) (hr : ∀ g, R'.no g → R.no g) : SlN R' w v l := by
  rcases h with h | ⟨g, o_, c, h1, h2, h3, h4⟩
  · exact .inl h
  · exact .inr ⟨g, o_, c, h1, h2, fun k => h3 (hr g k), h4⟩
theorem Nd.At.kp {R : Rows} {x : Nat} {w w' : World} {cs : Array Value} {tx : TypeId} (hno : R.no x) (hr : RowAt x cs tx w) (hne : ¬ tx = 125) (k : Kp x w w') : ∀ {t : Nd}, t.At R w → t.At R w'
  | .leaf b g o_ c l, h => by
    have n1 : ¬ b = x := fun e => by
      have h1 := h.1
      unfold RowAt at h1 hr
      rw [e, hr] at h1
      simp only [Option.some.injEq, Obj.cells.injEq] at h1
      exact hne h1.2.1
    have n2 : ¬ g = x := fun e => by subst e; exact h.2.2.2.2.1 hno
    exact ⟨h.1.kp k n1, h.2.1.kp k n2, h.2.2.1, h.2.2.2.1, h.2.2.2.2.1, Nat.le_trans h.2.2.2.2.2 k.size⟩
  | .inner b nx ny, h => by
    have n1 : ¬ b = x := fun e => by
      have h1 := h.1
      unfold RowAt at h1 hr
      rw [e, hr] at h1
      simp only [Option.some.injEq, Obj.cells.injEq] at h1
      exact hne h1.2.1
    exact ⟨h.1.kp k n1, Nd.At.kp hno hr hne k h.2.1, Nd.At.kp hno hr hne k h.2.2⟩
theorem Nd.At.widen {R R' : Rows} {w w' : World} (hr : ∀ g, R'.no g → R.no g ∨ w.heap.size ≤ g) (hz : R'.hi ≤ w'.heap.size) (hb : Below w.heap.size w w') : ∀ {t : Nd}, t.At R w → t.Full → t.At R' w'
  | .leaf b g o_ c l, h, hf => ⟨h.1.later hb, h.2.1.later hb, h.2.2.1, h.2.2.2.1, fun k => (hr g k).elim h.2.2.2.2.1 (fun e => by have := h.2.1.lt hf; omega), hz⟩
  | .inner b nx ny, h, hf => ⟨h.1.later hb, Nd.At.widen hr hz hb h.2.1 hf.1, Nd.At.widen hr hz hb h.2.2 hf.2⟩
theorem Nd.At.weak {R R' : Rows} {w : World} (hr : ∀ g, R'.no g → R.no g) (hz : R'.hi ≤ w.heap.size) : ∀ {t : Nd}, t.At R w → t.At R' w
  | .leaf _b g _o_ _c _l, h => ⟨h.1, h.2.1, h.2.2.1, h.2.2.2.1, fun k => h.2.2.2.2.1 (hr g k), hz⟩
  | .inner _b _nx _ny, h => ⟨h.1, Nd.At.weak hr hz h.2.1, Nd.At.weak hr hz h.2.2⟩
/-- A tree of a row, its leaves as P4.5 asks. -/
def TrL (R : Rows) (b ch : Nat) (l : List El) (w : World) : Prop := ∃ ls v, RowAt b #[.int .i64 (ch : Int), v] 89 w ∧ OTree R ls v w ∧ ls.flatten = l ∧ LOk ch ls
theorem TrL.later {R : Rows} {b ch : Nat} {l : List El} {w w' : World} (h : TrL R b ch l w) (hb : Below w.heap.size w w') : TrL R b ch l w' := by
  obtain ⟨ls, v, h1, h2, h3⟩ := h
  exact ⟨ls, v, h1.later hb, h2.later hb, h3⟩
theorem TrL.kp {R : Rows} {b ch x : Nat} {l : List El} {w w' : World} {cs : Array Value} {tx : TypeId} (h : TrL R b ch l w) (hno : R.no x) (hr : RowAt x cs tx w) (hne : ¬ tx = 125) (k : Kp x w w') (hb : ¬ b = x) : TrL R b ch l w' := by
  obtain ⟨ls, v, h1, h2, h3⟩ := h
  refine ⟨ls, v, h1.kp k hb, ?_, h3⟩
  rcases h2 with h2 | ⟨t, e, h4, h5⟩
  · exact .inl h2
  · exact .inr ⟨t, e, Nd.At.kp hno hr hne k h4, h5⟩
theorem TrL.widen {R R' : Rows} {b ch : Nat} {l : List El} {w w' : World} (h : TrL R b ch l w) (hr : ∀ g, R'.no g → R.no g ∨ w.heap.size ≤ g) (hz : R'.hi ≤ w'.heap.size) (hb : Below w.heap.size w w') : TrL R' b ch l w' := by
  obtain ⟨ls, v, h1, h2, h3⟩ := h
  refine ⟨ls, v, h1.later hb, ?_, h3⟩
  rcases h2 with h2 | ⟨t, e, h4, h5, h6⟩
  · exact .inl h2
  · exact .inr ⟨t, e, Nd.At.widen hr hz hb h4 h5, h5, h6⟩
theorem TrL.weak {R R' : Rows} {b ch : Nat} {l : List El} {w : World} (h : TrL R b ch l w) (hr : ∀ g, R'.no g → R.no g) (hz : R'.hi ≤ w.heap.size) : TrL R' b ch l w := by
  obtain ⟨ls, v, h1, h2, h3⟩ := h
  refine ⟨ls, v, h1, ?_, h3⟩
  rcases h2 with h2 | ⟨t, e, h4, h5⟩
  · exact .inl h2
  · exact .inr ⟨t, e, Nd.At.weak hr hz h4, h5⟩
/-- A tree or none. -/
theorem TrL.at {R : Rows} {b ch : Nat} {l : List El} {w : World} (h : TrL R b ch l w) : (l = [] ∧ RowAt b #[.int .i64 (ch : Int), .pointer none] 89 w) ∨ ∃ t : Nd, RowAt b #[.int .i64 (ch : Int), pv t.blk] 89 w ∧ t.At R w ∧ t.Full ∧ t.els = l ∧ LOk ch t.leaves := by
  obtain ⟨ls, v, h1, h2, h3, h4⟩ := h
  rcases h2 with ⟨rfl, rfl⟩ | ⟨t, rfl, k1, k2, rfl⟩
  · exact .inl ⟨by rw [← h3]; rfl, h1⟩
  · exact .inr ⟨t, h1, k1, k2, by rw [← h3, Nd.els_flat], h4⟩
theorem TrL.row {R : Rows} {b ch : Nat} {l : List El} {w : World} (h : TrL R b ch l w) : ∃ v, RowAt b #[.int .i64 (ch : Int), v] 89 w := by
  obtain ⟨_, v, h1, _⟩ := h
  exact ⟨v, h1⟩
theorem TrL.of_put {R : Rows} {b ch : Nat} {w : World} {c1 : Value} {t : Nd} (hno : R.no b) (h1 : RowAt b #[.int .i64 (ch : Int), c1] 89 w) (h2 : t.At R w) (h3 : t.Full) (h4 : LOk ch t.leaves) : TrL R b ch t.els (w.setCell ⟨b, 1, none⟩ (pv t.blk)) :=
  ⟨t.leaves, pv t.blk, h1.putCell _, .inr ⟨t, rfl, Nd.At.kp hno h1 (by decide) (Kp.cell b 1 _) h2, h3, rfl⟩, (Nd.els_flat t).symm, h4⟩
theorem TrL.of_put_o {R : Rows} {b ch : Nat} {w : World} {c1 v : Value} {ls : List (List El)} (hno : R.no b) (h1 : RowAt b #[.int .i64 (ch : Int), c1] 89 w) (h2 : OTree R ls v w) (h4 : LOk ch ls) : TrL R b ch ls.flatten (w.setCell ⟨b, 1, none⟩ v) := by
  refine ⟨ls, v, h1.putCell _, ?_, rfl, h4⟩
  rcases h2 with h2 | ⟨t, e, k1, k2⟩
  · exact .inl h2
  · exact .inr ⟨t, e, Nd.At.kp hno h1 (by decide) (Kp.cell b 1 _) k1, k2⟩
end Go.Proofs.YtdihbgmjnfpppaaGreatDoor
