
/-
  What tree.replaced makes of a row of leaves. (*tree.Tree).Find; barrowlaw04.begun, wakes. Worlds in which one block alone was written to; trees stand while it is none of theirs.
-/
import Derived.Test.YtjalehlmldlooaaGreatDoorZap16
import Derived.Test.YtjalehlmldlooaaGreatDoorZap10
namespace Go.Proofs.YtjalehlmldlooaaGreatDoor
open Go.RowKit
set_option maxRecDepth 100000

/-- The leaves, with l in the place of c elements from i on, all of them of one leaf. -/
def Nd.rp : Nd → Nat → Nat → List El → List (List El)
  | .leaf _ _ _ _ m, i, c, l => [m.take i ++ (l ++ m.drop (i + c))]
  | .inner _ x y, i, c, l => if i < x.els.length then x.rp i c l ++ y.leaves else x.leaves ++ y.rp (i - x.els.length) c l
/-- The c elements from i on are of one leaf. -/
def Nd.fits : Nd → Nat → Nat → Prop
  | .leaf _ _ _ _ m, i, c => i + c ≤ m.length
  | .inner _ x y, i, c => if i < x.els.length then x.fits i c else y.fits (i - x.els.length) c
theorem Nd.fits_le : ∀ {t : Nd} {i c : Nat}, t.fits i c → i + c ≤ t.els.length
  | .leaf _ _ _ _ m, i, c, h => h
  | .inner _ x y, i, c, h => by
    simp only [Nd.fits] at h
    simp only [Nd.els, List.length_append]
    split at h
    · have := Nd.fits_le h; omega
    · have := Nd.fits_le h; omega
theorem Nd.fits_zero : ∀ {t : Nd} {i : Nat}, i ≤ t.els.length → t.fits i 0
  | .leaf _ _ _ _ m, i, h => h
  | .inner _ x y, i, h => by
    simp only [Nd.els, List.length_append] at h
    simp only [Nd.fits]
    split
    · exact Nd.fits_zero (by omega)
    · exact Nd.fits_zero (by omega)
theorem Nd.fits_one : ∀ {t : Nd} {i : Nat}, i < t.els.length → t.fits i 1
  | .leaf _ _ _ _ m, i, h => h
  | .inner _ x y, i, h => by
    simp only [Nd.els, List.length_append] at h
    simp only [Nd.fits]
    split
    · exact Nd.fits_one (by omega)
    · exact Nd.fits_one (by omega)
theorem Nd.rp_els : ∀ {t : Nd} {i c : Nat} (l : List El), t.fits i c → (t.rp i c l).flatten = t.els.take i ++ (l ++ t.els.drop (i + c))
  | .leaf _ _ _ _ m, i, c, l, h => by simp [Nd.rp, Nd.els]
  | .inner _ x y, i, c, l, h => by
    simp only [Nd.fits] at h
    simp only [Nd.rp, Nd.els]
    split at h
    · rename_i hlt
      have hle := Nd.fits_le h
      rw [if_pos hlt, List.flatten_append, Nd.rp_els l h, ← Nd.els_flat, List.take_append_of_le_length (by omega), List.drop_append_of_le_length hle]
      simp only [List.append_assoc]
    · rename_i hlt
      rw [if_neg hlt, List.flatten_append, Nd.rp_els l h, ← Nd.els_flat, List.take_append, List.take_of_length_le (show x.els.length ≤ i by omega), List.drop_append, List.drop_eq_nil_of_le (show x.els.length ≤ i + c by omega), show i - x.els.length + c = i + c - x.els.length by omega]
      simp only [List.append_assoc, List.nil_append]
/-- The leaf in which a place lies, among the others. -/
theorem Nd.rp_lv : ∀ (t : Nd) (i c : Nat) (l : List El), t.fits i c → ∃ A m B j g o_ cc, t.leaves = A ++ m :: B ∧ t.rp i c l = A ++ (m.take j ++ (l ++ m.drop (j + c))) :: B ∧ j + c ≤ m.length ∧ t.leafAt i = (.slice (some ⟨g, o_, none⟩) m.length cc, j)
  | .leaf _ g o_ cc m, i, c, l, h => ⟨[], m, [], i, g, o_, cc, rfl, rfl, h, rfl⟩
  | .inner _ x y, i, c, l, h => by
    simp only [Nd.fits] at h
    simp only [Nd.rp, Nd.leaves, Nd.leafAt]
    split at h
    · rename_i hlt
      obtain ⟨A, m, B, j, g, o_, cc, h1, h2, h3, h4⟩ := Nd.rp_lv x i c l h
      exact ⟨A, m, B ++ y.leaves, j, g, o_, cc, by rw [h1, List.append_assoc, List.cons_append], by rw [if_pos hlt, h2, List.append_assoc, List.cons_append], h3, by rw [if_pos hlt, h4]⟩
    · rename_i hlt
      obtain ⟨A, m, B, j, g, o_, cc, h1, h2, h3, h4⟩ := Nd.rp_lv y (i - x.els.length) c l h
      exact ⟨x.leaves ++ A, m, B, j, g, o_, cc, by rw [h1, List.append_assoc], by rw [if_neg hlt, h2, List.append_assoc], h3, by rw [if_neg hlt, h4]⟩
theorem LOk.rp {ch : Nat} {A B : List (List El)} {m m' : List El} (h : LOk ch (A ++ m :: B)) (h1 : m.length ≤ m'.length) (h2 : m'.length ≤ ch) : LOk ch (A ++ m' :: B) := by
  obtain ⟨a1, ⟨b1, b2, b3⟩, c1⟩ := LOk.app.1 h
  refine LOk.app.2 ⟨a1, ⟨h2, fun b hb => ?_, b3⟩, fun a b ha hb => ?_⟩
  · have := b2 b hb; omega
  · simp only [List.head?_cons, Option.some.injEq] at hb
    have := c1 a m ha rfl
    subst hb
    omega
/-- A tree of these leaves. -/
def LTree (R : Rows) (ls : List (List El)) (v : Value) (w : World) : Prop := ∃ t : Nd, v = .pointer (some ⟨t.blk, 0, none⟩) ∧ t.At R w ∧ t.Full ∧ t.leaves = ls
theorem LTree.later {R : Rows} {ls : List (List El)} {v : Value} {w w' : World} (h : LTree R ls v w) (hb : Below w.heap.size w w') : LTree R ls v w' := by
  obtain ⟨t, h1, h2, h3⟩ := h
  exact ⟨t, h1, h2.later hb, h3⟩
theorem LTree.o {R : Rows} {ls : List (List El)} {v : Value} {w : World} (h : LTree R ls v w) : OTree R ls v w := .inr h
end Go.Proofs.YtjalehlmldlooaaGreatDoor
namespace Go.Proofs.YtjalehlmldlooaaGreatDoor
open Go.RowKit
set_option maxRecDepth 100000

theorem field_live (x y : Int) (w : World) : (Instr.field 123 (.agg #[.int .i64 x, .int .i64 y]) 0).run Tryz.prog w = .ok (.int .i64 x) w := by kernel_rfl
theorem CsIn.otherP {b off : Nat} {cs : Array Value} {w : World} (h : CsIn b off cs w) (a : Addr) (v : Value) (hn : ¬ b = a.block) : CsIn b off cs (w.setCell a v) :=
  ⟨by simpa using h.1, fun j u hu => by rw [World.cell?_of_block (a := ⟨b, off + j, none⟩) (Below.heap_setCell _ _ _ _ hn)]; exact h.2 j u hu⟩
theorem RowAt.otherP {b : Nat} {cs : Array Value} {t : TypeId} {w : World} (h : RowAt b cs t w) (a : Addr) (v : Value) (hn : ¬ b = a.block) : RowAt b cs t (w.setCell a v) := by unfold RowAt at *; rw [Below.heap_setCell _ _ _ _ hn]; exact h
/-- A tree's nodes and leaves lie in no block of two cells. -/
theorem Nd.At.put {R : Rows} {b : Nat} {c0 c1 : Value} {ty : TypeId} (v : Value) : ∀ {t : Nd} {w : World}, t.At R w → t.Full → RowAt b #[c0, c1] ty w → t.At R (w.setCell ⟨b, 1, none⟩ v)
  | .leaf b' g o_ c l, w, h, hf, hr => by
    have n1 : ¬ b' = b := fun e => by
      have := h.1
      unfold RowAt at this hr
      rw [e, hr] at this
      simp [ndc] at this
    have n2 : ¬ g = b := fun e => by
      obtain ⟨x, l', rfl⟩ := List.exists_cons_of_ne_nil hf
      have h4 := (h.2.1 0 x rfl).2 4 _ rfl
      rw [e, hr.cell] at h4
      rw [show (#[c0, c1] : Array Value)[o_ + 0 * 5 + 4]? = none from Array.getElem?_eq_none (by simp)] at h4
      cases h4
    exact ⟨h.1.otherP _ _ n1, fun i e he => (h.2.1 i e he).otherP _ _ n2, h.2.2.1, h.2.2.2.1, h.2.2.2.2.1, by simpa using h.2.2.2.2.2⟩
  | .inner b' x y, w, h, hf, hr => by
    have n1 : ¬ b' = b := fun e => by
      have := h.1
      unfold RowAt at this hr
      rw [e, hr] at this
      simp [ndc] at this
    exact ⟨h.1.otherP _ _ n1, Nd.At.put v h.2.1 hf.1 hr, Nd.At.put v h.2.2 hf.2 hr⟩
theorem heap_setCell_at {w : World} {b : Nat} {cs : Array Value} {t : TypeId} (h : w.heap[b]? = some (.cells cs t (0, 0))) (i : Nat) (v : Value) : (w.setCell ⟨b, i, none⟩ v).heap[b]? = some (.cells (cs.setIfInBounds i v) t (0, 0)) := by
  simp [World.setCell, Array.getElem?_modify, h]
theorem RowAt.putCell {b : Nat} {c0 c1 : Value} {ty : TypeId} {w : World} (h : RowAt b #[c0, c1] ty w) (v : Value) : RowAt b #[c0, v] ty (w.setCell ⟨b, 1, none⟩ v) := by
  have := heap_setCell_at h 1 v
  exact this

def ea : El := ⟨0, 0, 0, 97, 0⟩
def eb : El := ⟨0, 0, 0, 98, 1⟩
def ec : El := ⟨0, 0, 0, 99, 0⟩
theorem sl_new (w : World) (l : List El) (n c : Nat) (hn : l.length = n) : SlE (w.alloc (.cells (ecells l).toArray 49)) (.slice (some ⟨w.heap.size, 0, none⟩) n c) l := by
  subst hn
  have hr := row_new w (ecells l).toArray 49
  exact .inr ⟨w.heap.size, 0, c, rfl, els_of_cells hr.lt fun j u hu => by rw [Nat.zero_add, hr.cell]; simpa using hu⟩
end Go.Proofs.YtjalehlmldlooaaGreatDoor
namespace Go.Proofs.YtjalehlmldlooaaGreatDoor
open Go.RowKit
set_option maxRecDepth 100000

/-- All that was there but block x is as it was. -/
structure Kp (x : Nat) (w w' : World) : Prop where
  os : w'.os = w.os
  tape : w'.tape = w.tape
  output : w'.output = w.output
  size : w.heap.size ≤ w'.heap.size
  block : ∀ k, k < w.heap.size → ¬ k = x → w'.heap[k]? = w.heap[k]?
theorem Kp.of {x : Nat} {w w' : World} (h : Below w.heap.size w w') : Kp x w w' := ⟨h.os, h.tape, h.output, h.size, fun k hk _ => h.block k hk⟩
theorem Kp.trans {x : Nat} {a b c : World} (h : Kp x a b) (k : Kp x b c) : Kp x a c :=
  ⟨k.os.trans h.os, k.tape.trans h.tape, k.output.trans h.output, Nat.le_trans h.size k.size, fun i hi hn => (k.block i (Nat.lt_of_lt_of_le hi h.size) hn).trans (h.block i hi hn)⟩
theorem Kp.cell {w : World} (x i : Nat) (v : Value) : Kp x w (w.setCell ⟨x, i, none⟩ v) :=
  ⟨rfl, rfl, rfl, by simp, fun k _ hn => Below.heap_setCell _ _ _ _ hn⟩
theorem Kp.row {w : World} (x : Nat) (c : Array Value) : Kp x w (w.setRow x c) :=
  ⟨rfl, rfl, rfl, by simp, fun k _ hn => setRow_other w x k c hn⟩
theorem Kp.below {x B : Nat} {a w w' : World} (h : Below B a w) (k : Kp x w w') (hx : B ≤ x) (hB : B ≤ w.heap.size) : Below B a w' :=
  ⟨k.os.trans h.os, k.tape.trans h.tape, k.output.trans h.output, Nat.le_trans h.size k.size, fun i hi => (k.block i (by omega) (by omega)).trans (h.block i hi)⟩
/-- What was written to is new: nothing that was there has turned. -/
theorem Kp.new {x : Nat} {a w w' : World} (h : Below a.heap.size a w) (k : Kp x w w') (hx : a.heap.size ≤ x) : Below a.heap.size a w' := k.below h hx h.size
theorem RowAt.kp {x b : Nat} {cs : Array Value} {t : TypeId} {w w' : World} (h : RowAt b cs t w) (k : Kp x w w') (hn : ¬ b = x) : RowAt b cs t w' := (k.block b h.lt hn).trans h
theorem CsIn.kp {x b off : Nat} {cs : Array Value} {w w' : World} (h : CsIn b off cs w) (k : Kp x w w') (hn : ¬ b = x) : CsIn b off cs w' :=
  ⟨Nat.lt_of_lt_of_le h.1 k.size, fun j v hv => by rw [World.cell?_of_block (w := w) (a := ⟨b, off + j, none⟩) (k.block b h.1 hn)]; exact h.2 j v hv⟩
theorem ElsAt.kp {x g o_ : Nat} {l : List El} {w w' : World} (h : ElsAt g o_ l w) (k : Kp x w w') (hn : ¬ g = x) : ElsAt g o_ l w' := fun i e he => (h i e he).kp k hn
theorem ElsAt.lt {g o_ : Nat} {l : List El} {w : World} (h : ElsAt g o_ l w) (hl : l ≠ []) : g < w.heap.size := by
  obtain ⟨e, l', rfl⟩ := List.exists_cons_of_ne_nil hl
  exact (h 0 e rfl).1
/-- A list of elements that lies in none of these blocks. -/
def SlN (R : Rows) (w : World) (v : Value) (l : List El) : Prop := (l = [] ∧ ∃ a c, v = .slice a 0 c ∧ c ≤ 9223372036854775807) ∨ ∃ g o_ c, v = .slice (some ⟨g, o_, none⟩) l.length c ∧ ElsAt g o_ l w ∧ Rk R g ∧ l.length ≤ c ∧ c ≤ 9223372036854775807
theorem SlN.sl {R : Rows} {w : World} {v : Value} {l : List El} (h : SlN R w v l) : SlE w v l := by
  rcases h with ⟨h1, a, c, h2, _⟩ | ⟨g, o_, c, h1, h2, _⟩
  · exact .inl ⟨h1, a, c, h2⟩
  · exact .inr ⟨g, o_, c, h1, h2⟩
theorem SlN.later {R : Rows} {w w' : World} {v : Value} {l : List El} (h : SlN R w v l) (hb : Below w.heap.size w w') : SlN R w' v l := by
  rcases h with h | ⟨g, o_, c, h1, h2, h3⟩
  · exact .inl h
  · exact .inr ⟨g, o_, c, h1, h2.later hb, h3⟩
theorem SlN.kp {R : Rows} {x : Nat} {w w' : World} {v : Value} {l : List El} (h : SlN R w v l) (k : Kp x w w') (hx : R.no x) : SlN R w' v l := by
  rcases h with h | ⟨g, o_, c, h1, h2, h3, h4⟩
  · exact .inl h
  · exact .inr ⟨g, o_, c, h1, h2.kp k (fun e => by subst e; exact h3 hx), h3, h4⟩
theorem SlN.widen {R R' : Rows} {w : World} {v : Value} {l : List El} (h : SlN R w v l) (hr : ∀ g, R'.no g → R.no g ∨ w.heap.size ≤ g) : SlN R' w v l := by
  rcases h with h | ⟨g, o_, c, h1, h2, h3, h4⟩
  · exact .inl h
  · by_cases hl : l = []
    · subst hl; exact .inl ⟨rfl, _, _, h1, h4.2⟩
    · exact .inr ⟨g, o_, c, h1, h2, fun k => (hr g k).elim h3 (fun e => by have := h2.lt hl; omega), h4⟩
theorem SlN.weak {R R' : Rows} {w : World} {v : Value} {l : List El} (h : SlN R w v l) (hr : ∀ g, R'.no g → R.no g) : SlN R' w v l := by
  rcases h with h | ⟨g, o_, c, h1, h2, h3, h4⟩
  · exact .inl h
  · exact .inr ⟨g, o_, c, h1, h2, fun k => h3 (hr g k), h4⟩
theorem Nd.At.kp {R : Rows} {x : Nat} {w w' : World} {cs : Array Value} {tx : TypeId} (hno : R.no x) (hr : RowAt x cs tx w) (hne : ¬ tx = 125) (k : Kp x w w') : ∀ {t : Nd}, t.At R w → t.At R w'
  | .leaf b g o_ c l, h => by
    have n1 : ¬ b = x := fun e => by
      have h1 := h.1
      unfold RowAt at h1 hr
      rw [e, hr] at h1
      simp only [Option.some.injEq, Obj.cells.injEq] at h1
      exact hne h1.2.1
    have n2 : ¬ g = x := fun e => by subst e; exact h.2.2.2.2.1 hno
    exact ⟨h.1.kp k n1, h.2.1.kp k n2, h.2.2.1, h.2.2.2.1, h.2.2.2.2.1, Nat.le_trans h.2.2.2.2.2 k.size⟩
  | .inner b nx ny, h => by
    have n1 : ¬ b = x := fun e => by
      have h1 := h.1
      unfold RowAt at h1 hr
      rw [e, hr] at h1
      simp only [Option.some.injEq, Obj.cells.injEq] at h1
      exact hne h1.2.1
    exact ⟨h.1.kp k n1, Nd.At.kp hno hr hne k h.2.1, Nd.At.kp hno hr hne k h.2.2⟩
theorem Nd.At.widen {R R' : Rows} {w w' : World} (hr : ∀ g, R'.no g → R.no g ∨ w.heap.size ≤ g) (hz : R'.hi ≤ w'.heap.size) (hb : Below w.heap.size w w') : ∀ {t : Nd}, t.At R w → t.Full → t.At R' w'
  | .leaf b g o_ c l, h, hf => ⟨h.1.later hb, h.2.1.later hb, h.2.2.1, h.2.2.2.1, fun k => (hr g k).elim h.2.2.2.2.1 (fun e => by have := h.2.1.lt hf; omega), hz⟩
  | .inner b nx ny, h, hf => ⟨h.1.later hb, Nd.At.widen hr hz hb h.2.1 hf.1, Nd.At.widen hr hz hb h.2.2 hf.2⟩
theorem Nd.At.weak {R R' : Rows} {w : World} (hr : ∀ g, R'.no g → R.no g) (hz : R'.hi ≤ w.heap.size) : ∀ {t : Nd}, t.At R w → t.At R' w
  | .leaf _b g _o_ _c _l, h => ⟨h.1, h.2.1, h.2.2.1, h.2.2.2.1, fun k => h.2.2.2.2.1 (hr g k), hz⟩
  | .inner _b _nx _ny, h => ⟨h.1, Nd.At.weak hr hz h.2.1, Nd.At.weak hr hz h.2.2⟩
/-- A tree of a row, its leaves as P4.5 asks. -/
def TrL (R : Rows) (b ch : Nat) (l : List El) (w : World) : Prop := ∃ ls v, RowAt b #[.int .i64 (ch : Int), v] 89 w ∧ OTree R ls v w ∧ ls.flatten = l ∧ LOk ch ls
theorem TrL.later {R : Rows} {b ch : Nat} {l : List El} {w w' : World} (h : TrL R b ch l w) (hb : Below w.heap.size w w') : TrL R b ch l w' := by
  obtain ⟨ls, v, h1, h2, h3⟩ := h
  exact ⟨ls, v, h1.later hb, h2.later hb, h3⟩
theorem TrL.kp {R : Rows} {b ch x : Nat} {l : List El} {w w' : World} {cs : Array Value} {tx : TypeId} (h : TrL R b ch l w) (hno : R.no x) (hr : RowAt x cs tx w) (hne : ¬ tx = 125) (k : Kp x w w') (hb : ¬ b = x) : TrL R b ch l w' := by
  obtain ⟨ls, v, h1, h2, h3⟩ := h
  refine ⟨ls, v, h1.kp k hb, ?_, h3⟩
  rcases h2 with h2 | ⟨t, e, h4, h5⟩
  · exact .inl h2
  · exact .inr ⟨t, e, Nd.At.kp hno hr hne k h4, h5⟩
theorem TrL.widen {R R' : Rows} {b ch : Nat} {l : List El} {w w' : World} (h : TrL R b ch l w) (hr : ∀ g, R'.no g → R.no g ∨ w.heap.size ≤ g) (hz : R'.hi ≤ w'.heap.size) (hb : Below w.heap.size w w') : TrL R' b ch l w' := by
  obtain ⟨ls, v, h1, h2, h3⟩ := h
  refine ⟨ls, v, h1.later hb, ?_, h3⟩
  rcases h2 with h2 | ⟨t, e, h4, h5, h6⟩
  · exact .inl h2
  · exact .inr ⟨t, e, Nd.At.widen hr hz hb h4 h5, h5, h6⟩
theorem TrL.weak {R R' : Rows} {b ch : Nat} {l : List El} {w : World} (h : TrL R b ch l w) (hr : ∀ g, R'.no g → R.no g) (hz : R'.hi ≤ w.heap.size) : TrL R' b ch l w := by
  obtain ⟨ls, v, h1, h2, h3⟩ := h
  refine ⟨ls, v, h1, ?_, h3⟩
  rcases h2 with h2 | ⟨t, e, h4, h5⟩
  · exact .inl h2
  · exact .inr ⟨t, e, Nd.At.weak hr hz h4, h5⟩
/-- A tree or none. -/
theorem TrL.at {R : Rows} {b ch : Nat} {l : List El} {w : World} (h : TrL R b ch l w) : (l = [] ∧ RowAt b #[.int .i64 (ch : Int), .pointer none] 89 w) ∨ ∃ t : Nd, RowAt b #[.int .i64 (ch : Int), pv t.blk] 89 w ∧ t.At R w ∧ t.Full ∧ t.els = l ∧ LOk ch t.leaves := by
  obtain ⟨ls, v, h1, h2, h3, h4⟩ := h
  rcases h2 with ⟨rfl, rfl⟩ | ⟨t, rfl, k1, k2, rfl⟩
  · exact .inl ⟨by rw [← h3]; rfl, h1⟩
  · exact .inr ⟨t, h1, k1, k2, by rw [← h3, Nd.els_flat], h4⟩
theorem TrL.row {R : Rows} {b ch : Nat} {l : List El} {w : World} (h : TrL R b ch l w) : ∃ v, RowAt b #[.int .i64 (ch : Int), v] 89 w := by
  obtain ⟨_, v, h1, _⟩ := h
  exact ⟨v, h1⟩
theorem TrL.of_put {R : Rows} {b ch : Nat} {w : World} {c1 : Value} {t : Nd} (hno : R.no b) (h1 : RowAt b #[.int .i64 (ch : Int), c1] 89 w) (h2 : t.At R w) (h3 : t.Full) (h4 : LOk ch t.leaves) : TrL R b ch t.els (w.setCell ⟨b, 1, none⟩ (pv t.blk)) :=
  ⟨t.leaves, pv t.blk, h1.putCell _, .inr ⟨t, rfl, Nd.At.kp hno h1 (by decide) (Kp.cell b 1 _) h2, h3, rfl⟩, (Nd.els_flat t).symm, h4⟩
theorem TrL.of_put_o {R : Rows} {b ch : Nat} {w : World} {c1 v : Value} {ls : List (List El)} (hno : R.no b) (h1 : RowAt b #[.int .i64 (ch : Int), c1] 89 w) (h2 : OTree R ls v w) (h4 : LOk ch ls) : TrL R b ch ls.flatten (w.setCell ⟨b, 1, none⟩ v) := by
  refine ⟨ls, v, h1.putCell _, ?_, rfl, h4⟩
  rcases h2 with h2 | ⟨t, e, k1, k2⟩
  · exact .inl h2
  · exact .inr ⟨t, e, Nd.At.kp hno h1 (by decide) (Kp.cell b 1 _) k1, k2⟩
end Go.Proofs.YtjalehlmldlooaaGreatDoor
