
/-
  barrowlaw02.WireUnlike: the two rows of the same kinds, and what stands between two rounds of the loop that makes them.
-/
import Derived.Test.YtfiajbgeijgheaaDoorApp
namespace Go.Proofs.YtfiajbgeijgheaaDoor
open Go.RowKit
set_option maxRecDepth 100000

/-- A pair as the loop takes it: the second gets the first's kind. -/
def un1 (pq : Itm × Itm) : Itm × Itm := (pq.1, { pq.2 with kind := pq.1.kind })
/-- Does the loop keep a pair? -/
def unOk (pq : Itm × Itm) : Bool := !(decide (pq.1.n < 0) || decide (pq.2.n < 0) || decide (100 < pq.1.s.size) || decide (100 < pq.2.s.size))
/-- The pairs that are kept of the first i. -/
def uns (a b : List Itm) (i : Nat) : List (Itm × Itm) := (((a.zip b).take i).filter unOk).map un1

theorem zip_at {a b : List Itm} {i : Nat} {p q : Itm} (ha : a[i]? = some p) (hb : b[i]? = some q) : (a.zip b)[i]? = some (p, q) := by
  rw [List.getElem?_zip_eq_some]; exact ⟨ha, hb⟩
theorem uns_no {a b : List Itm} {i : Nat} {p q : Itm} (ha : a[i]? = some p) (hb : b[i]? = some q) (h : unOk (p, q) = false) : uns a b (i + 1) = uns a b i := by
  unfold uns; rw [List.take_add_one, zip_at ha hb]; simp [h]
theorem uns_yes {a b : List Itm} {i : Nat} {p q : Itm} (ha : a[i]? = some p) (hb : b[i]? = some q) (h : unOk (p, q) = true) : uns a b (i + 1) = uns a b i ++ [un1 (p, q)] := by
  unfold uns; rw [List.take_add_one, zip_at ha hb]; simp [h]
theorem uns_len (a b : List Itm) (i : Nat) : (uns a b i).length ≤ i := by
  unfold uns; rw [List.length_map]; exact Nat.le_trans (List.length_filter_le _ _) (List.length_take_le _ _)

/-- Every pair that is kept: of one kind, fit, and both may be written. -/
theorem uns_all {a b : List Itm} (ha : ∀ (i : Nat) x, a[i]? = some x → x.Fit) (hb : ∀ (i : Nat) x, b[i]? = some x → x.Fit) {i : Nat} : ∀ pq ∈ uns a b i, pq.1.kind = pq.2.kind ∧ pq.1.Fit ∧ pq.2.Fit ∧ pq.1.may = true ∧ pq.2.may = true := by
  intro pq h
  unfold uns at h
  obtain ⟨⟨p, q⟩, h1, rfl⟩ := List.mem_map.1 h
  obtain ⟨h2, h3⟩ := List.mem_filter.1 h1
  obtain ⟨hp, hq⟩ := List.of_mem_zip (List.mem_of_mem_take h2)
  obtain ⟨j, hj, rfl⟩ := List.getElem_of_mem hp
  obtain ⟨k, hk, rfl⟩ := List.getElem_of_mem hq
  have f1 := ha j _ (List.getElem?_eq_getElem hj)
  have f2 := hb k _ (List.getElem?_eq_getElem hk)
  simp only [unOk, Bool.not_eq_true', Bool.or_eq_false_iff, decide_eq_false_iff_not] at h3
  refine ⟨rfl, f1, ⟨f1.1, f2.2.1, f2.2.2⟩, ?_, ?_⟩
  · exact may_num (Nat.le_of_not_lt h3.1.2) (Int.not_lt.1 h3.1.1.1)
  · exact may_num (Nat.le_of_not_lt h3.2) (Int.not_lt.1 h3.1.1.2)

/-- The row takes all of them: nothing falls out. -/
theorem rowTo_all {l : List Itm} (h : ∀ x ∈ l, x.may = true) (hl : l.length ≤ 40) : rowTo l 40 = l := by
  unfold rowTo; rw [List.take_of_length_le hl, List.filter_eq_self]; exact h

/-- What stands between two rounds. -/
structure UnInv (a b : List Itm) (w : World) (i : Nat) (xv yv : Value) (wr : World) : Prop where
  xo : wr.ownsRow w.heap.size 29 4 xv (uns a b i).length (icells ((uns a b i).map (·.1)))
  yo : wr.ownsRow w.heap.size 29 4 yv (uns a b i).length (icells ((uns a b i).map (·.2)))
  ap : ∀ k, xv.ownBlock = some k → yv.ownBlock ≠ some k
  bel : Below w.heap.size w wr

theorem UnInv.skip {a b : List Itm} {w : World} {i : Nat} {xv yv : Value} {wr wx : World} {p q : Itm} (h : UnInv a b w i xv yv wr) (ha : a[i]? = some p) (hb : b[i]? = some q) (hu : unOk (p, q) = false) (hx : Below wr.heap.size wr wx) : UnInv a b w (i + 1) xv yv wx := by
  refine ⟨?_, ?_, h.ap, h.bel.trans (hx.mono h.bel.size)⟩
  · rw [uns_no ha hb hu]; exact own_fr h.xo (.below hx)
  · rw [uns_no ha hb hu]; exact own_fr h.yo (.below hx)

/-- A pair is kept: both rows grow, one after the other. -/
theorem UnInv.more {a b : List Itm} {w : World} {i : Nat} {xv yv xv' yv' : Value} {wr wx w2 w3 : World} {p q : Itm} (h : UnInv a b w i xv yv wr) (ha : a[i]? = some p) (hb : b[i]? = some q) (hu : unOk (p, q) = true) (hx : Below wr.heap.size wr wx)
    (o1 : Obj) (hg2 : (wx.alloc o1).grownBy w2 xv.ownBlock) (hx2 : w2.ownsRow w.heap.size 29 4 xv' ((uns a b i).length + 1) (icells ((uns a b i).map (·.1)) ++ (un1 (p, q)).1.cells)) (hb2 : xv'.ownBlock = xv.ownBlock ∨ xv'.ownBlock = some (wx.alloc o1).heap.size)
    (o2 : Obj) (hg3 : (w2.alloc o2).grownBy w3 yv.ownBlock) (hy3 : w3.ownsRow w.heap.size 29 4 yv' ((uns a b i).length + 1) (icells ((uns a b i).map (·.2)) ++ (un1 (p, q)).2.cells)) (hb3 : yv'.ownBlock = yv.ownBlock ∨ yv'.ownBlock = some (w2.alloc o2).heap.size) : UnInv a b w (i + 1) xv' yv' w3 := by
  have hbx : Below w.heap.size w wx := h.bel.trans (hx.mono h.bel.size)
  have x1 : (wx.alloc o1).ownsRow w.heap.size 29 4 xv (uns a b i).length (icells ((uns a b i).map (·.1))) := own_fr (own_fr h.xo (.below hx)) ((FrT.refl wx).alloc o1)
  have y1 : (wx.alloc o1).ownsRow w.heap.size 29 4 yv (uns a b i).length (icells ((uns a b i).map (·.2))) := own_fr (own_fr h.yo (.below hx)) ((FrT.refl wx).alloc o1)
  obtain ⟨y2, ap2⟩ := apart_grow (v' := xv') y1 (fun k hk he => h.ap k he hk) hg2 hx2 hb2
  have x2 : (w2.alloc o2).ownsRow w.heap.size 29 4 xv' ((uns a b i).length + 1) (icells ((uns a b i).map (·.1)) ++ (un1 (p, q)).1.cells) := own_fr hx2 ((FrT.refl w2).alloc o2)
  have y2' : (w2.alloc o2).ownsRow w.heap.size 29 4 yv (uns a b i).length (icells ((uns a b i).map (·.2))) := own_fr y2 ((FrT.refl w2).alloc o2)
  obtain ⟨x3, ap3⟩ := apart_grow (v' := yv') x2 (fun k hk he => ap2 k he hk) hg3 hy3 hb3
  have hbel2 : Below w.heap.size w w2 := (hbx.alloc hbx.size o1).grown hg2 (by have := hbx.size; simp; omega) (fun k hk => (x1.lt k hk).1)
  refine ⟨?_, ?_, ap3, (hbel2.alloc hbel2.size o2).grown hg3 (by have := hbel2.size; simp; omega) (fun k hk => (y2'.lt k hk).1)⟩
  · rw [uns_yes ha hb hu, List.map_append, List.length_append]
    simp only [List.map_cons, List.map_nil]
    rw [icells_append]
    exact x3
  · rw [uns_yes ha hb hu, List.map_append, List.length_append]
    simp only [List.map_cons, List.map_nil]
    rw [icells_append]
    exact hy3
end Go.Proofs.YtfiajbgeijgheaaDoor
