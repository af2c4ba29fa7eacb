
/-
  barrowlaw02.row: what may be written of some Items, and its bytes.
-/
import Derived.Test.YtfiajbgeijgheaaDoorWr3
import Derived.Test.YtfiajbgeijgheaaDoorWk
import Derived.Test.YtfiajbgeijgheaaDoorFback
namespace Go.Proofs.YtfiajbgeijgheaaDoor
open Go.RowKit
set_option maxRecDepth 100000

def Itm.cells (x : Itm) : List Value := [.int .i64 x.kind, .int .i64 x.n, .string x.s, .int .u8 (x.b.toNat : Int)]
def icells (l : List Itm) : List Value := (l.map Itm.cells).flatten
theorem icells_append (l : List Itm) (x : Itm) : icells (l ++ [x]) = icells l ++ x.cells := by simp [icells]
theorem formL_append (l : List Itm) (x : Itm) : formL (l ++ [x]) = formL l ++ x.form := by simp [formL]

theorem info_item : (Tryd.prog.info? 29).map (fun i => (i.zero, i.size, i.bytes)) = some (some (.agg #[.int .i64 0, .int .i64 0, .string ⟨#[]⟩, .int .u8 0]), 4, 40) := by kernel_rfl

/-- What of the first i Items may be written. -/
def rowTo (l : List Itm) (i : Nat) : List Itm := (l.take i).filter Itm.may
theorem rowTo_no {l : List Itm} {i : Nat} {x : Itm} (h : l[i]? = some x) (hm : x.may = false) : rowTo l (i + 1) = rowTo l i := by
  rw [rowTo, List.take_add_one, h]; simp [rowTo, hm]
theorem rowTo_yes {l : List Itm} {i : Nat} {x : Itm} (h : l[i]? = some x) (hm : x.may = true) : rowTo l (i + 1) = rowTo l i ++ [x] := by
  rw [rowTo, List.take_add_one, h]; simp [rowTo, hm]
theorem rowTo_len (l : List Itm) (i : Nat) : (rowTo l i).length ≤ i := Nat.le_trans (List.length_filter_le _ _) (List.length_take_le _ _)
theorem rowTo_fit {l : List Itm} (hf : ∀ (i : Nat) x, l[i]? = some x → x.Fit) {i : Nat} : ∀ x ∈ rowTo l i, x.Fit ∧ x.may = true := by
  intro x hx
  obtain ⟨h1, h2⟩ := List.mem_filter.1 hx
  obtain ⟨j, hj, rfl⟩ := List.getElem_of_mem (List.mem_of_mem_take h1)
  exact ⟨hf j _ (List.getElem?_eq_getElem hj), h2⟩
theorem Itm.form_len {x : Itm} (hf : x.Fit) (hm : x.may = true) : x.form.length ≤ 109 := by
  have hs : x.s.size ≤ 100 := by simp [Itm.may] at hm; exact hm.1
  unfold Itm.form
  split
  · have := form_len9 x.n.toNat (by have := hf.2.1; omega)
    omega
  · split
    · have := form_len9 x.s.size (by omega)
      have := size_list x.s
      unfold formT
      rw [List.length_append]
      omega
    · simp
theorem formL_len : ∀ (l : List Itm), (∀ x ∈ l, x.Fit ∧ x.may = true) → (formL l).length ≤ 109 * l.length
  | [], _ => by simp [formL]
  | x :: l, h => by
    have h1 := formL_len l (fun y hy => h y (List.mem_cons_of_mem _ hy))
    have h2 := Itm.form_len (h x (by simp)).1 (h x (by simp)).2
    have e : formL (x :: l) = x.form ++ formL l := by simp [formL]
    rw [e, List.length_append, List.length_cons]
    omega

theorem own_fr {B n : Nat} {v : Value} {xs : List Value} {w w' : World} (h : w.ownsRow B 29 4 v n xs) (f : FrT w w') : w'.ownsRow B 29 4 v n xs := by
  refine ⟨h.1, ?_⟩
  rcases h.2 with h2 | ⟨g, cap, cur, h1, h2, h3, h4⟩
  · exact .inl h2
  · exact .inr ⟨g, cap, cur, h1, h2, f _ _ _ _ h3 (by decide) (by decide), h4⟩
theorem WrAt.other {B b B' n : Nat} {bs : List UInt8} {v m : Value} {xs : List Value} {w w' : World} (h : WrAt B b bs v w) (hm : w.ownsRow B' 29 4 m n xs) (hg : w.grownBy w' m.ownBlock) : WrAt B b bs v w' := by
  have hne : ∀ {k : Nat} {z : Array Value} {t : TypeId}, w.heap[k]? = some (.cells z t (0, 0)) → t ≠ 29 → w'.heap[k]? = some (.cells z t (0, 0)) := by
    intro k z t hk ht
    rw [hg.block k (lt_of_heap hk) (fun e => ?_)]
    · exact hk
    · rcases hm.2 with ⟨rfl, _⟩ | ⟨g, cap, cur, rfl, _, hg', _⟩
      · simp [Value.ownBlock] at e
      · simp only [Value.ownBlock, Option.some.injEq] at e
        subst e
        rw [hg'] at hk
        simp only [Option.some.injEq, Obj.cells.injEq] at hk
        exact ht hk.2.1.symm
  refine ⟨hne h.lies (by decide), ⟨h.own.1, ?_⟩, h.lo⟩
  rcases h.own.2 with h2 | ⟨g, cap, cur, h1, h2, h3, h4⟩
  · exact .inl h2
  · exact .inr ⟨g, cap, cur, h1, h2, hne h3 (by decide), h4⟩

theorem cell_four_new (w : World) (x : Itm) (t : TypeId) : ∀ j u, x.cells[j]? = some u → (w.alloc (.cells #[.int .i64 x.kind, .int .i64 x.n, .string x.s, .int .u8 (x.b.toNat : Int)] t)).cell? ((⟨w.heap.size, 0, none⟩ : Addr).add j) = some u := by
  intro j u hu
  match j, hu with
  | 0, hu => simp [Itm.cells] at hu; subst hu; simp [Addr.add]
  | 1, hu => simp [Itm.cells] at hu; subst hu; simp [Addr.add]
  | 2, hu => simp [Itm.cells] at hu; subst hu; simp [Addr.add]
  | 3, hu => simp [Itm.cells] at hu; subst hu; simp [Addr.add]
  | n + 4, hu => simp [Itm.cells] at hu

/-- What stands between two rounds. -/
structure RowInv (ad : Nat → Addr) (l : List Itm) (w : World) (i : Nat) (mv : Value) (wr : World) : Prop where
  wt : ∃ v, WrAt w.heap.size w.heap.size (formL (rowTo l i)) v wr
  it : wr.ownsRow w.heap.size 29 4 mv (rowTo l i).length (icells (rowTo l i))
  lw : Lw ad wr
  bel : Below w.heap.size w wr

theorem lw_below {ad : Nat → Addr} {B : Nat} {w w' : World} (h : Lw ad w) (hb : Below B w w') (hB : 4 ≤ B) : Lw ad w' := by
  refine ⟨fun k hk => ?_, by have := h.size; have := hb.size; omega⟩
  rw [hb.cell (p := ⟨gixW k, 0, none⟩) (by have := gixW_lt k hk; show gixW k < B; omega)]
  exact h.var k hk

/-- A round that writes nothing. -/
theorem RowInv.skip {ad : Nat → Addr} {l : List Itm} {w : World} {i : Nat} {mv : Value} {wr wx : World} {x : Itm} (h : RowInv ad l w i mv wr) (hx : l[i]? = some x) (hm : x.may = false) (hb : Below wr.heap.size wr wx) : RowInv ad l w (i + 1) mv wx := by
  obtain ⟨v, hv⟩ := h.wt
  refine ⟨⟨v, ?_⟩, ?_, lw_below h.lw hb h.lw.size, h.bel.trans (hb.mono h.bel.size)⟩
  · rw [rowTo_no hx hm]; exact hv.keep (S := []) (.of hb) (by simp)
  · rw [rowTo_no hx hm]; exact own_fr h.it (.below hb)

/-- A round that writes: the Writer's call, then the append. -/
theorem RowInv.more {ad : Nat → Addr} {l : List Itm} {w : World} {i : Nat} {mv : Value} {wr wx wy wz : World} {x : Itm} {v' mv' : Value} (h : RowInv ad l w i mv wr) (hx : l[i]? = some x) (hm : x.may = true) (hb : Below wr.heap.size wr wx) (hW : WrAt w.heap.size w.heap.size (formL (rowTo l i) ++ x.form) v' wy) (hwy : Below w.heap.size wx wy) (hf : FrT wx wy)
    (o : Obj) (hg : (wy.alloc o).grownBy wz mv.ownBlock) (hown : wz.ownsRow w.heap.size 29 4 mv' ((rowTo l i).length + 1) (icells (rowTo l i) ++ x.cells)) (hnw : 4 ≤ w.heap.size) : RowInv ad l w (i + 1) mv' wz := by
  have hit : (wy.alloc o).ownsRow w.heap.size 29 4 mv (rowTo l i).length (icells (rowTo l i)) := own_fr (own_fr (own_fr h.it (.below hb)) hf) ((FrT.refl wy).alloc o)
  have hby : Below w.heap.size w wy := (h.bel.trans (hb.mono h.bel.size)).trans hwy
  have hbz : Below w.heap.size w wz := (hby.alloc hby.size o).grown hg (by have := hby.size; simp; omega) (fun k hk => (hit.lt k hk).1)
  have hw0 : Lw ad w := ⟨fun k hk => by
    have hlt : gixW k < w.heap.size := by have := gixW_lt k hk; omega
    have h1 := h.lw.var k hk
    rw [h.bel.cell (p := ⟨gixW k, 0, none⟩) hlt] at h1
    exact h1, hnw⟩
  refine ⟨⟨v', ?_⟩, ?_, lw_below hw0 hbz hnw, hbz⟩
  · rw [rowTo_yes hx hm, formL_append]
    exact (hW.keep (S := []) ((Kept.refl _ wy).alloc o) (by simp)).other hit hg
  · rw [rowTo_yes hx hm, icells_append, List.length_append]
    exact hown
end Go.Proofs.YtfiajbgeijgheaaDoor
