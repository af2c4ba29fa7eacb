
/-
  barrowlaw02.row, at the call.
-/
import Derived.Test.YtfiajbgeijgheaaDoorRow
namespace Go.Proofs.YtfiajbgeijgheaaDoor
open Go.RowKit
set_option maxRecDepth 100000

theorem below_alloc (w : World) (o : Obj) : Below w.heap.size w (w.alloc o) := (Below.refl _ w).alloc (Nat.le_refl _) o

/-- What row answers. -/
def RowOut (l : List Itm) (w : World) (e : Ending) (w' : World) : Prop :=
  ∃ mv g, e = .returned (.tuple #[mv, .slice (some ⟨g, 0, none⟩) (formL (rowTo l 40)).length (formL (rowTo l 40)).length]) ∧ w'.ownsRow w.heap.size 29 4 mv (rowTo l 40).length (icells (rowTo l 40)) ∧ w'.heap[g]? = some (.cells (Lib.byteCells (formL (rowTo l 40))).toArray 5 (0, 0)) ∧ w.heap.size ≤ g ∧ Below w.heap.size w w'

theorem may_num {x : Itm} (hs : x.s.size ≤ 100) (hn : 0 ≤ x.n) : x.may = true := by simp [Itm.may, hs]; omega
theorem may_neg {x : Itm} (h0 : x.kind % 3 = 0) (hn : x.n < 0) : x.may = false := by simp [Itm.may, h0, hn]
theorem may_long {x : Itm} (hs : ¬ x.s.size ≤ 100) : x.may = false := by simp [Itm.may]; omega
theorem may_other {x : Itm} (h0 : ¬ x.kind % 3 = 0) (hs : x.s.size ≤ 100) : x.may = true := by simp [Itm.may, hs, h0]

set_option maxHeartbeats 4000000 in
theorem row_any {ad : Nat → Addr} {w : World} {v : Value} {l : List Itm} (L : Lw ad w) (h : SlI w v l) :
    Calls Tryd.prog 28 #[v] w (RowOut l w) := by
  obtain ⟨i0, hi, hi3⟩ := Option.map_eq_some_iff.1 info_item
  simp only [Prod.mk.injEq] at hi3
  obtain ⟨hz0, hz1, hz2⟩ := hi3
  obtain ⟨a1, c1, rfl⟩ : ∃ a c, v = .slice a l.length c := by
    rcases h with ⟨rfl, a, c, rfl⟩ | ⟨g, o, c, rfl, _⟩
    · exact ⟨a, c, rfl⟩
    · exact ⟨_, c, rfl⟩
  have HC : Aside (SlI w (.slice a1 l.length c1) l) := h
  have HL : Aside (Lw ad w) := L
  have HLEN : Aside (∀ j, j ≤ 40 → (formL (rowTo l j)).length ≤ 140737488355328) := fun j hj => by
    have hf : ∀ (i : Nat) y, l[i]? = some y → y.Fit := fun i y hy => by
      rcases h with ⟨h0, _⟩ | ⟨_, _, _, _, _, hc⟩
      · rw [h0] at hy; simp at hy
      · exact (hc i y hy).1
    have h1 := formL_len _ (rowTo_fit hf (i := j))
    have h2 := rowTo_len l j
    omega
  clear h L
  go_enter Tryd.func28, Tryd.ntmps28
  go_wp2_with (go_at_call 7; refine (new_any _).mono ?_; rintro e w3 ⟨rfl, rfl⟩)
  have hI : RowInv ad l w 0 (.slice none 0 0) (w.alloc (.cells #[.slice none 0 0] 27)) := ⟨⟨_, by simpa [rowTo, formL] using wr_new w w.heap.size (Nat.le_refl _)⟩, by simpa [rowTo, icells] using World.ownsRow_nil (w.alloc (.cells #[.slice none 0 0] 27)) w.heap.size 29 4, lw_below HL.out (below_alloc _ _) HL.out.size, below_alloc _ _⟩
  go_loopg [4, 6] l.length (fun k mv iv wr => ∃ (i : Nat), k = l.length - i ∧ i ≤ l.length ∧ i ≤ 40 ∧ iv = .int .i64 (i : Int) ∧ RowInv ad l w i mv wr)
  case atStart => exact ⟨0, by omega, by omega, by omega, rfl, hI⟩
  case round =>
    obtain ⟨i, hgk, hi', h40, rfl, hS⟩ := hrel
    clear hI
    have HI : Aside (RowInv ad l w i u4 wr) := hS
    have HNW : Aside (4 ≤ w.heap.size) := HL.out.size
    by_cases hlt : i < l.length
    · have hii : (i : Int) < (l.length : Int) := by omega
      by_cases h4 : i < 40
      · have h4' : (i : Int) < 40 := by omega
        have hx : l[i]? = some l[i] := List.getElem?_eq_getElem hlt
        generalize l[i] = x at hx
        obtain ⟨gc, oc, hga, hgl, hfit, e0, e1, e2, e3⟩ : ∃ gc oc, a1 = some ⟨gc, oc, none⟩ ∧ gc < w.heap.size ∧ x.Fit ∧ ItAt w gc (oc + i * 4) x := by
          rcases HC.out with ⟨h0, _⟩ | ⟨g, o, c, he, hg, hc⟩
          · rw [h0] at hlt; simp at hlt
          · simp only [Value.slice.injEq, true_and] at he
            exact ⟨g, o, he.1, hg, hc i x hx⟩
        subst hga
        obtain ⟨kind, n, s, c⟩ := x
        have HX : Aside (Itm.Fit ⟨kind, n, s, c⟩ ∧ l[i]? = some ⟨kind, n, s, c⟩) := ⟨hfit, hx⟩
        have d0 : wr.cell? ⟨gc, oc + i * 4, none⟩ = some (.int .i64 kind) := by rw [hS.bel.cell (p := ⟨gc, oc + i * 4, none⟩) hgl]; exact e0
        have d1 : wr.cell? ⟨gc, oc + i * 4 + 1, none⟩ = some (.int .i64 n) := by rw [hS.bel.cell (p := ⟨gc, oc + i * 4 + 1, none⟩) hgl]; exact e1
        have d2 : wr.cell? ⟨gc, oc + i * 4 + 2, none⟩ = some (.string s) := by rw [hS.bel.cell (p := ⟨gc, oc + i * 4 + 2, none⟩) hgl]; exact e2
        have d3 : wr.cell? ⟨gc, oc + i * 4 + 3, none⟩ = some (.int .u8 (c.toNat : Int)) := by rw [hS.bel.cell (p := ⟨gc, oc + i * 4 + 3, none⟩) hgl]; exact e3
        have HF : Aside (∀ (j : Nat) (y : Itm), l[j]? = some y → y.Fit) := fun j y hy => by
          rcases HC.out with ⟨h0, _⟩ | ⟨_, _, _, _, _, hc⟩
          · rw [h0] at hlt; simp at hlt
          · exact (hc j y hy).1
        obtain ⟨vw, hvw⟩ := hS.wt
        have HW : Aside (WrAt w.heap.size w.heap.size (formL (rowTo l i)) vw (wr.alloc (.cells #[.int .i64 kind, .int .i64 n, .string s, .int .u8 (c.toNat : Int)] 29)) ∧ (formL (rowTo l i)).length ≤ 4360 ∧ w.heap.size ≤ (wr.alloc (.cells #[.int .i64 kind, .int .i64 n, .string s, .int .u8 (c.toNat : Int)] 29)).heap.size ∧ (rowTo l i).length ≤ 40) := ⟨hvw.keep (S := []) ((Kept.refl _ wr).alloc _) (by simp), by have h1 := formL_len _ (rowTo_fit HF.out (i := i)); have h2 := rowTo_len l i; omega, by have := hS.bel.size; simp; omega, by have := rowTo_len l i; omega⟩
        clear hS hx hgl hvw e0 e1 e2 e3 hfit HC HF
        by_cases hs : s.size ≤ 100
        · have hs' : ¬ (100 : Int) < (s.size : Int) := by omega
          have hkind : kind % 3 = 0 ∨ kind % 3 = 1 ∨ kind % 3 = 2 := by omega
          rcases hkind with hk | hk | hk
          · by_cases hn : n < 0
            · go_wp2_with (first | (go_at_call 8; refine (within3 _ _).mono ?_; rintro e w9 ⟨rfl, h9⟩; obtain rfl := h9.symm) | (go_at_call 11; refine (wnumber_neg ((lw_below HI.out.lw (below_alloc _ _) HI.out.lw.size).var 0 (.inl rfl)) HW.out.1 n hn).mono ?_; rintro e w5 ⟨f, rfl, _, _, hb5⟩))
              go_roundg (l.length - (i + 1))
              case measure => rw [hgk]; omega
              case rel => exact ⟨i + 1, rfl, by omega, by omega, by go_num, HI.out.skip HX.out.2 (may_neg hk hn) ((below_alloc _ _).trans (hb5.mono (by simp)))⟩
            · obtain ⟨q, hq⟩ : ∃ q : Nat, n = (q : Int) := ⟨n.toNat, by omega⟩
              subst hq
              have HQ : Aside (q < 9223372036854775808) := (by have := HX.out.1.2.1; simp only at this; omega : q < 9223372036854775808)
              go_wp2_with (first | (go_at_call 8; refine (within3 _ _).mono ?_; rintro e w9 ⟨rfl, h9⟩; obtain rfl := h9.symm) | (go_at_call 11; refine (wnumber_fr HW.out.1 q HQ.out (by have := HW.out.2.1; omega) HW.out.2.2.1).mono ?_; rintro e w5 ⟨rfl, ⟨v5, hW5⟩, hb5, hf5⟩; have hx5 : w5.heap[wr.heap.size]? = some (.cells #[.int .i64 kind, .int .i64 (q : Int), .string s, .int .u8 (c.toNat : Int)] 29 (0, 0)) := hf5 _ _ _ _ (heap_alloc_last wr _ _) (by decide) (by decide); have q0 : w5.cell? ⟨wr.heap.size, 0, none⟩ = some (.int .i64 kind) := (by rw [cellW_of hx5]; rfl); have q1 : w5.cell? ⟨wr.heap.size, 1, none⟩ = some (.int .i64 (q : Int)) := (by rw [cellW_of hx5]; rfl); have q2 : w5.cell? ⟨wr.heap.size, 2, none⟩ = some (.string s) := (by rw [cellW_of hx5]; rfl); have q3 : w5.cell? ⟨wr.heap.size, 3, none⟩ = some (.int .u8 (c.toNat : Int)) := (by rw [cellW_of hx5]; rfl); have hown5 : w5.ownsRow w.heap.size 29 4 u4 (rowTo l i).length (icells (rowTo l i)) := own_fr (own_fr HI.out.it (.below (below_alloc _ _))) hf5; have H5 : Aside (WrAt w.heap.size w.heap.size (formL (rowTo l i) ++ Itm.form ⟨kind, (q : Int), s, c⟩) v5 w5 ∧ Below w.heap.size (wr.alloc (.cells #[.int .i64 kind, .int .i64 (q : Int), .string s, .int .u8 (c.toNat : Int)] 29)) w5 ∧ FrT (wr.alloc (.cells #[.int .i64 kind, .int .i64 (q : Int), .string s, .int .u8 (c.toNat : Int)] 29)) w5) := ⟨by simpa [Itm.form, hk] using hW5, hb5, hf5⟩; clear hW5 hb5 hf5 hx5) | (at_builtin; refine wpList_append_own _ rfl _ _ 22 rfl w.heap.size 29 i0 (.agg #[.int .i64 0, .int .i64 0, .string ⟨#[]⟩, .int .u8 0]) 4 40 Tryd.underlying22 hi hz0 hz1 hz2 rfl (by decide) _ _ _ rfl (hown5.alloc _) ⟨w5.heap.size, 0, none⟩ 1 1 (Itm.cells ⟨kind, (q : Int), s, c⟩) rfl rfl ?c1 ?c2 ?c3 ?c4 ?c5 ?_))
              case c1 => exact cell_four_new w5 ⟨kind, (q : Int), s, c⟩ _
              case c2 =>
                intro u hu
                simp only [Itm.cells, List.mem_cons, List.not_mem_nil, or_false] at hu
                rcases hu with rfl | rfl | rfl | rfl <;> rfl
              case c3 => have := HW.out.2.2.2; unfold maxLen; omega
              case c4 => have := HW.out.2.2.2; omega
              case c5 => have h1 := H5.out.2.1.size; have h2 := HW.out.2.2.1; simp at h1 h2 ⊢; omega
              intro v0 w6 hown6 hgr hnn
              clear hnn
              go_wp2
              go_roundg (l.length - (i + 1))
              case measure => rw [hgk]; omega
              case rel => exact ⟨i + 1, rfl, by omega, by omega, by go_num, HI.out.more HX.out.2 (may_num hs (by simp)) (below_alloc _ _) H5.out.1 H5.out.2.1 H5.out.2.2 _ hgr hown6 HNW.out⟩
          · have h0 : ¬ kind % 3 = 0 := by omega
            go_wp2_with (first | (go_at_call 8; refine (within3 _ _).mono ?_; rintro e w9 ⟨rfl, h9⟩; obtain rfl := h9.symm) | (go_at_call 13; refine (wtext_fr HW.out.1 s (by have := HW.out.2.1; omega) HW.out.2.2.1).mono ?_; rintro e w5 ⟨rfl, ⟨v5, hW5⟩, hb5, hf5⟩; have hx5 : w5.heap[wr.heap.size]? = some (.cells #[.int .i64 kind, .int .i64 n, .string s, .int .u8 (c.toNat : Int)] 29 (0, 0)) := hf5 _ _ _ _ (heap_alloc_last wr _ _) (by decide) (by decide); have q0 : w5.cell? ⟨wr.heap.size, 0, none⟩ = some (.int .i64 kind) := (by rw [cellW_of hx5]; rfl); have q1 : w5.cell? ⟨wr.heap.size, 1, none⟩ = some (.int .i64 n) := (by rw [cellW_of hx5]; rfl); have q2 : w5.cell? ⟨wr.heap.size, 2, none⟩ = some (.string s) := (by rw [cellW_of hx5]; rfl); have q3 : w5.cell? ⟨wr.heap.size, 3, none⟩ = some (.int .u8 (c.toNat : Int)) := (by rw [cellW_of hx5]; rfl); have hown5 : w5.ownsRow w.heap.size 29 4 u4 (rowTo l i).length (icells (rowTo l i)) := own_fr (own_fr HI.out.it (.below (below_alloc _ _))) hf5; have H5 : Aside (WrAt w.heap.size w.heap.size (formL (rowTo l i) ++ Itm.form ⟨kind, n, s, c⟩) v5 w5 ∧ Below w.heap.size (wr.alloc (.cells #[.int .i64 kind, .int .i64 n, .string s, .int .u8 (c.toNat : Int)] 29)) w5 ∧ FrT (wr.alloc (.cells #[.int .i64 kind, .int .i64 n, .string s, .int .u8 (c.toNat : Int)] 29)) w5) := ⟨by simpa [Itm.form, formT, hk] using hW5, hb5, hf5⟩; clear hW5 hb5 hf5 hx5) | (at_builtin; refine wpList_append_own _ rfl _ _ 22 rfl w.heap.size 29 i0 (.agg #[.int .i64 0, .int .i64 0, .string ⟨#[]⟩, .int .u8 0]) 4 40 Tryd.underlying22 hi hz0 hz1 hz2 rfl (by decide) _ _ _ rfl (hown5.alloc _) ⟨w5.heap.size, 0, none⟩ 1 1 (Itm.cells ⟨kind, n, s, c⟩) rfl rfl ?c1 ?c2 ?c3 ?c4 ?c5 ?_))
            case c1 => exact cell_four_new w5 ⟨kind, n, s, c⟩ _
            case c2 =>
              intro u hu
              simp only [Itm.cells, List.mem_cons, List.not_mem_nil, or_false] at hu
              rcases hu with rfl | rfl | rfl | rfl <;> rfl
            case c3 => have := HW.out.2.2.2; unfold maxLen; omega
            case c4 => have := HW.out.2.2.2; omega
            case c5 => have h1 := H5.out.2.1.size; have h2 := HW.out.2.2.1; simp at h1 h2 ⊢; omega
            intro v0 w6 hown6 hgr hnn
            clear hnn
            go_wp2
            go_roundg (l.length - (i + 1))
            case measure => rw [hgk]; omega
            case rel => exact ⟨i + 1, rfl, by omega, by omega, by go_num, HI.out.more HX.out.2 (may_other h0 hs) (below_alloc _ _) H5.out.1 H5.out.2.1 H5.out.2.2 _ hgr hown6 HNW.out⟩
          · have h0 : ¬ kind % 3 = 0 := by omega
            go_wp2_with (first | (go_at_call 8; refine (within3 _ _).mono ?_; rintro e w9 ⟨rfl, h9⟩; obtain rfl := h9.symm) | (go_at_call 14; refine (byte_fr HW.out.1 c (by have := HW.out.2.1; omega) HW.out.2.2.1).mono ?_; rintro e w5 ⟨rfl, ⟨v5, hW5⟩, hb5, hf5⟩; have hx5 : w5.heap[wr.heap.size]? = some (.cells #[.int .i64 kind, .int .i64 n, .string s, .int .u8 (c.toNat : Int)] 29 (0, 0)) := hf5 _ _ _ _ (heap_alloc_last wr _ _) (by decide) (by decide); have q0 : w5.cell? ⟨wr.heap.size, 0, none⟩ = some (.int .i64 kind) := (by rw [cellW_of hx5]; rfl); have q1 : w5.cell? ⟨wr.heap.size, 1, none⟩ = some (.int .i64 n) := (by rw [cellW_of hx5]; rfl); have q2 : w5.cell? ⟨wr.heap.size, 2, none⟩ = some (.string s) := (by rw [cellW_of hx5]; rfl); have q3 : w5.cell? ⟨wr.heap.size, 3, none⟩ = some (.int .u8 (c.toNat : Int)) := (by rw [cellW_of hx5]; rfl); have hown5 : w5.ownsRow w.heap.size 29 4 u4 (rowTo l i).length (icells (rowTo l i)) := own_fr (own_fr HI.out.it (.below (below_alloc _ _))) hf5; have H5 : Aside (WrAt w.heap.size w.heap.size (formL (rowTo l i) ++ Itm.form ⟨kind, n, s, c⟩) v5 w5 ∧ Below w.heap.size (wr.alloc (.cells #[.int .i64 kind, .int .i64 n, .string s, .int .u8 (c.toNat : Int)] 29)) w5 ∧ FrT (wr.alloc (.cells #[.int .i64 kind, .int .i64 n, .string s, .int .u8 (c.toNat : Int)] 29)) w5) := ⟨by simpa [Itm.form, hk] using hW5, hb5, hf5⟩; clear hW5 hb5 hf5 hx5) | (at_builtin; refine wpList_append_own _ rfl _ _ 22 rfl w.heap.size 29 i0 (.agg #[.int .i64 0, .int .i64 0, .string ⟨#[]⟩, .int .u8 0]) 4 40 Tryd.underlying22 hi hz0 hz1 hz2 rfl (by decide) _ _ _ rfl (hown5.alloc _) ⟨w5.heap.size, 0, none⟩ 1 1 (Itm.cells ⟨kind, n, s, c⟩) rfl rfl ?c1 ?c2 ?c3 ?c4 ?c5 ?_))
            case c1 => exact cell_four_new w5 ⟨kind, n, s, c⟩ _
            case c2 =>
              intro u hu
              simp only [Itm.cells, List.mem_cons, List.not_mem_nil, or_false] at hu
              rcases hu with rfl | rfl | rfl | rfl <;> rfl
            case c3 => have := HW.out.2.2.2; unfold maxLen; omega
            case c4 => have := HW.out.2.2.2; omega
            case c5 => have h1 := H5.out.2.1.size; have h2 := HW.out.2.2.1; simp at h1 h2 ⊢; omega
            intro v0 w6 hown6 hgr hnn
            clear hnn
            go_wp2
            go_roundg (l.length - (i + 1))
            case measure => rw [hgk]; omega
            case rel => exact ⟨i + 1, rfl, by omega, by omega, by go_num, HI.out.more HX.out.2 (may_other h0 hs) (below_alloc _ _) H5.out.1 H5.out.2.1 H5.out.2.2 _ hgr hown6 HNW.out⟩
        · have hs' : (100 : Int) < (s.size : Int) := by omega
          go_wp2
          go_roundg (l.length - (i + 1))
          case measure => rw [hgk]; omega
          case rel => exact ⟨i + 1, rfl, by omega, by omega, by go_num, HI.out.skip HX.out.2 (may_long hs) (below_alloc _ _)⟩
      · have h4' : ¬ (i : Int) < 40 := by omega
        obtain rfl : i = 40 := by omega
        obtain ⟨vw, hvw⟩ := hS.wt
        have HW : Aside (WrAt w.heap.size w.heap.size (formL (rowTo l 40)) vw wr ∧ (formL (rowTo l 40)).length ≤ 140737488355328) := ⟨hvw, HLEN.out 40 (by omega)⟩
        clear hS hvw HC
        go_wp2_with (go_at_call 17; refine (bytes_any HW.out.1 HW.out.2).mono ?_; rintro e w5 ⟨rfl, hg5, hb5⟩)
        go_ret2
        exact ⟨u4, wr.heap.size, rfl, own_fr HI.out.it (.below hb5), hg5, HI.out.bel.size, HI.out.bel.trans (hb5.mono HI.out.bel.size)⟩
    · have hii : ¬ (i : Int) < (l.length : Int) := by omega
      have hrow : rowTo l i = rowTo l 40 := by unfold rowTo; rw [List.take_of_length_le (by omega), List.take_of_length_le (by omega)]
      obtain ⟨vw, hvw⟩ := hS.wt
      have HW : Aside (WrAt w.heap.size w.heap.size (formL (rowTo l 40)) vw wr ∧ (formL (rowTo l 40)).length ≤ 140737488355328) := ⟨by rw [← hrow]; exact hvw, HLEN.out 40 (by omega)⟩
      have HO : Aside (wr.ownsRow w.heap.size 29 4 u4 (rowTo l 40).length (icells (rowTo l 40))) := by rw [← hrow]; exact hS.it
      clear hS hvw HC hrow
      go_wp2_with (go_at_call 17; refine (bytes_any HW.out.1 HW.out.2).mono ?_; rintro e w5 ⟨rfl, hg5, hb5⟩)
      go_ret2
      exact ⟨u4, wr.heap.size, rfl, own_fr HO.out (.below hb5), hg5, HI.out.bel.size, HI.out.bel.trans (hb5.mono HI.out.bel.size)⟩
end Go.Proofs.YtfiajbgeijgheaaDoor
