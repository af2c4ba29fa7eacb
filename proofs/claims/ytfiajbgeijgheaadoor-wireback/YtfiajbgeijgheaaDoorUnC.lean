
/-
  barrowlaw02.WireUnlike, behind its first loop: rows of one's own as Items that are read; alike, in plain lists.
-/
import Derived.Test.YtfiajbgeijgheaaDoorUnB
import Derived.Lib.SlicesS
namespace Go.Proofs.YtfiajbgeijgheaaDoor
open Go.RowKit
set_option maxRecDepth 100000

theorem icells_at : ∀ (l : List Itm) (i : Nat) (x : Itm), l[i]? = some x → ∀ (j : Nat) (v : Value), x.cells[j]? = some v → (icells l)[i * 4 + j]? = some v
  | [], _, _, h, _, _, _ => by simp at h
  | y :: l, 0, x, h, j, v, hv => by
    simp at h; subst h
    rw [Nat.zero_mul, Nat.zero_add]
    have e : icells (y :: l) = y.cells ++ icells l := by simp [icells]
    rw [e, List.getElem?_append_left (List.getElem?_eq_some_iff.1 hv).1]
    exact hv
  | y :: l, i + 1, x, h, j, v, hv => by
    have ih := icells_at l i x (by simpa using h) j v hv
    have e : icells (y :: l) = y.cells ++ icells l := by simp [icells]
    have e4 : y.cells.length = 4 := rfl
    rw [e, List.getElem?_append_right (by rw [e4]; omega), e4, show (i + 1) * 4 + j - 4 = i * 4 + j by omega]
    exact ih
/-- A row of Items of one's own is read as any. -/
theorem own_sl {B : Nat} {v : Value} {l : List Itm} {w : World} (h : w.ownsRow B 29 4 v l.length (icells l)) (hf : ∀ x ∈ l, x.Fit) : SlI w v l := by
  have h0 := h
  rcases h.2 with ⟨rfl, hn⟩ | ⟨g, cap, cur, rfl, _, hg, _⟩
  · exact .inl ⟨List.length_eq_zero_iff.1 hn, none, 0, rfl⟩
  · have hlt := (Array.getElem?_eq_some_iff.1 hg).1
    refine .inr ⟨g, 0, cap, rfl, hlt, fun i x hx => ⟨hf x (List.mem_of_getElem? hx), ?_⟩⟩
    have hc := fun j v hv => World.ownsRow.cells h0 (g := g) rfl (i * 4 + j) v (icells_at l i x hx j v hv)
    simp only [Addr.add_lit, Nat.zero_add] at hc
    rw [Nat.zero_add]
    exact ⟨hc 0 _ rfl, hc 1 _ rfl, hc 2 _ rfl, hc 3 _ rfl⟩
theorem SlI.fits {w : World} {v : Value} {l : List Itm} (h : SlI w v l) : ∀ (i : Nat) (x : Itm), l[i]? = some x → x.Fit := by
  rcases h with ⟨rfl, _⟩ | ⟨g, o, c, rfl, _, hc⟩
  · intro i x hx; simp at hx
  · exact fun i x hx => (hc i x hx).1
theorem ItAt.later {w w' : World} {g o : Nat} {x : Itm} (h : ItAt w g o x) (hg : g < w.heap.size) (hb : Below w.heap.size w w') : ItAt w' g o x := by
  obtain ⟨h0, h1, h2, h3⟩ := h
  exact ⟨by rw [hb.cell (p := ⟨g, o, none⟩) hg]; exact h0, by rw [hb.cell (p := ⟨g, o + 1, none⟩) hg]; exact h1, by rw [hb.cell (p := ⟨g, o + 2, none⟩) hg]; exact h2, by rw [hb.cell (p := ⟨g, o + 3, none⟩) hg]; exact h3⟩
theorem SlI.later {w w' : World} {v : Value} {l : List Itm} (h : SlI w v l) (hb : Below w.heap.size w w') : SlI w' v l := by
  rcases h with h | ⟨g, o, c, rfl, hg, hc⟩
  · exact .inl h
  · exact .inr ⟨g, o, c, rfl, Nat.lt_of_lt_of_le hg hb.size, fun i x hx => ⟨(hc i x hx).1, (hc i x hx).2.later hg hb⟩⟩
theorem SlI.form {w : World} {v : Value} {l : List Itm} (h : SlI w v l) : ∃ a c, v = .slice a l.length c := by
  rcases h with ⟨rfl, a, c, rfl⟩ | ⟨g, o, c, rfl, _⟩
  · exact ⟨a, c, rfl⟩
  · exact ⟨_, c, rfl⟩
theorem SlI.some {w : World} {a : Option Addr} {n c : Nat} {l : List Itm} (h : SlI w (.slice a n c) l) {i : Nat} {x : Itm} (hx : l[i]? = some x) : ∃ g o, a = some ⟨g, o, none⟩ ∧ g < w.heap.size ∧ ItAt w g (o + i * 4) x := by
  rcases h with ⟨rfl, _⟩ | ⟨g, o, c', he, hg, hc⟩
  · simp at hx
  · simp only [Value.slice.injEq] at he
    exact ⟨g, o, he.1, hg, (hc i x hx).2⟩

/-- Are two Items of a kind written alike? -/
def likeB (x y : Itm) : Bool := if x.kind % 3 = 0 then x.n == y.n else if x.kind % 3 = 1 then decide (x.s = y.s) else x.b == y.b
theorem like_iff (x y : Itm) : likeB x y = true ↔ x.like y := by
  unfold likeB Itm.like
  split
  · simp
  · split
    · exact decide_eq_true_iff
    · exact beq_iff_eq
/-- The first k pairs are alike. -/
def alB (z : List (Itm × Itm)) (k : Nat) : Bool := (z.take k).all fun p => likeB p.1 p.2
theorem alB_succ {z : List (Itm × Itm)} {k : Nat} {p : Itm × Itm} (h : z[k]? = some p) : alB z (k + 1) = (alB z k && likeB p.1 p.2) := by
  unfold alB
  rw [List.take_add_one, h]
  simp
theorem alB_form {z : List (Itm × Itm)} (h : ∀ p ∈ z, p.1.kind = p.2.kind ∧ p.1.Fit ∧ p.2.Fit ∧ p.1.may = true ∧ p.2.may = true) : alB z z.length = decide (formL (z.map (·.1)) = formL (z.map (·.2))) := by
  have hat : ∀ (i : Nat) (x y : Itm), (z.map (·.1))[i]? = some x → (z.map (·.2))[i]? = some y → (x, y) ∈ z := fun i x y hx hy => by
    rw [List.getElem?_map] at hx hy
    obtain ⟨p, hp, rfl⟩ := Option.map_eq_some_iff.1 hx
    rw [hp] at hy
    simp only [Option.map_some, Option.some.injEq] at hy
    rw [← hy]
    exact List.mem_of_getElem? hp
  rw [Bool.eq_iff_iff, decide_eq_true_iff]
  unfold alB
  rw [List.take_of_length_le (Nat.le_refl _), List.all_eq_true]
  constructor
  · intro hl
    exact formL_same _ _ (by simp) fun i x y hx hy => by
      have hm := hat i x y hx hy
      exact ⟨(h _ hm).1, (like_iff x y).1 (hl _ hm)⟩
  · intro he p hp
    obtain ⟨i, hi, rfl⟩ := List.getElem_of_mem hp
    rw [like_iff]
    exact formL_tell _ _ (by simp) (fun j x y hx hy => h _ (hat j x y hx hy)) he i _ _ (by rw [List.getElem?_map, List.getElem?_eq_getElem hi]; rfl) (by rw [List.getElem?_map, List.getElem?_eq_getElem hi]; rfl)
theorem text_eq (x y : ByteArray) : (x.toList == y.toList) = decide (x = y) := by
  by_cases h : x = y
  · subst h; simp
  · rw [decide_eq_false h]; exact (Lib.bytes_beq_false_iff _ _).2 h
theorem byte_eq (x y : UInt8) : ((x.toNat : Int) == (y.toNat : Int)) = (x == y) := by
  rw [Bool.eq_iff_iff, beq_iff_eq, beq_iff_eq, Int.ofNat_inj]
  exact ⟨fun h => UInt8.toNat.inj h, fun h => by rw [h]⟩
/-- row, where all may be written. -/
def RowAll (l : List Itm) (w : World) (e : Ending) (w' : World) : Prop :=
  ∃ mv g, e = .returned (.tuple #[mv, .slice (some ⟨g, 0, none⟩) (formL l).length (formL l).length]) ∧ w'.heap[g]? = some (.cells (Lib.byteCells (formL l)).toArray 5 (0, 0)) ∧ Below w.heap.size w w'
theorem row_all {ad : Nat → Addr} {w : World} {v : Value} {l : List Itm} (L : Lw ad w) (h : SlI w v l) (e : rowTo l 40 = l) :
    Calls Tryd.prog 28 #[v] w (RowAll l w) := by
  refine (row_any L h).mono ?_
  rintro r w' ⟨m, g, h1, _, h3, _, h5⟩
  rw [e] at h1 h3
  exact ⟨m, g, h1, h3, h5⟩
end Go.Proofs.YtfiajbgeijgheaaDoor
