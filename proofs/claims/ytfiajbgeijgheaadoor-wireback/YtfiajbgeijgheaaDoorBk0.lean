
/-
  barrowlaw02.back, in plain lists: an Item is read again where its bytes are whole, and cut short where they are cut.
-/
import Derived.Test.YtfiajbgeijgheaaDoorUnC
namespace Go.Proofs.YtfiajbgeijgheaaDoor
open Go.RowKit
set_option maxRecDepth 100000

theorem take_whole (f r : List UInt8) {j : Nat} (h : f.length ≤ j) : (f ++ r).take j = f ++ r.take (j - f.length) := by
  rw [List.take_append, List.take_of_length_le h]
theorem take_cut (f r : List UInt8) {j : Nat} (h : j < f.length) : (f ++ r).take j = f.take j := by
  rw [List.take_append, show j - f.length = 0 by omega, List.take_zero, List.append_nil]
theorem formL_at {l : List Itm} {i : Nat} {x : Itm} (h : l[i]? = some x) : formL (l.drop i) = x.form ++ formL (l.drop (i + 1)) := by
  obtain ⟨hi, rfl⟩ := List.getElem?_eq_some_iff.1 h
  rw [List.drop_eq_getElem_cons hi]
  unfold formL
  rw [List.map_cons, List.flatten_cons]
/-- Where the reading stands. -/
structure BkI (l : List Itm) (K : Nat) (bs : List UInt8) (i pl : Nat) : Prop where
  drop : bs.drop pl = (formL (l.drop i)).take (K - pl)
  le : pl ≤ K
  sum : pl + (formL (l.drop i)).length = (formL l).length
theorem BkI.start {l : List Itm} {K : Nat} : BkI l K ((formL l).take K) 0 0 := ⟨by simp, Nat.zero_le _, by simp⟩
theorem BkI.next {l : List Itm} {K : Nat} {bs : List UInt8} {i pl : Nat} {x : Itm} (h : BkI l K bs i pl) (hx : l[i]? = some x) (hj : x.form.length ≤ K - pl) : BkI l K bs (i + 1) (pl + x.form.length) := by
  have h1 := h.drop
  have h2 := h.le
  have h3 := h.sum
  rw [formL_at hx] at h1 h3
  rw [take_whole _ _ hj] at h1
  refine ⟨?_, by omega, by rw [List.length_append] at h3; omega⟩
  rw [← List.drop_drop, h1, List.drop_left, Nat.sub_sub]
theorem BkI.stop {l : List Itm} {K : Nat} {bs : List UInt8} {i pl : Nat} {x : Itm} (h : BkI l K bs i pl) (hx : l[i]? = some x) (hj : ¬ x.form.length ≤ K - pl) : K < (formL l).length ∧ i < l.length := by
  have h2 := h.le
  have h3 := h.sum
  rw [formL_at hx, List.length_append] at h3
  exact ⟨by omega, (List.getElem?_eq_some_iff.1 hx).1⟩
theorem BkI.rest {l : List Itm} {K : Nat} {bs : List UInt8} {i pl : Nat} {x : Itm} (h : BkI l K bs i pl) (hx : l[i]? = some x) (hj : x.form.length ≤ K - pl) : ∃ r, bs.drop pl = x.form ++ r := by
  have h1 := h.drop
  rw [formL_at hx, take_whole _ _ hj] at h1
  exact ⟨_, h1⟩
theorem BkI.cut {l : List Itm} {K : Nat} {bs : List UInt8} {i pl : Nat} {x : Itm} (h : BkI l K bs i pl) (hx : l[i]? = some x) (hj : ¬ x.form.length ≤ K - pl) : ∃ j, j < x.form.length ∧ bs.drop pl = x.form.take j := by
  have h1 := h.drop
  rw [formL_at hx, take_cut _ _ (by omega)] at h1
  exact ⟨_, by omega, h1⟩
theorem BkI.over {l : List Itm} {K : Nat} {bs : List UInt8} {pl : Nat} (h : BkI l K bs l.length pl) (hK : K ≤ (formL l).length) : K = (formL l).length ∧ bs.drop pl = [] := by
  have h1 := h.drop
  have h2 := h.le
  have h3 := h.sum
  rw [List.drop_length] at h1 h3
  simp only [formL, List.map_nil, List.flatten_nil, List.length_nil, List.take_nil] at h1 h3
  exact ⟨by simp only [formL] at *; omega, h1⟩

/-- A number. -/
theorem item_num {x : Itm} {q : Nat} (hk : x.kind % 3 = 0) (hn : x.n = (q : Int)) (hf : x.Fit) : (∀ r, numR (x.form ++ r) 9223372036854775807 = .ok (q, x.form.length)) ∧ ∀ j, j < x.form.length → numR (x.form.take j) 9223372036854775807 = .error 6 := by
  have e : x.form = formN q := by unfold Itm.form; rw [if_pos hk, hn]; rfl
  have hq : q < 9223372036854775808 := by have := hf.2.1; omega
  rw [e]
  exact ⟨fun r => numR_back r hq (by omega), fun j hj => numR_cut hq hj⟩
/-- A text. -/
theorem item_txt {x : Itm} (hk : x.kind % 3 = 1) (hm : x.may = true) : (∀ r, txtR (x.form ++ r) 9223372036854775807 = .ok (x.s, x.form.length)) ∧ ∀ j, j < x.form.length → txtR (x.form.take j) 9223372036854775807 = .error 6 := by
  have e : x.form = formT x.s := by unfold Itm.form; rw [if_neg (by omega), if_pos hk]
  have hq : x.s.size < 9223372036854775808 := by simp [Itm.may] at hm; omega
  rw [e]
  exact ⟨fun r => txtR_back r hq (by omega), fun j hj => txtR_cut hq (by omega) hj⟩
/-- A byte. -/
theorem item_byte {x : Itm} (hk : x.kind % 3 = 2) : (∀ r, byteR (x.form ++ r) = .ok (x.b.toNat, x.form.length)) ∧ ∀ j, j < x.form.length → byteR (x.form.take j) = .error 6 := by
  have e : x.form = [x.b] := by unfold Itm.form; rw [if_neg (by omega), if_neg (by omega)]
  rw [e]
  refine ⟨fun r => by simp [byteR], fun j hj => ?_⟩
  obtain rfl : j = 0 := by simp at hj; omega
  simp [byteR]
end Go.Proofs.YtfiajbgeijgheaaDoor
