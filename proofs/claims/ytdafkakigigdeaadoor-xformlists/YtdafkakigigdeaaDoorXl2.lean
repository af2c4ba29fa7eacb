
/-
  Rows of operations that are changed in place; Cross, step by step.
-/
import Derived.Test.YtdafkakigigdeaaDoorXl1
import Derived.Test.YtdafkakigigdeaaDoorXf2
namespace Go.Proofs.YtdafkakigigdeaaDoor
open Go.RowKit
set_option maxRecDepth 100000

theorem pass_snoc : ∀ (xs : List Xo) (a b : Xo), passO (xs ++ [a]) b = ((passO xs b).1 ++ [tO a (passO xs b).2], tO (passO xs b).2 a)
  | [], _, _ => rfl
  | x :: xs, a, b => by
    simp only [List.cons_append, passO]
    rw [pass_snoc xs a (tO b x)]
theorem cross_snoc : ∀ (bs xs : List Xo) (b : Xo), crossO xs (bs ++ [b]) = ((passO (crossO xs bs).1 b).1, (crossO xs bs).2 ++ [(passO (crossO xs bs).1 b).2])
  | [], _, _ => rfl
  | c :: bs, xs, b => by
    simp only [List.cons_append, crossO]
    rw [cross_snoc bs (passO xs c).1 b]
/-- One row behind the first i of the other: how it lies. -/
def pA (A : List Xo) (b : Xo) (i : Nat) : List Xo := (passO (A.take i) b).1 ++ A.drop i
def pB (A : List Xo) (b : Xo) (i : Nat) : Xo := (passO (A.take i) b).2
theorem pA_len {A : List Xo} {b : Xo} {i : Nat} : (pA A b i).length = A.length := by
  unfold pA
  rw [List.length_append, pass_len, List.length_take, List.length_drop]
  omega
theorem pA_zero (A : List Xo) (b : Xo) : pA A b 0 = A := by simp [pA, passO]
theorem pB_zero (A : List Xo) (b : Xo) : pB A b 0 = b := by simp [pB, passO]
theorem pA_at {A : List Xo} {b a : Xo} {i : Nat} (h : A[i]? = some a) : (pA A b i)[i]? = some a := by
  have hi := (List.getElem?_eq_some_iff.1 h).1
  unfold pA
  have hl : (passO (A.take i) b).1.length = i := by rw [pass_len, List.length_take]; omega
  rw [List.getElem?_append_right (by omega), hl, Nat.sub_self, List.getElem?_drop]
  exact h
theorem pB_next {A : List Xo} {b a : Xo} {i : Nat} (h : A[i]? = some a) : pB A b (i + 1) = tO (pB A b i) a := by
  unfold pB
  rw [(take_drop_at h).2, pass_snoc]
theorem pA_next {A : List Xo} {b a : Xo} {i : Nat} (h : A[i]? = some a) : pA A b (i + 1) = (pA A b i).set i (tO a (pB A b i)) := by
  have hi := (List.getElem?_eq_some_iff.1 h).1
  have hl : (passO (A.take i) b).1.length = i := by rw [pass_len, List.length_take]; omega
  unfold pA pB
  rw [(take_drop_at h).2, pass_snoc, (take_drop_at h).1, List.set_append_right _ _ (by omega), hl, Nat.sub_self, List.set_cons_zero, List.append_assoc]
  rfl
theorem pA_all (A : List Xo) (b : Xo) : pA A b A.length = (passO A b).1 := by unfold pA; simp
theorem pB_all (A : List Xo) (b : Xo) : pB A b A.length = (passO A b).2 := by unfold pB; simp
/-- Behind the first j of bs. -/
def cA (xs bs : List Xo) (j : Nat) : List Xo := (crossO xs (bs.take j)).1
def cO (xs bs : List Xo) (j : Nat) : List Xo := (crossO xs (bs.take j)).2
def cB (xs bs : List Xo) (j : Nat) : List Xo := cO xs bs j ++ bs.drop j
theorem cA_zero (xs bs : List Xo) : cA xs bs 0 = xs := by simp [cA, crossO]
theorem cO_zero (xs bs : List Xo) : cO xs bs 0 = [] := by simp [cO, crossO]
theorem cB_zero (xs bs : List Xo) : cB xs bs 0 = bs := by simp [cB, cO, crossO]
theorem cA_len {xs bs : List Xo} {j : Nat} : (cA xs bs j).length = xs.length := (cross_len (bs.take j) xs).1
theorem cO_len {xs bs : List Xo} {j : Nat} (h : j ≤ bs.length) : (cO xs bs j).length = j := by
  have := (cross_len (bs.take j) xs).2
  rw [List.length_take] at this
  unfold cO
  omega
theorem cB_len {xs bs : List Xo} {j : Nat} (h : j ≤ bs.length) : (cB xs bs j).length = bs.length := by
  unfold cB
  rw [List.length_append, cO_len h, List.length_drop]
  omega
theorem cA_next {xs bs : List Xo} {b : Xo} {j : Nat} (h : bs[j]? = some b) : cA xs bs (j + 1) = (passO (cA xs bs j) b).1 := by
  unfold cA
  rw [(take_drop_at h).2, cross_snoc]
theorem cO_next {xs bs : List Xo} {b : Xo} {j : Nat} (h : bs[j]? = some b) : cO xs bs (j + 1) = cO xs bs j ++ [(passO (cA xs bs j) b).2] := by
  unfold cO cA
  rw [(take_drop_at h).2, cross_snoc]
theorem cB_at {xs bs : List Xo} {b : Xo} {j : Nat} (h : bs[j]? = some b) : (cB xs bs j)[j]? = some b := by
  have hj := (List.getElem?_eq_some_iff.1 h).1
  unfold cB
  rw [List.getElem?_append_right (by rw [cO_len (by omega)]; omega), cO_len (by omega), Nat.sub_self, List.getElem?_drop]
  exact h
theorem cB_next {xs bs : List Xo} {b : Xo} {j : Nat} (h : bs[j]? = some b) : cB xs bs (j + 1) = (cB xs bs j).set j (passO (cA xs bs j) b).2 := by
  have hj := (List.getElem?_eq_some_iff.1 h).1
  unfold cB
  rw [cO_next h, (take_drop_at h).1, List.set_append_right _ _ (by rw [cO_len (by omega)]; omega), cO_len (by omega), Nat.sub_self, List.set_cons_zero, List.append_assoc]
  rfl
theorem cA_all (xs bs : List Xo) : cA xs bs bs.length = (crossO xs bs).1 := by unfold cA; simp
theorem cO_all (xs bs : List Xo) : cO xs bs bs.length = (crossO xs bs).2 := by unfold cO; simp
theorem cB_all (xs bs : List Xo) : cB xs bs bs.length = (crossO xs bs).2 := by unfold cB; simp [cO]
theorem tO_in {a b : Xo} (h : a.In) : (tO a b).In := by
  unfold tO
  split
  next q => exact ⟨h.1, ⟨show _ ≤ a.p + 1 by have := h.2.1.1; omega, show a.p + 1 ≤ _ by omega⟩, h.2.2⟩
  next => exact h
theorem pass_in : ∀ (xs : List Xo) (b : Xo), (∀ x ∈ xs, x.In) → b.In → (∀ x ∈ (passO xs b).1, x.In) ∧ (passO xs b).2.In
  | [], _, _, hb => ⟨fun x hx => by simp [passO] at hx, hb⟩
  | a :: xs, b, h, hb => by
    have ih := pass_in xs (tO b a) (fun x hx => h x (by simp [hx])) (tO_in hb)
    refine ⟨fun x hx => ?_, ih.2⟩
    simp only [passO, List.mem_cons] at hx
    rcases hx with rfl | hx
    · exact tO_in (h a (by simp))
    · exact ih.1 x hx
theorem cross_in : ∀ (bs xs : List Xo), (∀ x ∈ xs, x.In) → (∀ x ∈ bs, x.In) → (∀ x ∈ (crossO xs bs).1, x.In) ∧ (∀ x ∈ (crossO xs bs).2, x.In)
  | [], _, h, _ => ⟨h, fun x hx => by simp [crossO] at hx⟩
  | b :: bs, xs, h, hb => by
    have hp := pass_in xs b h (hb b (by simp))
    have ih := cross_in bs (passO xs b).1 hp.1 (fun x hx => hb x (by simp [hx]))
    refine ⟨ih.1, fun x hx => ?_⟩
    simp only [crossO, List.mem_cons] at hx
    rcases hx with rfl | hx
    · exact hp.2
    · exact ih.2 x hx

/-- A row of operations in a block of n cells. -/
structure OrB (g n : Nat) (A : List Xo) (w : World) : Prop where
  row : ∃ cs, RowAt g cs 37 w ∧ cs.size = n
  at_ : OsAt g 0 A w
  le : A.length * 4 ≤ n
theorem OrB.later {g n : Nat} {A : List Xo} {w w' : World} (h : OrB g n A w) (hb : Below w.heap.size w w') : OrB g n A w' := by
  obtain ⟨⟨cs, h1, h2⟩, h3, h4⟩ := h
  exact ⟨⟨cs, h1.later hb, h2⟩, h3.later hb, h4⟩
theorem OrB.lt {g n : Nat} {A : List Xo} {w : World} (h : OrB g n A w) : g < w.heap.size := by
  obtain ⟨⟨cs, h1, h2⟩, h3, h4⟩ := h
  exact h1.lt
theorem OrB.in {g n : Nat} {A : List Xo} {w : World} (h : OrB g n A w) {i : Nat} {x : Xo} (hx : A[i]? = some x) : CsIn g (i * 4) (ov x) w := by
  have := h.at_ i x hx
  rwa [Nat.zero_add] at this
theorem OrB.there {g n : Nat} {A : List Xo} {w : World} (h : OrB g n A w) {i : Nat} (hi : i < A.length) : w.there g (i * 4) 4 := fun j hj => by
  obtain ⟨⟨cs, h1, h2⟩, h3, h4⟩ := h
  refine ⟨?_, Lib.frozen_of_heap h1 _⟩
  rw [h1.cell, Array.getElem?_eq_getElem (by omega)]
  rfl
theorem row_setCells {g n : Nat} : ∀ (vs : List Value) (o_ : Nat) (w : World), (∃ cs, RowAt g cs 37 w ∧ cs.size = n) → ∃ cs, RowAt g cs 37 (w.setCells g o_ vs) ∧ cs.size = n
  | [], _, _, h => h
  | v :: r, o_, w, ⟨cs, h1, h2⟩ => row_setCells r (o_ + 1) _ ⟨cs.setIfInBounds o_ v, heap_setCell_at h1 o_ v, by simpa using h2⟩
theorem OrB.put {g n : Nat} {A : List Xo} {w : World} (h : OrB g n A w) {i : Nat} (hi : i < A.length) (x : Xo) : OrB g n (A.set i x) (w.setCells g (i * 4) (ov x).toList) := by
  have hr := row_setCells (ov x).toList (i * 4) w h.row
  have hth := h.there hi
  have hg : g < (w.setCells g (i * 4) (ov x).toList).heap.size := by
    obtain ⟨cs, h1, _⟩ := hr
    exact h1.lt
  refine ⟨hr, fun k y hy => ⟨hg, fun j v hv => ?_⟩, by rw [List.length_set]; exact h.le⟩
  have hj : j < 4 := by
    have := (Array.getElem?_eq_some_iff.1 hv).1
    simpa [ov] using this
  rw [Nat.zero_add]
  by_cases q : i = k
  · subst q
    rw [List.getElem?_set_self hi, Option.some.injEq] at hy
    subst hy
    exact World.rangeAt_setCells_same w g (i * 4) (ov x).toList (by simpa [ov] using hth) j v (by simpa using hv)
  · rw [List.getElem?_set_ne q] at hy
    have h0 : w.cell? ⟨g, k * 4 + j, none⟩ = some v := (h.in hy).2 j v hv
    rw [World.cell?_setCells_out g (ov x).toList (i * 4) w ⟨g, k * 4 + j, none⟩ (fun _ _ => by
      show k * 4 + j < i * 4 ∨ i * 4 + (ov x).toList.length ≤ k * 4 + j
      simp [ov]
      omega)]
    exact h0
theorem OrB.other {g n h : Nat} {A : List Xo} {w : World} (k : OrB g n A w) (hne : ¬ g = h) (o_ : Nat) (vs : List Value) : OrB g n A (w.setCells h o_ vs) := by
  have hb := World.heap_setCells_other w h o_ vs k.lt hne
  have hs := (World.keptBut_setCells h (may := fun _ => True) vs o_ w (fun _ _ => trivial))
  obtain ⟨⟨cs, h1, h2⟩, h3, h4⟩ := k
  refine ⟨⟨cs, hb.trans h1, h2⟩, fun i x hx => ?_, h4⟩
  obtain ⟨q1, q2⟩ := h3 i x hx
  have hr : RowAt g cs 37 (w.setCells h o_ vs) := hb.trans h1
  refine ⟨hr.lt, fun j v hv => ?_⟩
  rw [← q2 j v hv]
  exact World.cell?_of_block hb
theorem OrB.sl {g n c : Nat} {A : List Xo} {w : World} (h : OrB g n A w) : SlO w (.slice (some ⟨g, 0, none⟩) A.length c) A := .inr ⟨g, 0, c, rfl, h.at_⟩
theorem OwnO.orb {base : Nat} {v : Value} {l : List Xo} {w : World} (h : OwnO base v l w) (hl : l ≠ []) : ∃ g c n, base ≤ g ∧ v = .slice (some ⟨g, 0, none⟩) l.length c ∧ OrB g n l w ∧ l.length ≤ c := by
  obtain ⟨g, c, h1, h2, h3, h4, h5⟩ := h.room hl
  refine ⟨g, c, c * 4, h1, h2, ⟨?_, h3, by omega⟩, h4⟩
  rcases h.2 with ⟨h6, hn⟩ | ⟨g', cap, cur, h6, _, h7, _, _, h8, _⟩
  · exact absurd (List.length_eq_zero_iff.1 hn) hl
  · rw [h2] at h6
    cases h6
    exact ⟨cur, h7, h8⟩
theorem wpL_storeQ {ops : Array Oper} {rest : List Oper} {o : Oper} {A : Act} {w : World} {Q : Exit → Act → World → Prop} (hgd : o.guard = none) (x y : Operand) (ho : o.op = .store 37 x y) {g off : Nat} (hx : A.eval x = .pointer (some ⟨g, off, none⟩)) {e : Xo} (hy : A.eval y = .agg (ov e)) (ht : w.there g off 4)
    (k : wpList Tryd.prog ops Q rest (A.put o.dst undef) (w.setCells g off (ov e).toList)) : wpList Tryd.prog ops Q (o :: rest) A w :=
  wpList_store_mid hgd _ x y ho g off (ov e) hx hy ht (o_size e) (by simp [ov, Value.oneCell']) k
end Go.Proofs.YtdafkakigigdeaaDoor
