
/-
  Plain mathematics of clocks: rows of eight numbers.
-/

namespace Go.Proofs.YteffpnjgchihpaaGreatDoor

/-- An entry. -/
def en (x : List Int) (k : Nat) : Int := x.getD k 0
/-- The greater of two, as the builtin says it. -/
def mx (x y : Int) : Int := if y > x then y else x
def mn (x y : Int) : Int := if y < x then y else x
/-- Merge and Meet. -/
def mrg (a b : List Int) : List Int := List.zipWith mx a b
def mee (a b : List Int) : List Int := List.zipWith mn a b
/-- Covers. -/
def cov (a b : List Int) : Bool := (List.range 8).all fun k => decide (en b k ≤ en a k)

theorem ck_ext {x y : List Int} (hx : x.length = 8) (hy : y.length = 8) (h : ∀ k, k < 8 → en x k = en y k) : x = y := by
  apply List.ext_getElem (by omega)
  intro i h1 h2
  have := h i (by omega)
  simpa [en, List.getD, List.getElem?_eq_getElem h1, List.getElem?_eq_getElem h2] using this
theorem getD_set (x : List Int) (k j : Nat) (v : Int) (hk : k < x.length) : en (x.set k v) j = if j = k then v else en x j := by
  simp only [en, List.getD, List.getElem?_set]
  by_cases h : k = j
  · subst h; simp [hk]
  · have : ¬ j = k := fun e => h e.symm
    simp [h, this]
theorem mrg_len {a b : List Int} (ha : a.length = 8) (hb : b.length = 8) : (mrg a b).length = 8 := by simp [mrg]; omega
theorem mee_len {a b : List Int} (ha : a.length = 8) (hb : b.length = 8) : (mee a b).length = 8 := by simp [mee]; omega
theorem mrg_get {a b : List Int} (ha : a.length = 8) (hb : b.length = 8) {k : Nat} (hk : k < 8) : en (mrg a b) k = mx (en a k) (en b k) := by
  simp [mrg, en, List.getD, List.getElem?_zipWith, List.getElem?_eq_getElem (show k < a.length by omega), List.getElem?_eq_getElem (show k < b.length by omega)]
theorem mee_get {a b : List Int} (ha : a.length = 8) (hb : b.length = 8) {k : Nat} (hk : k < 8) : en (mee a b) k = mn (en a k) (en b k) := by
  simp [mee, en, List.getD, List.getElem?_zipWith, List.getElem?_eq_getElem (show k < a.length by omega), List.getElem?_eq_getElem (show k < b.length by omega)]
theorem cov_iff {a b : List Int} : cov a b = true ↔ ∀ k, k < 8 → en b k ≤ en a k := by
  rw [cov, List.all_eq_true]
  exact ⟨fun h k hk => of_decide_eq_true (h k (List.mem_range.2 hk)), fun h k hk => decide_eq_true (h k (List.mem_range.1 hk))⟩
theorem cov_mrg {a b : List Int} (ha : a.length = 8) (hb : b.length = 8) : (mrg a b == a) = cov a b := by
  rw [Bool.eq_iff_iff, cov_iff, beq_iff_eq]
  constructor
  · intro h k hk
    have := mrg_get ha hb hk
    rw [h] at this
    unfold mx at this
    split at this <;> omega
  · intro h
    refine ck_ext (mrg_len ha hb) ha fun k hk => ?_
    rw [mrg_get ha hb hk, mx]
    have := h k hk
    split <;> omega
end Go.Proofs.YteffpnjgchihpaaGreatDoor
