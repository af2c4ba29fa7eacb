/-
  What is read is a clock; what Text writes of entries of 0 or more is read again, and nothing else.
-/
import Derived.Test.YtcfefgcibdpmeaaDoorCkDig
import Derived.Test.YtcfefgcibdpmeaaDoorCkOpen
namespace Go.Proofs.YtcfefgcibdpmeaaDoor
open Go.Lib
set_option maxRecDepth 100000

/-- A list of eight numbers, 0 or more, no greater than an int may be. -/
def Nk (a : List Int) : Prop := a.length = 8 ∧ ∀ j, j < 8 → 0 ≤ en a j ∧ en a j ≤ 9223372036854775807
theorem Nk.ck {a : List Int} (h : Nk a) : Ck a := ⟨h.1, fun k hk => ⟨by have := h.2 k hk; omega, (h.2 k hk).2⟩⟩
theorem nk0 : Nk ck0 := ⟨rfl, fun j hj => by rw [en_ck0 hj]; omega⟩
theorem Nk.put {a : List Int} (h : Nk a) {k : Nat} (hk : k < 8) {v : Int} (h1 : 0 ≤ v) (h2 : v ≤ 9223372036854775807) : Nk (a.set k v) := by
  refine ⟨by simpa using h.1, fun j hj => ?_⟩
  rw [getD_set _ _ _ _ (by have := h.1; omega)]
  split
  · exact ⟨h1, h2⟩
  · exact h.2 j hj
theorem refP_nk : ∀ (l : List UInt8) (i k n : Nat) (a a' : List Int) (n' p : Nat), refP l i k n a = (some (a', n'), p) → k < 8 → Nk a → Nk a'
  | [], i, k, n, a, a', n', p, h, hk, ha => by
    rw [refP] at h
    split at h
    · simp at h
    · simp only [Prod.mk.injEq, Option.some.injEq] at h
      obtain ⟨⟨rfl, _⟩, _⟩ := h
      exact ha
  | b :: l, i, k, n, a, a', n', p, h, hk, ha => by
    rw [refP] at h
    cases hg : goOn (en a k) n b.toNat with
    | true =>
      rw [hg, if_pos rfl] at h
      obtain ⟨g1, g2, g3⟩ := goOn_true hg
      have := ha.2 k hk
      exact refP_nk l _ k _ _ a' n' p h hk (ha.put hk (by omega) (by omega))
    | false =>
      rw [hg, if_neg (by simp)] at h
      split at h
      · rename_i h2
        exact refP_nk l _ (k + 1) 0 a a' n' p h (by omega) ha
      · simp at h
theorem refP_ck {l : List UInt8} {a : List Int} {n p : Nat} (h : refP l 0 0 0 ck0 = (some (a, n), p)) : Ck a := (refP_nk l 0 0 0 ck0 a n p h (by omega) nk0).ck

theorem goOn_is {n k b : Int} (h1 : 48 ≤ b) (h2 : b ≤ 57) (h3 : n ≠ 0 ∨ k ≤ 0) (h4 : n ≤ (9223372036854775807 - (b - 48)) / 10) : goOn n k b = true := by
  unfold goOn
  rw [decide_eq_true (p := (48 ≤ b ∧ b ≤ 57)) ⟨h1, h2⟩, decide_eq_true h3, decide_eq_true h4]
  rfl
theorem goOn_not {n k b : Int} (h : b < 48) : goOn n k b = false := by
  unfold goOn
  rw [decide_eq_false (by omega)]
  rfl
/-- A numeral is read as its number. -/
theorem ref_dec : ∀ (m : Nat) (rest : List UInt8) (i k : Nat) (a : List Int), m ≤ 9223372036854775807 → k < a.length → en a k = 0 →
    ∃ len, 0 < len ∧ refP (decDigits m ++ rest) i k 0 a = refP rest (i + len) k len (a.set k (m : Int)) := by
  intro m
  induction m using Nat.strongRecOn with
  | ind m ih =>
    intro rest i k a hm hk h0
    rw [decDigits]
    split
    · rename_i h
      refine ⟨1, by omega, ?_⟩
      have e : ((UInt8.ofNat (48 + m)).toNat : Int) = 48 + m := by
        rw [UInt8.toNat_ofNat']
        omega
      rw [List.singleton_append, refP, h0, e, goOn_is (by omega) (by omega) (.inr (by omega)) (by omega), if_pos rfl]
      congr 2
      omega
    · rename_i h
      obtain ⟨len, hl, e1⟩ := ih (m / 10) (by omega) ([UInt8.ofNat (48 + m % 10)] ++ rest) i k a (by omega) hk h0
      refine ⟨len + 1, by omega, ?_⟩
      have e : ((UInt8.ofNat (48 + m % 10)).toNat : Int) = 48 + m % 10 := by
        rw [UInt8.toNat_ofNat']
        omega
      rw [List.append_assoc, e1, List.singleton_append, refP, en_set hk, e, goOn_is (by omega) (by omega) (.inl (by omega)) (by omega), if_pos rfl, List.set_set]
      have ev : 10 * ((m / 10 : Nat) : Int) + (48 + (m : Int) % 10 - 48) = (m : Int) := by omega
      first | rw [ev, Nat.add_assoc] | (trace_state; fail)
theorem ref_itoa {m : Int} (h0 : 0 ≤ m) (hm : m ≤ 9223372036854775807) (rest : List UInt8) (i k : Nat) (a : List Int) (hk : k < a.length) (ha : en a k = 0) :
    ∃ len, 0 < len ∧ refP (itoa m ++ rest) i k 0 a = refP rest (i + len) k len (a.set k m) := by
  obtain ⟨len, h1, h2⟩ := ref_dec m.toNat rest i k a (by omega) hk ha
  refine ⟨len, h1, ?_⟩
  unfold itoa
  rw [if_neg (by omega), h2, show ((m.toNat : Nat) : Int) = m by omega]
/-- A numeral below 0 is not read. -/
theorem ref_neg {m : Int} (h0 : m < 0) (rest : List UInt8) (i k : Nat) (a : List Int) : refP (itoa m ++ rest) i k 0 a = (none, i) := by
  unfold itoa
  rw [if_pos h0, List.cons_append, refP, goOn_not (by decide), if_neg (by simp), if_neg (fun h => absurd h.1 (by decide))]
/-- The first n entries, and 0. -/
def frC (a : List Int) (n : Nat) : List Int := (List.range 8).map fun i => if i < n then en a i else 0
theorem frC_len (a : List Int) (n : Nat) : (frC a n).length = 8 := by simp [frC]
theorem frC_en (a : List Int) (n : Nat) {i : Nat} (hi : i < 8) : en (frC a n) i = if i < n then en a i else 0 := by
  simp [en, frC, List.getD, hi]
theorem frC_step (a : List Int) {n : Nat} (hn : n < 8) : (frC a n).set n (en a n) = frC a (n + 1) := by
  apply List.ext_getElem?
  intro i
  rw [List.getElem?_set]
  by_cases hi : i < 8
  · by_cases e : n = i
    · subst e
      simp [frC, hi]
    · rw [if_neg e]
      simp only [frC, List.getElem?_map, List.getElem?_range hi, Option.map_some]
      by_cases hl : i < n
      · rw [if_pos hl, if_pos (by omega)]
      · rw [if_neg hl, if_neg (by omega)]
  · rw [if_neg (by omega)]
    simp [frC, hi]
/-- From the entry r on. -/
theorem ref_back (a : List Int) : ∀ (n r i : Nat), r + n ≤ 8 → 0 < n → (∀ j, j < 8 → en a j ≤ 9223372036854775807) →
    ∀ l, (if r = 0 then [] else [46]) ++ l = txtC a r n →
    ((∀ j, r ≤ j → j < r + n → 0 ≤ en a j) → ∃ p, refP l i r 0 (frC a r) = (some (frC a (r + n), r + n), p)) ∧ ((∃ j, r ≤ j ∧ j < r + n ∧ en a j < 0) → ∃ p, refP l i r 0 (frC a r) = (none, p))
  | 0, r, i, _, h, _, _, _ => by omega
  | n + 1, r, i, hr, _, hb, l, hl => by
    rw [txtC, List.append_assoc] at hl
    have hl' : l = itoa (en a r) ++ txtC a (r + 1) n := List.append_cancel_left hl
    have hlen := frC_len a r
    have h0 : en (frC a r) r = 0 := by rw [frC_en a r (by omega), if_neg (by omega)]
    by_cases hneg : en a r < 0
    · refine ⟨fun h => by have := h r (by omega) (by omega); omega, fun _ => ⟨i, ?_⟩⟩
      rw [hl', ref_neg hneg]
    · obtain ⟨len, hlen0, e1⟩ := ref_itoa (m := en a r) (by omega) (hb r (by omega)) (txtC a (r + 1) n) i r (frC a r) (by omega) h0
      rw [frC_step a (by omega)] at e1
      by_cases hn : n = 0
      · subst hn
        refine ⟨fun _ => ⟨i + len, ?_⟩, fun ⟨j, h1, h2, h3⟩ => ?_⟩
        · rw [hl', e1, txtC, refP, if_neg (by omega)]
        · have : j = r := by omega
          subst this
          omega
      · obtain ⟨l2, hl2⟩ : ∃ l2, txtC a (r + 1) n = [46] ++ l2 := by
          obtain ⟨n', rfl⟩ : ∃ n', n = n' + 1 := ⟨n - 1, by omega⟩
          exact ⟨itoa (en a (r + 1)) ++ txtC a (r + 1 + 1) n', by rw [txtC, if_neg (by omega), List.append_assoc]⟩
        obtain ⟨i1, i2⟩ := ref_back a n (r + 1) (i + len + 1) (by omega) (by omega) hb l2 (by rw [if_neg (by omega)]; exact hl2.symm)
        have e2 : refP l i r 0 (frC a r) = refP l2 (i + len + 1) (r + 1) 0 (frC a (r + 1)) := by
          rw [hl', e1, hl2, List.singleton_append, refP, goOn_not (by decide), if_neg (by simp), if_pos ⟨rfl, hlen0, by omega⟩]
        rw [show r + (n + 1) = r + 1 + n by omega, e2]
        refine ⟨fun h => i1 fun j h1 h2 => h j (by omega) (by omega), fun ⟨j, h1, h2, h3⟩ => i2 ⟨j, ?_, by omega, h3⟩⟩
        by_cases hj : j = r
        · subst hj; omega
        · omega
/-- May it be read again? -/
def fitC (a : List Int) (n : Nat) : Bool := decide (0 < n) && (List.range n).all fun j => decide (0 ≤ en a j)
theorem frC_zero (a : List Int) : frC a 0 = ck0 := by simp [frC, ck0]; decide
theorem back_txt {a : List Int} {n : Nat} (ha : Ck a) (hn : n ≤ 8) : ∃ p, refP (txtC a 0 n) 0 0 0 ck0 = (if fitC a n then some (frC a n, n) else none, p) := by
  by_cases h0 : n = 0
  · subst h0
    exact ⟨0, rfl⟩
  · obtain ⟨h1, h2⟩ := ref_back a n 0 0 (by omega) (by omega) (fun j hj => (ha.2 j hj).2) (txtC a 0 n) rfl
    rw [frC_zero, Nat.zero_add] at h1 h2
    by_cases hf : ∀ j, 0 ≤ j → j < n → 0 ≤ en a j
    · obtain ⟨p, e⟩ := h1 hf
      have : fitC a n = true := by
        unfold fitC
        rw [decide_eq_true (by omega), Bool.true_and, List.all_eq_true]
        intro j hj
        exact decide_eq_true (hf j (by omega) (by simpa using hj))
      exact ⟨p, by rw [this, if_pos rfl]; exact e⟩
    · have hx : ∃ j, 0 ≤ j ∧ j < n ∧ en a j < 0 := by
        apply Classical.byContradiction
        intro hc
        exact hf fun j h1 h2 => Classical.byContradiction fun h3 => hc ⟨j, h1, h2, by omega⟩
      obtain ⟨p, e⟩ := h2 hx
      obtain ⟨j, _, hj, hj0⟩ := hx
      have : fitC a n = false := by
        unfold fitC
        rw [Bool.and_eq_false_iff]
        right
        rw [List.all_eq_false]
        exact ⟨j, by simpa using hj, by simp; omega⟩
      exact ⟨p, by rw [this]; exact e⟩
end Go.Proofs.YtcfefgcibdpmeaaDoor
