/-
  What is read as an entry is that number's numeral; what is read as a clock is its text.
-/
import Derived.Test.YtcfefgcibdpmeaaDoorCkParP
import Derived.Lib.ItoaNum
namespace Go.Proofs.YtcfefgcibdpmeaaDoor
open Go.Lib
set_option maxRecDepth 100000

theorem dec_small {b : UInt8} (h1 : 48 ≤ (b.toNat : Int)) (h2 : (b.toNat : Int) ≤ 57) : decDigits ((b.toNat : Int) - 48).toNat = [b] := by
  rw [decDigits, dif_pos (by omega)]
  congr 1
  apply UInt8.toNat_inj.1
  rw [UInt8.toNat_ofNat']
  omega
theorem dec_more {m : Int} {b : UInt8} (hm : 0 < m) (h1 : 48 ≤ (b.toNat : Int)) (h2 : (b.toNat : Int) ≤ 57) : decDigits (10 * m + ((b.toNat : Int) - 48)).toNat = decDigits m.toNat ++ [b] := by
  rw [decDigits, dif_neg (by omega)]
  have e1 : (10 * m + ((b.toNat : Int) - 48)).toNat / 10 = m.toNat := by omega
  have e2 : (10 * m + ((b.toNat : Int) - 48)).toNat % 10 = b.toNat - 48 := by omega
  rw [e1, e2]
  congr 2
  apply UInt8.toNat_inj.1
  rw [UInt8.toNat_ofNat']
  omega

/-- Further digits. -/
theorem ent_dec : ∀ (d : List UInt8) (m : Int) (n : Nat) (m' : Int) (n' : Nat), entR d m n = (m', n') → 0 ≤ m → 0 < n → 0 ≤ m' ∧ decDigits m'.toNat = decDigits m.toNat ++ d.take (n' - n)
  | [], m, n, m', n', h, h0, _ => by cases h; simp [h0]
  | b :: l, m, n, m', n', h, h0, hn => by
    rw [entR] at h
    cases hg : goOn m n b.toNat with
    | true =>
      rw [hg, if_pos rfl] at h
      obtain ⟨g1, g2, _⟩ := goOn_true hg
      have g3 : m ≠ 0 ∨ (n : Int) ≤ 0 := by
        unfold goOn at hg
        simp only [Bool.and_eq_true, decide_eq_true_eq] at hg
        exact hg.2.1
      have hle := (entR_le l (10 * m + (b.toNat - 48)) (n + 1)).1
      rw [h] at hle
      have hle' : n + 1 ≤ n' := hle
      obtain ⟨h1, h2⟩ := ent_dec l (10 * m + (b.toNat - 48)) (n + 1) m' n' h (by omega) (by omega)
      refine ⟨h1, ?_⟩
      rw [h2, dec_more (by omega) g1 g2, show n' - n = (n' - (n + 1)) + 1 by omega, List.take_succ_cons, List.append_assoc]
      rfl
    | false =>
      rw [hg, if_neg (by simp)] at h
      cases h
      simp [h0]
/-- An entry is its numeral. -/
theorem ent_itoa {d : List UInt8} {m : Int} {n : Nat} (h : entR d 0 0 = (m, n)) (hn : 0 < n) : 0 ≤ m ∧ d.take n = itoa m := by
  match d, h with
  | [], h => cases h; omega
  | b :: l, h =>
    rw [entR] at h
    cases hg : goOn 0 ((0 : Nat) : Int) b.toNat with
    | true =>
      rw [hg, if_pos rfl] at h
      obtain ⟨g1, g2, _⟩ := goOn_true hg
      have hle := (entR_le l (10 * 0 + (b.toNat - 48)) (0 + 1)).1
      rw [h] at hle
      have hle' : 0 + 1 ≤ n := hle
      obtain ⟨h1, h2⟩ := ent_dec l (10 * 0 + (b.toNat - 48)) (0 + 1) m n h (by omega) (by omega)
      refine ⟨h1, ?_⟩
      have e : (10 * 0 + ((b.toNat : Int) - 48)) = (b.toNat : Int) - 48 := by omega
      unfold itoa
      rw [if_neg (by omega), h2, e, dec_small g1 g2, show n = (n - (0 + 1)) + 1 by omega, List.take_succ_cons]
      rfl
    | false =>
      rw [hg, if_neg (by simp)] at h
      cases h
      omega

/-- The text of the entries from r on, n in all, a dot ahead of each but the first. -/
def txtC (a : List Int) (r : Nat) : Nat → List UInt8
  | 0 => []
  | n + 1 => (if r = 0 then [] else [46]) ++ itoa (en a r) ++ txtC a (r + 1) n

theorem par_txt (l : List UInt8) : ∀ (j r q : Nat) (a a' : List Int) (n p : Nat), 8 - r = j → r < 8 → q ≤ l.length → a.length = 8 → parR l j q a = (some (a', n), p) →
    r < n ∧ n ≤ 8 ∧ (∀ i, i < r → en a' i = en a i) ∧ a'.length = 8 ∧ (if r = 0 then [] else [46]) ++ l.drop q = txtC a' r (n - r)
  | 0, r, q, a, a', n, p, hj, hr, _, _, _ => by omega
  | k + 1, r, q, a, a', n, p, hj, hr, hq, ha, h => by
    have hk7 : 7 - k = r := by omega
    have hk8 : 8 - k = r + 1 := by omega
    obtain ⟨m, hm⟩ : ∃ m, (entR (l.drop q) 0 0).1 = m := ⟨_, rfl⟩
    obtain ⟨len, hlen⟩ : ∃ m, (entR (l.drop q) 0 0).2 = m := ⟨_, rfl⟩
    have he : entR (l.drop q) 0 0 = (m, len) := by rw [← hm, ← hlen]
    rw [parR, hm, hlen, hk7, hk8] at h
    by_cases hA : 0 < len ∧ q + len = l.length
    · rw [if_pos hA] at h
      obtain ⟨_, ht⟩ := ent_itoa he hA.1
      rw [List.take_of_length_le (by rw [List.length_drop]; omega)] at ht
      simp only [Prod.mk.injEq, Option.some.injEq] at h
      obtain ⟨⟨rfl, rfl⟩, rfl⟩ := h
      refine ⟨by omega, by omega, fun i hi => by rw [getD_set _ _ _ _ (by omega), if_neg (by omega)], by simpa using ha, ?_⟩
      rw [show r + 1 - r = 1 by omega, txtC, txtC, en_set (by omega), ht, List.append_nil]
    · rw [if_neg hA] at h
      by_cases hC : len = 0 ∨ l[q + len]? ≠ some 46 ∨ k = 0
      · rw [if_pos hC] at h
        simp at h
      · rw [if_neg hC] at h
        have c1 : 0 < len := by omega
        have c2 : l[q + len]? = some 46 := Classical.byContradiction fun x => hC (.inr (.inl x))
        have c3 : k ≠ 0 := fun x => hC (.inr (.inr x))
        obtain ⟨c4, c5⟩ := List.getElem?_eq_some_iff.1 c2
        obtain ⟨h1, h2, h3, h4, h5⟩ := par_txt l k (r + 1) (q + len + 1) (a.set r m) a' n p (by omega) (by omega) (by omega) (by simpa using ha) h
        obtain ⟨_, ht⟩ := ent_itoa he c1
        refine ⟨by omega, h2, fun i hi => by rw [h3 i (by omega), getD_set _ _ _ _ (by omega), if_neg (by omega)], h4, ?_⟩
        have er : en a' r = m := by rw [h3 r (by omega), en_set (by omega)]
        have hsplit : l.drop q = itoa m ++ [46] ++ l.drop (q + len + 1) := by
          rw [← List.take_append_drop len (l.drop q), ht, List.drop_drop, List.drop_eq_getElem_cons c4, c5, List.append_assoc]
          rfl
        rw [if_neg (by omega)] at h5
        rw [show n - r = (n - (r + 1)) + 1 by omega, txtC, er, hsplit, ← h5]
        simp [List.append_assoc]
/-- What is read as a clock is its text. -/
theorem ref_txt {l : List UInt8} {a : List Int} {n p : Nat} (h : refP l 0 0 0 ck0 = (some (a, n), p)) : 0 < n ∧ n ≤ 8 ∧ a.length = 8 ∧ l = txtC a 0 n := by
  rw [← par_ref0] at h
  obtain ⟨h1, h2, _, h4, h5⟩ := par_txt l 8 0 0 ck0 a n p rfl (by omega) (Nat.zero_le _) rfl h
  exact ⟨h1, h2, h4, by simpa using h5⟩
end Go.Proofs.YtcfefgcibdpmeaaDoor
