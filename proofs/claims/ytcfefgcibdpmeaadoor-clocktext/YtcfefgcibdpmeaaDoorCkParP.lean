/-
  The document's reading of a clock, byte by byte, and the program's, entry by entry, are one.
-/
import Derived.Test.YtcfefgcibdpmeaaDoorCkParse
namespace Go.Proofs.YtcfefgcibdpmeaaDoor
set_option maxRecDepth 100000

/-- Byte by byte: at place i, in entry k, of which n digits are read. -/
def refP : List UInt8 → Nat → Nat → Nat → List Int → Option (List Int × Nat) × Nat
  | [], i, k, n, a => if n = 0 then (none, i) else (some (a, k + 1), i)
  | b :: l, i, k, n, a =>
    if goOn (en a k) n b.toNat then refP l (i + 1) k (n + 1) (a.set k (10 * en a k + (b.toNat - 48)))
    else if b = 46 ∧ 0 < n ∧ k < 7 then refP l (i + 1) (k + 1) 0 a
    else (none, i)

theorem set_en {a : List Int} {k : Nat} (hk : k < a.length) : a.set k (en a k) = a := by
  apply List.ext_getElem?
  intro j
  rw [List.getElem?_set]
  split
  · rename_i e; subst e
    first | rw [if_pos hk, List.getElem?_eq_getElem hk] | rw [List.getElem?_eq_getElem hk]
    exact congrArg some (by simp [en, hk])
  · rfl
theorem en_set {a : List Int} {k : Nat} (hk : k < a.length) (v : Int) : en (a.set k v) k = v := by
  rw [getD_set _ _ _ _ hk, if_pos rfl]
theorem ref_ent : ∀ (d : List UInt8) (i k n : Nat) (a : List Int) (m : Int) (n' : Nat), entR d (en a k) n = (m, n') → k < a.length →
    refP d i k n a = refP (d.drop (n' - n)) (i + (n' - n)) k n' (a.set k m) ∧ ∀ b rest, d.drop (n' - n) = b :: rest → goOn m n' b.toNat = false
  | [], i, k, n, a, m, n', h, hk => by
    cases h
    rw [set_en hk]
    simp
  | b :: l, i, k, n, a, m, n', h, hk => by
    rw [entR] at h
    cases hg : goOn (en a k) n b.toNat with
    | true =>
      rw [hg, if_pos rfl] at h
      have hle := (entR_le l (10 * en a k + (b.toNat - 48)) (n + 1)).1
      rw [h] at hle
      have hle' : n + 1 ≤ n' := hle
      obtain ⟨j, rfl⟩ : ∃ j, n' = n + 1 + j := ⟨n' - (n + 1), by omega⟩
      obtain ⟨h1, h2⟩ := ref_ent l (i + 1) k (n + 1) (a.set k (10 * en a k + (b.toNat - 48))) m (n + 1 + j) (by rw [en_set hk]; exact h) (by simpa using hk)
      have e1 : n + 1 + j - (n + 1) = j := by omega
      have e2 : n + 1 + j - n = j + 1 := by omega
      rw [e1] at h1 h2
      rw [e2, List.drop_succ_cons]
      refine ⟨?_, h2⟩
      rw [refP, hg, if_pos rfl, h1, List.set_set, show i + 1 + j = i + (j + 1) by omega]
    | false =>
      rw [hg, if_neg (by simp)] at h
      cases h
      rw [set_en hk]
      simp only [Nat.sub_self, List.drop_zero, Nat.add_zero, true_and]
      intro b' rest e
      cases e
      exact hg

theorem par_ref (l : List UInt8) : ∀ (j r q : Nat) (a : List Int), 8 - r = j → r < 8 → q ≤ l.length → a.length = 8 → (∀ i, r ≤ i → i < 8 → en a i = 0) → parR l j q a = refP (l.drop q) q r 0 a
  | 0, r, q, a, hj, hr, _, _, _ => by omega
  | k + 1, r, q, a, hj, hr, hq, ha, h0 => by
    have hk7 : 7 - k = r := by omega
    have hk8 : 8 - k = r + 1 := by omega
    obtain ⟨m, hm⟩ : ∃ m, (entR (l.drop q) 0 0).1 = m := ⟨_, rfl⟩
    obtain ⟨len, hlen⟩ : ∃ m, (entR (l.drop q) 0 0).2 = m := ⟨_, rfl⟩
    have hle := (entR_le (l.drop q) 0 0).2
    rw [List.length_drop] at hle
    have he : entR (l.drop q) (en a r) 0 = (m, len) := by rw [h0 r (Nat.le_refl _) hr, ← hm, ← hlen]
    obtain ⟨h1, h2⟩ := ref_ent (l.drop q) q r 0 a m len he (by omega)
    rw [Nat.sub_zero, List.drop_drop] at h1 h2
    rw [parR, hm, hlen, hk7, hk8, h1]
    rw [hlen] at hle
    by_cases hA : 0 < len ∧ q + len = l.length
    · rw [if_pos hA, List.drop_eq_nil_of_le (by omega), refP, if_neg (by omega)]
    · rw [if_neg hA]
      cases hd : l.drop (q + len) with
      | nil =>
        have := List.drop_eq_nil_iff.1 hd
        have hz : len = 0 := by omega
        rw [if_pos (.inl hz), refP, if_pos hz]
      | cons b rest =>
        have hb : l[q + len]? = some b := by
          have := congrArg (·[0]?) hd
          simpa using this
        have hrest : l.drop (q + len + 1) = rest := by
          rw [← List.drop_drop, hd]; rfl
        have hg := h2 b rest hd
        have hR : refP (b :: rest) (q + len) r len (a.set r m) = if b = 46 ∧ 0 < len ∧ r < 7 then refP rest (q + len + 1) (r + 1) 0 (a.set r m) else (none, q + len) := by
          rw [refP, en_set (by omega), hg]; rfl
        rw [hR]
        by_cases hc : b = 46 ∧ 0 < len ∧ r < 7
        · rw [if_pos hc, if_neg (by rw [hb, hc.1]; rintro (h | h | h) <;> first | omega | exact h rfl)]
          have hlt : q + len < l.length := (List.getElem?_eq_some_iff.1 hb).1
          rw [par_ref l k (r + 1) (q + len + 1) (a.set r m) (by omega) (by omega) (by omega) (by simpa using ha) (fun i h3 h4 => by rw [getD_set _ _ _ _ (by omega), if_neg (by omega)]; exact h0 i (by omega) h4), hrest]
        · rw [if_neg hc, if_pos]
          rw [hb]
          by_cases h3 : len = 0
          · exact .inl h3
          · by_cases h4 : b = 46
            · exact .inr (.inr (by have : ¬ r < 7 := fun h => hc ⟨h4, by omega, h⟩; omega))
            · exact .inr (.inl (by simpa using h4))
theorem en_ck0 {i : Nat} (h : i < 8) : en ck0 i = 0 := by
  match i, h with
  | 0, _ | 1, _ | 2, _ | 3, _ | 4, _ | 5, _ | 6, _ | 7, _ => rfl
theorem par_ref0 (l : List UInt8) : parR l 8 0 ck0 = refP l 0 0 0 ck0 :=
  par_ref l 8 0 0 ck0 rfl (by omega) (Nat.zero_le _) rfl (fun _ _ h => en_ck0 h)
end Go.Proofs.YtcfefgcibdpmeaaDoor
