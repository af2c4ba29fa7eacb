
/-
  A number that was written is read again.
-/
import Derived.Test.YtildmcmjpmidgaaDoorPure
namespace Go.Proofs.YtildmcmjpmidgaaDoor

theorem form_ne (n : Nat) : formN n ≠ [] := by
  by_cases h : n < 128
  · rw [form_small h]; simp
  · rw [form_big h]; simp

theorem back_len : ∀ (k n : Nat), n < 128 ^ (k + 1) → (formN n).length ≤ k + 1
  | 0, n, h => by rw [form_small (by simpa using h)]; simp
  | k + 1, n, h => by
    by_cases hn : n < 128
    · rw [form_small hn]; simp
    · rw [form_big hn]
      have := back_len k (n / 128) (by rw [Nat.pow_succ] at h; omega)
      simp; omega

theorem span_form (n : Nat) (r : List UInt8) : ∀ i, i + (formN n).length ≤ 9 → spanFrom i (formN n ++ r) = .ok (i + (formN n).length) := by
  induction n using Nat.strongRecOn with
  | _ n ih =>
    intro i hi
    by_cases h : n < 128
    · rw [form_small h]
      have hb : UInt8.ofNat n < 128 := by simp [UInt8.lt_iff_toNat_lt]; omega
      simp [spanFrom, hb]
    · rw [form_big h] at hi ⊢
      have hb : ¬ UInt8.ofNat (n % 128 + 128) < 128 := by simp [UInt8.lt_iff_toNat_lt]; omega
      have h0 : 0 < (formN (n / 128)).length := List.length_pos_iff.2 (form_ne _)
      simp only [List.length_cons] at hi
      have := ih (n / 128) (by omega) (i + 1) (by omega)
      simp only [List.cons_append, spanFrom, if_neg hb, List.length_cons]
      rw [if_neg (by omega), this]
      congr 1
      omega

theorem span_cut (n : Nat) : ∀ i k, i + (formN n).length ≤ 9 → k < (formN n).length → spanFrom i ((formN n).take k) = .error 6 := by
  induction n using Nat.strongRecOn with
  | _ n ih =>
    intro i k hi hk
    cases k with
    | zero => simp [spanFrom]
    | succ k =>
      by_cases h : n < 128
      · rw [form_small h] at hk; simp at hk
      · rw [form_big h] at hi hk ⊢
        have hb : ¬ UInt8.ofNat (n % 128 + 128) < 128 := by simp [UInt8.lt_iff_toNat_lt]; omega
        simp only [List.length_cons] at hi hk
        simp only [List.take_succ_cons, spanFrom, if_neg hb]
        rw [if_neg (by omega)]
        exact ih (n / 128) (by omega) (i + 1) k (by omega) (by omega)

theorem form_last (n : Nat) : 1 < (formN n).length → (formN n)[(formN n).length - 1]? ≠ some 0 := by
  induction n using Nat.strongRecOn with
  | _ n ih =>
    intro hl
    by_cases h : n < 128
    · rw [form_small h] at hl; simp at hl
    · rw [form_big h]
      have h0 : 0 < (formN (n / 128)).length := List.length_pos_iff.2 (form_ne _)
      simp only [List.length_cons, Nat.add_sub_cancel]
      obtain ⟨m, hm⟩ : ∃ m, (formN (n / 128)).length = m + 1 := ⟨_, (Nat.succ_pred_eq_of_pos h0).symm⟩
      rw [hm, List.getElem?_cons_succ]
      by_cases h1 : n / 128 < 128
      · rw [form_small h1] at hm ⊢
        simp at hm
        subst hm
        simp only [List.getElem?_cons_zero, ne_eq, Option.some.injEq]
        intro e
        have := congrArg UInt8.toNat e
        simp at this
        omega
      · have := ih (n / 128) (by omega) (by
          rw [form_big h1]
          have := List.length_pos_iff.2 (form_ne (n / 128 / 128))
          simp; omega)
        rw [hm] at this
        simpa using this

/-- A number is read again. -/
theorem numR_back {n : Nat} {most : Int} (r : List UInt8) (h : n < 9223372036854775808) (hm : (n : Int) ≤ most) : numR (formN n ++ r) most = .ok (n, (formN n).length) := by
  have hl : (formN n).length ≤ 9 := back_len 8 n (by omega)
  have h0 : 0 < (formN n).length := List.length_pos_iff.2 (form_ne _)
  have hs := span_form n r 0 (by omega)
  rw [Nat.zero_add] at hs
  unfold numR
  rw [hs]
  simp only
  have hz : ¬ (1 < (formN n).length ∧ (formN n ++ r)[(formN n).length - 1]? = some 0) := by
    intro ⟨h1, h2⟩
    rw [List.getElem?_append_left (by omega)] at h2
    exact form_last n h1 h2
  rw [if_neg hz, List.take_left, numv_form, if_neg (by omega)]

end Go.Proofs.YtildmcmjpmidgaaDoor
