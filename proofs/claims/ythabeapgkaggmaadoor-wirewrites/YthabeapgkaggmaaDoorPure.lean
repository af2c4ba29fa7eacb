
/-
  Numbers as bytes, and back: what the program's loops work out, in plain lists.
-/
import Derived.Test.YthabeapgkaggmaaDoorProg
namespace Go.Proofs.YthabeapgkaggmaaDoor

/-- How many bytes the number at the front has: ErrShort is 6, ErrForm 5. -/
def spanFrom (i : Nat) : List UInt8 → Except Nat Nat
  | [] => .error 6
  | b :: r => if b < 128 then .ok (i + 1) else if i + 1 = 9 then .error 5 else spanFrom (i + 1) r

/-- The digits' sum, the lowest first. -/
def numv : List UInt8 → Nat
  | [] => 0
  | b :: r => b.toNat % 128 + 128 * numv r

/-- P2.3: the number and how many bytes it has, or the reason's place: ErrRange is 1. -/
def numR (bs : List UInt8) (most : Int) : Except Nat (Nat × Nat) :=
  match spanFrom 0 bs with
  | .error c => .error c
  | .ok k => if 1 < k ∧ bs[k - 1]? = some 0 then .error 5 else if most < (numv (bs.take k) : Int) then .error 1 else .ok (numv (bs.take k), k)

/-- P2.1: the form of a number. -/
def formN (n : Nat) : List UInt8 := if n < 128 then [UInt8.ofNat n] else UInt8.ofNat (n % 128 + 128) :: formN (n / 128)
termination_by n
decreasing_by omega

theorem span_ok : ∀ (bs : List UInt8) (i k : Nat), spanFrom i bs = .ok k → i < k ∧ (i < 9 → k ≤ 9) ∧ k ≤ i + bs.length ∧ (∀ j, i + j + 1 < k → ∃ b, bs[j]? = some b ∧ ¬ b < 128) ∧ ∃ b, bs[k - i - 1]? = some b ∧ b < 128
  | [], i, k, h => by simp [spanFrom] at h
  | b :: r, i, k, h => by
    unfold spanFrom at h
    split at h
    · rename_i hb
      cases h
      refine ⟨by omega, by omega, by simp, fun j hj => by omega, b, ?_, hb⟩
      have : i + 1 - i - 1 = 0 := by omega
      rw [this]; rfl
    · rename_i hb
      split at h
      · cases h
      · rename_i h9
        obtain ⟨h1, h2, h3, h4, c, h5, h6⟩ := span_ok r (i + 1) k h
        refine ⟨by omega, fun hi => h2 (by omega), by simp; omega, fun j hj => ?_, c, ?_, h6⟩
        · cases j with
          | zero => exact ⟨b, rfl, hb⟩
          | succ j =>
            obtain ⟨d, hd⟩ := h4 j (by omega)
            exact ⟨d, by simpa using hd⟩
        · have e : k - i - 1 = (k - (i + 1) - 1) + 1 := by omega
          rw [e]; simpa using h5

theorem span_err : ∀ (bs : List UInt8) (i c : Nat), spanFrom i bs = .error c → c = 5 ∨ c = 6
  | [], i, c, h => by simp [spanFrom] at h; omega
  | b :: r, i, c, h => by
    unfold spanFrom at h
    split at h
    · cases h
    · split at h
      · cases h; exact .inl rfl
      · exact span_err r (i + 1) c h

theorem numv_lt : ∀ l : List UInt8, numv l < 128 ^ l.length
  | [] => by simp [numv]
  | b :: r => by
    have := numv_lt r
    simp only [numv, List.length_cons, Nat.pow_succ]
    have : b.toNat % 128 < 128 := Nat.mod_lt _ (by decide)
    omega

theorem numR_err {bs : List UInt8} {most : Int} {c : Nat} (h : numR bs most = .error c) : c = 1 ∨ c = 5 ∨ c = 6 := by
  unfold numR at h
  split at h
  · rename_i c' hc
    cases h
    have := span_err _ _ _ hc
    omega
  · split at h
    · cases h; omega
    · split at h
      · cases h; omega
      · cases h

theorem numR_ok {bs : List UInt8} {most : Int} {n k : Nat} (h : numR bs most = .ok (n, k)) : 0 < k ∧ k ≤ 9 ∧ k ≤ bs.length ∧ n = numv (bs.take k) ∧ (n : Int) ≤ most ∧ n < 9223372036854775808 := by
  unfold numR at h
  split at h
  · cases h
  · rename_i k' hk
    split at h
    · cases h
    · split at h
      · cases h
      · rename_i hm
        cases h
        obtain ⟨h1, h2, h3, _⟩ := span_ok _ _ _ hk
        have hl := numv_lt (bs.take k)
        have hle : 128 ^ (bs.take k).length ≤ 128 ^ 9 := Nat.pow_le_pow_right (by decide) (by simp; omega)
        exact ⟨h1, h2 (by omega), by omega, rfl, by omega, by omega⟩

theorem form_small {n : Nat} (h : n < 128) : formN n = [UInt8.ofNat n] := by rw [formN, if_pos h]
theorem form_big {n : Nat} (h : ¬ n < 128) : formN n = UInt8.ofNat (n % 128 + 128) :: formN (n / 128) := by rw [formN, if_neg h]

theorem numv_form (n : Nat) : numv (formN n) = n := by
  induction n using Nat.strongRecOn with
  | _ n ih =>
    by_cases h : n < 128
    · rw [form_small h]
      simp [numv, UInt8.toNat_ofNat']
      omega
    · rw [form_big h]
      simp only [numv, ih (n / 128) (by omega), UInt8.toNat_ofNat']
      omega

theorem numv_pos : ∀ (l : List UInt8) (b : UInt8), l.getLast? = some b → b < 128 → b ≠ 0 → 0 < numv l
  | [], b, h, _, _ => by simp at h
  | [x], b, h, hb, h0 => by
    simp at h; subst h
    have : x.toNat ≠ 0 := fun e => h0 (UInt8.toNat_inj.1 (by simpa using e))
    have : x.toNat < 128 := by simpa [UInt8.lt_iff_toNat_lt] using hb
    simp [numv]; omega
  | x :: y :: r, b, h, hb, h0 => by
    have := numv_pos (y :: r) b (by simpa using h) hb h0
    simp only [numv] at this ⊢
    omega

/-- A number's bytes as they are read are its form. -/
theorem form_numv : ∀ (l : List UInt8), (∀ j, j + 1 < l.length → ∃ b, l[j]? = some b ∧ ¬ b < 128) → (∃ b, l.getLast? = some b ∧ b < 128 ∧ (1 < l.length → b ≠ 0)) → formN (numv l) = l
  | [], _, h => by obtain ⟨b, hb, _⟩ := h; simp at hb
  | [x], _, h => by
    obtain ⟨b, hb, h1, _⟩ := h
    simp at hb; subst hb
    have hx : x.toNat < 128 := by simpa [UInt8.lt_iff_toNat_lt] using h1
    have e : numv [x] = x.toNat := by simp [numv]; omega
    rw [e, form_small hx]
    simp
  | x :: y :: r, h, hl => by
    obtain ⟨b, hb, h1, h2⟩ := hl
    have hb' : (y :: r).getLast? = some b := by simpa using hb
    have ih := form_numv (y :: r) (fun j hj => by
      obtain ⟨d, hd⟩ := h (j + 1) (by simpa using hj)
      exact ⟨d, by simpa using hd⟩) ⟨b, hb', h1, fun _ => h2 (by simp)⟩
    obtain ⟨d, hd, hd2⟩ := h 0 (by simp)
    simp at hd; subst hd
    have hx : ¬ x.toNat < 128 := by simpa [UInt8.lt_iff_toNat_lt] using hd2
    have hx2 : x.toNat < 256 := x.toNat_lt
    have hp := numv_pos (y :: r) b hb' h1 (h2 (by simp))
    have e : numv (x :: y :: r) = x.toNat % 128 + 128 * numv (y :: r) := rfl
    rw [form_big (by rw [e]; omega), e]
    have e1 : (x.toNat % 128 + 128 * numv (y :: r)) / 128 = numv (y :: r) := by omega
    have e2 : (x.toNat % 128 + 128 * numv (y :: r)) % 128 + 128 = x.toNat := by omega
    rw [e1, e2, ih]
    simp

/-- P2.7, of one number. -/
theorem numR_form {bs : List UInt8} {most : Int} {n k : Nat} (h : numR bs most = .ok (n, k)) : formN n = bs.take k := by
  obtain ⟨h1, h2, h3, h4, _⟩ := numR_ok h
  unfold numR at h
  split at h
  · cases h
  · rename_i k' hk
    split at h
    · cases h
    · rename_i h0
      split at h
      · cases h
      · cases h
        obtain ⟨_, _, _, g4, b, g5, g6⟩ := span_ok _ _ _ hk
        have hl : (bs.take k).length = k := by simp; omega
        refine form_numv _ (fun j hj => ?_) ⟨b, ?_, g6, fun hk1 hb0 => h0 ⟨by omega, ?_⟩⟩
        · obtain ⟨d, hd, hd2⟩ := g4 j (by omega)
          exact ⟨d, by rw [List.getElem?_take, if_pos (by omega)]; exact hd, hd2⟩
        · rw [List.getLast?_eq_getElem?, hl, List.getElem?_take, if_pos (by omega)]
          simpa using g5
        · rw [← hb0]; simpa using g5
end Go.Proofs.YthabeapgkaggmaaDoor
