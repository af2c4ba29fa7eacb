
/-
  barrowref02.Reader: its number.
-/
import Derived.Test.YthabeapgkaggmaaDoorTsBase
import Derived.Test.YthabeapgkaggmaaDoorWk
import Derived.Deep.CutRange
namespace Go.Proofs.YthabeapgkaggmaaDoor
open Go.RowKit
set_option maxRecDepth 100000

theorem hid_of' {p : Prop} (h : p) : Hid p := h
theorem numv_succ : ∀ (bs : List UInt8) (k : Nat) (b : UInt8), bs[k]? = some b → numv (bs.take (k + 1)) = numv (bs.take k) + (b.toNat % 128) * 128 ^ k
  | [], k, b, h => by simp at h
  | x :: r, 0, b, h => by simp at h; subst h; simp [numv]
  | x :: r, k + 1, b, h => by
    have ih := numv_succ r k b (by simpa using h)
    simp only [List.take_succ_cons, numv]
    rw [ih, Nat.mul_add, Nat.pow_succ]
    have e : 128 * (b.toNat % 128 * 128 ^ k) = b.toNat % 128 * (128 ^ k * 128) := by rw [Nat.mul_left_comm, Nat.mul_comm 128 (128 ^ k)]
    omega
theorem num_step {rest : List UInt8} {k : Nat} {b : UInt8} (hb : rest[k]? = some b) (h9 : k < 9) : wrap64 ((numv (rest.take k) : Int) + wrap64 ((b.toNat : Int) % 128 * 2 ^ (7 * k))) = (numv (rest.take (k + 1)) : Int) := by
  have h1 := numv_succ rest k b hb
  have h2 := numv_lt (rest.take (k + 1))
  have h3 : (rest.take (k + 1)).length ≤ 9 := by rw [List.length_take]; omega
  have h4 : 128 ^ (rest.take (k + 1)).length ≤ 128 ^ 9 := Nat.pow_le_pow_right (by decide) h3
  have e : (b.toNat : Int) % 128 * 2 ^ (7 * k) = ((b.toNat % 128 * 128 ^ k : Nat) : Int) := by
    rw [Int.pow_mul]
    push_cast
    rfl
  rw [e]
  generalize b.toNat % 128 * 128 ^ k = q at *
  generalize numv (rest.take (k + 1)) = m at *
  generalize numv (rest.take k) = n at *
  generalize 128 ^ (rest.take (k + 1)).length = z at *
  have h5 : m < 9223372036854775808 := by omega
  unfold wrap64
  omega
/-- What number answers. -/
def nums (p : Except Nat (Nat × Nat)) : Value := match p with
  | .ok (n, k) => .tuple #[.int .i64 (n : Int), .int .i64 (k : Int), .int .i64 0]
  | .error c => .tuple #[.int .i64 0, .int .i64 0, .int .i64 ((c : Int) + 1)]
/-- Where number stands: k bytes have been seen, none of them the last. -/
structure NuI (rest : List UInt8) (k : Nat) : Prop where
  le : k ≤ rest.length
  span : k < 9 → spanFrom 0 rest = spanFrom k (rest.drop k)
  end9 : k = 9 → spanFrom 0 rest = .error 5
theorem NuI.start (rest : List UInt8) : NuI rest 0 := ⟨Nat.zero_le _, fun _ => by simp, fun h => by omega⟩
theorem drop_at {rest : List UInt8} {k : Nat} {b : UInt8} (h : rest[k]? = some b) : rest.drop k = b :: rest.drop (k + 1) := by
  obtain ⟨hk, rfl⟩ := List.getElem?_eq_some_iff.1 h
  exact List.drop_eq_getElem_cons hk
theorem NuI.next {rest : List UInt8} {k : Nat} {b : UInt8} (h : NuI rest k) (hb : rest[k]? = some b) (h9 : k < 9) (hbig : ¬ b < 128) : NuI rest (k + 1) := by
  have h1 := h.span h9
  rw [drop_at hb, spanFrom, if_neg hbig] at h1
  refine ⟨(List.getElem?_eq_some_iff.1 hb).1, fun hk => ?_, fun hk => ?_⟩
  · rw [if_neg (by omega)] at h1; exact h1
  · rw [if_pos hk] at h1; exact h1
theorem NuI.short {rest : List UInt8} {k : Nat} {most : Int} (h : NuI rest k) (hk : rest.length ≤ k) (h9 : k < 9) : numR rest most = .error 6 := by
  have h1 := h.span h9
  rw [List.drop_of_length_le hk, spanFrom] at h1
  unfold numR; rw [h1]
theorem NuI.nine {rest : List UInt8} {most : Int} (h : NuI rest 9) : numR rest most = .error 5 := by
  unfold numR; rw [h.end9 rfl]
theorem NuI.last {rest : List UInt8} {k : Nat} {b : UInt8} {most : Int} (h : NuI rest k) (hb : rest[k]? = some b) (h9 : k < 9) (hs : b < 128) : numR rest most = if 0 < k ∧ b = 0 then .error 5 else if most < (numv (rest.take (k + 1)) : Int) then .error 1 else .ok (numv (rest.take (k + 1)), k + 1) := by
  have h1 := h.span h9
  rw [drop_at hb, spanFrom, if_pos hs] at h1
  unfold numR
  rw [h1]
  simp only [Nat.add_sub_cancel, hb, Option.some.injEq]
  have e : (1 < k + 1 ∧ b = 0) = (0 < k ∧ b = 0) := by
    apply propext
    constructor <;> rintro ⟨h1, h2⟩ <;> exact ⟨by omega, h2⟩
  simp only [e]

end Go.Proofs.YthabeapgkaggmaaDoor
