
/-
  barrowref01.tail, Digits: a number's numeral.
-/
import Derived.Test.YtphdkniplhkkfaaDoorSc0
import Derived.Lib.ItoaLen
namespace Go.Proofs.YtphdkniplhkkfaaDoor
open Go.RowKit
open Go.Lib (itoa decDigits byteCells)
set_option maxRecDepth 100000
def fitsI (n : Int) : Prop := -9223372036854775808 ≤ n ∧ n ≤ 9223372036854775807

/-- Bytes in a block of their own as a text. -/
theorem conv_blockC {w : World} {g : Nat} {bs : List UInt8} (h : w.heap[g]? = some (.cells (Lib.byteCells bs).toArray 5 (0, 0))) (c : Nat) : (convert 24 9 (.slice (some ⟨g, 0, none⟩) bs.length c)).run Tryd.prog w = .ok (.string ⟨bs.toArray⟩) w :=
  run_convert_bytes_back (P := Tryd.prog) w 24 9 5 ⟨g, 0, none⟩ c bs Tryd.underlying24 Tryd.underlying5 Tryd.underlying9 fun k hk => by
    rw [Addr.add_lit, Nat.zero_add, cell_of_row w g k _ _ _ h]
    simp [Lib.byteCells, hk]
theorem tmod10 (n : Int) : (0 ≤ n → n.tmod 10 = (n.natAbs % 10 : Nat)) ∧ (n < 0 → n.tmod 10 = -((n.natAbs % 10 : Nat) : Int)) := by
  constructor
  · intro h
    rw [Int.tmod_eq_emod_of_nonneg h]
    omega
  · intro h
    have h1 : (-n).tmod 10 = (-n) % 10 := Int.tmod_eq_emod_of_nonneg (by omega)
    rw [Int.neg_tmod] at h1
    omega
theorem tdiv10 (n : Int) : (0 ≤ n → n.tdiv 10 = (n.natAbs / 10 : Nat)) ∧ (n < 0 → n.tdiv 10 = -((n.natAbs / 10 : Nat) : Int)) := by
  constructor
  · intro h
    rw [Int.tdiv_eq_ediv_of_nonneg h]
    omega
  · intro h
    have h1 : (-n).tdiv 10 = (-n) / 10 := Int.tdiv_eq_ediv_of_nonneg (by omega)
    rw [Int.neg_tdiv] at h1
    omega
theorem str_app (l m : List UInt8) : (⟨l.toArray⟩ : ByteArray) ++ ⟨m.toArray⟩ = ⟨(l ++ m).toArray⟩ := by
  apply ByteArray.ext
  simp [ByteArray.data_append]

set_option maxHeartbeats 1000000 in
theorem digit_step (n t q : Int) (b : UInt8) (l : List UInt8) (w : World) (ht : n.tmod 10 = t) (hq : n.tdiv 10 = q) (hb : 48 + (if t < 0 then -t else t) = (b.toNat : Int)) (hq1 : -922337203685477580 ≤ q) (hq2 : q ≤ 922337203685477580) (ht1 : -10 < t) (ht2 : t < 10) (hl : l.length ≤ 1000)
    (C : q ≠ 0 → ∀ x, Calls Tryd.prog 37 #[.int .i64 q] x fun e w' => e = .returned (.string ⟨l.toArray⟩) ∧ Below x.heap.size x w') :
    Calls Tryd.prog 37 #[.int .i64 n] w fun e w' => e = .returned (.string ⟨((if q = 0 then [] else l) ++ [b]).toArray⟩) ∧ Below w.heap.size w w' := by
  have hb2 := b.toNat_lt
  have hcv := conv_blockC (bs := [b]) (heap_alloc_last w (.cells #[.int .u8 (b.toNat : Int)] 5)) 1
  have hB := below_one w (.cells #[.int .u8 (b.toNat : Int)] 5)
  rw [List.length_singleton] at hcv
  by_cases hneg : t < 0
  · rw [if_pos hneg] at hb
    by_cases h0 : q = 0
    · subst h0
      rw [if_pos rfl]
      go_enter Tryd.func37, Tryd.ntmps37
      go_wp2
      go_ret
      exact ⟨rfl, hB⟩
    · rw [if_neg h0, ← str_app]
      have hq0 : (q == 0) = false := by rw [beq_eq_false_iff_ne]; exact h0
      have C' := hid_of' (C h0)
      clear C
      go_enter Tryd.func37, Tryd.ntmps37
      go_wp2_with (go_at_call 37; with_reducible refine (C'.out _).mono ?_; rintro e w1 ⟨rfl, hb1⟩)
      go_ret
      exact ⟨rfl, bgo hB hb1⟩
  · rw [if_neg hneg] at hb
    by_cases h0 : q = 0
    · subst h0
      rw [if_pos rfl]
      go_enter Tryd.func37, Tryd.ntmps37
      go_wp2
      go_ret
      exact ⟨rfl, hB⟩
    · rw [if_neg h0, ← str_app]
      have hq0 : (q == 0) = false := by rw [beq_eq_false_iff_ne]; exact h0
      have C' := hid_of' (C h0)
      clear C
      go_enter Tryd.func37, Tryd.ntmps37
      go_wp2_with (go_at_call 37; with_reducible refine (C'.out _).mono ?_; rintro e w1 ⟨rfl, hb1⟩)
      go_ret
      exact ⟨rfl, bgo hB hb1⟩
theorem dec_len {m : Nat} (h : m ≤ 9223372036854775808) : (decDigits m).length ≤ 21 := by
  by_cases hm : m ≤ 9223372036854775807
  · have := Lib.itoa_length_le (m : Int) (by omega) (by omega)
    unfold itoa at this
    rw [if_neg (by omega), Int.toNat_natCast] at this
    exact this
  · have := Lib.itoa_length_le (-9223372036854775808) (by omega) (by omega)
    unfold itoa at this
    rw [if_pos (by omega)] at this
    have e : m = (-9223372036854775808 : Int).natAbs := by omega
    rw [e]
    simp only [List.length_cons] at this
    omega
theorem digit_tail : ∀ (m : Nat) (n : Int), n.natAbs = m → fitsI n → ∀ w, Calls Tryd.prog 37 #[.int .i64 n] w fun e w' => e = .returned (.string ⟨(decDigits m).toArray⟩) ∧ Below w.heap.size w w' := by
  intro m
  induction m using Nat.strongRecOn with
  | ind m ih =>
    intro n hn hf w
    unfold fitsI at hf
    obtain ⟨t1, t2⟩ := tmod10 n
    obtain ⟨d1, d2⟩ := tdiv10 n
    rw [hn] at t1 t2 d1 d2
    have e8 : ((UInt8.ofNat (48 + m % 10)).toNat : Int) = 48 + (m % 10 : Nat) := by
      rw [UInt8.toNat_ofNat']
      omega
    have hq0 : n.tdiv 10 = 0 ↔ m < 10 := by
      by_cases h : 0 ≤ n
      · rw [d1 h]; omega
      · rw [d2 (by omega)]; omega
    have hqa : (n.tdiv 10).natAbs = m / 10 := by
      by_cases h : 0 ≤ n
      · rw [d1 h]; omega
      · rw [d2 (by omega)]; omega
    have hqb : -922337203685477580 ≤ n.tdiv 10 ∧ n.tdiv 10 ≤ 922337203685477580 := by omega
    have htb : -10 < n.tmod 10 ∧ n.tmod 10 < 10 ∧ 48 + (if n.tmod 10 < 0 then -n.tmod 10 else n.tmod 10) = 48 + ((m % 10 : Nat) : Int) := by
      by_cases h : 0 ≤ n
      · rw [t1 h]
        refine ⟨by omega, by omega, ?_⟩
        rw [if_neg (by omega)]
      · rw [t2 (by omega)]
        refine ⟨by omega, by omega, ?_⟩
        split <;> omega
    have H := digit_step n _ _ (UInt8.ofNat (48 + m % 10)) (decDigits (m / 10)) w rfl rfl (by rw [e8]; exact htb.2.2) hqb.1 hqb.2 htb.1 htb.2.1 (by have := dec_len (m := m / 10) (by omega); omega)
      (fun h x => ih (m / 10) (by have : ¬ m < 10 := fun hc => h (hq0.2 hc); omega) _ hqa ⟨by omega, by omega⟩ x)
    rw [decDigits]
    by_cases hm : m < 10
    · rw [dif_pos hm]
      rw [if_pos (hq0.2 hm), List.nil_append, show m % 10 = m by omega] at H
      exact H
    · rw [dif_neg hm]
      rw [if_neg (fun h => hm (hq0.1 h))] at H
      exact H
set_option maxHeartbeats 400000 in
theorem digits_any (n : Int) (hf : fitsI n) (w : World) : Calls Tryd.prog 30 #[.int .i64 n] w fun e w' => e = .returned (.string ⟨(itoa n).toArray⟩) ∧ Below w.heap.size w w' := by
  have C := hid_of' (digit_tail n.natAbs n rfl hf)
  have hl := dec_len (m := n.natAbs) (by unfold fitsI at hf; omega)
  unfold itoa
  by_cases h : n < 0
  · rw [if_pos h, show (45 :: decDigits n.natAbs) = [45] ++ decDigits n.natAbs from rfl, ← str_app]
    go_enter Tryd.func30, Tryd.ntmps30
    go_wp2_with (go_at_call 37; with_reducible refine (C.out _).mono ?_; rintro e w1 ⟨rfl, hb1⟩)
    go_ret
    exact ⟨rfl, hb1⟩
  · rw [if_neg h, show n.toNat = n.natAbs by omega]
    clear hl
    go_enter Tryd.func30, Tryd.ntmps30
    go_wp2_with (go_at_call 37; with_reducible refine (C.out _).mono ?_; rintro e w1 ⟨rfl, hb1⟩)
    go_ret
    exact ⟨rfl, hb1⟩
end Go.Proofs.YtphdkniplhkkfaaDoor
