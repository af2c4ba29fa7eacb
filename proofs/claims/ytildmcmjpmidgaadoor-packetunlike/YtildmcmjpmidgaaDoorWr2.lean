
/-
  A Writer's digits, Number, Text.
-/
import Derived.Test.YtildmcmjpmidgaaDoorWr
namespace Go.Proofs.YtildmcmjpmidgaaDoor
open Go.RowKit
set_option maxRecDepth 100000

theorem form_len : ∀ (k n : Nat), 0 < k → n < 128 ^ k → (formN n).length ≤ k
  | 0, _, h, _ => absurd h (by decide)
  | 1, n, _, hn => by rw [form_small (by simpa using hn)]; simp
  | k + 2, n, _, hn => by
    by_cases h : n < 128
    · rw [form_small h]; simp
    · rw [form_big h]
      have := form_len (k + 1) (n / 128) (by omega) (by rw [Nat.pow_succ] at hn; omega)
      simp only [List.length_cons]
      omega

theorem form_len9 (n : Nat) (h : n < 9223372036854775808) : (formN n).length ≤ 9 := form_len 9 n (by decide) (by omega)

theorem byteN (n : Nat) (h : n < 256) : (Value.int .u8 (n : Int)) = .int .u8 ((UInt8.ofNat n).toNat : Int) := by
  rw [UInt8.toNat_ofNat', Nat.mod_eq_of_lt (by simpa using h)]

theorem wrap_div (m : Nat) (h : m < 9223372036854775808) : wrap64 ((m : Int) / 128) = ((m / 128 : Nat) : Int) := by unfold wrap64; omega
theorem ofN_small (m : Nat) (h : m < 128) : (m : Int) = ((UInt8.ofNat m).toNat : Int) := by
  rw [UInt8.toNat_ofNat', Nat.mod_eq_of_lt (by simpa using (by omega : m < 256))]
theorem ofN_big (m : Nat) : 128 + (m : Int) % 128 = ((UInt8.ofNat (m % 128 + 128)).toNat : Int) := by
  rw [UInt8.toNat_ofNat', Nat.mod_eq_of_lt (by simpa using (by omega : m % 128 + 128 < 256))]; omega

theorem meas_div (m : Nat) (h : ¬ m < 128) : ((m : Int) / 128).toNat < m := by omega

theorem byte_int {B b : Nat} {bs : List UInt8} {v : Value} {w : World} (h : WrAt B b bs v w) (x : Int) (c : UInt8) (hx : x = (c.toNat : Int)) (hlen : bs.length + 1 ≤ 140737488355328) (hBw : B ≤ w.heap.size) :
    Calls Tryd.prog 34 #[.pointer (some ⟨b, 0, none⟩), .int .u8 x] w fun e w' => e = .returned (.tuple #[]) ∧ (∃ v', WrAt B b (bs ++ [c]) v' w') ∧ Below B w w' := by
  subst hx; exact byte_any h c hlen hBw

set_option maxHeartbeats 1000000 in
theorem wdigits_any {B b : Nat} {bs : List UInt8} {v : Value} {w : World} (h : WrAt B b bs v w) (n : Nat) (hn : n < 9223372036854775808) (hlen : bs.length + 9 ≤ 140737488355328) (hBw : B ≤ w.heap.size) :
    Calls Tryd.prog 52 #[.pointer (some ⟨b, 0, none⟩), .int .i64 n] w fun e w' => e = .returned (.tuple #[]) ∧ (∃ v', WrAt B b (bs ++ formN n) v' w') ∧ Below B w w' := by
  have HL : Aside (bs.length + 9 ≤ 140737488355328 ∧ B ≤ w.heap.size ∧ n < 9223372036854775808) := ⟨hlen, hBw, hn⟩
  have HH : Aside (WrAt B b bs v w) := h
  clear h hlen hBw hn
  go_enter Tryd.func52, Tryd.ntmps52
  go_wp2_with fail
  go_loopg [1] n (fun k nv wr => ∃ (m : Nat) (pre : List UInt8) (v' : Value), k = m ∧ nv = .int .i64 (m : Int) ∧ WrAt B b (bs ++ pre) v' wr ∧ Aside (pre ++ formN m = formN n ∧ m < 9223372036854775808) ∧ Below B w wr)
  case atStart => exact ⟨n, [], v, rfl, rfl, by simpa using HH.out, ⟨by simp, HL.out.2.2⟩, Below.refl _ _⟩
  case round =>
    obtain ⟨m, pre, v', hgk, rfl, hW, hA, hb⟩ := hrel
    have HW : Aside (WrAt B b (bs ++ pre) v' wr) := hW
    have HB : Aside (Below B w wr) := hb
    clear hW hb
    have hpl : pre.length + 1 ≤ 9 := by
      have h1 := congrArg List.length hA.out.1
      have h2 := form_len9 n HL.out.2.2
      have h3 : 1 ≤ (formN m).length := by rw [formN]; split <;> simp
      rw [List.length_append] at h1
      omega
    by_cases hm : m < 128
    · have hm' : ¬ (128 : Int) ≤ (m : Int) := by omega
      have hw8 : IntKind.u8.wrap (m : Int) = (m : Int) := by rw [IntKind.wrap_u8']; omega
      go_wp2_with (go_at_call 34; refine (byte_int HW.out _ (UInt8.ofNat m) (ofN_small m hm) (by have := HL.out.1; rw [List.length_append]; omega) (by have := HB.out.size; have := HL.out.2.1; omega)).mono ?_; rintro e w2 ⟨rfl, ⟨v2, hW2⟩, hb2⟩)
      go_end0
      refine ⟨rfl, ⟨v2, ?_⟩, HB.out.trans hb2⟩
      rw [← hA.out.1, form_small hm, ← List.append_assoc]
      exact hW2
    · have hm' : (128 : Int) ≤ (m : Int) := by omega
      have hw := wrap_div m hA.out.2
      go_wp2_with (go_at_call 34; refine (byte_int HW.out _ (UInt8.ofNat (m % 128 + 128)) (ofN_big m) (by have := HL.out.1; rw [List.length_append]; omega) (by have := HB.out.size; have := HL.out.2.1; omega)).mono ?_; rintro e w2 ⟨rfl, ⟨v2, hW2⟩, hb2⟩)
      go_roundg (m / 128)
      case measure => rw [hgk]; exact Nat.div_lt_self (by omega) (by decide)
      case rel =>
        refine ⟨m / 128, pre ++ [UInt8.ofNat (m % 128 + 128)], v2, rfl, congrArg (Value.int .i64 ·) hw, by rw [← List.append_assoc]; exact hW2, ⟨?_, by have := hA.out.2; omega⟩, HB.out.trans hb2⟩
        rw [← hA.out.1, form_big hm, List.append_assoc]; rfl

theorem wnumber_ok {B b : Nat} {bs : List UInt8} {v : Value} {w : World} (h : WrAt B b bs v w) (n : Nat) (hn : n < 9223372036854775808) (hlen : bs.length + 9 ≤ 140737488355328) (hBw : B ≤ w.heap.size) :
    Calls Tryd.prog 35 #[.pointer (some ⟨b, 0, none⟩), .int .i64 n] w fun e w' => e = .returned .nilIface ∧ (∃ v', WrAt B b (bs ++ formN n) v' w') ∧ Below B w w' := by
  have HH : Aside (WrAt B b bs v w ∧ n < 9223372036854775808 ∧ bs.length + 9 ≤ 140737488355328 ∧ B ≤ w.heap.size) := ⟨h, hn, hlen, hBw⟩
  have hnn : ¬ (n : Int) < 0 := by omega
  clear h hn hlen hBw
  go_enter Tryd.func35, Tryd.ntmps35
  go_wp2_with (go_at_call 52; refine (wdigits_any HH.out.1 n HH.out.2.1 HH.out.2.2.1 HH.out.2.2.2).mono ?_; rintro e w2 ⟨rfl, hW2, hb2⟩)
  go_ret
  exact ⟨rfl, hW2, hb2⟩

set_option maxHeartbeats 1000000 in
theorem wnumber_neg {ad : Nat → Addr} {B b : Nat} {bs : List UInt8} {v : Value} {w : World} (h0 : w.cell? ⟨1, 0, none⟩ = some (rsn ad 0)) (h : WrAt B b bs v w) (n : Int) (hn : n < 0) :
    Calls Tryd.prog 35 #[.pointer (some ⟨b, 0, none⟩), .int .i64 n] w fun e w' => ∃ f, e = .returned (refv f) ∧ w.heap.size ≤ f ∧ w'.heap[f]? = some (.cells #[.string ⟨#[119, 105, 114, 101]⟩, .string ⟨#[78, 117, 109, 98, 101, 114]⟩, .int .i64 bs.length, rsn ad 0] 68 (0, 0)) ∧ Below w.heap.size w w' := by
  have HH : Aside (∀ n, WrAt B b bs v (w.drewN n)) := fun n => h.keep (S := []) (.of (below_drewN w n)) (by simp)
  clear h
  go_enter Tryd.func35, Tryd.ntmps35
  go_wp2_with fail
  go_region_with (first | (go_at_call 51; refine (len_any (HH.out 1)).mono ?_; rintro e w2 ⟨rfl, rfl⟩) | (go_at_call 16; refine (new_wire _ bs.length _ _ _).mono ?_; rintro e w2 ⟨rfl, rfl⟩))
  all_goals go_wp2
  all_goals go_ret
  all_goals exact ⟨w.heap.size, rfl, Nat.le_refl _, heap_alloc_last w _ _, ((Below.refl _ w).alloc (Nat.le_refl _) _).drew⟩

end Go.Proofs.YtildmcmjpmidgaaDoor
