
/-
  A Writer's digits, Number, Text.
-/
import Derived.Test.YthabeapgkaggmaaDoorWr
namespace Go.Proofs.YthabeapgkaggmaaDoor
open Go.RowKit
set_option maxRecDepth 100000

theorem form_len : ∀ (k n : Nat), 0 < k → n < 128 ^ k → (formN n).length ≤ k
  | 0, _, h, _ => absurd h (by decide)
  | 1, n, _, hn => by rw [form_small (by simpa using hn)]; simp
  | k + 2, n, _, hn => by
    by_cases h : n < 128
    · rw [form_small h]; simp
    · rw [form_big h]
      have := form_len (k + 1) (n / 128) (by omega) (by rw [Nat.pow_succ] at hn; omega)
      simp only [List.length_cons]
      omega

theorem form_len9 (n : Nat) (h : n < 9223372036854775808) : (formN n).length ≤ 9 := form_len 9 n (by decide) (by omega)

theorem byteN (n : Nat) (h : n < 256) : (Value.int .u8 (n : Int)) = .int .u8 ((UInt8.ofNat n).toNat : Int) := by
  rw [UInt8.toNat_ofNat', Nat.mod_eq_of_lt (by simpa using h)]

theorem wrap_div (m : Nat) (h : m < 9223372036854775808) : wrap64 ((m : Int) / 128) = ((m / 128 : Nat) : Int) := by unfold wrap64; omega
theorem ofN_small (m : Nat) (h : m < 128) : (m : Int) = ((UInt8.ofNat m).toNat : Int) := by
  rw [UInt8.toNat_ofNat', Nat.mod_eq_of_lt (by simpa using (by omega : m < 256))]
theorem ofN_big (m : Nat) : 128 + (m : Int) % 128 = ((UInt8.ofNat (m % 128 + 128)).toNat : Int) := by
  rw [UInt8.toNat_ofNat', Nat.mod_eq_of_lt (by simpa using (by omega : m % 128 + 128 < 256))]; omega

theorem meas_div (m : Nat) (h : ¬ m < 128) : ((m : Int) / 128).toNat < m := by omega

theorem byte_int {B b : Nat} {bs : List UInt8} {v : Value} {w : World} (h : WrAt B b bs v w) (x : Int) (c : UInt8) (hx : x = (c.toNat : Int)) (hlen : bs.length + 1 ≤ 140737488355328) (hBw : B ≤ w.heap.size) :
    Calls Tryd.prog 11 #[.pointer (some ⟨b, 0, none⟩), .int .u8 x] w fun e w' => e = .returned (.tuple #[]) ∧ (∃ v', WrAt B b (bs ++ [c]) v' w') ∧ Below B w w' := by
  subst hx; exact byte_any h c hlen hBw

set_option maxHeartbeats 1000000 in
theorem wdigits_any {B b : Nat} {bs : List UInt8} {v : Value} {w : World} (h : WrAt B b bs v w) (n : Nat) (hn : n < 9223372036854775808) (hlen : bs.length + 9 ≤ 140737488355328) (hBw : B ≤ w.heap.size) :
    Calls Tryd.prog 19 #[.pointer (some ⟨b, 0, none⟩), .int .i64 n] w fun e w' => e = .returned (.tuple #[]) ∧ (∃ v', WrAt B b (bs ++ formN n) v' w') ∧ Below B w w' := by
  have HL : Aside (bs.length + 9 ≤ 140737488355328 ∧ B ≤ w.heap.size ∧ n < 9223372036854775808) := ⟨hlen, hBw, hn⟩
  have HH : Aside (WrAt B b bs v w) := h
  clear h hlen hBw hn
  go_enter Tryd.func19, Tryd.ntmps19
  go_wp2_with fail
  go_loopg [1] n (fun k nv wr => ∃ (m : Nat) (pre : List UInt8) (v' : Value), k = m ∧ nv = .int .i64 (m : Int) ∧ WrAt B b (bs ++ pre) v' wr ∧ Aside (pre ++ formN m = formN n ∧ m < 9223372036854775808) ∧ Below B w wr)
  case atStart => exact ⟨n, [], v, rfl, rfl, by simpa using HH.out, ⟨by simp, HL.out.2.2⟩, Below.refl _ _⟩
  case round =>
    obtain ⟨m, pre, v', hgk, rfl, hW, hA, hb⟩ := hrel
    have HW : Aside (WrAt B b (bs ++ pre) v' wr) := hW
    have HB : Aside (Below B w wr) := hb
    clear hW hb
    have hpl : pre.length + 1 ≤ 9 := by
      have h1 := congrArg List.length hA.out.1
      have h2 := form_len9 n HL.out.2.2
      have h3 : 1 ≤ (formN m).length := by rw [formN]; split <;> simp
      rw [List.length_append] at h1
      omega
    by_cases hm : m < 128
    · have hm' : ¬ (128 : Int) ≤ (m : Int) := by omega
      have hw8 : IntKind.u8.wrap (m : Int) = (m : Int) := by rw [IntKind.wrap_u8']; omega
      go_wp2_with (go_at_call 11; refine (byte_int HW.out _ (UInt8.ofNat m) (ofN_small m hm) (by have := HL.out.1; rw [List.length_append]; omega) (by have := HB.out.size; have := HL.out.2.1; omega)).mono ?_; rintro e w2 ⟨rfl, ⟨v2, hW2⟩, hb2⟩)
      go_end0
      refine ⟨rfl, ⟨v2, ?_⟩, HB.out.trans hb2⟩
      rw [← hA.out.1, form_small hm, ← List.append_assoc]
      exact hW2
    · have hm' : (128 : Int) ≤ (m : Int) := by omega
      have hw := wrap_div m hA.out.2
      go_wp2_with (go_at_call 11; refine (byte_int HW.out _ (UInt8.ofNat (m % 128 + 128)) (ofN_big m) (by have := HL.out.1; rw [List.length_append]; omega) (by have := HB.out.size; have := HL.out.2.1; omega)).mono ?_; rintro e w2 ⟨rfl, ⟨v2, hW2⟩, hb2⟩)
      go_roundg (m / 128)
      case measure => rw [hgk]; exact Nat.div_lt_self (by omega) (by decide)
      case rel =>
        refine ⟨m / 128, pre ++ [UInt8.ofNat (m % 128 + 128)], v2, rfl, congrArg (Value.int .i64 ·) hw, by rw [← List.append_assoc]; exact hW2, ⟨?_, by have := hA.out.2; omega⟩, HB.out.trans hb2⟩
        rw [← hA.out.1, form_big hm, List.append_assoc]; rfl

theorem wnumber_ok {B b : Nat} {bs : List UInt8} {v : Value} {w : World} (h : WrAt B b bs v w) (n : Nat) (hn : n < 9223372036854775808) (hlen : bs.length + 9 ≤ 140737488355328) (hBw : B ≤ w.heap.size) :
    Calls Tryd.prog 8 #[.pointer (some ⟨b, 0, none⟩), .int .i64 n] w fun e w' => e = .returned .nilIface ∧ (∃ v', WrAt B b (bs ++ formN n) v' w') ∧ Below B w w' := by
  have HH : Aside (WrAt B b bs v w ∧ n < 9223372036854775808 ∧ bs.length + 9 ≤ 140737488355328 ∧ B ≤ w.heap.size) := ⟨h, hn, hlen, hBw⟩
  have hnn : ¬ (n : Int) < 0 := by omega
  clear h hn hlen hBw
  go_enter Tryd.func8, Tryd.ntmps8
  go_wp2_with (go_at_call 19; refine (wdigits_any HH.out.1 n HH.out.2.1 HH.out.2.2.1 HH.out.2.2.2).mono ?_; rintro e w2 ⟨rfl, hW2, hb2⟩)
  go_ret
  exact ⟨rfl, hW2, hb2⟩

set_option maxHeartbeats 1000000 in
theorem wnumber_neg {ad : Nat → Addr} {B b : Nat} {bs : List UInt8} {v : Value} {w : World} (h0 : w.cell? ⟨0, 0, none⟩ = some (rsn ad 0)) (h : WrAt B b bs v w) (n : Int) (hn : n < 0) :
    Calls Tryd.prog 8 #[.pointer (some ⟨b, 0, none⟩), .int .i64 n] w fun e w' => ∃ f, e = .returned (refv f) ∧ w.heap.size ≤ f ∧ w'.heap[f]? = some (.cells #[.string ⟨#[119, 105, 114, 101]⟩, .string ⟨#[78, 117, 109, 98, 101, 114]⟩, .int .i64 bs.length, rsn ad 0] 66 (0, 0)) ∧ Below w.heap.size w w' := by
  have HH : Aside (∀ n, WrAt B b bs v (w.drewN n)) := fun n => h.keep (S := []) (.of (below_drewN w n)) (by simp)
  clear h
  go_enter Tryd.func8, Tryd.ntmps8
  go_wp2_with fail
  go_region_with (first | (go_at_call 13; refine (len_any (HH.out 1)).mono ?_; rintro e w2 ⟨rfl, rfl⟩) | (go_at_call 18; refine (new_wire _ bs.length _ _ _).mono ?_; rintro e w2 ⟨rfl, rfl⟩))
  all_goals go_wp2
  all_goals go_ret
  all_goals exact ⟨w.heap.size, rfl, Nat.le_refl _, heap_alloc_last w _ _, ((Below.refl _ w).alloc (Nat.le_refl _) _).drew⟩

set_option maxHeartbeats 1000000 in
theorem wtext_any {B b : Nat} {bs : List UInt8} {v : Value} {w : World} (h : WrAt B b bs v w) (s : ByteArray) (hlen : bs.length + 9 + s.size ≤ 140737488355328) (hBw : B ≤ w.heap.size) :
    Calls Tryd.prog 10 #[.pointer (some ⟨b, 0, none⟩), .string s] w fun e w' => e = .returned .nilIface ∧ (∃ v', WrAt B b (bs ++ formN s.size ++ s.data.toList) v' w') ∧ Below B w w' := by
  obtain ⟨i0, hi, hz0, hz1, hz2⟩ := info_parts info_u8
  have HH : Aside (WrAt B b bs v w ∧ bs.length + 9 + s.size ≤ 140737488355328 ∧ B ≤ w.heap.size) := ⟨h, hlen, hBw⟩
  clear h hlen hBw
  go_enter Tryd.func10, Tryd.ntmps10
  go_wp2_with (first | (go_at_call 19; refine (wdigits_any HH.out.1 s.size (by have := HH.out.2.1; omega) (by have := HH.out.2.1; omega) HH.out.2.2).mono ?_; rintro e w2 ⟨rfl, ⟨v2, hW2⟩, hb2⟩; have c0 : w2.cell? ⟨b, 0, none⟩ = some v2 := (by rw [cellW_of hW2.lies]; rfl); have hown := hW2.own) | (at_builtin; refine Lib.wpList_append_own_string _ rfl _ _ 25 9 rfl B 5 i0 Tryd.underlying25 Tryd.underlying9 hi hz0 hz1 hz2 _ _ _ rfl hown s rfl ?c3 ?c4 ?c5 ?_))
  case c3 => have := HH.out.2.1; have := form_len9 s.size (by omega); unfold maxLen; rw [List.length_append]; omega
  case c4 => have := HH.out.2.1; have := form_len9 s.size (by omega); rw [List.length_append]; omega
  case c5 => have := hb2.size; have := HH.out.2.2; omega
  intro v0 w3 hown0 hgrow hnn
  clear hnn
  obtain ⟨hput, hb3⟩ := hW2.put (bs' := bs ++ formN s.size ++ s.data.toList) (v' := v0) hgrow (by
    have e1 : (bs ++ formN s.size ++ s.data.toList).length = (bs ++ formN s.size).length + s.size := by rw [List.length_append]; rfl
    rw [e1]
    have e2 : Lib.byteCells (bs ++ formN s.size ++ s.data.toList) = Lib.byteCells (bs ++ formN s.size) ++ Lib.strCells s := by simp [Lib.byteCells, Lib.strCells]
    rw [e2]
    rw [List.length_append]
    exact hown0)
  have d1 : w3.cell? ⟨b, 0, none⟩ = some v2 := by rw [cellW_of hb3]; rfl
  have f1 : w3.frozen? ⟨b, 0, none⟩ = false := frozenW_of hb3 0
  have HF : Aside (WrAt B b (bs ++ formN s.size ++ s.data.toList) v0 (w3.setCell ⟨b, 0, none⟩ v0) ∧ Below B w (w3.setCell ⟨b, 0, none⟩ v0)) := ⟨hput, (hb2.grown hgrow (by have := hb2.size; have := HH.out.2.2; omega) (fun k hk => (hW2.own.lt k hk).1)).setCell (p := ⟨b, 0, none⟩) HH.out.1.lo _⟩
  obtain ⟨va, vn, vc, hv'⟩ : ∃ a k c, v0 = .slice a k c := by
    rcases hown0.2 with ⟨hv, _⟩ | ⟨g, cap, cur, hv, _⟩
    · exact ⟨_, _, _, hv⟩
    · exact ⟨_, _, _, hv⟩
  rw [hv'] at HF ⊢
  clear hv' hput hb3 hown0 hgrow hown c0 hW2
  go_wp2
  go_ret
  exact ⟨rfl, ⟨_, HF.out.1⟩, HF.out.2⟩
end Go.Proofs.YthabeapgkaggmaaDoor
