
/-
  Package script: Name, Fold, and the document's.
-/
import Derived.Test.YtphdkniplhkkfaaSq1
namespace Go.Proofs.Ytphdkniplhkkfaa
open Go.RowKit Go.Extern.Stop Go.Stop Go.Extern
set_option maxRecDepth 100000

def names : List ByteArray := [⟨#[105, 110, 115, 101, 114, 116]⟩, ⟨#[101, 114, 97, 115, 101]⟩, ⟨#[117, 110, 100, 111]⟩, ⟨#[114, 101, 100, 111]⟩, ⟨#[114, 101, 119, 114, 105, 116, 101]⟩, ⟨#[99, 117, 114, 115, 111, 114]⟩, ⟨#[112, 114, 111, 112, 111, 115, 101]⟩, ⟨#[115, 121, 110, 99]⟩, ⟨#[100, 101, 108, 105, 118, 101, 114]⟩, ⟨#[100, 114, 111, 112]⟩, ⟨#[100, 111, 117, 98, 108, 101]⟩, ⟨#[115, 119, 97, 112]⟩, ⟨#[102, 97, 105, 114]⟩, ⟨#[114, 101, 108, 111, 97, 100]⟩]
/-- A kind's name. -/
def nameB (k : Int) : ByteArray := if 0 ≤ k ∧ k < 14 then names.getD k.toNat .empty else .empty
def nameV : Array Value := (names.map Value.string).toArray
theorem nameV_at {k : Nat} (h : k < 14) : nameV[k]? = some (.string (nameB k)) := by
  unfold nameB nameV
  rw [if_pos (by omega), List.getElem?_toArray, List.getElem?_map, Int.toNat_natCast, List.getD, List.getElem?_eq_getElem (show k < names.length from h)]
  rfl
theorem isKind_at {k : Int} {b : Bool} (h : decide (0 ≤ k ∧ k < 14) = b) (w : World) : Calls Try.prog 25 #[.int .i64 k] w fun e w' => e = .returned (.bool b) ∧ w' = w := by
  by_cases h0 : 0 ≤ k
  · by_cases h1 : k < 14
    · rw [decide_eq_true ⟨h0, h1⟩] at h
      subst h
      go_enter Try.func25, Try.ntmps25
      go_wp2
      go_ret
      exact ⟨rfl, rfl⟩
    · rw [decide_eq_false (by omega)] at h
      subst h
      go_enter Try.func25, Try.ntmps25
      go_wp2
      go_ret
      exact ⟨rfl, rfl⟩
  · rw [decide_eq_false (by omega)] at h
    subst h
    go_enter Try.func25, Try.ntmps25
    go_wp2
    go_ret
    exact ⟨rfl, rfl⟩
set_option maxHeartbeats 2000000 in
theorem name_is (k : Int) (w : World) : Calls Try.prog 19 #[.int .i64 k] w fun e w' => e = .returned (.string (nameB k)) ∧ Below w.heap.size w w' := by
  by_cases h : 0 ≤ k ∧ k < 14
  · obtain ⟨n, rfl⟩ : ∃ n : Nat, k = (n : Int) := ⟨k.toNat, by omega⟩
    have HK := hid_of' (fun x => isKind_at (k := (n : Int)) (decide_eq_true h) x)
    have hn0 : (0 : Int) ≤ (n : Int) := h.1
    have hn1 : (n : Int) < 14 := h.2
    have hn2 : ¬ (14 : Int) ≤ (n : Int) := by omega
    have hn3 : ¬ (n : Int) < 0 := by omega
    have hn4 : n < 14 := by omega
    have r1 : RowAt w.heap.size nameV 48 (w.alloc (.cells nameV 48)) := RowAt.new w _ _
    have c1 := r1.is (nameV_at hn4)
    have b1 := below_one w (.cells nameV 48)
    clear h
    go_enter Try.func19, Try.ntmps19
    go_upto_region 2 with fail
    change Code.wp Try.prog _ _ _ (w.alloc (.cells nameV 48))
    generalize hw1 : w.alloc (.cells nameV 48) = w1 at r1 b1 c1 ⊢
    go_wp2_with (go_at_call 25; with_reducible refine (HK.out _).mono ?_; rintro e wx ⟨rfl, hwx⟩; rw [hwx]; clear hwx)
    go_ret
    exact ⟨rfl, b1⟩
  · have e : nameB k = .empty := if_neg h
    rw [e]
    have HK := hid_of' (fun x => isKind_at (k := k) (decide_eq_false h) x)
    have b1 := below_one w (.cells nameV 48)
    go_enter Try.func19, Try.ntmps19
    go_upto_region 2 with fail
    change Code.wp Try.prog _ _ _ (w.alloc (.cells nameV 48))
    generalize hw1 : w.alloc (.cells nameV 48) = w1 at b1 ⊢
    go_wp2_with (go_at_call 25; with_reducible refine (HK.out _).mono ?_; rintro e wx ⟨rfl, hwx⟩; rw [hwx]; clear hwx)
    go_ret
    exact ⟨rfl, b1⟩
set_option maxHeartbeats 2000000 in
theorem refname_is (k : Int) (w : World) : Calls Try.prog 20 #[.int .i64 k] w fun e w' => e = .returned (.string (nameB k)) ∧ Below w.heap.size w w' := by
  by_cases h : 0 ≤ k ∧ k < 14
  · obtain ⟨n, rfl⟩ : ∃ n : Nat, k = (n : Int) := ⟨k.toNat, by omega⟩
    have hn0 : (0 : Int) ≤ (n : Int) := h.1
    have hn1 : (n : Int) < 14 := h.2
    have hn2 : ¬ (14 : Int) ≤ (n : Int) := by omega
    have hn3 : ¬ (n : Int) < 0 := by omega
    have hn4 : n < 14 := by omega
    have r1 : RowAt w.heap.size nameV 48 (w.alloc (.cells nameV 48)) := RowAt.new w _ _
    have c1 := r1.is (nameV_at hn4)
    have b1 := below_one w (.cells nameV 48)
    clear h
    go_enter Try.func20, Try.ntmps20
    go_upto_region 2 with fail
    change Code.wp Try.prog _ _ _ (w.alloc (.cells nameV 48))
    generalize hw1 : w.alloc (.cells nameV 48) = w1 at r1 b1 c1 ⊢
    go_wp2_with (fail)
    go_ret
    exact ⟨rfl, b1⟩
  · have e : nameB k = .empty := if_neg h
    rw [e]
    by_cases h0 : k < 0
    · have b1 := below_one w (.cells nameV 48)
      go_enter Try.func20, Try.ntmps20
      go_upto_region 2 with fail
      change Code.wp Try.prog _ _ _ (w.alloc (.cells nameV 48))
      generalize hw1 : w.alloc (.cells nameV 48) = w1 at b1 ⊢
      go_wp2_with (fail)
      go_ret
      exact ⟨rfl, b1⟩
    · have h1 : (14 : Int) ≤ k := by omega
      have b1 := below_one w (.cells nameV 48)
      go_enter Try.func20, Try.ntmps20
      go_upto_region 2 with fail
      change Code.wp Try.prog _ _ _ (w.alloc (.cells nameV 48))
      generalize hw1 : w.alloc (.cells nameV 48) = w1 at b1 ⊢
      go_wp2_with (fail)
      go_ret
      exact ⟨rfl, b1⟩
/-- A number taken into a range. -/
def fol (n m : Int) : Int := if m < 1 then 0 else n % m
theorem fold_is (n m : Int) (_hn : -9223372036854775808 ≤ n ∧ n ≤ 9223372036854775807) (hm : -9223372036854775808 ≤ m ∧ m ≤ 9223372036854775807) (w : World) : Calls Try.prog 17 #[.int .i64 n, .int .i64 m] w fun e w' => e = .returned (.int .i64 (fol n m)) ∧ w' = w := by
  unfold fol
  by_cases h : m < 1
  · rw [if_pos h]
    go_enter Try.func17, Try.ntmps17
    go_wp2
    go_ret
    exact ⟨rfl, rfl⟩
  · rw [if_neg h]
    have hm0 : ¬ m = 0 := by omega
    obtain ⟨q, hq⟩ : ∃ q, q = n.tmod m := ⟨_, rfl⟩
    have hlt : q < m ∧ -m < q := by
      rw [hq]
      have h1 := Int.tmod_lt_of_pos n (show 0 < m by omega)
      have h2 := Int.lt_tmod_of_pos n (show 0 < m by omega)
      exact ⟨h1, h2⟩
    have hw : wrap64 q = q := wrapIs (by omega) (by omega)
    have hqm : n % m = if q < 0 then q + m else q := by
      have e : n % m = q % m := by
        have h1 := Int.mul_tdiv_add_tmod n m
        rw [hq]
        conv => lhs; rw [← h1]
        exact Int.mul_add_emod_self_left _ _ _
      rw [e]
      split
      · rw [← Int.add_emod_right, Int.emod_eq_of_lt (by omega) (by omega)]
      · rw [Int.emod_eq_of_lt (by omega) (by omega)]
    by_cases h0 : q < 0
    · have hw2 : wrap64 (q + m) = q + m := wrapIs (by omega) (by omega)
      rw [hqm, if_pos h0]
      go_enter Try.func17, Try.ntmps17
      go_wp2
      go_ret
      exact ⟨rfl, rfl⟩
    · rw [hqm, if_neg h0]
      go_enter Try.func17, Try.ntmps17
      go_wp2
      go_ret
      exact ⟨rfl, rfl⟩
theorem reffold_is (n m : Int) (_hn : -9223372036854775808 ≤ n ∧ n ≤ 9223372036854775807) (hm : -9223372036854775808 ≤ m ∧ m ≤ 9223372036854775807) (w : World) : Calls Try.prog 18 #[.int .i64 n, .int .i64 m] w fun e w' => e = .returned (.int .i64 (fol n m)) ∧ w' = w := by
  unfold fol
  by_cases h : m < 1
  · rw [if_pos h]
    go_enter Try.func18, Try.ntmps18
    go_wp2
    go_ret
    exact ⟨rfl, rfl⟩
  · rw [if_neg h]
    have hm0 : ¬ m = 0 := by omega
    obtain ⟨q, hq⟩ : ∃ q, q = n.tmod m := ⟨_, rfl⟩
    have hlt : q < m ∧ -m < q := by
      rw [hq]
      have h1 := Int.tmod_lt_of_pos n (show 0 < m by omega)
      have h2 := Int.lt_tmod_of_pos n (show 0 < m by omega)
      exact ⟨h1, h2⟩
    have hw : wrap64 q = q := wrapIs (by omega) (by omega)
    have hqm : n % m = if q < 0 then q + m else q := by
      have e : n % m = q % m := by
        have h1 := Int.mul_tdiv_add_tmod n m
        rw [hq]
        conv => lhs; rw [← h1]
        exact Int.mul_add_emod_self_left _ _ _
      rw [e]
      split
      · rw [← Int.add_emod_right, Int.emod_eq_of_lt (by omega) (by omega)]
      · rw [Int.emod_eq_of_lt (by omega) (by omega)]
    by_cases h0 : q < 0
    · have hw2 : wrap64 (q + m) = q + m := wrapIs (by omega) (by omega)
      rw [hqm, if_pos h0]
      go_enter Try.func18, Try.ntmps18
      go_wp2
      go_ret
      exact ⟨rfl, rfl⟩
    · rw [hqm, if_neg h0]
      go_enter Try.func18, Try.ntmps18
      go_wp2
      go_ret
      exact ⟨rfl, rfl⟩
end Go.Proofs.Ytphdkniplhkkfaa
