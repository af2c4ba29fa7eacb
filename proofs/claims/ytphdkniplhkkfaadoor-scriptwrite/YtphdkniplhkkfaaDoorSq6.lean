
/-
  Package script: Name, Fold, and the document's.
-/
import Derived.Test.YtphdkniplhkkfaaDoorSq1
namespace Go.Proofs.YtphdkniplhkkfaaDoor
open Go.RowKit Go.Extern.Stop Go.Stop Go.Extern
set_option maxRecDepth 100000

def names : List ByteArray := [⟨#[105, 110, 115, 101, 114, 116]⟩, ⟨#[101, 114, 97, 115, 101]⟩, ⟨#[117, 110, 100, 111]⟩, ⟨#[114, 101, 100, 111]⟩, ⟨#[114, 101, 119, 114, 105, 116, 101]⟩, ⟨#[99, 117, 114, 115, 111, 114]⟩, ⟨#[112, 114, 111, 112, 111, 115, 101]⟩, ⟨#[115, 121, 110, 99]⟩, ⟨#[100, 101, 108, 105, 118, 101, 114]⟩, ⟨#[100, 114, 111, 112]⟩, ⟨#[100, 111, 117, 98, 108, 101]⟩, ⟨#[115, 119, 97, 112]⟩, ⟨#[102, 97, 105, 114]⟩, ⟨#[114, 101, 108, 111, 97, 100]⟩]
/-- A kind's name. -/
def nameB (k : Int) : ByteArray := if 0 ≤ k ∧ k < 14 then names.getD k.toNat .empty else .empty
def nameV : Array Value := (names.map Value.string).toArray
theorem nameV_at {k : Nat} (h : k < 14) : nameV[k]? = some (.string (nameB k)) := by
  unfold nameB nameV
  rw [if_pos (by omega), List.getElem?_toArray, List.getElem?_map, Int.toNat_natCast, List.getD, List.getElem?_eq_getElem (show k < names.length from h)]
  rfl
theorem isKind_at {k : Int} {b : Bool} (h : decide (0 ≤ k ∧ k < 14) = b) (w : World) : Calls Tryd.prog 21 #[.int .i64 k] w fun e w' => e = .returned (.bool b) ∧ w' = w := by
  by_cases h0 : 0 ≤ k
  · by_cases h1 : k < 14
    · rw [decide_eq_true ⟨h0, h1⟩] at h
      subst h
      go_enter Tryd.func21, Tryd.ntmps21
      go_wp2
      go_ret
      exact ⟨rfl, rfl⟩
    · rw [decide_eq_false (by omega)] at h
      subst h
      go_enter Tryd.func21, Tryd.ntmps21
      go_wp2
      go_ret
      exact ⟨rfl, rfl⟩
  · rw [decide_eq_false (by omega)] at h
    subst h
    go_enter Tryd.func21, Tryd.ntmps21
    go_wp2
    go_ret
    exact ⟨rfl, rfl⟩
set_option maxHeartbeats 2000000 in
theorem name_is (k : Int) (w : World) : Calls Tryd.prog 17 #[.int .i64 k] w fun e w' => e = .returned (.string (nameB k)) ∧ Below w.heap.size w w' := by
  by_cases h : 0 ≤ k ∧ k < 14
  · obtain ⟨n, rfl⟩ : ∃ n : Nat, k = (n : Int) := ⟨k.toNat, by omega⟩
    have HK := hid_of' (fun x => isKind_at (k := (n : Int)) (decide_eq_true h) x)
    have hn0 : (0 : Int) ≤ (n : Int) := h.1
    have hn1 : (n : Int) < 14 := h.2
    have hn2 : ¬ (14 : Int) ≤ (n : Int) := by omega
    have hn3 : ¬ (n : Int) < 0 := by omega
    have hn4 : n < 14 := by omega
    have r1 : RowAt w.heap.size nameV 49 (w.alloc (.cells nameV 49)) := RowAt.new w _ _
    have c1 := r1.is (nameV_at hn4)
    have b1 := below_one w (.cells nameV 49)
    clear h
    go_enter Tryd.func17, Tryd.ntmps17
    go_upto_region 2 with fail
    change Code.wp Tryd.prog _ _ _ (w.alloc (.cells nameV 49))
    generalize hw1 : w.alloc (.cells nameV 49) = w1 at r1 b1 c1 ⊢
    go_wp2_with (go_at_call 21; with_reducible refine (HK.out _).mono ?_; rintro e wx ⟨rfl, hwx⟩; rw [hwx]; clear hwx)
    go_ret
    exact ⟨rfl, b1⟩
  · have e : nameB k = .empty := if_neg h
    rw [e]
    have HK := hid_of' (fun x => isKind_at (k := k) (decide_eq_false h) x)
    have b1 := below_one w (.cells nameV 49)
    go_enter Tryd.func17, Tryd.ntmps17
    go_upto_region 2 with fail
    change Code.wp Tryd.prog _ _ _ (w.alloc (.cells nameV 49))
    generalize hw1 : w.alloc (.cells nameV 49) = w1 at b1 ⊢
    go_wp2_with (go_at_call 21; with_reducible refine (HK.out _).mono ?_; rintro e wx ⟨rfl, hwx⟩; rw [hwx]; clear hwx)
    go_ret
    exact ⟨rfl, b1⟩
set_option maxHeartbeats 2000000 in
theorem refname_is (k : Int) (w : World) : Calls Tryd.prog 29 #[.int .i64 k] w fun e w' => e = .returned (.string (nameB k)) ∧ Below w.heap.size w w' := by
  by_cases h : 0 ≤ k ∧ k < 14
  · obtain ⟨n, rfl⟩ : ∃ n : Nat, k = (n : Int) := ⟨k.toNat, by omega⟩
    have hn0 : (0 : Int) ≤ (n : Int) := h.1
    have hn1 : (n : Int) < 14 := h.2
    have hn2 : ¬ (14 : Int) ≤ (n : Int) := by omega
    have hn3 : ¬ (n : Int) < 0 := by omega
    have hn4 : n < 14 := by omega
    have r1 : RowAt w.heap.size nameV 49 (w.alloc (.cells nameV 49)) := RowAt.new w _ _
    have c1 := r1.is (nameV_at hn4)
    have b1 := below_one w (.cells nameV 49)
    clear h
    go_enter Tryd.func29, Tryd.ntmps29
    go_upto_region 2 with fail
    change Code.wp Tryd.prog _ _ _ (w.alloc (.cells nameV 49))
    generalize hw1 : w.alloc (.cells nameV 49) = w1 at r1 b1 c1 ⊢
    go_wp2_with (fail)
    go_ret
    exact ⟨rfl, b1⟩
  · have e : nameB k = .empty := if_neg h
    rw [e]
    by_cases h0 : k < 0
    · have b1 := below_one w (.cells nameV 49)
      go_enter Tryd.func29, Tryd.ntmps29
      go_upto_region 2 with fail
      change Code.wp Tryd.prog _ _ _ (w.alloc (.cells nameV 49))
      generalize hw1 : w.alloc (.cells nameV 49) = w1 at b1 ⊢
      go_wp2_with (fail)
      go_ret
      exact ⟨rfl, b1⟩
    · have h1 : (14 : Int) ≤ k := by omega
      have b1 := below_one w (.cells nameV 49)
      go_enter Tryd.func29, Tryd.ntmps29
      go_upto_region 2 with fail
      change Code.wp Tryd.prog _ _ _ (w.alloc (.cells nameV 49))
      generalize hw1 : w.alloc (.cells nameV 49) = w1 at b1 ⊢
      go_wp2_with (fail)
      go_ret
      exact ⟨rfl, b1⟩
end Go.Proofs.YtphdkniplhkkfaaDoor
