
/-
  barrowlaw18.ScriptNames holds.
-/
import Derived.Test.YtphdkniplhkkfabSq8
namespace Go.Proofs.Ytphdkniplhkkfab
open Go.RowKit Go.Extern.Stop Go.Stop Go.Extern
set_option maxRecDepth 100000

def kindV : Array Value := #[.int .i64 0, .int .i64 1, .int .i64 2, .int .i64 3, .int .i64 4, .int .i64 5, .int .i64 6, .int .i64 7, .int .i64 8, .int .i64 9, .int .i64 10, .int .i64 11, .int .i64 12, .int .i64 13]
theorem kindV_at : ∀ k, k < 14 → kindV[k]? = some (.int .i64 (k : Int)) := by
  intro k hk
  match k, hk with
  | 0, _ => rfl
  | 1, _ => rfl
  | 2, _ => rfl
  | 3, _ => rfl
  | 4, _ => rfl
  | 5, _ => rfl
  | 6, _ => rfl
  | 7, _ => rfl
  | 8, _ => rfl
  | 9, _ => rfl
  | 10, _ => rfl
  | 11, _ => rfl
  | 12, _ => rfl
  | 13, _ => rfl
  | n + 14, h => omega
set_option maxHeartbeats 2000000 in
theorem scriptNames_all (w : World) :
    Calls Try.prog 3 #[] w fun e w' => e = .returned (.bool true) ∧ Below w.heap.size w w' := by
  have HK := hid_of' (fun x => wakes_is x)
  have HN := hid_of' (fun k x => name_is k x)
  have HM := hid_of' (fun k x => refname_is k x)
  have r1 : RowAt w.heap.size kindV 22 (w.alloc (.cells kindV 22)) := RowAt.new w _ _
  have b1 := below_one w (.cells kindV 22)
  go_enter Try.func3, Try.ntmps3
  go_upto_region 2 with fail
  change Code.wp Try.prog _ _ _ (w.alloc (.cells kindV 22))
  obtain ⟨P, hP⟩ : ∃ P, P = w.heap.size := ⟨_, rfl⟩
  rw [← hP] at r1 ⊢
  generalize w.alloc (.cells kindV 22) = w1 at r1 b1 ⊢
  have H1 := hid_of' (And.intro r1 (And.intro b1 hP))
  clear r1 b1 hP
  go_wp2
  go_loopw [2] (fun i wr => ∃ k : Nat, i = .int .i64 (k : Int) ∧ k ≤ 14 ∧ Below w1.heap.size w1 wr) (fun i _ => 14 - (intOf i).toNat)
  case atStart => exact ⟨0, rfl, by omega, Below.refl _ _⟩
  case round =>
    obtain ⟨k, rfl, hk, hB⟩ := hrel
    have HB := hid_of' hB
    by_cases hkn : k < 14
    · have hki : (k : Int) < 14 := by omega
      have hw1 : wrap64 ((k : Int) + 1) = (k : Int) + 1 := by unfold wrap64; omega
      have c1 := (H1.out.1.later hB).is (kindV_at k hkn)
      clear hB
      go_wp2_with (first
        | (go_at_call 4; with_reducible refine (HN.out _ _).mono ?_; rintro e wx ⟨rfl, hbx⟩; replace HB := hid_of' (bgo HB.out hbx); clear hbx)
        | (go_at_call 5; with_reducible refine (HM.out _ _).mono ?_; rintro e wx ⟨rfl, hbx⟩; replace HB := hid_of' (bgo HB.out hbx); clear hbx))
      exact ⟨⟨k + 1, by go_num, by omega, HB.out⟩, by simp [intOf]; omega⟩
    · have hki : ¬ (k : Int) < 14 := by omega
      clear hB
      have e1 : (nameB 14).toList.isEmpty = true := by rw [ByteArray.toList_eq]; rfl
      have e2 : (nameB (-1)).toList.isEmpty = true := by rw [ByteArray.toList_eq]; rfl
      go_wp2_with (first
        | (go_at_call 4; with_reducible refine (HN.out _ _).mono ?_; rintro e wx ⟨rfl, hbx⟩; replace HB := hid_of' (bgo HB.out hbx); clear hbx)
        | (go_at_call 6; with_reducible refine (HK.out _).mono ?_; rintro e wx ⟨rfl, hbx⟩; replace HB := hid_of' (bgo HB.out hbx); clear hbx))
      go_ret
      exact ⟨rfl, bgo H1.out.2.1 HB.out⟩
end Go.Proofs.Ytphdkniplhkkfab
