
/-
  barrowlaw18.ScriptFold holds of any two numbers.
-/
import Derived.Test.YtphdkniplhkkfaaSq8
namespace Go.Proofs.Ytphdkniplhkkfaa
open Go.RowKit Go.Extern.Stop Go.Stop Go.Extern
set_option maxRecDepth 100000

set_option maxHeartbeats 2000000 in
theorem scriptFold_all (n m : Int) (hn : -9223372036854775808 ≤ n ∧ n ≤ 9223372036854775807) (hm : -9223372036854775808 ≤ m ∧ m ≤ 9223372036854775807) (w : World) :
    Calls Try.prog 6 #[.int .i64 n, .int .i64 m] w fun e w' => e = .returned (.bool true) ∧ Below w.heap.size w w' := by
  have HF := hid_of' (fun x => fold_is n m hn hm x)
  have HG := hid_of' (fun x => reffold_is n m hn hm x)
  have HK := hid_of' (fun x => wakes_is x)
  have HN := hid_of' (fun x => And.intro (name_is n x) (name_is m x))
  have HM := hid_of' (fun x => And.intro (refname_is n x) (refname_is m x))
  have hfol : fol n m = if m < 1 then 0 else n % m := rfl
  obtain ⟨K, hK⟩ : ∃ K, K = fol n m := ⟨_, rfl⟩
  rw [← hK] at hfol HF HG
  have hb0 := Below.refl w.heap.size w
  have HB := hid_of' hb0
  clear hb0 hK hn hm
  by_cases h1 : m < 1
  · rw [if_pos h1] at hfol
    subst hfol
    go_enter Try.func6, Try.ntmps6
    go_wp2_with (first
      | (go_at_call 17; with_reducible refine (HF.out _).mono ?_; rintro e wx ⟨rfl, hwx⟩; rw [hwx]; clear hwx)
      | (go_at_call 18; with_reducible refine (HG.out _).mono ?_; rintro e wx ⟨rfl, hwx⟩; rw [hwx]; clear hwx)
      | (go_at_call 19; (first | (with_reducible refine (HN.out _).1.mono ?_) | (with_reducible refine (HN.out _).2.mono ?_)); rintro e wx ⟨rfl, hbx⟩; replace HB := hid_of' (bgo HB.out hbx); clear hbx)
      | (go_at_call 20; (first | (with_reducible refine (HM.out _).1.mono ?_) | (with_reducible refine (HM.out _).2.mono ?_)); rintro e wx ⟨rfl, hbx⟩; replace HB := hid_of' (bgo HB.out hbx); clear hbx)
      | (go_at_call 13; with_reducible refine (HK.out _).mono ?_; rintro e wx ⟨rfl, hbx⟩; replace HB := hid_of' (bgo HB.out hbx); clear hbx))
    go_ret
    exact ⟨rfl, HB.out⟩
  · rw [if_neg h1] at hfol
    have h2 : 0 ≤ K := by rw [hfol]; exact Int.emod_nonneg _ (by omega)
    have h3 : K < m := by rw [hfol]; exact Int.emod_lt_of_pos _ (by omega)
    clear hfol
    go_enter Try.func6, Try.ntmps6
    go_wp2_with (first
      | (go_at_call 17; with_reducible refine (HF.out _).mono ?_; rintro e wx ⟨rfl, hwx⟩; rw [hwx]; clear hwx)
      | (go_at_call 18; with_reducible refine (HG.out _).mono ?_; rintro e wx ⟨rfl, hwx⟩; rw [hwx]; clear hwx)
      | (go_at_call 19; (first | (with_reducible refine (HN.out _).1.mono ?_) | (with_reducible refine (HN.out _).2.mono ?_)); rintro e wx ⟨rfl, hbx⟩; replace HB := hid_of' (bgo HB.out hbx); clear hbx)
      | (go_at_call 20; (first | (with_reducible refine (HM.out _).1.mono ?_) | (with_reducible refine (HM.out _).2.mono ?_)); rintro e wx ⟨rfl, hbx⟩; replace HB := hid_of' (bgo HB.out hbx); clear hbx)
      | (go_at_call 13; with_reducible refine (HK.out _).mono ?_; rintro e wx ⟨rfl, hbx⟩; replace HB := hid_of' (bgo HB.out hbx); clear hbx))
    go_ret
    exact ⟨rfl, HB.out⟩
end Go.Proofs.Ytphdkniplhkkfaa
