/-
  clock.Lag, clock.Valid and the document's; barrowlaw03.ClockLag answers true.
-/
import Derived.Test.YtceahohcmhbkmaaDoorCkOpen
namespace Go.Proofs.YtceahohcmhbkmaaDoor
open Go.RowKit
set_option maxRecDepth 100000

/-- The sum of what is wanted, of the first k entries, without a bound. -/
def lagS (h v : List Int) : Nat → Int
  | 0 => 0
  | k + 1 => lagS h v k + (if en h k < en v k then en v k - en h k else 0)
theorem lagS_step (h v : List Int) (k : Nat) : lagS h v k ≤ lagS h v (k + 1) := by simp only [lagS]; split <;> omega
theorem lagS_mono (h v : List Int) {j k : Nat} (hjk : j ≤ k) : lagS h v j ≤ lagS h v k := by
  induction k with
  | zero => obtain rfl : j = 0 := by omega
            exact Int.le_refl _
  | succ k ih =>
    by_cases e : j = k + 1
    · subst e; exact Int.le_refl _
    · exact Int.le_trans (ih (by omega)) (lagS_step h v k)
theorem lagS_nonneg (h v : List Int) (k : Nat) : 0 ≤ lagS h v k := lagS_mono h v (Nat.zero_le k)
theorem lagS_zero (h v : List Int) : ∀ k, (∀ j, j < k → en v j ≤ en h j) → lagS h v k = 0
  | 0, _ => rfl
  | k + 1, hh => by
    have h1 := lagS_zero h v k fun j hj => hh j (by omega)
    have h2 := hh k (by omega)
    simp only [lagS, h1]
    rw [if_neg (by omega)]; rfl
/-- Lag. -/
def lagC (h v : List Int) : Int := if lagS h v 8 ≤ 9223372036854775807 then lagS h v 8 else 9223372036854775807
theorem lagC_nonneg (h v : List Int) : 0 ≤ lagC h v := by unfold lagC; have := lagS_nonneg h v 8; split <;> omega
theorem lagC_zero (h v : List Int) : (lagC h v == 0) = cov h v := by
  rw [Bool.eq_iff_iff, beq_iff_eq, cov_iff]
  constructor
  · intro h0 k hk
    unfold lagC at h0
    have h1 := lagS_mono h v (show k + 1 ≤ 8 by omega)
    have h2 := lagS_nonneg h v k
    have h3 : lagS h v (k + 1) ≤ 0 := by split at h0 <;> omega
    simp only [lagS] at h3
    split at h3 <;> omega
  · intro hh
    have := lagS_zero h v 8 hh
    unfold lagC; rw [this]; rfl

theorem lag_wrap (x y : Int) (h : x < y) (h' : y - x ≤ 18446744073709551615) :
    (wrap64 (y - x) = y - x ∧ 0 < y - x ∧ y - x ≤ 9223372036854775807) ∨ (wrap64 (y - x) < 0 ∧ -9223372036854775808 ≤ wrap64 (y - x) ∧ 9223372036854775807 < y - x) := by
  unfold wrap64
  by_cases h1 : y - x ≤ 9223372036854775807
  · left; refine ⟨?_, by omega, h1⟩; omega
  · right; omega

set_option maxHeartbeats 1000000 in
theorem lag_any (a b : List Int) (w : World) (ha : Ck a) (hb : Ck b) :
    Calls Tryd.prog 23 #[.agg (cv a), .agg (cv b)] w fun e w' => e = .returned (.int .i64 (lagC a b)) ∧ Below w.heap.size w w' := by
  go_enter Tryd.func23, Tryd.ntmps23
  go_wp2
  go_loopw [5, 6, 8] (fun s _ i wr => ∃ k : Nat, i = .int .i64 (k : Int) ∧ s = .int .i64 (lagS a b k) ∧ k ≤ 8 ∧ lagS a b k ≤ 9223372036854775807 ∧ CkAt w.heap.size a wr ∧ CkAt (w.heap.size + 1) b wr ∧ Below w.heap.size w wr) (fun _ _ i _ => 8 - (intOf i).toNat)
  case atStart =>
    exact ⟨0, rfl, rfl, by omega, by simp [lagS], start2 w ha.1 hb.1⟩
  case round =>
    obtain ⟨k, rfl, rfl, hk, hu, h1, h2, hbl⟩ := hrel
    by_cases hlt : k < 8
    · have hki : (k : Int) < 8 := by omega
      have c1 := h1.cell hlt
      have c2 := h2.cell hlt
      have hS : Hid (lagS a b (k + 1) = lagS a b k + (if en a k < en b k then en b k - en a k else 0)) := rfl
      by_cases hc : en b k ≤ en a k
      · go_wp2
        go_quiet (fail)
        go_wp2
        go_roundw
        case rel => exact ⟨k + 1, by go_num, by rw [hS.out, if_neg (by omega)]; go_num, by omega, by rw [hS.out, if_neg (by omega)]; omega, h1, h2, below_drewN hbl _⟩
        case measure => simp [intOf]; omega
      · have fa := ha.2 k hlt
        have fb := hb.2 k hlt
        obtain ⟨D, hD⟩ : ∃ D, D = en b k - en a k := ⟨_, rfl⟩
        have hW : IntKind.u64.wrap (IntKind.u64.wrap (en b k) - IntKind.u64.wrap (en a k)) = D := by
          rw [IntKind.wrap_u64, IntKind.wrap_u64, IntKind.wrap_u64, hD]
          unfold fitsI at fa fb
          omega
        have hn := lagS_nonneg a b k
        have hW2 : IntKind.u64.wrap (9223372036854775807 - lagS a b k) = 9223372036854775807 - lagS a b k := by
          rw [IntKind.wrap_u64]; omega
        have hS' : Hid (lagS a b (k + 1) = lagS a b k + D) := by rw [Hid, hS.out, if_pos (by omega), hD]
        have hD0 : 0 < D := by omega
        clear hD fa fb
        by_cases hov : 9223372036854775807 - lagS a b k < D
        · have HM : Hid (lagC a b = 9223372036854775807) := by
            have hm := lagS_mono a b (show k + 1 ≤ 8 by omega)
            rw [hS'.out] at hm
            exact if_neg (by omega)
          go_wp2
          go_quiet (fail)
          go_wp2
          go_quiet (fail)
          go_wp2
          go_ret
          exact ⟨by rw [HM.out]; rfl, below_drewN hbl _⟩
        · go_wp2
          go_quiet (fail)
          go_wp2
          go_quiet (fail)
          go_wp2
          go_roundw
          case rel => exact ⟨k + 1, by go_num, by rw [hS'.out], by omega, by rw [hS'.out]; omega, h1, h2, below_drewN hbl _⟩
          case measure => simp [intOf]; omega
    · have hki : ¬ (k : Int) < 8 := by omega
      obtain rfl : k = 8 := by omega
      have HN : Hid (lagC a b = lagS a b 8) := if_pos hu
      go_wp2
      go_ret
      exact ⟨by rw [HN.out]; rfl, hbl⟩

set_option maxHeartbeats 1000000 in
theorem refLag_any (a b : List Int) (w : World) (ha : Ck a) (hb : Ck b) :
    Calls Tryd.prog 26 #[.agg (cv a), .agg (cv b)] w fun e w' => e = .returned (.int .i64 (lagC a b)) ∧ Below w.heap.size w w' := by
  go_enter Tryd.func26, Tryd.ntmps26
  go_wp2
  go_loopw [5, 6] (fun s i wr => ∃ k : Nat, i = .int .i64 (k : Int) ∧ s = .int .i64 (lagS a b k) ∧ k ≤ 8 ∧ lagS a b k ≤ 9223372036854775807 ∧ CkAt w.heap.size a wr ∧ CkAt (w.heap.size + 1) b wr ∧ Below w.heap.size w wr) (fun _ i _ => 8 - (intOf i).toNat)
  case atStart =>
    exact ⟨0, rfl, rfl, by omega, by simp [lagS], start2 w ha.1 hb.1⟩
  case round =>
    obtain ⟨k, rfl, rfl, hk, hu, h1, h2, hbl⟩ := hrel
    by_cases hlt : k < 8
    · have hki : (k : Int) < 8 := by omega
      have c1 := h1.cell hlt
      have c2 := h2.cell hlt
      have hS : Hid (lagS a b (k + 1) = lagS a b k + (if en a k < en b k then en b k - en a k else 0)) := rfl
      by_cases hc : en b k ≤ en a k
      · go_wp2
        go_quiet (fail)
        go_wp2
        go_roundw
        case rel => exact ⟨k + 1, by go_num, by rw [hS.out, if_neg (by omega)]; go_num, by omega, by rw [hS.out, if_neg (by omega)]; omega, h1, h2, below_drewN hbl _⟩
        case measure => simp [intOf]; omega
      · have fa := ha.2 k hlt
        have fb := hb.2 k hlt
        have hn := lagS_nonneg a b k
        obtain ⟨D, hD⟩ : ∃ D, D = en b k - en a k := ⟨_, rfl⟩
        obtain ⟨E, hE⟩ : ∃ E, E = wrap64 (en b k - en a k) := ⟨_, rfl⟩
        have hS' : Hid (lagS a b (k + 1) = lagS a b k + D) := by rw [Hid, hS.out, if_pos (by omega), hD]
        have hED : (E = D ∧ 0 < D ∧ D ≤ 9223372036854775807) ∨ (E < 0 ∧ -9223372036854775808 ≤ E ∧ 9223372036854775807 < D) := by
          rw [hE, hD]
          unfold fitsI at fa fb
          exact lag_wrap _ _ (by omega) (by omega)
        have hW : wrap64 (en b k - en a k) = E := hE.symm
        have HM : Hid (9223372036854775807 < lagS a b k + D → lagC a b = 9223372036854775807) := fun h => by
          have hm := lagS_mono a b (show k + 1 ≤ 8 by omega)
          rw [hS'.out] at hm
          exact if_neg (by omega)
        clear hD fa fb hE
        rcases hED with ⟨rfl, hD0, hD1⟩ | ⟨hE0, hE1, hD1⟩
        · by_cases hov : 9223372036854775807 - lagS a b k < E
          · have hE2 : ¬ E < 0 := by omega
            go_wp2
            go_quiet (fail)
            go_wp2
            go_quiet (fail)
            go_wp2
            go_ret
            exact ⟨by rw [HM.out (by omega)]; rfl, below_drewN hbl _⟩
          · have hE2 : ¬ E < 0 := by omega
            go_wp2
            go_quiet (fail)
            go_wp2
            go_quiet (fail)
            go_wp2
            go_roundw
            case rel => exact ⟨k + 1, by go_num, by rw [hS'.out], by omega, by rw [hS'.out]; omega, h1, h2, below_drewN hbl _⟩
            case measure => simp [intOf]; omega
        · go_wp2
          go_quiet (fail)
          go_wp2
          go_quiet (fail)
          go_wp2
          go_ret
          exact ⟨by rw [HM.out (by omega)]; rfl, below_drewN hbl _⟩
    · have hki : ¬ (k : Int) < 8 := by omega
      obtain rfl : k = 8 := by omega
      have HN : Hid (lagC a b = lagS a b 8) := if_pos hu
      go_wp2
      go_ret
      exact ⟨by rw [HN.out]; rfl, hbl⟩
end Go.Proofs.YtceahohcmhbkmaaDoor
