/-
  barrowref03.Text.
-/
import Derived.Test.YtcfefgcibdpmeaaDoorCkDigs
import Derived.Test.YtcfefgcibdpmeaaDoorCkText
namespace Go.Proofs.YtcfefgcibdpmeaaDoor
open Go.RowKit
open Go.Lib (itoa)
set_option maxRecDepth 100000

set_option maxHeartbeats 2000000 in
theorem refText_any (a : List Int) (z : Int) (w : World) (ha : Ck a) :
    Calls Tryd.prog 7 #[.agg (cv a), .int .i64 z] w fun e w' => e = .returned (.string ⟨(txtC a 0 (cntC z)).toArray⟩) ∧ Below w.heap.size w w' := by
  go_enter Tryd.func7, Tryd.ntmps7
  go_wp2
  go_loopw [5, 6] (fun t i wr => ∃ r : Nat, i = .int .i64 (r : Int) ∧ r ≤ cntC z ∧ t = .string ⟨(txtC a 0 r).toArray⟩ ∧ CkAt w.heap.size a wr ∧ Below w.heap.size w wr) (fun _ i _ => 8 - (intOf i).toNat)
  case atStart => exact ⟨0, rfl, by omega, rfl, CkAt.new w ha.1, below_one _ _⟩
  case round =>
    obtain ⟨r, rfl, hr, rfl, h1, hB⟩ := hrel
    have hc8 := cntC_le z
    by_cases hlt : r < cntC z
    · have hri : (r : Int) < z := by unfold cntC at hlt; split at hlt <;> (try split at hlt) <;> omega
      have hr8 : r < 8 := by omega
      have hr8i : (r : Int) < 8 := by omega
      have fr := ha.2 r hr8
      have tl := txtC_len (en_len ha) r 0
      have il := en_len ha r
      have sn := txtC_snoc a r 0
      rw [Nat.zero_add] at sn
      have c1 := h1.cell hr8
      have HX : Hid (r < cntC z) := hlt
      by_cases h0 : r = 0
      · subst h0
        rw [if_pos rfl, List.nil_append] at sn
        have HS := hid_of sn
        clear sn hlt hr
        go_wp2_with (go_at_call 23; with_reducible refine (digits_any _ fr _).mono ?_; rintro e w1 ⟨rfl, hb1⟩)
        go_roundw
        case rel => exact ⟨0 + 1, by go_num, HX.out, by rw [HS.out]; rfl, h1.later hb1, bgo hB hb1⟩
        case measure => simp [intOf]
      · have h0i : (0 : Int) < (r : Int) := by omega
        rw [if_neg h0] at sn
        have HS := hid_of sn
        clear sn hlt hr
        go_wp2_with (go_at_call 23; with_reducible refine (digits_any _ fr _).mono ?_; rintro e w1 ⟨rfl, hb1⟩)
        go_roundw
        case rel => exact ⟨r + 1, by go_num, HX.out, by rw [HS.out, ← List.append_assoc, ← str_app, ← str_app], h1.later hb1, bgo hB hb1⟩
        case measure => simp [intOf]; omega
    · have e : r = cntC z := by omega
      by_cases hz : (r : Int) < z
      · have hr8i : ¬ (r : Int) < 8 := by unfold cntC at e; split at e <;> (try split at e) <;> omega
        go_wp2
        go_ret
        exact ⟨rfl, hB⟩
      · go_wp2
        go_ret
        exact ⟨rfl, hB⟩
end Go.Proofs.YtcfefgcibdpmeaaDoor
