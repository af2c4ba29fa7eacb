
/-
  barrowlaw02.WireBack answers true.
-/
import Derived.Test.YtfiajbgeijgheaaDoorBk1
namespace Go.Proofs.YtfiajbgeijgheaaDoor
open Go.RowKit
set_option maxRecDepth 100000

theorem back_full {ad : Nat → Addr} {w : World} {v mv : Value} {l : List Itm} (L : Laid ad w) (hv : SlB w v (formL l)) (hm : SlI w mv l) (hall : ∀ x ∈ l, x.Fit ∧ x.may = true) (hl : l.length ≤ 40) :
    Calls Tryd.prog 29 #[v, mv] w fun e w' => e = .returned (.tuple #[.int .i64 (l.length : Int), .int .i64 0]) ∧ Below w.heap.size w w' := by
  have h1 := formL_len l hall
  refine (back_any L hv hm hall (K := (formL l).length) (List.take_of_length_le (Nat.le_refl _)).symm (Nat.le_refl _) (by omega) (by omega)).mono ?_
  rintro e w' ⟨hb, ⟨_, rfl⟩ | ⟨h, _⟩⟩
  · exact ⟨rfl, hb⟩
  · omega
theorem back_cut {ad : Nat → Addr} {w : World} {v mv : Value} {l : List Itm} {K : Nat} (L : Laid ad w) (hv : SlB w v ((formL l).take K)) (hm : SlI w mv l) (hall : ∀ x ∈ l, x.Fit ∧ x.may = true) (hl : l.length ≤ 40) (hK : K < (formL l).length) :
    Calls Tryd.prog 29 #[v, mv] w fun e w' => ∃ n : Nat, n < l.length ∧ e = .returned (.tuple #[.int .i64 (n : Int), .int .i64 7]) ∧ Below w.heap.size w w' := by
  have h1 := formL_len l hall
  refine (back_any L hv hm hall rfl (by omega) (by rw [List.length_take]; omega) (by omega)).mono ?_
  rintro e w' ⟨hb, ⟨h, _⟩ | ⟨_, n, hn, rfl⟩⟩
  · omega
  · exact ⟨n, hn, rfl, hb⟩
/-- Bytes in a block of their own. -/
theorem sl_block {w : World} {g c : Nat} {bs : List UInt8} (h : w.heap[g]? = some (.cells (Lib.byteCells bs).toArray 5 (0, 0))) {k : Nat} (hk : k ≤ bs.length) : SlB w (.slice (some ⟨g, 0, none⟩) k c) (bs.take k) := by
  have hl : (bs.take k).length = k := by rw [List.length_take]; omega
  refine .inr ⟨g, 0, c, by rw [hl], lt_of_heap h, fun i x hx => ?_⟩
  rw [Nat.zero_add, cellW_of h]
  rw [List.getElem?_take] at hx
  split at hx
  · simp [Lib.byteCells, hx]
  · cases hx

set_option maxHeartbeats 4000000 in
theorem wireBack_all {ad : Nat → Addr} {w : World} {v : Value} {l : List Itm} (L : Laid ad w) (h : SlI w v l) :
    Calls Tryd.prog 5 #[v] w fun e w' => e = .returned (.bool true) ∧ Below w.heap.size w w' := by
  have HR0 := row_any (lw_laid L) h
  have hall := rowTo_fit (SlI.fits h) (i := 40)
  have hlen := rowTo_len l 40
  unfold RowOut at HR0
  generalize rowTo l 40 = M at *
  have HR := hid_of' HR0
  have HA := hid_of' (And.intro L hall)
  clear L h hall HR0
  go_enter Tryd.func5, Tryd.ntmps5
  go_upto_region 2 with (go_at_call 28; (with_reducible refine HR.out.mono ?_); rintro e w2 ⟨m2, g2, rfl, ho, hg2, _, hb2⟩)
  have hM : SlI w2 m2 M := own_sl ho (fun x hx => (HA.out.2 x hx).1)
  obtain ⟨a5, c5, rfl⟩ := hM.form
  have hS := sl_block hg2 (c := (formL M).length) (Nat.le_refl _)
  rw [List.take_of_length_le (Nat.le_refl _)] at hS
  have HF := hid_of' (back_full (HA.out.1.below hb2) hS hM HA.out.2 hlen)
  clear HR ho hS
  go_upto_region 5 with (go_at_call 29; (with_reducible refine HF.out.mono ?_); rintro e w3 ⟨rfl, hb3⟩)
  have hM3 := hM.later hb3
  have hg3 : w3.heap[g2]? = some (.cells (Lib.byteCells (formL M)).toArray 5 (0, 0)) := by rw [hb3.block g2 (lt_of_heap hg2)]; exact hg2
  have hB3 := bgo hb2 hb3
  have H3 := hid_of' (And.intro hM3 (And.intro hg3 (And.intro hB3 (HA.out.1.below hB3))))
  clear HF hM hg2 hb2 hb3 hM3 hg3 hB3
  go_wp2_with fail
  go_loopw [5, 6, 7] (fun _ _ kv wr => ∃ k : Nat, kv = .int .i64 (k : Int) ∧ k ≤ (formL M).length ∧ k ≤ 300 ∧ Below w3.heap.size w3 wr) (fun _ _ kv _ => 300 - (intOf kv).toNat)
  case atStart => exact ⟨0, rfl, Nat.zero_le _, Nat.zero_le _, Below.refl _ _⟩
  case round =>
    obtain ⟨k, rfl, hk, hk3, hB⟩ := hrel
    have HW := hid_of' (And.intro (wakes_ok (lw_laid (H3.out.2.2.2.below hB))) (bgo H3.out.2.2.1 hB))
    by_cases h1 : (k : Int) < ((formL M).length : Int)
    · by_cases h2 : (k : Int) < 300
      · have hkt : (k : Int).toNat = k := by omega
        have hkl : (k : Int) ≤ ((formL M).length : Int) := by omega
        have HC := hid_of' (back_cut (H3.out.2.2.2.below hB) (sl_block (c := (formL M).length) (w := wr) (g := g2) (by rw [hB.block g2 (lt_of_heap H3.out.2.1)]; exact H3.out.2.1) hk) (H3.out.1.later hB) HA.out.2 hlen (by omega))
        go_upto_region 9 with (go_at_call 29; (with_reducible refine HC.out.mono ?_); rintro e w5 ⟨n, hn, rfl, hb5⟩)
        have n1 : ¬ (n : Int) < 0 := by omega
        have n2 : ¬ (M.length : Int) ≤ (n : Int) := by omega
        have hB5 := bgo hB hb5
        clear HC hb5
        go_wp2
        go_roundw
        case rel => exact ⟨k + 1, by go_num, by omega, by omega, hB5⟩
        case measure => simp [intOf]; omega
      · go_wp2_with (go_at_call 19; refine HW.out.1.mono ?_; rintro e w9 ⟨rfl, hb9⟩)
        go_ret
        exact ⟨rfl, bgo HW.out.2 hb9⟩
    · go_wp2_with (go_at_call 19; refine HW.out.1.mono ?_; rintro e w9 ⟨rfl, hb9⟩)
      go_ret
      exact ⟨rfl, bgo HW.out.2 hb9⟩
end Go.Proofs.YtfiajbgeijgheaaDoor
