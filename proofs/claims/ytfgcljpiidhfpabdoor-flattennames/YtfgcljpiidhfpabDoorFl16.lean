
/-
  Package flatten: New where it refuses; FlattenNames.
-/
import Derived.Test.YtfgcljpiidhfpabDoorFl10
import Derived.Test.YtfgcljpiidhfpabDoorFl11
namespace Go.Proofs.YtfgcljpiidhfpabDoor
open Go.RowKit
set_option maxRecDepth 100000

/-- What New refuses. -/
def badN (n s : Int) : Prop := n < 1 ∨ 8 < n ∨ s < 0 ∨ n ≤ s
theorem new_no {ad : Nat → Addr} {w : World} (L : Laid ad w) {n s : Int} (hb : badN n s) :
    Calls Tryd.prog 4 #[.int .i64 n, .int .i64 s] w fun e w' => e = .returned (.tuple #[.pointer none, .iface 53 (.pointer (some ⟨w.heap.size, 0, none⟩))]) ∧ FaultAt ad w.heap.size bFlat bNewF (place s) 0 w' ∧ Below w.heap.size w w' := by
  have LV : w.cell? ⟨0, 0, none⟩ = some (.iface 127 (.pointer (some (ad 0)))) := L.var 0 (by decide)
  have HF := hid_of' (newF (ad := ad) bFlat bNewF s 0 w)
  clear L
  by_cases k1 : n < 1
  · clear hb
    go_enter Tryd.func4, Tryd.ntmps4
    go_wp2_with (go_at_call 8; refine HF.out.mono ?_; rintro e w2 ⟨rfl, hf, hb2⟩; clear HF)
    go_ret2
    exact ⟨rfl, hf, hb2⟩
  · by_cases k2 : 8 < n
    · clear hb
      go_enter Tryd.func4, Tryd.ntmps4
      go_wp2_with (go_at_call 8; refine HF.out.mono ?_; rintro e w2 ⟨rfl, hf, hb2⟩; clear HF)
      go_ret2
      exact ⟨rfl, hf, hb2⟩
    · by_cases k3 : s < 0
      · clear hb
        go_enter Tryd.func4, Tryd.ntmps4
        go_wp2_with (go_at_call 8; refine HF.out.mono ?_; rintro e w2 ⟨rfl, hf, hb2⟩; clear HF)
        go_ret2
        exact ⟨rfl, hf, hb2⟩
      · have k4 : n ≤ s := by unfold badN at hb; omega
        clear hb
        go_enter Tryd.func4, Tryd.ntmps4
        go_wp2_with (go_at_call 8; refine HF.out.mono ?_; rintro e w2 ⟨rfl, hf, hb2⟩; clear HF)
        go_ret2
        exact ⟨rfl, hf, hb2⟩
set_option maxHeartbeats 1000000 in
theorem names_all {ad : Nat → Addr} {w : World} (L : Laid ad w) :
    Calls Tryd.prog 3 #[] w fun e w' => e = .returned (.bool true) ∧ Below w.heap.size w w' := by
  have HN := hid_of' (new_no L (n := 0) (s := 0) (.inl (by decide)))
  have HL := hid_of' L
  clear L
  go_enter Tryd.func3, Tryd.ntmps3
  go_wp2_with (first | (go_at_call 4; refine HN.out.mono ?_; rintro e w1 ⟨rfl, hf1, hb1⟩; clear HN; have HS := hid_of' (say_any bFlat bNewF 0 1 w1 (by decide))) | (go_at_call 6; refine HS.out.mono ?_; rintro e w2 ⟨g, g', rfl, _, _, hc1, hc2, hb2⟩; clear HS; have HR := hid_of' (refused_some (k := 0) (HL.out.below (bgo hb1 hb2)) (RowAt.later hf1 hb2) (by decide) hc1 hc2)) | (go_at_call 5; refine HR.out.mono ?_; rintro e w3 ⟨rfl, hb3⟩; clear HR) | (go_at_call 7; refine (wakes12 w3).mono ?_; rintro e w4 ⟨rfl, hb4⟩))
  go_ret
  exact ⟨rfl, bgo (bgo (bgo hb1 hb2) hb3) hb4⟩
end Go.Proofs.YtfgcljpiidhfpabDoor
