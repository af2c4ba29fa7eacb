
/-
  Package flatten: New where it refuses; FlattenNames.
-/
import Derived.Test.YtfgcljpiidhfpaaDoorFl10
import Derived.Test.YtfgcljpiidhfpaaDoorFl11
namespace Go.Proofs.YtfgcljpiidhfpaaDoor
open Go.RowKit
set_option maxRecDepth 100000

/-- What New refuses. -/
def badN (n s : Int) : Prop := n < 1 ∨ 8 < n ∨ s < 0 ∨ n ≤ s
theorem new_no {ad : Nat → Addr} {w : World} (L : Laid ad w) {n s : Int} (hb : badN n s) :
    Calls Tryd.prog 9 #[.int .i64 n, .int .i64 s] w fun e w' => e = .returned (.tuple #[.pointer none, .iface 101 (.pointer (some ⟨w.heap.size, 0, none⟩))]) ∧ FaultAt ad w.heap.size bFlat bNewF (place s) 0 w' ∧ Below w.heap.size w w' := by
  have LV : w.cell? ⟨0, 0, none⟩ = some (.iface 166 (.pointer (some (ad 0)))) := L.var 0 (by decide)
  have HF := hid_of' (newF (ad := ad) bFlat bNewF s 0 w)
  clear L
  by_cases k1 : n < 1
  · clear hb
    go_enter Tryd.func9, Tryd.ntmps9
    go_wp2_with (go_at_call 27; refine HF.out.mono ?_; rintro e w2 ⟨rfl, hf, hb2⟩; clear HF)
    go_ret2
    exact ⟨rfl, hf, hb2⟩
  · by_cases k2 : 8 < n
    · clear hb
      go_enter Tryd.func9, Tryd.ntmps9
      go_wp2_with (go_at_call 27; refine HF.out.mono ?_; rintro e w2 ⟨rfl, hf, hb2⟩; clear HF)
      go_ret2
      exact ⟨rfl, hf, hb2⟩
    · by_cases k3 : s < 0
      · clear hb
        go_enter Tryd.func9, Tryd.ntmps9
        go_wp2_with (go_at_call 27; refine HF.out.mono ?_; rintro e w2 ⟨rfl, hf, hb2⟩; clear HF)
        go_ret2
        exact ⟨rfl, hf, hb2⟩
      · have k4 : n ≤ s := by unfold badN at hb; omega
        clear hb
        go_enter Tryd.func9, Tryd.ntmps9
        go_wp2_with (go_at_call 27; refine HF.out.mono ?_; rintro e w2 ⟨rfl, hf, hb2⟩; clear HF)
        go_ret2
        exact ⟨rfl, hf, hb2⟩
end Go.Proofs.YtfgcljpiidhfpaaDoor
