
/-
  tree.New of a number that is not right.
-/
import Derived.Test.YtdihbgmjnfpppaaGreatDoorTrTree
import Derived.Test.YtdihbgmjnfpppaaGreatDoorTrRefuse
namespace Go.Proofs.YtdihbgmjnfpppaaGreatDoor
open Go.RowKit Go.Extern.Stop Go.Stop Go.Extern
set_option maxRecDepth 100000

theorem newT {ad : Nat → Addr} (la ca : ByteArray) (at_ : Int) (k : Nat) (w : World) :
    Calls Tryz.prog 41 #[.string la, .string ca, .int .i64 at_, .iface 197 (.pointer (some (ad k)))] w fun e w' => e = .returned (.iface 97 (.pointer (some ⟨w.heap.size, 0, none⟩))) ∧ FaultAt ad w.heap.size la ca (place at_) k w' ∧ Below w.heap.size w w' := by
  have HP : Hid (max at_ (-1) = place at_) := by unfold Hid place; split <;> omega
  go_enter Tryz.func41, Tryz.ntmps41
  go_wp2
  go_ret
  refine ⟨rfl, ?_, below_one _ _⟩
  rw [← HP.out]
  exact heap_alloc_last w _
def bTree : ByteArray := ⟨#[116, 114, 101, 101]⟩
def bNew : ByteArray := ⟨#[78, 101, 119]⟩

set_option maxHeartbeats 400000 in
theorem new_bad {ad : Nat → Addr} (ch : Int) (w : World) (L : Laid ad w) (h : ch < 2 ∨ 64 < ch) :
    Calls Tryz.prog 38 #[.int .i64 ch] w fun r w' => r = .returned (.tuple #[.pointer none, .iface 97 (.pointer (some ⟨w.heap.size, 0, none⟩))]) ∧ FaultAt ad w.heap.size bTree bNew (place ch) 0 w' ∧ Below w.heap.size w w' := by
  have LV : w.cell? ⟨0, 0, none⟩ = some (.iface 197 (.pointer (some (ad 0)))) := L.var 0 (by decide)
  have HF := hid_of' (newT (ad := ad) bTree bNew ch 0 w)
  clear L
  by_cases h2 : ch < 2
  · go_enter Tryz.func38, Tryz.ntmps38
    go_wp2_with (go_at_call 41; refine HF.out.mono ?_; rintro r w1 ⟨rfl, hf, hb1⟩)
    go_ret2
    exact ⟨rfl, hf, hb1⟩
  · have h3 : 64 < ch := by omega
    clear h
    go_enter Tryz.func38, Tryz.ntmps38
    go_wp2_with (go_at_call 41; refine HF.out.mono ?_; rintro r w1 ⟨rfl, hf, hb1⟩)
    go_ret2
    exact ⟨rfl, hf, hb1⟩
end Go.Proofs.YtdihbgmjnfpppaaGreatDoor
