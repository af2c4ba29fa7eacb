/-
  barrowlaw01.FaultNames answers true.
-/
import Derived.Test.YthbnhecellbncabDoorCls
import Derived.Test.YthbnhecellbncabDoorWords
import Derived.Deep.RegionWith
namespace Go.Proofs.YthbnhecellbncabDoor
open Go.RowKit Go.Extern.Stop Go.Stop Go.Extern
set_option maxRecDepth 100000

theorem code_rsn {ad : Nat → Addr} {w : World} (L : Laid ad w) (k : Nat) (hk : k < 13) :
    Calls Tryd.prog 6 #[.iface 93 (.pointer (some (ad k)))] w fun e w' => e = .returned (.int .i64 ((k : Int) + 1)) ∧ Below w.heap.size w w' := by
  have := code_any (ad := ad) (w := w) (.rsn k) (by intro h; cases h) (through_plain L (.rsn k) (by intro b g c l h; cases h) (show k < 14 by omega))
  simpa [codeOf, cds, hk, val] using this
theorem code_other {ad : Nat → Addr} {w : World} (L : Laid ad w) :
    Calls Tryd.prog 6 #[.iface 93 (.pointer (some (ad 13)))] w fun e w' => e = .returned (.int .i64 99) ∧ Below w.heap.size w w' := by
  have := code_any (ad := ad) (w := w) (.rsn 13) (by intro h; cases h) (through_plain L (.rsn 13) (by intro b g c l h; cases h) (show 13 < 14 by omega))
  simpa [codeOf, cds, val] using this

theorem below_drew (w : World) : Below w.heap.size w w.drew := (Below.refl _ _).drew

/-- The row that the law lays. -/
def rowOf (ad : Nat → Addr) : Array Value := #[.iface 93 (.pointer (some (ad 0))), .iface 93 (.pointer (some (ad 1))), .iface 93 (.pointer (some (ad 2))), .iface 93 (.pointer (some (ad 3))), .iface 93 (.pointer (some (ad 4))), .iface 93 (.pointer (some (ad 5))), .iface 93 (.pointer (some (ad 6))), .iface 93 (.pointer (some (ad 7))), .iface 93 (.pointer (some (ad 8))), .iface 93 (.pointer (some (ad 9))), .iface 93 (.pointer (some (ad 10))), .iface 93 (.pointer (some (ad 11))), .iface 93 (.pointer (some (ad 12)))]
theorem rowOf_at (ad : Nat → Addr) (k : Nat) (hk : k < 13) : (rowOf ad)[k]? = some (.iface 93 (.pointer (some (ad k)))) := by
  match k, hk with
  | 0, _ | 1, _ | 2, _ | 3, _ | 4, _ | 5, _ | 6, _ | 7, _ | 8, _ | 9, _ | 10, _ | 11, _ | 12, _ => rfl

set_option maxHeartbeats 2000000 in
theorem names_ok {ad : Nat → Addr} {w : World} (L : Laid ad w) :
    Calls Tryd.prog 3 #[] w fun e w' => e = .returned (.bool true) ∧ Below w.heap.size w w' := by
  have h0 : w.cell? ⟨0, 0, none⟩ = some (.iface 93 (.pointer (some (ad 0)))) := L.var 0 (by decide); have h1 : w.cell? ⟨1, 0, none⟩ = some (.iface 93 (.pointer (some (ad 1)))) := L.var 1 (by decide); have h2 : w.cell? ⟨2, 0, none⟩ = some (.iface 93 (.pointer (some (ad 2)))) := L.var 2 (by decide); have h3 : w.cell? ⟨3, 0, none⟩ = some (.iface 93 (.pointer (some (ad 3)))) := L.var 3 (by decide); have h4 : w.cell? ⟨4, 0, none⟩ = some (.iface 93 (.pointer (some (ad 4)))) := L.var 4 (by decide); have h5 : w.cell? ⟨5, 0, none⟩ = some (.iface 93 (.pointer (some (ad 5)))) := L.var 5 (by decide); have h6 : w.cell? ⟨6, 0, none⟩ = some (.iface 93 (.pointer (some (ad 6)))) := L.var 6 (by decide)
  have h7 : w.cell? ⟨7, 0, none⟩ = some (.iface 93 (.pointer (some (ad 7)))) := L.var 7 (by decide); have h8 : w.cell? ⟨8, 0, none⟩ = some (.iface 93 (.pointer (some (ad 8)))) := L.var 8 (by decide); have h9 : w.cell? ⟨9, 0, none⟩ = some (.iface 93 (.pointer (some (ad 9)))) := L.var 9 (by decide); have h10 : w.cell? ⟨10, 0, none⟩ = some (.iface 93 (.pointer (some (ad 10)))) := L.var 10 (by decide); have h11 : w.cell? ⟨11, 0, none⟩ = some (.iface 93 (.pointer (some (ad 11)))) := L.var 11 (by decide); have h12 : w.cell? ⟨12, 0, none⟩ = some (.iface 93 (.pointer (some (ad 12)))) := L.var 12 (by decide)
  go_enter Tryd.func3, Tryd.ntmps3
  go_wp2_with fail
  have hrow : (w.alloc (.cells (rowOf ad) 23)).heap[w.heap.size]? = some (.cells (rowOf ad) 23 (0, 0)) := heap_alloc_last w _
  have hb0 := below_one w (.cells (rowOf ad) 23)
  go_loopw [2] (fun i wr => ∃ k : Nat, i = .int .i64 (k : Int) ∧ k ≤ 13 ∧ Below w.heap.size w wr ∧ wr.heap[w.heap.size]? = some (.cells (rowOf ad) 23 (0, 0))) (fun i _ => 13 - (intOf i).toNat)
  case atStart => exact ⟨0, rfl, Nat.zero_le _, hb0, hrow⟩
  case round =>
    clear hrow hb0 h0 h1 h2 h3 h4 h5 h6 h7 h8 h9 h10 h11 h12
    obtain ⟨k, rfl, hk, hb, hrow⟩ := hrel
    have hN : w.heap.size < wr.heap.size := (Array.getElem?_eq_some_iff.1 hrow).1
    by_cases h13 : k < 13
    · have hki : (k : Int) < 13 := by omega
      have HL : ∀ s : Wld wr, Laid ad (wOf s) := fun s => (L.below hb).below (wOf_below s)
      have hc : ∀ s : Wld wr, (wOf s).cell? ⟨w.heap.size, k, none⟩ = some (.iface 93 (.pointer (some (ad k)))) := fun s => by
        rw [(wOf_below s).cell (p := ⟨w.heap.size, k, none⟩) hN, cell_of_heap hrow]; exact rowOf_at ad k h13
      go_wp2
      refine wp_region_cls (by kernel_rfl) (by kernel_rfl) ?_
      repeat (go_big_quiet_step (first | (go_at_call 5; exact cls_of (named_ok (HL _) k h13)) | (go_at_call 4; exact cls_of_same (same_rsn _ _)) | (go_at_call 6; exact cls_of (code_rsn (HL _) k h13)) | (go_at_call 7; exact cls_of_same (text_s (ad k) (txt k) _ ((HL _).str k (by omega)))) | (go_at_call 8; exact cls_of (refWords_any _ k h13))))
      refine wpQuiet_nil ?_
      rintro w' ⟨s, rfl⟩
      have hbs := wOf_below s
      have hrs : (wOf s).heap[w.heap.size]? = some (.cells (rowOf ad) 23 (0, 0)) := by rw [hbs.block _ hN]; exact hrow
      clear HL hc
      go_wp2
      go_roundw
      case rel => exact ⟨k + 1, by go_num, by omega, bgo hb hbs, hrs⟩
      case measure => simp [intOf]; omega
    · have hk13 : ¬ (k : Int) < 13 := by omega
      have Lr := L.below hb
      go_wp2_with (first | (go_at_call_of 5 (Value.int .i64 0); refine (named_none Lr 0 (by decide) (by decide)).mono ?_; rintro e w1 ⟨rfl, hb1⟩) | (go_at_call_of 5 (Value.int .i64 14); refine (named_none (Lr.below hb1) 14 (by decide) (by decide)).mono ?_; rintro e w2 ⟨rfl, hb2⟩) | (go_at_call_of 5 (Value.int .i64 100); refine (named_none (((Lr.below hb1).below hb2).below hb3) 100 (by decide) (by decide)).mono ?_; rintro e w4 ⟨rfl, hb4⟩) | (go_at_call 5; refine (named_none ((Lr.below hb1).below hb2) (-1) (by decide) (by decide)).mono ?_; rintro e w3 ⟨rfl, hb3⟩))
      have hb14 := bgo (bgo (bgo hb1 hb2) hb3) hb4
      have HL : ∀ s : Wld w4, Laid ad (wOf s) := fun s => (Lr.below hb14).below (wOf_below s)
      have hc : ∀ s : Wld w4, (wOf s).cell? ⟨13, 0, none⟩ = some (.iface 93 (.pointer (some (ad 13)))) := fun s => (HL s).var 13 (by decide)
      refine wp_region_cls (by kernel_rfl) (by kernel_rfl) ?_
      repeat (go_big_quiet_step (first | (go_at_call 5; exact cls_of (named_other (HL _))) | (go_at_call 4; exact cls_of_same (same_rsn _ _)) | (go_at_call_of 6 Value.nilIface; exact cls_of_same (code_nil _)) | (go_at_call 6; exact cls_of (code_other (HL _))) | (go_at_call 9; exact cls_of (wakes_ok (HL _)))))
      refine wpQuiet_nil ?_
      rintro w' ⟨s, rfl⟩
      have hbs := wOf_below s
      clear HL hc
      go_wp2
      go_ret
      exact ⟨rfl, bgo (bgo hb hb14) hbs⟩
end Go.Proofs.YthbnhecellbncabDoor
