
/-
  Package script: wakes.
-/
import Derived.Test.YtphdkniplhkkfaaDoorSq5
import Derived.Test.YtphdkniplhkkfaaDoorSq6
import Derived.Test.YtphdkniplhkkfaaDoorSq7
namespace Go.Proofs.YtphdkniplhkkfaaDoor
open Go.RowKit Go.Extern.Stop Go.Stop Go.Extern
set_option maxRecDepth 100000

def wkB : List UInt8 := [0, 1, 2, 3, 2, 0, 27]
def sAb : ByteArray := ⟨#[97, 98]⟩
def sSync : ByteArray := ⟨#[115, 121, 110, 99]⟩
theorem wk_rd : rd wkB = [⟨0, 1, 2, 3, sAb⟩] := by rfl
theorem wk_name : nameB 7 = sSync := by rfl
theorem sync_is : (sSync.toList == [115, 121, 110, 99]) = true := by rw [ByteArray.toList_eq]; rfl
theorem wk_sl (w : World) : SlC (w.alloc (.cells #[.int .u8 0, .int .u8 1, .int .u8 2, .int .u8 3, .int .u8 2, .int .u8 0, .int .u8 27] 5)) (.slice (some ⟨w.heap.size, 0, none⟩) 7 7) wkB := by
  refine ⟨.inr ⟨w.heap.size, 0, 7, rfl, by rw [World.size_alloc]; omega, fun i b hi => ?_⟩, some ⟨w.heap.size, 0, none⟩, 7, rfl, Nat.le_refl _⟩
  have r := RowAt.new w #[.int .u8 0, .int .u8 1, .int .u8 2, .int .u8 3, .int .u8 2, .int .u8 0, .int .u8 27] 5
  rw [Nat.zero_add]
  refine r.is ?_
  match i, hi with
  | 0, h => cases h; rfl
  | 1, h => cases h; rfl
  | 2, h => cases h; rfl
  | 3, h => cases h; rfl
  | 4, h => cases h; rfl
  | 5, h => cases h; rfl
  | 6, h => cases h; rfl
  | n + 7, h => cases h
set_option maxHeartbeats 2000000 in
theorem wakes_is (w : World) : Calls Tryd.prog 14 #[] w fun e w' => e = .returned (.bool true) ∧ Below w.heap.size w w' := by
  have HC := hid_of' (read_ok (wk_sl w) (by decide))
  have hb1 := below_one w (.cells #[.int .u8 0, .int .u8 1, .int .u8 2, .int .u8 3, .int .u8 2, .int .u8 0, .int .u8 27] 5)
  go_enter Tryd.func14, Tryd.ntmps14
  go_upto_region 2 with (go_at_call 16; refine HC.out.mono ?_; rintro e w2 ⟨u2, rfl, hu2, _, hb2⟩)
  rw [wk_rd] at hu2
  obtain ⟨a2, c2, rfl, _⟩ := Rw.form hu2
  obtain ⟨g2, rfl, hg2, p2⟩ := hu2.at (i := 0) rfl
  have hB2 := bgo hb1 hb2
  have p3 : CsIn g2 0 (stv 0 1 2 3 sAb) w2 := p2
  have c0 : w2.cell? ⟨g2, 0, none⟩ = some (.int .i64 0) := p3.2 0 _ rfl
  have c1 : w2.cell? ⟨g2, 1, none⟩ = some (.int .i64 1) := p3.2 1 _ rfl
  have c2' : w2.cell? ⟨g2, 2, none⟩ = some (.int .i64 2) := p3.2 2 _ rfl
  have c3 : w2.cell? ⟨g2, 3, none⟩ = some (.int .i64 3) := p3.2 3 _ rfl
  have c4 : w2.cell? ⟨g2, 4, none⟩ = some (.string ⟨#[97, 98]⟩) := p3.2 4 _ rfl
  have q1 : ∀ w, (binOp .eql 30 (.agg #[.int .i64 0, .int .i64 1, .int .i64 2, .int .i64 3, .string ⟨#[97, 98]⟩]) (.agg #[.int .i64 0, .int .i64 1, .int .i64 2, .int .i64 3, .string ⟨#[97, 98]⟩])).run Tryd.prog w = .ok (.bool true) w := fun w => by
    have := run_eql_st 0 1 2 3 sAb 0 1 2 3 sAb w
    rwa [seq_refl] at this
  have gd := st_guard
  have HN := hid_of' (name_is 7 w2)
  have HB := hid_of' hB2
  clear hb1 hb2 hu2 p2 p3 HC hB2
  go_wp2_with ((go_at_call 17; refine HN.out.mono ?_; rintro e w4 ⟨rfl, hb4⟩; rw [wk_name]; have hw4 := bgo HB.out hb4))
  go_ret
  exact ⟨by rw [sync_is]; rfl, hw4⟩
end Go.Proofs.YtphdkniplhkkfaaDoor
