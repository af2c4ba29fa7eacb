
/-
  Package causal: a queue's next.
-/
import Derived.Test.YtlkcjbmdeimocaaDoorCq1
namespace Go.Proofs.YtlkcjbmdeimocaaDoor
open Go.RowKit Go.Maps
set_option maxRecDepth 100000

/-- The least of eight. -/
def Least (f : List Nat) (m : Nat) : Prop := (∀ r, r < 8 → m ≤ fn f r) ∧ ∃ r, r < 8 ∧ m = fn f r
set_option maxHeartbeats 2000000 in
theorem min8_is {g o : Nat} {f : List Nat} {w : World} (hc : ∀ r, r < 8 → w.cell? ⟨g, o + r, none⟩ = some (.int .i64 (fn f r : Int))) (hb : ∀ r, r < 8 → fn f r ≤ 1000000) :
    Calls Tryd.prog 64 #[.slice (some ⟨g, o, none⟩) 8 8] w fun e w' => (∃ m, Least f m ∧ e = .returned (.int .i64 (m : Int))) ∧ w' = w := by
  have c0 : w.cell? ⟨g, o, none⟩ = some (.int .i64 (fn f 0 : Int)) := hc 0 (by omega)
  have H := hid_of' (And.intro hc hb)
  clear hc hb
  go_enter Tryd.func64, Tryd.ntmps64
  go_wp2
  clear c0
  go_loopw [3, 4] (fun m i wr => wr = w ∧ ∃ k x : Nat, i = .int .i64 (k : Int) ∧ k ≤ 8 ∧ 1 ≤ k ∧ m = .int .i64 (x : Int) ∧ (∀ r, r < k → x ≤ fn f r) ∧ ∃ r, r < k ∧ x = fn f r) (fun _ i _ => 8 - (intOf i).toNat)
  case atStart => exact ⟨rfl, 1, fn f 0, rfl, by omega, by omega, rfl, (fun r hr => by rw [show r = 0 by omega]; exact Nat.le_refl _), 0, by omega, rfl⟩
  case round =>
    obtain ⟨rfl, k, x, rfl, hk, hk1, rfl, hle, r0, hr0, hx⟩ := hrel
    have HX := hid_of' (And.intro hle (And.intro hr0 hx))
    clear hle hr0 hx
    by_cases hlt : k < 8
    · have hki : (k : Int) < 8 := by omega
      have c1 := H.out.1 k hlt
      obtain ⟨y, hy⟩ : ∃ y, fn f k = y := ⟨_, rfl⟩
      rw [hy] at c1
      go_upto_region 6 with fail
      rw [show min (x : Int) (y : Int) = ((min x y : Nat) : Int) by omega]
      have HY := hid_of' hy
      clear c1 hy
      go_wp2
      go_roundw
      case rel =>
        refine ⟨trivial, k + 1, min x y, by go_num, by omega, by omega, rfl, fun r hr => ?_, ?_⟩
        · by_cases e : r = k
          · rw [e, HY.out]; omega
          · have := HX.out.1 r (by omega); omega
        · by_cases e : x ≤ y
          · exact ⟨r0, by have := HX.out.2.1; omega, by rw [← HX.out.2.2]; omega⟩
          · exact ⟨k, by omega, by rw [HY.out]; omega⟩
      case measure => simp [intOf]; omega
    · have hki : ¬ (k : Int) < 8 := by omega
      go_wp2
      go_ret
      exact ⟨⟨x, ⟨fun r hr => HX.out.1 r (by omega), r0, by have := HX.out.2.1; omega, HX.out.2.2⟩, rfl⟩, rfl⟩
set_option maxHeartbeats 1000000 in
theorem next_is {q : Nat} {v : Value} {h : List Int} {kb : Nat} {f : List Nat} {w : World} (hq : QAt q v h kb f w) (hl : h.length = 8) (hf : f.length = 8) (hb : ∀ r, r < 8 → fn f r ≤ 1000000) :
    Calls Tryd.prog 47 #[.pointer (some ⟨q, 0, none⟩)] w fun e w' => (∃ m, Least f m ∧ e = .returned (.int .i64 (m : Int))) ∧ w' = w := by
  have HM := hid_of' (min8_is (g := q) (o := 10) (fun r hr => hq.cellIs (10 + r) (qcv_first hl hf hr)) hb)
  have c0 := hq.cellIs (10 + 7) (qcv_first hl hf (r := 7) (by omega))
  clear hb
  go_enter Tryd.func47, Tryd.ntmps47
  go_wp2_with (go_at_call 64; refine HM.out.mono ?_; rintro e w1 ⟨⟨m, hm, rfl⟩, hw⟩; obtain rfl := hw.symm; clear HM)
  go_ret
  exact ⟨⟨m, hm, rfl⟩, rfl⟩
end Go.Proofs.YtlkcjbmdeimocaaDoor
