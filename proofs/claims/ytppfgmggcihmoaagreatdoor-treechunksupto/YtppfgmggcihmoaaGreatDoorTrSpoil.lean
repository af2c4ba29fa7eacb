/-
  barrowkeep.SpoilInts over ints of one's own.
-/
import Derived.Test.YtppfgmggcihmoaaGreatDoorTrChunk
namespace Go.Proofs.YtppfgmggcihmoaaGreatDoor
open Go.RowKit
set_option maxRecDepth 100000

/-- A row of n ints of one's own. -/
def OwnI (base : Nat) (v : Value) (n : Nat) (w : World) : Prop := ∃ xs, w.ownsRow base 3 1 v n xs
theorem OwnI.form {base n : Nat} {v : Value} {w : World} (h : OwnI base v n w) : ∃ a c, v = .slice a n c := by
  obtain ⟨xs, _, ⟨rfl, rfl⟩ | ⟨g, c, cur, rfl, _⟩⟩ := h
  · exact ⟨_, _, rfl⟩
  · exact ⟨_, _, rfl⟩
theorem OwnI.block {base n c : Nat} {a : Option Addr} {w : World} (h : OwnI base (.slice a n c) n w) (hn : 0 < n) : ∃ g cur, a = some ⟨g, 0, none⟩ ∧ base ≤ g ∧ w.heap[g]? = some (.cells cur 3 (0, 0)) ∧ n ≤ cur.size := by
  obtain ⟨xs, _, ⟨_, rfl⟩ | ⟨g, c, cur, e, h1, h2, h3, _, h5, _⟩⟩ := h
  · omega
  · cases e
    exact ⟨g, cur, rfl, h1, h2, by omega⟩
theorem OwnI.set {base n c g : Nat} {w : World} (h : OwnI base (.slice (some ⟨g, 0, none⟩) n c) n w) (k : Nat) (u : Value) : OwnI base (.slice (some ⟨g, 0, none⟩) n c) n (w.setCell ⟨g, k, none⟩ u) := by
  obtain ⟨xs, hx, ⟨e, _⟩ | ⟨g, c, cur, e, h1, h2, h3, h4, h5, h6⟩⟩ := h
  · cases e
  · cases e
    exact ⟨_, by rw [List.length_take, Array.length_toList, Array.size_setIfInBounds]; omega, .inr ⟨g, c, cur.setIfInBounds k u, rfl, h1, heap_setCell_at h2 k u, h3, h4, by rw [Array.size_setIfInBounds]; exact h5, rfl⟩⟩

set_option maxHeartbeats 2000000 in
theorem spoil_any {base n : Nat} {v : Value} {w : World} (h : OwnI base v n w) (hn : n ≤ 1048576) (hb : base ≤ w.heap.size) :
    Calls Tryz.prog 36 #[v] w fun r w' => (∃ z, r = .returned z) ∧ Below base w w' := by
  obtain ⟨a, c, rfl⟩ := h.form
  obtain ⟨i0, hi, hz0, hz1, hz2⟩ := info_parts infoInt
  have HI := hid_of' (And.intro hi (And.intro hz0 (And.intro hz1 hz2)))
  clear hi hz0 hz1 hz2
  go_enter Tryz.func36, Tryz.ntmps36
  go_wp2
  go_loopw [2] (fun i wr => ∃ k : Nat, i = .int .i64 (k : Int) ∧ k ≤ n ∧ OwnI base (.slice a n c) n wr ∧ Below base w wr) (fun i _ => n - (intOf i).toNat)
  case atStart => exact ⟨0, rfl, by omega, h, Below.refl _ _⟩
  case round =>
    obtain ⟨k, rfl, hk, hown, hB⟩ := hrel
    by_cases hlt : k < n
    · have hki : (k : Int) < (n : Int) := by omega
      obtain ⟨g, cur, rfl, hg, hcur, hsz⟩ := hown.block (by omega)
      obtain ⟨x0, hx0⟩ : ∃ x0, cur[k]? = some x0 := ⟨_, Array.getElem?_eq_getElem (by omega)⟩
      have cc : wr.cell? ⟨g, k, none⟩ = some x0 := (cell_of_row wr g k cur _ (0, 0) hcur).trans hx0
      have cf : wr.frozen? ⟨g, k, none⟩ = false := Lib.frozen_of_heap hcur k
      clear hx0 hcur
      go_wp2
      go_roundw
      case rel => exact ⟨k + 1, by go_num, by omega, hown.set k _, hB.setCell (p := ⟨g, k, none⟩) hg _⟩
      case measure => simp [intOf]; omega
    · have hki : ¬ (k : Int) < (n : Int) := by omega
      have hsz := Nat.le_trans hb hB.size
      go_wp2
      clear hki hlt hk
      go_loopw [0, 3] (fun vv i wx => ∃ j : Nat, i = .int .i64 (j : Int) ∧ j ≤ 40 ∧ OwnI base vv (n + j) wx ∧ Below base w wx) (fun _ i _ => 40 - (intOf i).toNat)
      case atStart => exact ⟨0, rfl, by omega, hown, hB⟩
      case round =>
        obtain ⟨j, rfl, hj, ho2, hB2⟩ := hrel
        by_cases hl2 : j < 40
        · have hji : (j : Int) < 40 := by omega
          obtain ⟨xs, hxs⟩ := ho2
          have HX := hid_of' hxs
          have hs2 := Nat.le_trans hb hB2.size
          have HB := hid_of' (And.intro hB2 hs2)
          clear hxs hB2 hs2 hsz hown hB h
          go_wp2_with (at_builtin; refine wpList_append_own _ rfl _ _ 59 rfl base 3 i0 (.int .i64 0) 1 8 Tryz.underlying59 HI.out.1 HI.out.2.1 HI.out.2.2.1 HI.out.2.2.2 rfl (by decide) _ _ xs rfl (HX.out.alloc _) ⟨wr.heap.size, 0, none⟩ 1 1 [.int .i64 (-78)] rfl rfl (cell_one_new _ _ _) (by simp [Value.oneCell']) (by have hmx : maxLen = 9223372036854775807 := rfl; omega) (by omega) (by have := HB.out.2; rw [World.size_alloc]; omega) ?_; intro v' w1 hown' hgrow _)
          go_roundw
          case rel => exact ⟨j + 1, by go_num, by omega, ⟨_, hown'⟩, (HB.out.1.trans ((Below.refl base wr).alloc HB.out.2 _)).grown hgrow (by rw [World.size_alloc]; have := HB.out.2; omega) (fun q hq => (World.ownsRow.lt HX.out q hq).1)⟩
          case measure => simp [intOf]; omega
        · have hji : ¬ (j : Int) < 40 := by omega
          go_wp2
          go_end0
          exact ⟨⟨_, rfl⟩, hB2⟩
end Go.Proofs.YtppfgmggcihmoaaGreatDoor
