/-
  clock.Text.
-/
import Derived.Test.YtcfefgcibdpmeaaDoorCkDig
import Derived.Test.YtcfefgcibdpmeaaDoorBld
import Derived.Test.YtcfefgcibdpmeaaDoorCkOpen
import Derived.Lib.ItoaLen
namespace Go.Proofs.YtcfefgcibdpmeaaDoor
open Go.RowKit
open Go.Lib (itoa itoa_length_le byteCells strCells TabIs pow10Tab)
set_option maxRecDepth 100000

theorem BldC_keep {B b : Nat} {bs : List Value} {w w' : World} (h : Bld B b bs w) (hb : Below w.heap.size w w') : Bld B b bs w' := by
  have keep : ∀ p, Lib.BuilderAt 62 5 B b p bs w → Lib.BuilderAt 62 5 B b p bs w' := fun p h => by
    obtain ⟨hB, v, hbk, hown, hne⟩ := h
    exact ⟨hB, v, by rw [hb.block b (Array.getElem?_eq_some_iff.1 hbk).1]; exact hbk, hown.kept (row := none) ⟨hb.os, hb.tape, hb.output, hb.size, fun k hk _ => hb.block k hk⟩ (by cases hv : v.ownBlock <;> simp), hne⟩
  rcases h with h | h
  · exact .inl (keep _ h)
  · exact .inr (keep _ h)

theorem txtC_snoc (a : List Int) : ∀ (n r : Nat), txtC a r (n + 1) = txtC a r n ++ ((if r + n = 0 then [] else [46]) ++ itoa (en a (r + n)))
  | 0, r => by simp [txtC]
  | n + 1, r => by
    rw [txtC, txtC_snoc a n (r + 1), txtC, show r + 1 + n = r + (n + 1) by omega]
    simp [List.append_assoc]
theorem txtC_len {a : List Int} (h : ∀ k, (itoa (en a k)).length ≤ 21) : ∀ (n r : Nat), (txtC a r n).length ≤ 22 * n
  | 0, r => by simp [txtC]
  | n + 1, r => by
    have := txtC_len h n (r + 1)
    have := h r
    rw [txtC]
    simp only [List.length_append]
    split <;> simp only [List.length_nil, List.length_cons] <;> omega
theorem en_len {a : List Int} (h : Ck a) (k : Nat) : (itoa (en a k)).length ≤ 21 := by
  by_cases hk : k < 8
  · have := h.2 k hk
    unfold fitsI at this
    exact itoa_length_le _ this.1 this.2
  · have e : en a k = 0 := by
      have := h.1
      unfold en
      simp only [List.getD, List.getElem?_eq_none (show a.length ≤ k by omega), Option.getD_none]
    rw [e]
    exact itoa_length_le _ (by decide) (by decide)
theorem below_growN (w : World) (k : Nat) (os : Array Obj) : Below w.heap.size w (Sort.grow (w.drewN k) os) :=
  ⟨rfl, rfl, rfl, by show w.heap.size ≤ (w.heap ++ os).size; rw [Array.size_append]; omega, fun _ hj => Sort.heap_grow_old (w.drewN k) os hj⟩

/-- strconv.Itoa. -/
theorem itoa_any (n : Int) (hn : fitsI n) (w : World) (ht : TabIs Tryd.prog w "internal/strconv.uint64pow10" .u64 pow10Tab) :
    Calls Tryd.prog 21 #[.int .i64 n] w fun e w' => e = .returned (.string ⟨(itoa n).toArray⟩) ∧ Below w.heap.size w w' := by
  refine (Tryd.strconv_Itoa n hn.1 hn.2 w ht).mono ?_
  rintro e w' ⟨rfl, k, os, rfl⟩
  exact ⟨rfl, below_growN w k os⟩
theorem bytes_app (l : List UInt8) (m : List UInt8) : byteCells l ++ strCells ⟨m.toArray⟩ = byteCells (l ++ m) := by
  simp [byteCells, strCells]
theorem bytes_dot (l : List UInt8) : byteCells l ++ [.int .u8 46] = byteCells (l ++ [46]) := by
  simp [byteCells]

set_option maxHeartbeats 2000000 in
theorem text_gen (a : List Int) (z : Int) (n : Nat) (w : World) (ha : Ck a) (hn : n ≤ 8) (hmin : min z 8 = (n : Int)) (HT : ∀ x, Below w.heap.size w x → TabIs Tryd.prog x "internal/strconv.uint64pow10" .u64 pow10Tab) :
    Calls Tryd.prog 6 #[.agg (cv a), .int .i64 z] w fun e w' => e = .returned (.string ⟨(txtC a 0 n).toArray⟩) ∧ Below w.heap.size w w' := by
  have hn8 : (n : Int) ≤ 8 := by omega
  go_enter Tryd.func6, Tryd.ntmps6
  go_wp2
  go_loopw [6, 9] (fun _ i wr => ∃ r : Nat, i = .int .i64 (r : Int) ∧ r ≤ n ∧ CkAt w.heap.size a wr ∧ Bld (w.heap.size + 1) (w.heap.size + 1) (byteCells (txtC a 0 r)) wr ∧ Below w.heap.size w wr) (fun _ i _ => n - (intOf i).toNat)
  case atStart =>
    refine ⟨0, rfl, by omega, (CkAt.new w ha.1).alloc _, ?_, bgo (below_one _ _) (below_one _ _)⟩
    have := Lib.fresh_isBuilder 62 5 (w.alloc (.cells (cv a) 23))
    rw [World.size_alloc] at this
    exact this
  case round =>
    obtain ⟨r, rfl, hr, h1, hb, hB⟩ := hrel
    have hsz := hB.size
    have hlt1 := h1.lt
    have hbl : w.heap.size + 1 ≤ wr.heap.size := hlt1
    by_cases hlt : r < n
    · have hri : (r : Int) < (n : Int) := by omega
      have hr8 : r < 8 := by omega
      have hr8i : (r : Int) < 8 := by omega
      have fr := ha.2 r hr8
      have tl := txtC_len (en_len ha) r 0
      have il := en_len ha r
      have sn := txtC_snoc a r 0
      rw [Nat.zero_add] at sn
      have HL : Hid ((byteCells (txtC a 0 r)).length ≤ 22 * 8 ∧ (itoa (en a r)).length ≤ 21 ∧ w.heap.size + 1 ≤ wr.heap.size) := ⟨by simp only [byteCells, List.length_map]; omega, il, hbl⟩
      by_cases h0 : r = 0
      · subst h0
        rw [if_pos rfl, List.nil_append] at sn
        have HS := hid_of sn
        clear sn tl il hsz hbl hlt1
        have c1 := h1.cell hr8
        go_wp2_with (first | (go_at_call 21; refine (itoa_any _ fr _ (HT _ hB)).mono ?_; rintro e w1 ⟨rfl, hb1⟩) | (go_at_call 20; refine (writeString_any (w.heap.size + 1) (w.heap.size + 1) _ _ _ (BldC_keep hb hb1) ?h1 ?h2).mono ?_))
        case h1 => have := HL.out; simp only [ByteArray.size, List.size_toArray]; omega
        case h2 => have := HL.out; have := hb1.size; omega
        rintro e w2 ⟨rfl, hbn, hb2⟩
        rw [bytes_app, ← HS.out] at hbn
        have k1 := (h1.later hb1).below hb2 (by omega)
        have kB := (bgo hB hb1).trans (hb2.mono (by omega))
        go_wp2
        go_roundw
        case rel => exact ⟨0 + 1, by go_num, by omega, k1, hbn, kB⟩
        case measure => simp [intOf]; omega
      · have h0i : (0 : Int) < (r : Int) := by omega
        rw [if_neg h0, ← List.append_assoc] at sn
        have HS := hid_of sn
        clear sn tl il hsz hbl hlt1
        go_wp2_with (go_at_call 19; refine (writeByte_any (w.heap.size + 1) (w.heap.size + 1) _ _ _ hb ?h1 ?h2).mono ?_)
        case h1 => have := HL.out; omega
        case h2 => have := HL.out; omega
        rintro e w0 ⟨rfl, hb0, hw0⟩
        rw [bytes_dot] at hb0
        have k0 := h1.below hw0 (by omega)
        have kB0 := hB.trans (hw0.mono (by omega))
        have hz0 := hw0.size
        have c1 := k0.cell hr8
        go_wp2_with (first | (go_at_call 21; refine (itoa_any _ fr _ (HT _ kB0)).mono ?_; rintro e w1 ⟨rfl, hb1⟩) | (go_at_call 20; refine (writeString_any (w.heap.size + 1) (w.heap.size + 1) _ _ _ (BldC_keep hb0 hb1) ?h1 ?h2).mono ?_))
        case h1 => have := HL.out; simp only [ByteArray.size, List.size_toArray, byteCells, List.length_map, List.length_append, List.length_cons, List.length_nil] at *; omega
        case h2 => have := HL.out; have := hb1.size; omega
        rintro e w2 ⟨rfl, hbn, hb2⟩
        rw [bytes_app, ← HS.out] at hbn
        have k1 := (k0.later hb1).below hb2 (by omega)
        have kB := (bgo kB0 hb1).trans (hb2.mono (by omega))
        go_wp2
        go_roundw
        case rel => exact ⟨r + 1, by go_num, by omega, k1, hbn, kB⟩
        case measure => simp [intOf]; omega
    · have hri : ¬ (r : Int) < (n : Int) := by omega
      obtain rfl : r = n := by omega
      go_wp2_with (go_at_call 22; refine (Tryd.Builder_String_any (w.heap.size + 1) (w.heap.size + 1) (txtC a 0 r) _ hb hbl).mono ?_; rintro e w3 ⟨rfl, hb3⟩; have kB := hB.trans (hb3.mono (Nat.le_succ _)); clear hb3)
      go_ret
      exact ⟨rfl, kB⟩
/-- How many entries are told. -/
def cntC (z : Int) : Nat := if z < 0 then 0 else if 8 < z then 8 else z.toNat
theorem cntC_le (z : Int) : cntC z ≤ 8 := by unfold cntC; split <;> (try split) <;> omega
set_option maxHeartbeats 2000000 in
theorem text_neg (a : List Int) (z : Int) (w : World) (hz : z < 0) :
    Calls Tryd.prog 6 #[.agg (cv a), .int .i64 z] w fun e w' => e = .returned (.string ⟨(txtC a 0 0).toArray⟩) ∧ Below w.heap.size w w' := by
  have hmin : min z 8 = z := by omega
  have hz0 : ¬ 0 < z := by omega
  go_enter Tryd.func6, Tryd.ntmps6
  go_wp2
  go_loopw [6, 9] (fun _ i wr => i = .int .i64 0 ∧ Bld (w.heap.size + 1) (w.heap.size + 1) (byteCells (txtC a 0 0)) wr ∧ Below w.heap.size w wr ∧ w.heap.size + 1 ≤ wr.heap.size) (fun _ _ _ => 0)
  case atStart =>
    refine ⟨rfl, ?_, bgo (below_one _ _) (below_one _ _), by simp⟩
    have := Lib.fresh_isBuilder 62 5 (w.alloc (.cells (cv a) 23))
    rw [World.size_alloc] at this
    exact this
  case round =>
    obtain ⟨rfl, hb, hB, hbl⟩ := hrel
    go_wp2_with (go_at_call 22; refine (Tryd.Builder_String_any (w.heap.size + 1) (w.heap.size + 1) (txtC a 0 0) _ hb hbl).mono ?_; rintro e w3 ⟨rfl, hb3⟩; have kB := hB.trans (hb3.mono (Nat.le_succ _)); clear hb3)
    go_ret
    exact ⟨rfl, kB⟩
theorem text_all (a : List Int) (z : Int) (w : World) (ha : Ck a) (HT : ∀ x, Below w.heap.size w x → TabIs Tryd.prog x "internal/strconv.uint64pow10" .u64 pow10Tab) :
    Calls Tryd.prog 6 #[.agg (cv a), .int .i64 z] w fun e w' => e = .returned (.string ⟨(txtC a 0 (cntC z)).toArray⟩) ∧ Below w.heap.size w w' := by
  by_cases hz : z < 0
  · rw [show cntC z = 0 by unfold cntC; rw [if_pos hz]]
    exact text_neg a z w hz
  · refine text_gen a z (cntC z) w ha (cntC_le z) ?_ HT
    unfold cntC
    rw [if_neg hz]
    split <;> omega
end Go.Proofs.YtcfefgcibdpmeaaDoor
