
/-
  barrowlaw02.wakes answers true; clip; barrowkeep.Within and Same.
-/
import Derived.Test.YthabeapgkaggmaaDoorWr2
namespace Go.Proofs.YthabeapgkaggmaaDoor
open Go.RowKit
set_option maxRecDepth 100000

theorem form300 : formN 300 = [172, 2] := by rw [form_big (by decide), form_small (by decide)]; rfl
theorem num300 : numR [172, 2] 999 = .ok (300, 2) := by rfl

theorem rdOut_ok {ad : Nat → Addr} {rb g : Nat} {bs : List UInt8} {pl : Nat} {name : ByteArray} {w : World} {tup : Value → Value → Value} {z : Value} {res : Except Nat (Value × Nat)} {v : Value} {k : Nat} {e : Ending} {w' : World} (h : RdOut ad rb g bs pl name w tup z res e w') (hr : res = .ok (v, k)) : e = .returned (tup v .nilIface) ∧ RdAt rb g bs (pl + k) .nilIface w' ∧ Kept [rb] w w' := by
  subst hr; exact ⟨h.2.1, h.2.2, h.1⟩

/-- Bytes in a block of their own as a text. -/
theorem conv_block {w : World} {g : Nat} {bs : List UInt8} (h : w.heap[g]? = some (.cells (Lib.byteCells bs).toArray 5 (0, 0))) (c : Nat) : (convert 25 9 (.slice (some ⟨g, 0, none⟩) bs.length c)).run Tryd.prog w = .ok (.string ⟨bs.toArray⟩) w :=
  run_convert_bytes_back (P := Tryd.prog) w 25 9 5 ⟨g, 0, none⟩ c bs Tryd.underlying25 Tryd.underlying5 Tryd.underlying9 (fun j hj => by
    rw [Addr.add_lit, Nat.zero_add, cellW_of h]
    simp [Lib.byteCells, hj])

set_option maxHeartbeats 2000000 in
theorem wakes_ok {ad : Nat → Addr} {w : World} (L : Lw ad w) :
    Calls Tryd.prog 16 #[] w fun e w' => e = .returned (.bool true) ∧ Below w.heap.size w w' := by
  have HL : Aside (Lw ad w) := L
  have hW0 := wr_new w w.heap.size (Nat.le_refl _)
  have HW : Aside (WrAt w.heap.size w.heap.size [] (.slice none 0 0) (w.alloc (.cells #[.slice none 0 0] 27))) := hW0
  clear L hW0
  go_enter Tryd.func16, Tryd.ntmps16
  go_wp2_with (first | (go_at_call 4; refine (new_any _).mono ?_; rintro e w0 ⟨rfl, rfl⟩) | (go_at_call 8; refine (wnumber_ok HW.out 300 (by decide) (by decide) (by simp)).mono ?_; rintro e w1 ⟨rfl, ⟨v1, hW1⟩, hb1⟩; rw [List.nil_append, form300] at hW1) | (go_at_call 14; refine (bytes_any hW1 (by decide)).mono ?_; rintro e w2 ⟨rfl, hg2, hb2⟩; have hcv : (convert 25 9 (.slice (some ⟨w1.heap.size, 0, none⟩) 2 2)).run Tryd.prog w2 = .ok (.string ⟨#[172, 2]⟩) w2 := conv_block hg2 2))
  have hbw2 : Below w.heap.size w w2 := ((((Below.refl _ w).alloc (Nat.le_refl _) _).trans hb1)).trans (hb2.mono (by have := hb1.size; simp at this; omega))
  have L2 : Lw ad w2 := HL.out.kept (S := []) (.of hbw2) (by simp)
  have HS : Aside (SlB (w2.alloc (.cells #[.int .u8 172, .int .u8 2] 5)) (.slice (some ⟨w2.heap.size, 0, none⟩) 2 2) [172, 2]) := .inr ⟨w2.heap.size, 0, 2, rfl, by simp, fun i b hi => by
    match i, hi with
    | 0, hi => simp at hi; subst hi; simp
    | 1, hi => simp at hi; subst hi; simp
    | n + 2, hi => simp at hi⟩
  have HB : Aside (Below w.heap.size w w2 ∧ Lw ad (w2.alloc (.cells #[.int .u8 172, .int .u8 2] 5))) := ⟨hbw2, L2.kept (S := []) ((Kept.refl _ w2).alloc _) (by simp)⟩
  have HA2 : Aside (Below w2.heap.size w2 (w2.alloc (.cells #[.int .u8 172, .int .u8 2] 5))) := (Below.refl _ w2).alloc (Nat.le_refl _) _
  clear HW hW1 hg2 hb1 hb2 hbw2 L2 HL hcv
  go_wp2_with (first | (go_at_call 26; refine (newReader_any HS.out (by decide) (by have := HB.out.2.size; omega)).mono ?_; rintro e w3 ⟨rb, rfl, hr3, hlt3, hb3⟩; have L3 : Lw ad w3 := HB.out.2.kept (S := []) (.of hb3) (by simp)) | (go_at_call 27; refine (Number_any L3 hr3 999).mono ?_; intro e w4 h4; obtain ⟨he4, hr4, hk4⟩ := rdOut_ok (v := .int .i64 300) (k := 2) h4 (by rw [List.drop_zero, num300]; rfl); subst he4) | (go_at_call 28; refine (left_any hr4).mono ?_; rintro e w5 ⟨rfl, m5, rfl⟩))
  go_ret
  have hs2 := HB.out.1.size
  have hs3 := HA2.out.size
  have hb03 : Below w.heap.size w w3 := (HB.out.1.trans (HA2.out.mono hs2)).trans (hb3.mono (by omega))
  exact ⟨rfl, (hb03.trans (hk4.below (B := w.heap.size) (by simp; omega) hb03.size)).trans ((below_drewN w4 m5).mono (by have := hb03.size; have := hk4.size; omega))⟩

theorem within3 (n : Int) (w : World) :
    Calls Tryd.prog 5 #[.int .i64 n, .int .i64 3] w fun e w' => e = .returned (.int .i64 (n % 3)) ∧ w' = w := by
  have tm : n.tmod 3 = if 0 ≤ n then n % 3 else -((-n) % 3) := by
    split
    · rename_i h; exact Int.tmod_eq_emod_of_nonneg h
    · rename_i h
      have h1 : (-n).tmod 3 = (-n) % 3 := Int.tmod_eq_emod_of_nonneg (by omega)
      rw [Int.neg_tmod] at h1
      omega
  by_cases hn : n.tmod 3 < 0
  · have he : n.tmod 3 + 3 = n % 3 := by rw [tm] at hn ⊢; split at hn <;> split <;> omega
    clear tm
    go_enter Tryd.func5, Tryd.ntmps5
    go_wp2
    go_ret
    exact ⟨rfl, rfl⟩
  · have he : n.tmod 3 = n % 3 := by rw [tm] at hn ⊢; split at hn <;> split <;> omega
    clear tm
    go_enter Tryd.func5, Tryd.ntmps5
    go_wp2
    go_ret
    exact ⟨rfl, rfl⟩
theorem within4 (n : Int) (w : World) :
    Calls Tryd.prog 5 #[.int .i64 n, .int .i64 4] w fun e w' => e = .returned (.int .i64 (n % 4)) ∧ w' = w := by
  have tm : n.tmod 4 = if 0 ≤ n then n % 4 else -((-n) % 4) := by
    split
    · rename_i h; exact Int.tmod_eq_emod_of_nonneg h
    · rename_i h
      have h1 : (-n).tmod 4 = (-n) % 4 := Int.tmod_eq_emod_of_nonneg (by omega)
      rw [Int.neg_tmod] at h1
      omega
  by_cases hn : n.tmod 4 < 0
  · have he : n.tmod 4 + 4 = n % 4 := by rw [tm] at hn ⊢; split at hn <;> split <;> omega
    clear tm
    go_enter Tryd.func5, Tryd.ntmps5
    go_wp2
    go_ret
    exact ⟨rfl, rfl⟩
  · have he : n.tmod 4 = n % 4 := by rw [tm] at hn ⊢; split at hn <;> split <;> omega
    clear tm
    go_enter Tryd.func5, Tryd.ntmps5
    go_wp2
    go_ret
    exact ⟨rfl, rfl⟩
theorem within5 (n : Int) (w : World) :
    Calls Tryd.prog 5 #[.int .i64 n, .int .i64 5] w fun e w' => e = .returned (.int .i64 (n % 5)) ∧ w' = w := by
  have tm : n.tmod 5 = if 0 ≤ n then n % 5 else -((-n) % 5) := by
    split
    · rename_i h; exact Int.tmod_eq_emod_of_nonneg h
    · rename_i h
      have h1 : (-n).tmod 5 = (-n) % 5 := Int.tmod_eq_emod_of_nonneg (by omega)
      rw [Int.neg_tmod] at h1
      omega
  by_cases hn : n.tmod 5 < 0
  · have he : n.tmod 5 + 5 = n % 5 := by rw [tm] at hn ⊢; split at hn <;> split <;> omega
    clear tm
    go_enter Tryd.func5, Tryd.ntmps5
    go_wp2
    go_ret
    exact ⟨rfl, rfl⟩
  · have he : n.tmod 5 = n % 5 := by rw [tm] at hn ⊢; split at hn <;> split <;> omega
    clear tm
    go_enter Tryd.func5, Tryd.ntmps5
    go_wp2
    go_ret
    exact ⟨rfl, rfl⟩

theorem compF : (Tryd.prog.info? 64).map (·.comparable) = some true := by kernel_rfl
theorem sizeF : (Tryd.prog.info? 66).map (·.size) = some 4 := by kernel_rfl
end Go.Proofs.YthabeapgkaggmaaDoor
