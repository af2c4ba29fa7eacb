
/-
  What the document's Reader wants besides, over the rows of packets. barrowref01.Say: a refusal as the document has it.
-/
import Derived.Test.YteffpnjgchihpaaGreatDoorPB18
import Derived.Test.YteffpnjgchihpaaGreatDoorPB31
import Derived.WalkKit
import Derived.WalkSpells
import Derived.WalkLawsBesides
import Derived.Deep.WholeRow
import Derived.Laws.StructEq
import Derived.Deep.QuietTactic
import Derived.BigQuiet
import Derived.Deep.Cut
import Derived.Deep.RegionWith
import Derived.Deep.LoopGhost
namespace Go.Proofs.YteffpnjgchihpaaGreatDoor
open Go.RowKit
set_option maxRecDepth 100000

theorem below_row {n g : Nat} {a w : World} (h : Below n a w) (hg : n ≤ g) (c : Array Value) : Below n a (w.setRow g c) :=
  ⟨h.os, h.tape, h.output, by simpa using h.size, fun k hk => by rw [setRow_other w g k c (by omega)]; exact h.block k hk⟩


theorem heap_alloc_lastO (w : World) (o : Obj) : (w.alloc o).heap[w.heap.size]? = some o := heap_alloc_new w o
end Go.Proofs.YteffpnjgchihpaaGreatDoor
namespace Go.Proofs.YteffpnjgchihpaaGreatDoor
open Go.RowKit
set_option maxRecDepth 100000

/-- The place as a refusal tells it. -/
def place (at_ : Int) : Int := if at_ < 0 then -1 else at_

/-- A refusal's cells. -/
def nov (code : Int) (a : Option Addr) (n c : Nat) (a' : Option Addr) (n' c' : Nat) : Array Value := #[.int .i64 code, .slice a n c, .slice a' n' c']
theorem no_size : (Tryz.prog.info? 37).map (·.size) = some 3 := by kernel_rfl
theorem wpL_storeNo {ops : Array Oper} {rest : List Oper} {o : Oper} {A : Act} {w : World} {Q : Exit → Act → World → Prop} (hgd : o.guard = none) (x y : Operand) (ho : o.op = .store 37 x y) {g : Nat} (hx : A.eval x = .pointer (some ⟨g, 0, none⟩)) {code : Int} {a a' : Option Addr} {n c n' c' : Nat} (hy : A.eval y = .agg #[.int .i64 code, .slice a n c, .slice a' n' c']) {c0 c1 c2 : Value} (h : RowAt g #[c0, c1, c2] 37 w)
    (k : wpList Tryz.prog ops Q rest (A.put o.dst undef) (w.setRow g (nov code a n c a' n' c'))) : wpList Tryz.prog ops Q (o :: rest) A w :=
  wpList_store_row hgd _ x y ho g (nov code a n c a' n' c') hx hy _ _ h no_size rfl (by simp [nov, Value.oneCell']) k

set_option maxHeartbeats 1000000 in
theorem wrap_any (la ca : ByteArray) (at_ code : Int) (g : Nat) (w : World) (hc : (code == 0) = false) :
    Calls Tryz.prog 44 #[.string la, .string ca, .int .i64 at_, .agg #[.int .i64 code, .slice none 0 0, .slice (some ⟨g, 0, none⟩) 1 1]] w fun e w' => ∃ g', e = .returned (.agg #[.int .i64 code, .slice (some ⟨g', 0, none⟩) 1 1, .slice (some ⟨g, 0, none⟩) 1 1]) ∧ w.heap.size ≤ g' ∧ RowAt g' #[.string la, .string ca, .int .i64 (place at_)] 104 w' ∧ Below w.heap.size w w' := by
  by_cases hneg : at_ < 0
  · have HP : Hid (place at_ = -1) := if_pos hneg
    go_enter Tryz.func44, Tryz.ntmps44
    go_wp2
    go_region
    go_wp2
    have hr : RowAt (w.heap.size + 1 + 1) #[.string la, .string ca, .int .i64 (-1)] 104 (((w.alloc (.cells #[.int .i64 code, .slice none 0 0, .slice (some ⟨g, 0, none⟩) 1 1] 37)).alloc (.cells #[.int .i64 code, .slice (some ⟨w.heap.size + 1 + 1, 0, none⟩) 1 1, .slice (some ⟨g, 0, none⟩) 1 1] 37)).alloc (.cells #[.string la, .string ca, .int .i64 (-1)] 104)).drew := by
      have := heap_alloc_lastO ((w.alloc (.cells #[.int .i64 code, .slice none 0 0, .slice (some ⟨g, 0, none⟩) 1 1] 37)).alloc (.cells #[.int .i64 code, .slice (some ⟨w.heap.size + 1 + 1, 0, none⟩) 1 1, .slice (some ⟨g, 0, none⟩) 1 1] 37)) (.cells #[.string la, .string ca, .int .i64 (-1)] 104)
      simp only [World.size_alloc] at this
      exact this
    refine bodyPost_ret (v := .agg #[.int .i64 code, .slice (some ⟨w.heap.size + 1 + 1, 0, none⟩) 1 1, .slice (some ⟨g, 0, none⟩) 1 1]) (by simp [results, Tryz.results44, go_sem]) rfl ⟨w.heap.size + 1 + 1, rfl, by omega, ?_, ?_⟩
    · rw [HP.out]; exact hr
    · exact (bgo (bgo (below_one w _) (below_one _ _)) (below_one _ _)).drew
  · have HP : Hid (place at_ = at_) := if_neg hneg
    go_enter Tryz.func44, Tryz.ntmps44
    go_wp2
    go_region
    go_wp2
    have hr : RowAt (w.heap.size + 1 + 1) #[.string la, .string ca, .int .i64 at_] 104 (((w.alloc (.cells #[.int .i64 code, .slice none 0 0, .slice (some ⟨g, 0, none⟩) 1 1] 37)).alloc (.cells #[.int .i64 code, .slice (some ⟨w.heap.size + 1 + 1, 0, none⟩) 1 1, .slice (some ⟨g, 0, none⟩) 1 1] 37)).alloc (.cells #[.string la, .string ca, .int .i64 at_] 104)).drew := by
      have := heap_alloc_lastO ((w.alloc (.cells #[.int .i64 code, .slice none 0 0, .slice (some ⟨g, 0, none⟩) 1 1] 37)).alloc (.cells #[.int .i64 code, .slice (some ⟨w.heap.size + 1 + 1, 0, none⟩) 1 1, .slice (some ⟨g, 0, none⟩) 1 1] 37)) (.cells #[.string la, .string ca, .int .i64 at_] 104)
      simp only [World.size_alloc] at this
      exact this
    refine bodyPost_ret (v := .agg #[.int .i64 code, .slice (some ⟨w.heap.size + 1 + 1, 0, none⟩) 1 1, .slice (some ⟨g, 0, none⟩) 1 1]) (by simp [results, Tryz.results44, go_sem]) rfl ⟨w.heap.size + 1 + 1, rfl, by omega, ?_, ?_⟩
    · rw [HP.out]; exact hr
    · exact (bgo (bgo (below_one w _) (below_one _ _)) (below_one _ _)).drew

set_option maxHeartbeats 1000000 in
theorem say_any (la ca : ByteArray) (at_ code : Int) (w : World) (hc : (code == 0) = false) :
    Calls Tryz.prog 14 #[.string la, .string ca, .int .i64 at_, .int .i64 code] w fun e w' => ∃ g g', e = .returned (.agg #[.int .i64 code, .slice (some ⟨g', 0, none⟩) 1 1, .slice (some ⟨g, 0, none⟩) 1 1]) ∧ w.heap.size ≤ g' ∧ w.heap.size ≤ g ∧ RowAt g' #[.string la, .string ca, .int .i64 (place at_)] 104 w' ∧ RowAt g #[.int .i64 code] 3 w' ∧ Below w.heap.size w w' := by
  have g0 : RowAt w.heap.size #[.int .i64 0, .slice none 0 0, .slice none 0 0] 37 ((w.alloc (.cells #[.int .i64 0, .slice none 0 0, .slice none 0 0] 37)).alloc (.cells #[.int .i64 code] 3)) := by
    have h1 : RowAt w.heap.size #[.int .i64 0, .slice none 0 0, .slice none 0 0] 37 (w.alloc (.cells #[.int .i64 0, .slice none 0 0, .slice none 0 0] 37)) := heap_alloc_lastO w _
    exact h1.later (below_one _ _)
  have g1 : RowAt (w.heap.size + 1) #[.int .i64 code] 3 ((w.alloc (.cells #[.int .i64 0, .slice none 0 0, .slice none 0 0] 37)).alloc (.cells #[.int .i64 code] 3)) := by
    have h1 := heap_alloc_lastO (w.alloc (.cells #[.int .i64 0, .slice none 0 0, .slice none 0 0] 37)) (.cells #[.int .i64 code] 3)
    simp only [World.size_alloc] at h1
    exact h1
  have hB := bgo (below_one w (.cells #[.int .i64 0, .slice none 0 0, .slice none 0 0] 37)) (below_one _ (.cells #[.int .i64 code] 3))
  go_enter Tryz.func14, Tryz.ntmps14
  go_wp2_with (first | (go_at_call 44; refine (wrap_any la ca at_ code _ _ hc).mono ?_; rintro e w1 ⟨g', rfl, hg', hcs, hb1⟩) | (refine wpL_storeNo rfl _ _ rfl rfl rfl (g0.later hb1) ?_))
  have hg1 : w.heap.size + 1 + 1 ≤ g' := by simpa using hg'
  have r0 : RowAt w.heap.size #[.int .i64 code, .slice (some ⟨g', 0, none⟩) 1 1, .slice (some ⟨w.heap.size + 1, 0, none⟩) 1 1] 37 (w1.setRow w.heap.size #[.int .i64 code, .slice (some ⟨g', 0, none⟩) 1 1, .slice (some ⟨w.heap.size + 1, 0, none⟩) 1 1]) := setRow_heap w1 _ _ _ _ _ (g0.later hb1)
  have keep : ∀ (b : Nat) (cs : Array Value) (t : TypeId), RowAt b cs t w1 → w.heap.size < b → RowAt b cs t (w1.setRow w.heap.size #[.int .i64 code, .slice (some ⟨g', 0, none⟩) 1 1, .slice (some ⟨w.heap.size + 1, 0, none⟩) 1 1]) := fun b cs t h hlt => (setRow_other w1 w.heap.size b _ (by omega)).trans h
  exact bodyPost_ret (v := .agg #[.int .i64 code, .slice (some ⟨g', 0, none⟩) 1 1, .slice (some ⟨w.heap.size + 1, 0, none⟩) 1 1]) (results_cell_row rfl _ _ w.heap.size _ _ _ _ rfl r0 Tryz.underlying37 rfl no_size) rfl ⟨w.heap.size + 1, g', rfl, by omega, by omega, keep _ _ _ hcs (by omega), keep _ _ _ (g1.later hb1) (by omega), below_row (bgo hB hb1) (Nat.le_refl _) _⟩
theorem RowAt.other {b : Nat} {cs : Array Value} {t : TypeId} {w : World} (h : RowAt b cs t w) (g : Nat) (c : Array Value) (hn : ¬ b = g) : RowAt b cs t (w.setRow g c) := (setRow_other w g b c hn).trans h
theorem RowAt.put {b : Nat} {cs : Array Value} {t : TypeId} {w : World} (h : RowAt b cs t w) (c : Array Value) : RowAt b c t (w.setRow b c) := setRow_heap w b _ _ _ _ h
theorem CsIn.other {b off : Nat} {cs : Array Value} {w : World} (h : CsIn b off cs w) (g : Nat) (c : Array Value) (hn : ¬ b = g) : CsIn b off cs (w.setRow g c) := ⟨by simpa using h.1, fun j v hv => by rw [cell_setRow_other _ _ _ _ (by simpa using hn)]; exact h.2 j v hv⟩
end Go.Proofs.YteffpnjgchihpaaGreatDoor
