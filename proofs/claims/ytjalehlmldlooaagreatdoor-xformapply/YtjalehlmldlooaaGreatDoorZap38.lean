
/-
  tree.New of a number that is not right. barrowkeep: mark, Elements, LendElements. barrowkeep.IntactElements: what was lent is as it was; then it is written over.
-/
import Derived.Test.YtjalehlmldlooaaGreatDoorZap08
import Derived.Test.YtjalehlmldlooaaGreatDoorZap37
import Derived.Test.YtjalehlmldlooaaGreatDoorZap30
import Derived.Test.YtjalehlmldlooaaGreatDoorZap17
import Derived.Deep.MidRow
namespace Go.Proofs.YtjalehlmldlooaaGreatDoor
open Go.RowKit Go.Extern.Stop Go.Stop Go.Extern
set_option maxRecDepth 100000

theorem newT {ad : Nat → Addr} (la ca : ByteArray) (at_ : Int) (k : Nat) (w : World) :
    Calls Tryz.prog 41 #[.string la, .string ca, .int .i64 at_, .iface 197 (.pointer (some (ad k)))] w fun e w' => e = .returned (.iface 97 (.pointer (some ⟨w.heap.size, 0, none⟩))) ∧ FaultAt ad w.heap.size la ca (place at_) k w' ∧ Below w.heap.size w w' := by
  have HP : Hid (max at_ (-1) = place at_) := by unfold Hid place; split <;> omega
  go_enter Tryz.func41, Tryz.ntmps41
  go_wp2
  go_ret
  refine ⟨rfl, ?_, below_one _ _⟩
  rw [← HP.out]
  exact heap_alloc_last w _
def bTree : ByteArray := ⟨#[116, 114, 101, 101]⟩
def bNew : ByteArray := ⟨#[78, 101, 119]⟩

set_option maxHeartbeats 400000 in
theorem new_bad {ad : Nat → Addr} (ch : Int) (w : World) (L : Laid ad w) (h : ch < 2 ∨ 64 < ch) :
    Calls Tryz.prog 38 #[.int .i64 ch] w fun r w' => r = .returned (.tuple #[.pointer none, .iface 97 (.pointer (some ⟨w.heap.size, 0, none⟩))]) ∧ FaultAt ad w.heap.size bTree bNew (place ch) 0 w' ∧ Below w.heap.size w w' := by
  have LV : w.cell? ⟨0, 0, none⟩ = some (.iface 197 (.pointer (some (ad 0)))) := L.var 0 (by decide)
  have HF := hid_of' (newT (ad := ad) bTree bNew ch 0 w)
  clear L
  by_cases h2 : ch < 2
  · go_enter Tryz.func38, Tryz.ntmps38
    go_wp2_with (go_at_call 41; refine HF.out.mono ?_; rintro r w1 ⟨rfl, hf, hb1⟩)
    go_ret2
    exact ⟨rfl, hf, hb1⟩
  · have h3 : 64 < ch := by omega
    clear h
    go_enter Tryz.func38, Tryz.ntmps38
    go_wp2_with (go_at_call 41; refine HF.out.mono ?_; rintro r w1 ⟨rfl, hf, hb1⟩)
    go_ret2
    exact ⟨rfl, hf, hb1⟩
end Go.Proofs.YtjalehlmldlooaaGreatDoor
namespace Go.Proofs.YtjalehlmldlooaaGreatDoor
open Go.RowKit
set_option maxRecDepth 100000

/-- A mark. -/
def mk (k : Int) : El := ⟨-9, 0, k, 109, 0⟩
def marks : List El := [mk 0, mk 1, mk 2, mk 3]
theorem results_e1 {fn : Func} {p : Tmp} {tmps : Array Value} {w : World} {g : Nat} {e : El} (h : fn.results = #[.cell p 49]) (hp : tmps.getD p undef = .pointer (some ⟨g, 0, none⟩)) (hg : RowAt g (ev e) 49 w) :
    (results fn tmps).run Tryz.prog w = .ok (.agg (ev e)) w := by
  have hp' : tmps[p]?.getD undef = .pointer (some ⟨g, 0, none⟩) := by simpa using hp
  simp [results, h, hp', asAddr, run_loadVar_row w g _ _ _ _ _ hg Tryz.underlying49 rfl (e_size e)]
theorem marks_next (l : List El) (k : Nat) (hk : k < 4) : (l ++ marks.take k) ++ [mk (k : Int)] = l ++ marks.take (k + 1) := by
  rw [List.append_assoc]
  congr 1
  match k, hk with
  | 0, _ => rfl
  | 1, _ => rfl
  | 2, _ => rfl
  | 3, _ => rfl
end Go.Proofs.YtjalehlmldlooaaGreatDoor
namespace Go.Proofs.YtjalehlmldlooaaGreatDoor
open Go.RowKit
set_option maxRecDepth 100000

theorem Kp.cells {b : Nat} : ∀ (vs : List Value) (o_ : Nat) (w : World), Kp b w (w.setCells b o_ vs)
  | [], _, _w => Kp.of (Below.refl _ _)
  | v :: r, o_, _w => (Kp.cell b o_ v).trans (Kp.cells r (o_ + 1) _)
/-- A block of so many cells. -/
def RowN (b n : Nat) (w : World) : Prop := ∃ cs, RowAt b cs 49 w ∧ cs.size = n
theorem RowN.later {b n : Nat} {w w' : World} (h : RowN b n w) (hb : Below w.heap.size w w') : RowN b n w' := by
  obtain ⟨cs, h1, h2⟩ := h
  exact ⟨cs, h1.later hb, h2⟩
theorem RowN.cells {b n : Nat} : ∀ (vs : List Value) (o_ : Nat) (w : World), RowN b n w → RowN b n (w.setCells b o_ vs)
  | [], _, _, h => h
  | v :: r, o_, w, ⟨cs, h1, h2⟩ => RowN.cells r (o_ + 1) _ ⟨cs.setIfInBounds o_ v, heap_setCell_at h1 o_ v, by simpa using h2⟩
theorem RowN.there {b n : Nat} {w : World} (h : RowN b n w) (o_ k : Nat) (hk : o_ + k ≤ n) : w.there b o_ k := fun j hj => by
  obtain ⟨cs, h1, h2⟩ := h
  refine ⟨?_, Lib.frozen_of_heap h1 _⟩
  rw [h1.cell, Array.getElem?_eq_getElem (by omega)]
  rfl
theorem wpL_storeM {ops : Array Oper} {rest : List Oper} {o : Oper} {A : Act} {w : World} {Q : Exit → Act → World → Prop} (hgd : o.guard = none) (x y : Operand) (ho : o.op = .store 49 x y) {g off : Nat} (hx : A.eval x = .pointer (some ⟨g, off, none⟩)) {e : El} (hy : A.eval y = .agg (ev e)) (ht : w.there g off 5)
    (k : wpList Tryz.prog ops Q rest (A.put o.dst undef) (w.setCells g off (ev e).toList)) : wpList Tryz.prog ops Q (o :: rest) A w :=
  wpList_store_mid hgd _ x y ho g off (ev e) hx hy ht (e_size e) (by simp [ev, Value.oneCell']) k
theorem mk_at (l : List El) (k : Nat) (hk : k < 4) : (l ++ marks)[l.length + k]? = some (mk (k : Int)) := by
  rw [List.getElem?_append_right (by omega), show l.length + k - l.length = k by omega]
  match k, hk with
  | 0, _ => rfl
  | 1, _ => rfl
  | 2, _ => rfl
  | 3, _ => rfl
end Go.Proofs.YtjalehlmldlooaaGreatDoor
