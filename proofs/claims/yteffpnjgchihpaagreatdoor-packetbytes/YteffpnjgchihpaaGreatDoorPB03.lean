
/-
  What the listed variables hold, as the walks use it; that calls which only make memory leave it so; fault.Named.
-/
import Derived.Test.YteffpnjgchihpaaGreatDoorPB02
import Derived.WalkSmall
import Derived.Deep.WholeRow
namespace Go.Proofs.YteffpnjgchihpaaGreatDoor
open Go.RowKit Go.Extern.Stop Go.Stop Go.Extern
set_option maxRecDepth 100000

/-- The reasons' texts, by the variable's place. -/
def txt : Nat → ByteArray
  | 0 => ⟨#[98, 97, 100, 32, 97, 114, 103, 117, 109, 101, 110, 116]⟩
  | 1 => ⟨#[111, 117, 116, 32, 111, 102, 32, 114, 97, 110, 103, 101]⟩
  | 2 => ⟨#[98, 97, 100, 32, 116, 101, 120, 116]⟩
  | 3 => ⟨#[110, 111, 32, 99, 114, 101, 100, 105, 116, 32, 108, 101, 102, 116]⟩
  | 4 => ⟨#[102, 114, 111, 122, 101, 110]⟩
  | 5 => ⟨#[98, 97, 100, 32, 102, 111, 114, 109]⟩
  | 6 => ⟨#[99, 117, 116, 32, 115, 104, 111, 114, 116]⟩
  | 7 => ⟨#[110, 111, 116, 32, 121, 101, 116]⟩
  | 8 => ⟨#[116, 104, 101, 114, 101, 32, 97, 108, 114, 101, 97, 100, 121]⟩
  | 9 => ⟨#[97, 110, 111, 116, 104, 101, 114, 32, 101, 112, 111, 99, 104]⟩
  | 10 => ⟨#[98, 117, 115, 121]⟩
  | 11 => ⟨#[110, 111, 116, 104, 105, 110, 103, 32, 116, 104, 101, 114, 101]⟩
  | 12 => ⟨#[110, 111, 32, 114, 111, 111, 109]⟩
  | _ => ⟨#[115, 111, 109, 101, 116, 104, 105, 110, 103, 32, 101, 108, 115, 101]⟩

/-- Which package-level variable holds the reason at a place. -/
def gix : Nat → Nat
  | 0 => 1
  | 1 => 3
  | 2 => 4
  | 3 => 5
  | 4 => 6
  | 5 => 0
  | 6 => 7
  | 7 => 8
  | 8 => 9
  | 9 => 10
  | 10 => 11
  | 11 => 12
  | 12 => 13
  | _ => 14
theorem gix_lt (k : Nat) (h : k < 14) : gix k < 15 := by
  match k, h with
  | 0, _ | 1, _ | 2, _ | 3, _ | 4, _ | 5, _ | 6, _ | 7, _ | 8, _ | 9, _ | 10, _ | 11, _ | 12, _ | 13, _ => decide

/-- The fourteen reasons and errors.errorType, as they lie in memory; 'ad': where each reason's own cell is. -/
structure Laid (ad : Nat → Addr) (w : World) : Prop where
  var : ∀ k, k < 14 → w.cell? ⟨gix k, 0, none⟩ = some (.iface 195 (.pointer (some (ad k))))
  str : ∀ k, k < 14 → w.cell? (ad k) = some (.string (txt k))
  ne : ∀ j k, j < 14 → k < 14 → j ≠ k → ad j ≠ ad k
  row : ∀ k, k < 14 → ∃ c t, w.heap[(ad k).block]? = some (.cells c t (0, 0))
  et : w.cell? ⟨2, 0, none⟩ = some (.iface 172 (.agg #[.pointer (some ⟨15, 42, none⟩)]))

theorem lt_of_cell {w : World} {a : Addr} {v : Value} (h : w.cell? a = some v) : a.block < w.heap.size := by
  rcases Nat.lt_or_ge a.block w.heap.size with h' | h'
  · exact h'
  · simp [World.cell?, Array.getElem?_eq_none h'] at h

theorem Laid.below {ad : Nat → Addr} {w w' : World} (h : Laid ad w) (hb : Below w.heap.size w w') : Laid ad w' where
  var k hk := by rw [hb.cell (lt_of_cell (h.var k hk))]; exact h.var k hk
  str k hk := by rw [hb.cell (lt_of_cell (h.str k hk))]; exact h.str k hk
  ne := h.ne
  row k hk := by rw [hb.block _ (lt_of_cell (h.str k hk))]; exact h.row k hk
  et := by rw [hb.cell (lt_of_cell h.et)]; exact h.et

theorem Laid.size {ad : Nat → Addr} {w : World} (h : Laid ad w) : 15 ≤ w.heap.size := by
  have h1 : 2 < w.heap.size := lt_of_cell h.et
  have h2 : 14 < w.heap.size := lt_of_cell (h.var 13 (by decide))
  omega
theorem wpList_built {P : Program} {ops : Array Oper} {rest : List Oper} {o : Oper} {a : Act} {w : World} {Q : Exit → Act → World → Prop} (hg : o.guard = none) (t : TypeId) (parts : Array (Nat × Operand)) (ho : o.op = .build t parts) (cells : Array Value)
    (hc : P.built t (parts.map fun (i, x) => (i, a.eval x)).toList = some cells)
    (h : wpList P ops Q rest (a.put o.dst (.agg cells)) w) : wpList P ops Q (o :: rest) a w :=
  wpList_build hg t parts ho (by rw [hc]; rfl) (by rw [hc]; exact h)
theorem built14 (p0 p1 p2 p3 p4 p5 p6 p7 p8 p9 p10 p11 p12 : Value) : Tryz.prog.built 189 [(1, .iface 195 p0), (2, .iface 195 p1), (3, .iface 195 p2), (4, .iface 195 p3), (5, .iface 195 p4), (6, .iface 195 p5), (7, .iface 195 p6), (8, .iface 195 p7), (9, .iface 195 p8), (10, .iface 195 p9), (11, .iface 195 p10), (12, .iface 195 p11), (13, .iface 195 p12)] = some #[.nilIface, .iface 195 p0, .iface 195 p1, .iface 195 p2, .iface 195 p3, .iface 195 p4, .iface 195 p5, .iface 195 p6, .iface 195 p7, .iface 195 p8, .iface 195 p9, .iface 195 p10, .iface 195 p11, .iface 195 p12] := by kernel_rfl
theorem size14 : (Tryz.prog.info? 189).map (·.size) = some 14 := by kernel_rfl

set_option maxHeartbeats 400000 in
theorem named1 (p0 p1 p2 p3 p4 p5 p6 p7 p8 p9 p10 p11 p12 : Value) (w : World)
    (h0 : w.cell? ⟨1, 0, none⟩ = some (.iface 195 p0))
    (h1 : w.cell? ⟨3, 0, none⟩ = some (.iface 195 p1))
    (h2 : w.cell? ⟨4, 0, none⟩ = some (.iface 195 p2))
    (h3 : w.cell? ⟨5, 0, none⟩ = some (.iface 195 p3))
    (h4 : w.cell? ⟨6, 0, none⟩ = some (.iface 195 p4))
    (h5 : w.cell? ⟨0, 0, none⟩ = some (.iface 195 p5))
    (h6 : w.cell? ⟨7, 0, none⟩ = some (.iface 195 p6))
    (h7 : w.cell? ⟨8, 0, none⟩ = some (.iface 195 p7))
    (h8 : w.cell? ⟨9, 0, none⟩ = some (.iface 195 p8))
    (h9 : w.cell? ⟨10, 0, none⟩ = some (.iface 195 p9))
    (h10 : w.cell? ⟨11, 0, none⟩ = some (.iface 195 p10))
    (h11 : w.cell? ⟨12, 0, none⟩ = some (.iface 195 p11))
    (h12 : w.cell? ⟨13, 0, none⟩ = some (.iface 195 p12)) :
    Calls Tryz.prog 96 #[.int .i64 1] w fun e w' => e = .returned (#[.nilIface, .iface 195 p0, .iface 195 p1, .iface 195 p2, .iface 195 p3, .iface 195 p4, .iface 195 p5, .iface 195 p6, .iface 195 p7, .iface 195 p8, .iface 195 p9, .iface 195 p10, .iface 195 p11, .iface 195 p12][1]?.getD .nilIface) ∧ w' = w.alloc (.cells #[.nilIface, .iface 195 p0, .iface 195 p1, .iface 195 p2, .iface 195 p3, .iface 195 p4, .iface 195 p5, .iface 195 p6, .iface 195 p7, .iface 195 p8, .iface 195 p9, .iface 195 p10, .iface 195 p11, .iface 195 p12] 189) := by
  go_enter Tryz.func96, Tryz.ntmps96
  go_wp2_with (with_reducible refine wpList_built rfl 189 _ rfl #[.nilIface, .iface 195 p0, .iface 195 p1, .iface 195 p2, .iface 195 p3, .iface 195 p4, .iface 195 p5, .iface 195 p6, .iface 195 p7, .iface 195 p8, .iface 195 p9, .iface 195 p10, .iface 195 p11, .iface 195 p12] ?_ ?_; exact built14 p0 p1 p2 p3 p4 p5 p6 p7 p8 p9 p10 p11 p12)
  go_ret
  exact ⟨rfl, rfl⟩

set_option maxHeartbeats 400000 in
theorem named2 (p0 p1 p2 p3 p4 p5 p6 p7 p8 p9 p10 p11 p12 : Value) (w : World)
    (h0 : w.cell? ⟨1, 0, none⟩ = some (.iface 195 p0))
    (h1 : w.cell? ⟨3, 0, none⟩ = some (.iface 195 p1))
    (h2 : w.cell? ⟨4, 0, none⟩ = some (.iface 195 p2))
    (h3 : w.cell? ⟨5, 0, none⟩ = some (.iface 195 p3))
    (h4 : w.cell? ⟨6, 0, none⟩ = some (.iface 195 p4))
    (h5 : w.cell? ⟨0, 0, none⟩ = some (.iface 195 p5))
    (h6 : w.cell? ⟨7, 0, none⟩ = some (.iface 195 p6))
    (h7 : w.cell? ⟨8, 0, none⟩ = some (.iface 195 p7))
    (h8 : w.cell? ⟨9, 0, none⟩ = some (.iface 195 p8))
    (h9 : w.cell? ⟨10, 0, none⟩ = some (.iface 195 p9))
    (h10 : w.cell? ⟨11, 0, none⟩ = some (.iface 195 p10))
    (h11 : w.cell? ⟨12, 0, none⟩ = some (.iface 195 p11))
    (h12 : w.cell? ⟨13, 0, none⟩ = some (.iface 195 p12)) :
    Calls Tryz.prog 96 #[.int .i64 2] w fun e w' => e = .returned (#[.nilIface, .iface 195 p0, .iface 195 p1, .iface 195 p2, .iface 195 p3, .iface 195 p4, .iface 195 p5, .iface 195 p6, .iface 195 p7, .iface 195 p8, .iface 195 p9, .iface 195 p10, .iface 195 p11, .iface 195 p12][2]?.getD .nilIface) ∧ w' = w.alloc (.cells #[.nilIface, .iface 195 p0, .iface 195 p1, .iface 195 p2, .iface 195 p3, .iface 195 p4, .iface 195 p5, .iface 195 p6, .iface 195 p7, .iface 195 p8, .iface 195 p9, .iface 195 p10, .iface 195 p11, .iface 195 p12] 189) := by
  go_enter Tryz.func96, Tryz.ntmps96
  go_wp2_with (with_reducible refine wpList_built rfl 189 _ rfl #[.nilIface, .iface 195 p0, .iface 195 p1, .iface 195 p2, .iface 195 p3, .iface 195 p4, .iface 195 p5, .iface 195 p6, .iface 195 p7, .iface 195 p8, .iface 195 p9, .iface 195 p10, .iface 195 p11, .iface 195 p12] ?_ ?_; exact built14 p0 p1 p2 p3 p4 p5 p6 p7 p8 p9 p10 p11 p12)
  go_ret
  exact ⟨rfl, rfl⟩

set_option maxHeartbeats 400000 in
theorem named3 (p0 p1 p2 p3 p4 p5 p6 p7 p8 p9 p10 p11 p12 : Value) (w : World)
    (h0 : w.cell? ⟨1, 0, none⟩ = some (.iface 195 p0))
    (h1 : w.cell? ⟨3, 0, none⟩ = some (.iface 195 p1))
    (h2 : w.cell? ⟨4, 0, none⟩ = some (.iface 195 p2))
    (h3 : w.cell? ⟨5, 0, none⟩ = some (.iface 195 p3))
    (h4 : w.cell? ⟨6, 0, none⟩ = some (.iface 195 p4))
    (h5 : w.cell? ⟨0, 0, none⟩ = some (.iface 195 p5))
    (h6 : w.cell? ⟨7, 0, none⟩ = some (.iface 195 p6))
    (h7 : w.cell? ⟨8, 0, none⟩ = some (.iface 195 p7))
    (h8 : w.cell? ⟨9, 0, none⟩ = some (.iface 195 p8))
    (h9 : w.cell? ⟨10, 0, none⟩ = some (.iface 195 p9))
    (h10 : w.cell? ⟨11, 0, none⟩ = some (.iface 195 p10))
    (h11 : w.cell? ⟨12, 0, none⟩ = some (.iface 195 p11))
    (h12 : w.cell? ⟨13, 0, none⟩ = some (.iface 195 p12)) :
    Calls Tryz.prog 96 #[.int .i64 3] w fun e w' => e = .returned (#[.nilIface, .iface 195 p0, .iface 195 p1, .iface 195 p2, .iface 195 p3, .iface 195 p4, .iface 195 p5, .iface 195 p6, .iface 195 p7, .iface 195 p8, .iface 195 p9, .iface 195 p10, .iface 195 p11, .iface 195 p12][3]?.getD .nilIface) ∧ w' = w.alloc (.cells #[.nilIface, .iface 195 p0, .iface 195 p1, .iface 195 p2, .iface 195 p3, .iface 195 p4, .iface 195 p5, .iface 195 p6, .iface 195 p7, .iface 195 p8, .iface 195 p9, .iface 195 p10, .iface 195 p11, .iface 195 p12] 189) := by
  go_enter Tryz.func96, Tryz.ntmps96
  go_wp2_with (with_reducible refine wpList_built rfl 189 _ rfl #[.nilIface, .iface 195 p0, .iface 195 p1, .iface 195 p2, .iface 195 p3, .iface 195 p4, .iface 195 p5, .iface 195 p6, .iface 195 p7, .iface 195 p8, .iface 195 p9, .iface 195 p10, .iface 195 p11, .iface 195 p12] ?_ ?_; exact built14 p0 p1 p2 p3 p4 p5 p6 p7 p8 p9 p10 p11 p12)
  go_ret
  exact ⟨rfl, rfl⟩

set_option maxHeartbeats 400000 in
theorem named4 (p0 p1 p2 p3 p4 p5 p6 p7 p8 p9 p10 p11 p12 : Value) (w : World)
    (h0 : w.cell? ⟨1, 0, none⟩ = some (.iface 195 p0))
    (h1 : w.cell? ⟨3, 0, none⟩ = some (.iface 195 p1))
    (h2 : w.cell? ⟨4, 0, none⟩ = some (.iface 195 p2))
    (h3 : w.cell? ⟨5, 0, none⟩ = some (.iface 195 p3))
    (h4 : w.cell? ⟨6, 0, none⟩ = some (.iface 195 p4))
    (h5 : w.cell? ⟨0, 0, none⟩ = some (.iface 195 p5))
    (h6 : w.cell? ⟨7, 0, none⟩ = some (.iface 195 p6))
    (h7 : w.cell? ⟨8, 0, none⟩ = some (.iface 195 p7))
    (h8 : w.cell? ⟨9, 0, none⟩ = some (.iface 195 p8))
    (h9 : w.cell? ⟨10, 0, none⟩ = some (.iface 195 p9))
    (h10 : w.cell? ⟨11, 0, none⟩ = some (.iface 195 p10))
    (h11 : w.cell? ⟨12, 0, none⟩ = some (.iface 195 p11))
    (h12 : w.cell? ⟨13, 0, none⟩ = some (.iface 195 p12)) :
    Calls Tryz.prog 96 #[.int .i64 4] w fun e w' => e = .returned (#[.nilIface, .iface 195 p0, .iface 195 p1, .iface 195 p2, .iface 195 p3, .iface 195 p4, .iface 195 p5, .iface 195 p6, .iface 195 p7, .iface 195 p8, .iface 195 p9, .iface 195 p10, .iface 195 p11, .iface 195 p12][4]?.getD .nilIface) ∧ w' = w.alloc (.cells #[.nilIface, .iface 195 p0, .iface 195 p1, .iface 195 p2, .iface 195 p3, .iface 195 p4, .iface 195 p5, .iface 195 p6, .iface 195 p7, .iface 195 p8, .iface 195 p9, .iface 195 p10, .iface 195 p11, .iface 195 p12] 189) := by
  go_enter Tryz.func96, Tryz.ntmps96
  go_wp2_with (with_reducible refine wpList_built rfl 189 _ rfl #[.nilIface, .iface 195 p0, .iface 195 p1, .iface 195 p2, .iface 195 p3, .iface 195 p4, .iface 195 p5, .iface 195 p6, .iface 195 p7, .iface 195 p8, .iface 195 p9, .iface 195 p10, .iface 195 p11, .iface 195 p12] ?_ ?_; exact built14 p0 p1 p2 p3 p4 p5 p6 p7 p8 p9 p10 p11 p12)
  go_ret
  exact ⟨rfl, rfl⟩

set_option maxHeartbeats 400000 in
theorem named5 (p0 p1 p2 p3 p4 p5 p6 p7 p8 p9 p10 p11 p12 : Value) (w : World)
    (h0 : w.cell? ⟨1, 0, none⟩ = some (.iface 195 p0))
    (h1 : w.cell? ⟨3, 0, none⟩ = some (.iface 195 p1))
    (h2 : w.cell? ⟨4, 0, none⟩ = some (.iface 195 p2))
    (h3 : w.cell? ⟨5, 0, none⟩ = some (.iface 195 p3))
    (h4 : w.cell? ⟨6, 0, none⟩ = some (.iface 195 p4))
    (h5 : w.cell? ⟨0, 0, none⟩ = some (.iface 195 p5))
    (h6 : w.cell? ⟨7, 0, none⟩ = some (.iface 195 p6))
    (h7 : w.cell? ⟨8, 0, none⟩ = some (.iface 195 p7))
    (h8 : w.cell? ⟨9, 0, none⟩ = some (.iface 195 p8))
    (h9 : w.cell? ⟨10, 0, none⟩ = some (.iface 195 p9))
    (h10 : w.cell? ⟨11, 0, none⟩ = some (.iface 195 p10))
    (h11 : w.cell? ⟨12, 0, none⟩ = some (.iface 195 p11))
    (h12 : w.cell? ⟨13, 0, none⟩ = some (.iface 195 p12)) :
    Calls Tryz.prog 96 #[.int .i64 5] w fun e w' => e = .returned (#[.nilIface, .iface 195 p0, .iface 195 p1, .iface 195 p2, .iface 195 p3, .iface 195 p4, .iface 195 p5, .iface 195 p6, .iface 195 p7, .iface 195 p8, .iface 195 p9, .iface 195 p10, .iface 195 p11, .iface 195 p12][5]?.getD .nilIface) ∧ w' = w.alloc (.cells #[.nilIface, .iface 195 p0, .iface 195 p1, .iface 195 p2, .iface 195 p3, .iface 195 p4, .iface 195 p5, .iface 195 p6, .iface 195 p7, .iface 195 p8, .iface 195 p9, .iface 195 p10, .iface 195 p11, .iface 195 p12] 189) := by
  go_enter Tryz.func96, Tryz.ntmps96
  go_wp2_with (with_reducible refine wpList_built rfl 189 _ rfl #[.nilIface, .iface 195 p0, .iface 195 p1, .iface 195 p2, .iface 195 p3, .iface 195 p4, .iface 195 p5, .iface 195 p6, .iface 195 p7, .iface 195 p8, .iface 195 p9, .iface 195 p10, .iface 195 p11, .iface 195 p12] ?_ ?_; exact built14 p0 p1 p2 p3 p4 p5 p6 p7 p8 p9 p10 p11 p12)
  go_ret
  exact ⟨rfl, rfl⟩

set_option maxHeartbeats 400000 in
theorem named6 (p0 p1 p2 p3 p4 p5 p6 p7 p8 p9 p10 p11 p12 : Value) (w : World)
    (h0 : w.cell? ⟨1, 0, none⟩ = some (.iface 195 p0))
    (h1 : w.cell? ⟨3, 0, none⟩ = some (.iface 195 p1))
    (h2 : w.cell? ⟨4, 0, none⟩ = some (.iface 195 p2))
    (h3 : w.cell? ⟨5, 0, none⟩ = some (.iface 195 p3))
    (h4 : w.cell? ⟨6, 0, none⟩ = some (.iface 195 p4))
    (h5 : w.cell? ⟨0, 0, none⟩ = some (.iface 195 p5))
    (h6 : w.cell? ⟨7, 0, none⟩ = some (.iface 195 p6))
    (h7 : w.cell? ⟨8, 0, none⟩ = some (.iface 195 p7))
    (h8 : w.cell? ⟨9, 0, none⟩ = some (.iface 195 p8))
    (h9 : w.cell? ⟨10, 0, none⟩ = some (.iface 195 p9))
    (h10 : w.cell? ⟨11, 0, none⟩ = some (.iface 195 p10))
    (h11 : w.cell? ⟨12, 0, none⟩ = some (.iface 195 p11))
    (h12 : w.cell? ⟨13, 0, none⟩ = some (.iface 195 p12)) :
    Calls Tryz.prog 96 #[.int .i64 6] w fun e w' => e = .returned (#[.nilIface, .iface 195 p0, .iface 195 p1, .iface 195 p2, .iface 195 p3, .iface 195 p4, .iface 195 p5, .iface 195 p6, .iface 195 p7, .iface 195 p8, .iface 195 p9, .iface 195 p10, .iface 195 p11, .iface 195 p12][6]?.getD .nilIface) ∧ w' = w.alloc (.cells #[.nilIface, .iface 195 p0, .iface 195 p1, .iface 195 p2, .iface 195 p3, .iface 195 p4, .iface 195 p5, .iface 195 p6, .iface 195 p7, .iface 195 p8, .iface 195 p9, .iface 195 p10, .iface 195 p11, .iface 195 p12] 189) := by
  go_enter Tryz.func96, Tryz.ntmps96
  go_wp2_with (with_reducible refine wpList_built rfl 189 _ rfl #[.nilIface, .iface 195 p0, .iface 195 p1, .iface 195 p2, .iface 195 p3, .iface 195 p4, .iface 195 p5, .iface 195 p6, .iface 195 p7, .iface 195 p8, .iface 195 p9, .iface 195 p10, .iface 195 p11, .iface 195 p12] ?_ ?_; exact built14 p0 p1 p2 p3 p4 p5 p6 p7 p8 p9 p10 p11 p12)
  go_ret
  exact ⟨rfl, rfl⟩

set_option maxHeartbeats 400000 in
theorem named7 (p0 p1 p2 p3 p4 p5 p6 p7 p8 p9 p10 p11 p12 : Value) (w : World)
    (h0 : w.cell? ⟨1, 0, none⟩ = some (.iface 195 p0))
    (h1 : w.cell? ⟨3, 0, none⟩ = some (.iface 195 p1))
    (h2 : w.cell? ⟨4, 0, none⟩ = some (.iface 195 p2))
    (h3 : w.cell? ⟨5, 0, none⟩ = some (.iface 195 p3))
    (h4 : w.cell? ⟨6, 0, none⟩ = some (.iface 195 p4))
    (h5 : w.cell? ⟨0, 0, none⟩ = some (.iface 195 p5))
    (h6 : w.cell? ⟨7, 0, none⟩ = some (.iface 195 p6))
    (h7 : w.cell? ⟨8, 0, none⟩ = some (.iface 195 p7))
    (h8 : w.cell? ⟨9, 0, none⟩ = some (.iface 195 p8))
    (h9 : w.cell? ⟨10, 0, none⟩ = some (.iface 195 p9))
    (h10 : w.cell? ⟨11, 0, none⟩ = some (.iface 195 p10))
    (h11 : w.cell? ⟨12, 0, none⟩ = some (.iface 195 p11))
    (h12 : w.cell? ⟨13, 0, none⟩ = some (.iface 195 p12)) :
    Calls Tryz.prog 96 #[.int .i64 7] w fun e w' => e = .returned (#[.nilIface, .iface 195 p0, .iface 195 p1, .iface 195 p2, .iface 195 p3, .iface 195 p4, .iface 195 p5, .iface 195 p6, .iface 195 p7, .iface 195 p8, .iface 195 p9, .iface 195 p10, .iface 195 p11, .iface 195 p12][7]?.getD .nilIface) ∧ w' = w.alloc (.cells #[.nilIface, .iface 195 p0, .iface 195 p1, .iface 195 p2, .iface 195 p3, .iface 195 p4, .iface 195 p5, .iface 195 p6, .iface 195 p7, .iface 195 p8, .iface 195 p9, .iface 195 p10, .iface 195 p11, .iface 195 p12] 189) := by
  go_enter Tryz.func96, Tryz.ntmps96
  go_wp2_with (with_reducible refine wpList_built rfl 189 _ rfl #[.nilIface, .iface 195 p0, .iface 195 p1, .iface 195 p2, .iface 195 p3, .iface 195 p4, .iface 195 p5, .iface 195 p6, .iface 195 p7, .iface 195 p8, .iface 195 p9, .iface 195 p10, .iface 195 p11, .iface 195 p12] ?_ ?_; exact built14 p0 p1 p2 p3 p4 p5 p6 p7 p8 p9 p10 p11 p12)
  go_ret
  exact ⟨rfl, rfl⟩

set_option maxHeartbeats 400000 in
theorem named8 (p0 p1 p2 p3 p4 p5 p6 p7 p8 p9 p10 p11 p12 : Value) (w : World)
    (h0 : w.cell? ⟨1, 0, none⟩ = some (.iface 195 p0))
    (h1 : w.cell? ⟨3, 0, none⟩ = some (.iface 195 p1))
    (h2 : w.cell? ⟨4, 0, none⟩ = some (.iface 195 p2))
    (h3 : w.cell? ⟨5, 0, none⟩ = some (.iface 195 p3))
    (h4 : w.cell? ⟨6, 0, none⟩ = some (.iface 195 p4))
    (h5 : w.cell? ⟨0, 0, none⟩ = some (.iface 195 p5))
    (h6 : w.cell? ⟨7, 0, none⟩ = some (.iface 195 p6))
    (h7 : w.cell? ⟨8, 0, none⟩ = some (.iface 195 p7))
    (h8 : w.cell? ⟨9, 0, none⟩ = some (.iface 195 p8))
    (h9 : w.cell? ⟨10, 0, none⟩ = some (.iface 195 p9))
    (h10 : w.cell? ⟨11, 0, none⟩ = some (.iface 195 p10))
    (h11 : w.cell? ⟨12, 0, none⟩ = some (.iface 195 p11))
    (h12 : w.cell? ⟨13, 0, none⟩ = some (.iface 195 p12)) :
    Calls Tryz.prog 96 #[.int .i64 8] w fun e w' => e = .returned (#[.nilIface, .iface 195 p0, .iface 195 p1, .iface 195 p2, .iface 195 p3, .iface 195 p4, .iface 195 p5, .iface 195 p6, .iface 195 p7, .iface 195 p8, .iface 195 p9, .iface 195 p10, .iface 195 p11, .iface 195 p12][8]?.getD .nilIface) ∧ w' = w.alloc (.cells #[.nilIface, .iface 195 p0, .iface 195 p1, .iface 195 p2, .iface 195 p3, .iface 195 p4, .iface 195 p5, .iface 195 p6, .iface 195 p7, .iface 195 p8, .iface 195 p9, .iface 195 p10, .iface 195 p11, .iface 195 p12] 189) := by
  go_enter Tryz.func96, Tryz.ntmps96
  go_wp2_with (with_reducible refine wpList_built rfl 189 _ rfl #[.nilIface, .iface 195 p0, .iface 195 p1, .iface 195 p2, .iface 195 p3, .iface 195 p4, .iface 195 p5, .iface 195 p6, .iface 195 p7, .iface 195 p8, .iface 195 p9, .iface 195 p10, .iface 195 p11, .iface 195 p12] ?_ ?_; exact built14 p0 p1 p2 p3 p4 p5 p6 p7 p8 p9 p10 p11 p12)
  go_ret
  exact ⟨rfl, rfl⟩

set_option maxHeartbeats 400000 in
theorem named9 (p0 p1 p2 p3 p4 p5 p6 p7 p8 p9 p10 p11 p12 : Value) (w : World)
    (h0 : w.cell? ⟨1, 0, none⟩ = some (.iface 195 p0))
    (h1 : w.cell? ⟨3, 0, none⟩ = some (.iface 195 p1))
    (h2 : w.cell? ⟨4, 0, none⟩ = some (.iface 195 p2))
    (h3 : w.cell? ⟨5, 0, none⟩ = some (.iface 195 p3))
    (h4 : w.cell? ⟨6, 0, none⟩ = some (.iface 195 p4))
    (h5 : w.cell? ⟨0, 0, none⟩ = some (.iface 195 p5))
    (h6 : w.cell? ⟨7, 0, none⟩ = some (.iface 195 p6))
    (h7 : w.cell? ⟨8, 0, none⟩ = some (.iface 195 p7))
    (h8 : w.cell? ⟨9, 0, none⟩ = some (.iface 195 p8))
    (h9 : w.cell? ⟨10, 0, none⟩ = some (.iface 195 p9))
    (h10 : w.cell? ⟨11, 0, none⟩ = some (.iface 195 p10))
    (h11 : w.cell? ⟨12, 0, none⟩ = some (.iface 195 p11))
    (h12 : w.cell? ⟨13, 0, none⟩ = some (.iface 195 p12)) :
    Calls Tryz.prog 96 #[.int .i64 9] w fun e w' => e = .returned (#[.nilIface, .iface 195 p0, .iface 195 p1, .iface 195 p2, .iface 195 p3, .iface 195 p4, .iface 195 p5, .iface 195 p6, .iface 195 p7, .iface 195 p8, .iface 195 p9, .iface 195 p10, .iface 195 p11, .iface 195 p12][9]?.getD .nilIface) ∧ w' = w.alloc (.cells #[.nilIface, .iface 195 p0, .iface 195 p1, .iface 195 p2, .iface 195 p3, .iface 195 p4, .iface 195 p5, .iface 195 p6, .iface 195 p7, .iface 195 p8, .iface 195 p9, .iface 195 p10, .iface 195 p11, .iface 195 p12] 189) := by
  go_enter Tryz.func96, Tryz.ntmps96
  go_wp2_with (with_reducible refine wpList_built rfl 189 _ rfl #[.nilIface, .iface 195 p0, .iface 195 p1, .iface 195 p2, .iface 195 p3, .iface 195 p4, .iface 195 p5, .iface 195 p6, .iface 195 p7, .iface 195 p8, .iface 195 p9, .iface 195 p10, .iface 195 p11, .iface 195 p12] ?_ ?_; exact built14 p0 p1 p2 p3 p4 p5 p6 p7 p8 p9 p10 p11 p12)
  go_ret
  exact ⟨rfl, rfl⟩

set_option maxHeartbeats 400000 in
theorem named10 (p0 p1 p2 p3 p4 p5 p6 p7 p8 p9 p10 p11 p12 : Value) (w : World)
    (h0 : w.cell? ⟨1, 0, none⟩ = some (.iface 195 p0))
    (h1 : w.cell? ⟨3, 0, none⟩ = some (.iface 195 p1))
    (h2 : w.cell? ⟨4, 0, none⟩ = some (.iface 195 p2))
    (h3 : w.cell? ⟨5, 0, none⟩ = some (.iface 195 p3))
    (h4 : w.cell? ⟨6, 0, none⟩ = some (.iface 195 p4))
    (h5 : w.cell? ⟨0, 0, none⟩ = some (.iface 195 p5))
    (h6 : w.cell? ⟨7, 0, none⟩ = some (.iface 195 p6))
    (h7 : w.cell? ⟨8, 0, none⟩ = some (.iface 195 p7))
    (h8 : w.cell? ⟨9, 0, none⟩ = some (.iface 195 p8))
    (h9 : w.cell? ⟨10, 0, none⟩ = some (.iface 195 p9))
    (h10 : w.cell? ⟨11, 0, none⟩ = some (.iface 195 p10))
    (h11 : w.cell? ⟨12, 0, none⟩ = some (.iface 195 p11))
    (h12 : w.cell? ⟨13, 0, none⟩ = some (.iface 195 p12)) :
    Calls Tryz.prog 96 #[.int .i64 10] w fun e w' => e = .returned (#[.nilIface, .iface 195 p0, .iface 195 p1, .iface 195 p2, .iface 195 p3, .iface 195 p4, .iface 195 p5, .iface 195 p6, .iface 195 p7, .iface 195 p8, .iface 195 p9, .iface 195 p10, .iface 195 p11, .iface 195 p12][10]?.getD .nilIface) ∧ w' = w.alloc (.cells #[.nilIface, .iface 195 p0, .iface 195 p1, .iface 195 p2, .iface 195 p3, .iface 195 p4, .iface 195 p5, .iface 195 p6, .iface 195 p7, .iface 195 p8, .iface 195 p9, .iface 195 p10, .iface 195 p11, .iface 195 p12] 189) := by
  go_enter Tryz.func96, Tryz.ntmps96
  go_wp2_with (with_reducible refine wpList_built rfl 189 _ rfl #[.nilIface, .iface 195 p0, .iface 195 p1, .iface 195 p2, .iface 195 p3, .iface 195 p4, .iface 195 p5, .iface 195 p6, .iface 195 p7, .iface 195 p8, .iface 195 p9, .iface 195 p10, .iface 195 p11, .iface 195 p12] ?_ ?_; exact built14 p0 p1 p2 p3 p4 p5 p6 p7 p8 p9 p10 p11 p12)
  go_ret
  exact ⟨rfl, rfl⟩

set_option maxHeartbeats 400000 in
theorem named11 (p0 p1 p2 p3 p4 p5 p6 p7 p8 p9 p10 p11 p12 : Value) (w : World)
    (h0 : w.cell? ⟨1, 0, none⟩ = some (.iface 195 p0))
    (h1 : w.cell? ⟨3, 0, none⟩ = some (.iface 195 p1))
    (h2 : w.cell? ⟨4, 0, none⟩ = some (.iface 195 p2))
    (h3 : w.cell? ⟨5, 0, none⟩ = some (.iface 195 p3))
    (h4 : w.cell? ⟨6, 0, none⟩ = some (.iface 195 p4))
    (h5 : w.cell? ⟨0, 0, none⟩ = some (.iface 195 p5))
    (h6 : w.cell? ⟨7, 0, none⟩ = some (.iface 195 p6))
    (h7 : w.cell? ⟨8, 0, none⟩ = some (.iface 195 p7))
    (h8 : w.cell? ⟨9, 0, none⟩ = some (.iface 195 p8))
    (h9 : w.cell? ⟨10, 0, none⟩ = some (.iface 195 p9))
    (h10 : w.cell? ⟨11, 0, none⟩ = some (.iface 195 p10))
    (h11 : w.cell? ⟨12, 0, none⟩ = some (.iface 195 p11))
    (h12 : w.cell? ⟨13, 0, none⟩ = some (.iface 195 p12)) :
    Calls Tryz.prog 96 #[.int .i64 11] w fun e w' => e = .returned (#[.nilIface, .iface 195 p0, .iface 195 p1, .iface 195 p2, .iface 195 p3, .iface 195 p4, .iface 195 p5, .iface 195 p6, .iface 195 p7, .iface 195 p8, .iface 195 p9, .iface 195 p10, .iface 195 p11, .iface 195 p12][11]?.getD .nilIface) ∧ w' = w.alloc (.cells #[.nilIface, .iface 195 p0, .iface 195 p1, .iface 195 p2, .iface 195 p3, .iface 195 p4, .iface 195 p5, .iface 195 p6, .iface 195 p7, .iface 195 p8, .iface 195 p9, .iface 195 p10, .iface 195 p11, .iface 195 p12] 189) := by
  go_enter Tryz.func96, Tryz.ntmps96
  go_wp2_with (with_reducible refine wpList_built rfl 189 _ rfl #[.nilIface, .iface 195 p0, .iface 195 p1, .iface 195 p2, .iface 195 p3, .iface 195 p4, .iface 195 p5, .iface 195 p6, .iface 195 p7, .iface 195 p8, .iface 195 p9, .iface 195 p10, .iface 195 p11, .iface 195 p12] ?_ ?_; exact built14 p0 p1 p2 p3 p4 p5 p6 p7 p8 p9 p10 p11 p12)
  go_ret
  exact ⟨rfl, rfl⟩

set_option maxHeartbeats 400000 in
theorem named12 (p0 p1 p2 p3 p4 p5 p6 p7 p8 p9 p10 p11 p12 : Value) (w : World)
    (h0 : w.cell? ⟨1, 0, none⟩ = some (.iface 195 p0))
    (h1 : w.cell? ⟨3, 0, none⟩ = some (.iface 195 p1))
    (h2 : w.cell? ⟨4, 0, none⟩ = some (.iface 195 p2))
    (h3 : w.cell? ⟨5, 0, none⟩ = some (.iface 195 p3))
    (h4 : w.cell? ⟨6, 0, none⟩ = some (.iface 195 p4))
    (h5 : w.cell? ⟨0, 0, none⟩ = some (.iface 195 p5))
    (h6 : w.cell? ⟨7, 0, none⟩ = some (.iface 195 p6))
    (h7 : w.cell? ⟨8, 0, none⟩ = some (.iface 195 p7))
    (h8 : w.cell? ⟨9, 0, none⟩ = some (.iface 195 p8))
    (h9 : w.cell? ⟨10, 0, none⟩ = some (.iface 195 p9))
    (h10 : w.cell? ⟨11, 0, none⟩ = some (.iface 195 p10))
    (h11 : w.cell? ⟨12, 0, none⟩ = some (.iface 195 p11))
    (h12 : w.cell? ⟨13, 0, none⟩ = some (.iface 195 p12)) :
    Calls Tryz.prog 96 #[.int .i64 12] w fun e w' => e = .returned (#[.nilIface, .iface 195 p0, .iface 195 p1, .iface 195 p2, .iface 195 p3, .iface 195 p4, .iface 195 p5, .iface 195 p6, .iface 195 p7, .iface 195 p8, .iface 195 p9, .iface 195 p10, .iface 195 p11, .iface 195 p12][12]?.getD .nilIface) ∧ w' = w.alloc (.cells #[.nilIface, .iface 195 p0, .iface 195 p1, .iface 195 p2, .iface 195 p3, .iface 195 p4, .iface 195 p5, .iface 195 p6, .iface 195 p7, .iface 195 p8, .iface 195 p9, .iface 195 p10, .iface 195 p11, .iface 195 p12] 189) := by
  go_enter Tryz.func96, Tryz.ntmps96
  go_wp2_with (with_reducible refine wpList_built rfl 189 _ rfl #[.nilIface, .iface 195 p0, .iface 195 p1, .iface 195 p2, .iface 195 p3, .iface 195 p4, .iface 195 p5, .iface 195 p6, .iface 195 p7, .iface 195 p8, .iface 195 p9, .iface 195 p10, .iface 195 p11, .iface 195 p12] ?_ ?_; exact built14 p0 p1 p2 p3 p4 p5 p6 p7 p8 p9 p10 p11 p12)
  go_ret
  exact ⟨rfl, rfl⟩

set_option maxHeartbeats 400000 in
theorem named13 (p0 p1 p2 p3 p4 p5 p6 p7 p8 p9 p10 p11 p12 : Value) (w : World)
    (h0 : w.cell? ⟨1, 0, none⟩ = some (.iface 195 p0))
    (h1 : w.cell? ⟨3, 0, none⟩ = some (.iface 195 p1))
    (h2 : w.cell? ⟨4, 0, none⟩ = some (.iface 195 p2))
    (h3 : w.cell? ⟨5, 0, none⟩ = some (.iface 195 p3))
    (h4 : w.cell? ⟨6, 0, none⟩ = some (.iface 195 p4))
    (h5 : w.cell? ⟨0, 0, none⟩ = some (.iface 195 p5))
    (h6 : w.cell? ⟨7, 0, none⟩ = some (.iface 195 p6))
    (h7 : w.cell? ⟨8, 0, none⟩ = some (.iface 195 p7))
    (h8 : w.cell? ⟨9, 0, none⟩ = some (.iface 195 p8))
    (h9 : w.cell? ⟨10, 0, none⟩ = some (.iface 195 p9))
    (h10 : w.cell? ⟨11, 0, none⟩ = some (.iface 195 p10))
    (h11 : w.cell? ⟨12, 0, none⟩ = some (.iface 195 p11))
    (h12 : w.cell? ⟨13, 0, none⟩ = some (.iface 195 p12)) :
    Calls Tryz.prog 96 #[.int .i64 13] w fun e w' => e = .returned (#[.nilIface, .iface 195 p0, .iface 195 p1, .iface 195 p2, .iface 195 p3, .iface 195 p4, .iface 195 p5, .iface 195 p6, .iface 195 p7, .iface 195 p8, .iface 195 p9, .iface 195 p10, .iface 195 p11, .iface 195 p12][13]?.getD .nilIface) ∧ w' = w.alloc (.cells #[.nilIface, .iface 195 p0, .iface 195 p1, .iface 195 p2, .iface 195 p3, .iface 195 p4, .iface 195 p5, .iface 195 p6, .iface 195 p7, .iface 195 p8, .iface 195 p9, .iface 195 p10, .iface 195 p11, .iface 195 p12] 189) := by
  go_enter Tryz.func96, Tryz.ntmps96
  go_wp2_with (with_reducible refine wpList_built rfl 189 _ rfl #[.nilIface, .iface 195 p0, .iface 195 p1, .iface 195 p2, .iface 195 p3, .iface 195 p4, .iface 195 p5, .iface 195 p6, .iface 195 p7, .iface 195 p8, .iface 195 p9, .iface 195 p10, .iface 195 p11, .iface 195 p12] ?_ ?_; exact built14 p0 p1 p2 p3 p4 p5 p6 p7 p8 p9 p10 p11 p12)
  go_ret
  exact ⟨rfl, rfl⟩

set_option maxHeartbeats 400000 in
theorem named99 (v : Value) (p0 p1 p2 p3 p4 p5 p6 p7 p8 p9 p10 p11 p12 : Value) (w : World) (hv : w.cell? ⟨14, 0, none⟩ = some v)
    (h0 : w.cell? ⟨1, 0, none⟩ = some (.iface 195 p0))
    (h1 : w.cell? ⟨3, 0, none⟩ = some (.iface 195 p1))
    (h2 : w.cell? ⟨4, 0, none⟩ = some (.iface 195 p2))
    (h3 : w.cell? ⟨5, 0, none⟩ = some (.iface 195 p3))
    (h4 : w.cell? ⟨6, 0, none⟩ = some (.iface 195 p4))
    (h5 : w.cell? ⟨0, 0, none⟩ = some (.iface 195 p5))
    (h6 : w.cell? ⟨7, 0, none⟩ = some (.iface 195 p6))
    (h7 : w.cell? ⟨8, 0, none⟩ = some (.iface 195 p7))
    (h8 : w.cell? ⟨9, 0, none⟩ = some (.iface 195 p8))
    (h9 : w.cell? ⟨10, 0, none⟩ = some (.iface 195 p9))
    (h10 : w.cell? ⟨11, 0, none⟩ = some (.iface 195 p10))
    (h11 : w.cell? ⟨12, 0, none⟩ = some (.iface 195 p11))
    (h12 : w.cell? ⟨13, 0, none⟩ = some (.iface 195 p12)) :
    Calls Tryz.prog 96 #[.int .i64 99] w fun e w' => e = .returned v ∧ w' = w.alloc (.cells #[.nilIface, .iface 195 p0, .iface 195 p1, .iface 195 p2, .iface 195 p3, .iface 195 p4, .iface 195 p5, .iface 195 p6, .iface 195 p7, .iface 195 p8, .iface 195 p9, .iface 195 p10, .iface 195 p11, .iface 195 p12] 189) := by
  have hlt : 14 < w.heap.size := lt_of_cell hv
  go_enter Tryz.func96, Tryz.ntmps96
  go_wp2_with (with_reducible refine wpList_built rfl 189 _ rfl #[.nilIface, .iface 195 p0, .iface 195 p1, .iface 195 p2, .iface 195 p3, .iface 195 p4, .iface 195 p5, .iface 195 p6, .iface 195 p7, .iface 195 p8, .iface 195 p9, .iface 195 p10, .iface 195 p11, .iface 195 p12] ?_ ?_; exact built14 p0 p1 p2 p3 p4 p5 p6 p7 p8 p9 p10 p11 p12)
  go_ret
  exact ⟨rfl, rfl⟩

set_option maxHeartbeats 400000 in
theorem namedLow (n : Int) (p0 p1 p2 p3 p4 p5 p6 p7 p8 p9 p10 p11 p12 : Value) (w : World) (hn : n < 1)
    (h0 : w.cell? ⟨1, 0, none⟩ = some (.iface 195 p0))
    (h1 : w.cell? ⟨3, 0, none⟩ = some (.iface 195 p1))
    (h2 : w.cell? ⟨4, 0, none⟩ = some (.iface 195 p2))
    (h3 : w.cell? ⟨5, 0, none⟩ = some (.iface 195 p3))
    (h4 : w.cell? ⟨6, 0, none⟩ = some (.iface 195 p4))
    (h5 : w.cell? ⟨0, 0, none⟩ = some (.iface 195 p5))
    (h6 : w.cell? ⟨7, 0, none⟩ = some (.iface 195 p6))
    (h7 : w.cell? ⟨8, 0, none⟩ = some (.iface 195 p7))
    (h8 : w.cell? ⟨9, 0, none⟩ = some (.iface 195 p8))
    (h9 : w.cell? ⟨10, 0, none⟩ = some (.iface 195 p9))
    (h10 : w.cell? ⟨11, 0, none⟩ = some (.iface 195 p10))
    (h11 : w.cell? ⟨12, 0, none⟩ = some (.iface 195 p11))
    (h12 : w.cell? ⟨13, 0, none⟩ = some (.iface 195 p12)) :
    Calls Tryz.prog 96 #[.int .i64 n] w fun e w' => e = .returned .nilIface ∧ w' = w.alloc (.cells #[.nilIface, .iface 195 p0, .iface 195 p1, .iface 195 p2, .iface 195 p3, .iface 195 p4, .iface 195 p5, .iface 195 p6, .iface 195 p7, .iface 195 p8, .iface 195 p9, .iface 195 p10, .iface 195 p11, .iface 195 p12] 189) := by
  have h99 : (n == 99) = false := by simp; omega
  go_enter Tryz.func96, Tryz.ntmps96
  go_wp2_with (with_reducible refine wpList_built rfl 189 _ rfl #[.nilIface, .iface 195 p0, .iface 195 p1, .iface 195 p2, .iface 195 p3, .iface 195 p4, .iface 195 p5, .iface 195 p6, .iface 195 p7, .iface 195 p8, .iface 195 p9, .iface 195 p10, .iface 195 p11, .iface 195 p12] ?_ ?_; exact built14 p0 p1 p2 p3 p4 p5 p6 p7 p8 p9 p10 p11 p12)
  go_ret
  exact ⟨rfl, rfl⟩

set_option maxHeartbeats 400000 in
theorem namedHigh (n : Int) (p0 p1 p2 p3 p4 p5 p6 p7 p8 p9 p10 p11 p12 : Value) (w : World) (hn : 13 < n) (h99 : (n == 99) = false)
    (h0 : w.cell? ⟨1, 0, none⟩ = some (.iface 195 p0))
    (h1 : w.cell? ⟨3, 0, none⟩ = some (.iface 195 p1))
    (h2 : w.cell? ⟨4, 0, none⟩ = some (.iface 195 p2))
    (h3 : w.cell? ⟨5, 0, none⟩ = some (.iface 195 p3))
    (h4 : w.cell? ⟨6, 0, none⟩ = some (.iface 195 p4))
    (h5 : w.cell? ⟨0, 0, none⟩ = some (.iface 195 p5))
    (h6 : w.cell? ⟨7, 0, none⟩ = some (.iface 195 p6))
    (h7 : w.cell? ⟨8, 0, none⟩ = some (.iface 195 p7))
    (h8 : w.cell? ⟨9, 0, none⟩ = some (.iface 195 p8))
    (h9 : w.cell? ⟨10, 0, none⟩ = some (.iface 195 p9))
    (h10 : w.cell? ⟨11, 0, none⟩ = some (.iface 195 p10))
    (h11 : w.cell? ⟨12, 0, none⟩ = some (.iface 195 p11))
    (h12 : w.cell? ⟨13, 0, none⟩ = some (.iface 195 p12)) :
    Calls Tryz.prog 96 #[.int .i64 n] w fun e w' => e = .returned .nilIface ∧ w' = w.alloc (.cells #[.nilIface, .iface 195 p0, .iface 195 p1, .iface 195 p2, .iface 195 p3, .iface 195 p4, .iface 195 p5, .iface 195 p6, .iface 195 p7, .iface 195 p8, .iface 195 p9, .iface 195 p10, .iface 195 p11, .iface 195 p12] 189) := by
  have hn1 : ¬ n < 1 := by omega
  go_enter Tryz.func96, Tryz.ntmps96
  go_wp2_with (with_reducible refine wpList_built rfl 189 _ rfl #[.nilIface, .iface 195 p0, .iface 195 p1, .iface 195 p2, .iface 195 p3, .iface 195 p4, .iface 195 p5, .iface 195 p6, .iface 195 p7, .iface 195 p8, .iface 195 p9, .iface 195 p10, .iface 195 p11, .iface 195 p12] ?_ ?_; exact built14 p0 p1 p2 p3 p4 p5 p6 p7 p8 p9 p10 p11 p12)
  go_ret
  exact ⟨rfl, rfl⟩

theorem below_oneE (w : World) (o : Obj) : Below w.heap.size w (w.alloc o) := (Below.refl _ _).alloc (Nat.le_refl _) o

/-- fault.Named of 1 to 13: the reason. -/
theorem named_ok {ad : Nat → Addr} {w : World} (L : Laid ad w) (k : Nat) (hk : k < 13) :
    Calls Tryz.prog 96 #[.int .i64 ((k : Int) + 1)] w fun e w' => e = .returned (.iface 195 (.pointer (some (ad k)))) ∧ Below w.heap.size w w' := by
  match k, hk with
  | 0, _ => refine (named1 _ _ _ _ _ _ _ _ _ _ _ _ _ w (L.var 0 (by decide)) (L.var 1 (by decide)) (L.var 2 (by decide)) (L.var 3 (by decide)) (L.var 4 (by decide)) (L.var 5 (by decide)) (L.var 6 (by decide)) (L.var 7 (by decide)) (L.var 8 (by decide)) (L.var 9 (by decide)) (L.var 10 (by decide)) (L.var 11 (by decide)) (L.var 12 (by decide))).mono fun e w' ⟨he, hw⟩ => ?_; exact ⟨he, hw ▸ below_oneE _ _⟩
  | 1, _ => refine (named2 _ _ _ _ _ _ _ _ _ _ _ _ _ w (L.var 0 (by decide)) (L.var 1 (by decide)) (L.var 2 (by decide)) (L.var 3 (by decide)) (L.var 4 (by decide)) (L.var 5 (by decide)) (L.var 6 (by decide)) (L.var 7 (by decide)) (L.var 8 (by decide)) (L.var 9 (by decide)) (L.var 10 (by decide)) (L.var 11 (by decide)) (L.var 12 (by decide))).mono fun e w' ⟨he, hw⟩ => ?_; exact ⟨he, hw ▸ below_oneE _ _⟩
  | 2, _ => refine (named3 _ _ _ _ _ _ _ _ _ _ _ _ _ w (L.var 0 (by decide)) (L.var 1 (by decide)) (L.var 2 (by decide)) (L.var 3 (by decide)) (L.var 4 (by decide)) (L.var 5 (by decide)) (L.var 6 (by decide)) (L.var 7 (by decide)) (L.var 8 (by decide)) (L.var 9 (by decide)) (L.var 10 (by decide)) (L.var 11 (by decide)) (L.var 12 (by decide))).mono fun e w' ⟨he, hw⟩ => ?_; exact ⟨he, hw ▸ below_oneE _ _⟩
  | 3, _ => refine (named4 _ _ _ _ _ _ _ _ _ _ _ _ _ w (L.var 0 (by decide)) (L.var 1 (by decide)) (L.var 2 (by decide)) (L.var 3 (by decide)) (L.var 4 (by decide)) (L.var 5 (by decide)) (L.var 6 (by decide)) (L.var 7 (by decide)) (L.var 8 (by decide)) (L.var 9 (by decide)) (L.var 10 (by decide)) (L.var 11 (by decide)) (L.var 12 (by decide))).mono fun e w' ⟨he, hw⟩ => ?_; exact ⟨he, hw ▸ below_oneE _ _⟩
  | 4, _ => refine (named5 _ _ _ _ _ _ _ _ _ _ _ _ _ w (L.var 0 (by decide)) (L.var 1 (by decide)) (L.var 2 (by decide)) (L.var 3 (by decide)) (L.var 4 (by decide)) (L.var 5 (by decide)) (L.var 6 (by decide)) (L.var 7 (by decide)) (L.var 8 (by decide)) (L.var 9 (by decide)) (L.var 10 (by decide)) (L.var 11 (by decide)) (L.var 12 (by decide))).mono fun e w' ⟨he, hw⟩ => ?_; exact ⟨he, hw ▸ below_oneE _ _⟩
  | 5, _ => refine (named6 _ _ _ _ _ _ _ _ _ _ _ _ _ w (L.var 0 (by decide)) (L.var 1 (by decide)) (L.var 2 (by decide)) (L.var 3 (by decide)) (L.var 4 (by decide)) (L.var 5 (by decide)) (L.var 6 (by decide)) (L.var 7 (by decide)) (L.var 8 (by decide)) (L.var 9 (by decide)) (L.var 10 (by decide)) (L.var 11 (by decide)) (L.var 12 (by decide))).mono fun e w' ⟨he, hw⟩ => ?_; exact ⟨he, hw ▸ below_oneE _ _⟩
  | 6, _ => refine (named7 _ _ _ _ _ _ _ _ _ _ _ _ _ w (L.var 0 (by decide)) (L.var 1 (by decide)) (L.var 2 (by decide)) (L.var 3 (by decide)) (L.var 4 (by decide)) (L.var 5 (by decide)) (L.var 6 (by decide)) (L.var 7 (by decide)) (L.var 8 (by decide)) (L.var 9 (by decide)) (L.var 10 (by decide)) (L.var 11 (by decide)) (L.var 12 (by decide))).mono fun e w' ⟨he, hw⟩ => ?_; exact ⟨he, hw ▸ below_oneE _ _⟩
  | 7, _ => refine (named8 _ _ _ _ _ _ _ _ _ _ _ _ _ w (L.var 0 (by decide)) (L.var 1 (by decide)) (L.var 2 (by decide)) (L.var 3 (by decide)) (L.var 4 (by decide)) (L.var 5 (by decide)) (L.var 6 (by decide)) (L.var 7 (by decide)) (L.var 8 (by decide)) (L.var 9 (by decide)) (L.var 10 (by decide)) (L.var 11 (by decide)) (L.var 12 (by decide))).mono fun e w' ⟨he, hw⟩ => ?_; exact ⟨he, hw ▸ below_oneE _ _⟩
  | 8, _ => refine (named9 _ _ _ _ _ _ _ _ _ _ _ _ _ w (L.var 0 (by decide)) (L.var 1 (by decide)) (L.var 2 (by decide)) (L.var 3 (by decide)) (L.var 4 (by decide)) (L.var 5 (by decide)) (L.var 6 (by decide)) (L.var 7 (by decide)) (L.var 8 (by decide)) (L.var 9 (by decide)) (L.var 10 (by decide)) (L.var 11 (by decide)) (L.var 12 (by decide))).mono fun e w' ⟨he, hw⟩ => ?_; exact ⟨he, hw ▸ below_oneE _ _⟩
  | 9, _ => refine (named10 _ _ _ _ _ _ _ _ _ _ _ _ _ w (L.var 0 (by decide)) (L.var 1 (by decide)) (L.var 2 (by decide)) (L.var 3 (by decide)) (L.var 4 (by decide)) (L.var 5 (by decide)) (L.var 6 (by decide)) (L.var 7 (by decide)) (L.var 8 (by decide)) (L.var 9 (by decide)) (L.var 10 (by decide)) (L.var 11 (by decide)) (L.var 12 (by decide))).mono fun e w' ⟨he, hw⟩ => ?_; exact ⟨he, hw ▸ below_oneE _ _⟩
  | 10, _ => refine (named11 _ _ _ _ _ _ _ _ _ _ _ _ _ w (L.var 0 (by decide)) (L.var 1 (by decide)) (L.var 2 (by decide)) (L.var 3 (by decide)) (L.var 4 (by decide)) (L.var 5 (by decide)) (L.var 6 (by decide)) (L.var 7 (by decide)) (L.var 8 (by decide)) (L.var 9 (by decide)) (L.var 10 (by decide)) (L.var 11 (by decide)) (L.var 12 (by decide))).mono fun e w' ⟨he, hw⟩ => ?_; exact ⟨he, hw ▸ below_oneE _ _⟩
  | 11, _ => refine (named12 _ _ _ _ _ _ _ _ _ _ _ _ _ w (L.var 0 (by decide)) (L.var 1 (by decide)) (L.var 2 (by decide)) (L.var 3 (by decide)) (L.var 4 (by decide)) (L.var 5 (by decide)) (L.var 6 (by decide)) (L.var 7 (by decide)) (L.var 8 (by decide)) (L.var 9 (by decide)) (L.var 10 (by decide)) (L.var 11 (by decide)) (L.var 12 (by decide))).mono fun e w' ⟨he, hw⟩ => ?_; exact ⟨he, hw ▸ below_oneE _ _⟩
  | 12, _ => refine (named13 _ _ _ _ _ _ _ _ _ _ _ _ _ w (L.var 0 (by decide)) (L.var 1 (by decide)) (L.var 2 (by decide)) (L.var 3 (by decide)) (L.var 4 (by decide)) (L.var 5 (by decide)) (L.var 6 (by decide)) (L.var 7 (by decide)) (L.var 8 (by decide)) (L.var 9 (by decide)) (L.var 10 (by decide)) (L.var 11 (by decide)) (L.var 12 (by decide))).mono fun e w' ⟨he, hw⟩ => ?_; exact ⟨he, hw ▸ below_oneE _ _⟩

theorem named_other {ad : Nat → Addr} {w : World} (L : Laid ad w) :
    Calls Tryz.prog 96 #[.int .i64 99] w fun e w' => e = .returned (.iface 195 (.pointer (some (ad 13)))) ∧ Below w.heap.size w w' := by
  refine (named99 _ _ _ _ _ _ _ _ _ _ _ _ _ _ w (L.var 13 (by decide)) (L.var 0 (by decide)) (L.var 1 (by decide)) (L.var 2 (by decide)) (L.var 3 (by decide)) (L.var 4 (by decide)) (L.var 5 (by decide)) (L.var 6 (by decide)) (L.var 7 (by decide)) (L.var 8 (by decide)) (L.var 9 (by decide)) (L.var 10 (by decide)) (L.var 11 (by decide)) (L.var 12 (by decide))).mono fun e w' ⟨he, hw⟩ => ?_
  exact ⟨he, hw ▸ below_oneE _ _⟩

theorem named_none {ad : Nat → Addr} {w : World} (L : Laid ad w) (n : Int) (hn : n < 1 ∨ 13 < n) (h99 : n ≠ 99) :
    Calls Tryz.prog 96 #[.int .i64 n] w fun e w' => e = .returned .nilIface ∧ Below w.heap.size w w' := by
  rcases hn with hn | hn
  · refine (namedLow n _ _ _ _ _ _ _ _ _ _ _ _ _ w hn (L.var 0 (by decide)) (L.var 1 (by decide)) (L.var 2 (by decide)) (L.var 3 (by decide)) (L.var 4 (by decide)) (L.var 5 (by decide)) (L.var 6 (by decide)) (L.var 7 (by decide)) (L.var 8 (by decide)) (L.var 9 (by decide)) (L.var 10 (by decide)) (L.var 11 (by decide)) (L.var 12 (by decide))).mono fun e w' ⟨he, hw⟩ => ?_
    exact ⟨he, hw ▸ below_oneE _ _⟩
  · refine (namedHigh n _ _ _ _ _ _ _ _ _ _ _ _ _ w hn (by simpa using h99) (L.var 0 (by decide)) (L.var 1 (by decide)) (L.var 2 (by decide)) (L.var 3 (by decide)) (L.var 4 (by decide)) (L.var 5 (by decide)) (L.var 6 (by decide)) (L.var 7 (by decide)) (L.var 8 (by decide)) (L.var 9 (by decide)) (L.var 10 (by decide)) (L.var 11 (by decide)) (L.var 12 (by decide))).mono fun e w' ⟨he, hw⟩ => ?_
    exact ⟨he, hw ▸ below_oneE _ _⟩
end Go.Proofs.YteffpnjgchihpaaGreatDoor
