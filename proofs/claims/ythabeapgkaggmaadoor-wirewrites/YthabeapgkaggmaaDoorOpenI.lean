
/-
  A list of Items that came in: from the argument as the form reads it to what the walks use.
-/
import Derived.Test.YthabeapgkaggmaaDoorRows
import Derived.Test.YthabeapgkaggmaaDoorOpenB
import Derived.ProofKit
import Derived.Deep.Slices
import Derived.Deep.Strs
import Derived.Lib.SmallJoins
import Derived.OpenShut
import Derived.Carry
namespace Go.Proofs.YthabeapgkaggmaaDoor
open Go.ChangeShapes Go.WideShapes Go.ChangeAt Go.RowKit Go.Deep
set_option maxRecDepth 100000

/-- An Item. -/
structure Itm where
  kind : Int
  n : Int
  s : ByteArray
  b : UInt8
instance : Inhabited Itm := ⟨⟨0, 0, ⟨#[]⟩, 0⟩⟩

/-- What every Item that came in keeps to. -/
def Itm.Fit (x : Itm) : Prop := (-9223372036854775808 ≤ x.kind ∧ x.kind ≤ 9223372036854775807) ∧ (-9223372036854775808 ≤ x.n ∧ x.n ≤ 9223372036854775807) ∧ x.s.size ≤ maxLen

/-- An Item at an address. -/
def ItAt (w : World) (g o : Nat) (x : Itm) : Prop :=
  w.cell? ⟨g, o, none⟩ = some (.int .i64 x.kind) ∧ w.cell? ⟨g, o + 1, none⟩ = some (.int .i64 x.n) ∧ w.cell? ⟨g, o + 2, none⟩ = some (.string x.s) ∧ w.cell? ⟨g, o + 3, none⟩ = some (.int .u8 (x.b.toNat : Int))

/-- A list of Items in memory. -/
def SlI (w : World) (v : Value) (l : List Itm) : Prop :=
  (l = [] ∧ ∃ a c, v = .slice a 0 c) ∨ ∃ g o c, v = .slice (some ⟨g, o, none⟩) l.length c ∧ g < w.heap.size ∧ ∀ i x, l[i]? = some x → x.Fit ∧ ItAt w g (o + i * 4) x

section
variable {H : Type} {enc : TypeId × Value → H} {W : World} {base : Nat}

theorem cellsIt : Tryd.prog.cellsOf 29 = 4 := by kernel_rfl
theorem cellsInt : Tryd.prog.cellsOf 3 = 1 := by kernel_rfl
theorem cellsStr : Tryd.prog.cellsOf 9 = 1 := by kernel_rfl

theorem byte_of {n : Int} (h : (Lit.int .u8 n).wf = true) : ((UInt8.ofNat n.toNat).toNat : Int) = n := by
  simp only [Lit.wf, Bool.and_eq_true, decide_eq_true_eq] at h
  have h1 : IntKind.u8.min = 0 := rfl
  have h2 : IntKind.u8.max = 255 := rfl
  simp only [UInt8.toNat_ofNat']
  omega

/-- Items that came in. -/
theorem open_items {v : Value} {d : DataW H} {p : List MemPlace} (hval : Value.okWide Tryd.prog W .any base 22 v) (h : DataW.Trod enc Tryd.prog W 0 (fun _ => true) true 22 v d p) :
    ∃ l : List Itm, SlI W v l := by
  obtain ⟨a1, len, cap, rfl⟩ := okWide_slice Tryd.underlying22 hval
  obtain ⟨fuel, hf⟩ := h
  rcases open_slice Tryd.underlying22 hf with ⟨hcs, hx⟩ | ⟨a, len', cap', m, n, D, Pl, hcs, _, hl, hm, hmm, hx, hcell⟩
  · simp [Value.cells] at hcs
    obtain ⟨rfl, rfl, rfl⟩ := hcs
    exact ⟨[], .inl ⟨rfl, _, _, rfl⟩⟩
  · simp [Value.cells] at hcs
    obtain ⟨rfl, rfl, rfl⟩ := hcs
    simp only [if_true] at hmm
    subst hmm
    have each : ∀ i, i < len → ∃ x : Itm, x.Fit ∧ W.cell? (a.add (i * 4)) = some (.int .i64 x.kind) ∧ W.cell? (a.add (i * 4 + 1)) = some (.int .i64 x.n) ∧ W.cell? (a.add (i * 4 + 2)) = some (.string x.s) ∧ W.cell? (a.add (i * 4 + 3)) = some (.int .u8 (x.b.toNat : Int)) := by
      intro i hi
      obtain ⟨cs', h1, h2⟩ := hcell i (by omega)
      rw [cellsIt] at h1
      obtain ⟨_, hlen, hc⟩ := World.cells?_some h1
      obtain ⟨y0, y1, y2, y3, k, _, _, g0, g1, g2, g3⟩ := Go.Joins.trod_struct4 Tryd.underlying29 h2
      match cs', hlen with
      | [x0, x1, x2, x3], _ =>
        simp only [cellsInt, cellsStr, cellsB] at g0 g1 g2 g3
        obtain ⟨k0, e0, _, wf0⟩ := DataW.trod_int Tryd.underlying3 g0
        obtain ⟨k1, e1, _, wf1⟩ := DataW.trod_int Tryd.underlying3 g1
        obtain ⟨k2, e2, _, wf2⟩ := DataW.trod_string Tryd.underlying9 g2
        obtain ⟨k3, e3, _, wf3⟩ := DataW.trod_int Tryd.underlying5 g3
        simp at e0 e1 e2 e3
        subst e0 e1 e2 e3
        have f0 := hc 0 (by omega)
        have f1 := hc 1 (by omega)
        have f2 := hc 2 (by omega)
        have f3 := hc 3 (by omega)
        rw [add_add] at f0 f1 f2 f3
        exact ⟨⟨k0, k1, k2, UInt8.ofNat k3.toNat⟩, ⟨bounds_i64 wf0, bounds_i64 wf1, wf2⟩, by simpa using f0, by simpa using f1, by simpa using f2, by rw [byte_of wf3]; simpa using f3⟩
    obtain ⟨f, hf⟩ := choose_lt (α := Itm) each
    refine ⟨(List.range len).map f, ?_⟩
    by_cases h0 : len = 0
    · subst h0
      exact .inl ⟨by simp, _, _, rfl⟩
    · obtain ⟨ab, ao, spot⟩ := a
      have hspot : spot = none := by simpa [Addr.add] using World.cell?_spot (hf 0 (by omega)).2.1
      subst hspot
      refine .inr ⟨ab, ao, _, by rw [List.length_map, List.length_range], ?_, fun i x hi => ?_⟩
      · have := World.block_lt_of_cell? _ _ (hf 0 (by omega)).2.1
        simpa [Addr.add] using this
      · have hil : i < len := by have := (List.getElem?_eq_some_iff.1 hi).1; simpa using this
        have hx : f i = x := by
          simp only [List.getElem?_map, List.getElem?_range hil, Option.map_some, Option.some.injEq] at hi
          exact hi
        have := hf i hil
        rw [hx] at this
        simpa [ItAt, Addr.add_lit, Nat.add_assoc] using this
end
end Go.Proofs.YthabeapgkaggmaaDoor
