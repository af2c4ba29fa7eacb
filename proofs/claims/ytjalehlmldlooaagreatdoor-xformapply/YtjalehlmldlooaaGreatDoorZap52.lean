
/-
  From the arguments as the form reads them to what the walks use: elements and ints. Elements that came in, with their bounds and their room. From the arguments as the form reads them to what the walks use: operations. Elements, operations and IDs that came in.
-/
import Derived.Test.YtjalehlmldlooaaGreatDoorRows
import Derived.Test.YtjalehlmldlooaaGreatDoorZap04
import Derived.ProofKit
import Derived.Deep.Slices
import Derived.Deep.Strs
import Derived.OpenShut
import Derived.Carry
import Derived.Test.YtjalehlmldlooaaGreatDoorZap11
import Derived.Lib.SmallJoins
import Derived.Test.YtjalehlmldlooaaGreatDoorZap42
import Derived.Test.YtjalehlmldlooaaGreatDoorZap51
namespace Go.Proofs.YtjalehlmldlooaaGreatDoor
open Go.ChangeShapes Go.WideShapes Go.ChangeAt Go.RowKit Go.Deep
set_option maxRecDepth 100000

instance : Inhabited El := ⟨⟨0, 0, 0, 0, 0⟩⟩
theorem cellsInt : Tryz.prog.cellsOf 3 = 1 := by kernel_rfl
theorem cellsEl : Tryz.prog.cellsOf 49 = 5 := by kernel_rfl
theorem cellsID : Tryz.prog.cellsOf 32 = 3 := by kernel_rfl
theorem cellsI32 : Tryz.prog.cellsOf 21 = 1 := by kernel_rfl
section
variable {H : Type} {enc : TypeId × Value → H} {W : World} {base : Nat}
theorem open_iT {v : Value} (hval : Value.okWide Tryz.prog W .any base 3 v) : ∃ n : Int, v = .int .i64 n := okWide_int Tryz.underlying3 hval
/-- The cells of an Element. -/
theorem open_el {cs : List Value} {fuel bs : Nat} {sp : Nat → Bool} {hd : Bool} {x : DataW H × List MemPlace} (hlen : cs.length = 5) (h : DataW.trod enc Tryz.prog W bs sp hd fuel 49 cs = some x) : ∃ a : El, cs.toArray = ev a := by
  obtain ⟨y0, y1, y2, k, _, _, g0, g1, g2⟩ := trod_struct3 Tryz.underlying49 h
  simp only [cellsID, cellsInt, cellsI32] at g0 g1 g2
  obtain ⟨z0, z1, z2, k', _, _, f0, f1, f2⟩ := trod_struct3 Tryz.underlying32 g0
  simp only [cellsInt] at f0 f1 f2
  obtain ⟨i0, e0, _, _⟩ := DataW.trod_int Tryz.underlying3 f0
  obtain ⟨i1, e1, _, _⟩ := DataW.trod_int Tryz.underlying3 f1
  obtain ⟨i2, e2, _, _⟩ := DataW.trod_int Tryz.underlying3 f2
  obtain ⟨i3, e3, _, _⟩ := DataW.trod_int Tryz.underlying21 g1
  obtain ⟨i4, e4, _, _⟩ := DataW.trod_int Tryz.underlying3 g2
  match cs, hlen with
  | [x0, x1, x2, x3, x4], _ =>
    refine ⟨⟨i0, i1, i2, i3, i4⟩, ?_⟩
    simp at e0 e1 e2 e3 e4
    subst e0 e1 e2 e3 e4
    rfl

/-- Elements that came in. -/
theorem open_els {v : Value} {d : DataW H} {p : List MemPlace} (hval : Value.okWide Tryz.prog W .any base 22 v) (h : DataW.Trod enc Tryz.prog W 0 (fun _ => true) true 22 v d p) :
    ∃ l : List El, SlE W v l ∧ ∀ a n c, v = .slice a n c → n ≤ c := by
  obtain ⟨a1, len, cap, rfl⟩ := okWide_slice Tryz.underlying22 hval
  obtain ⟨fuel, hf⟩ := h
  rcases open_slice Tryz.underlying22 hf with ⟨hcs, hx⟩ | ⟨a, len', cap', m, n, D, Pl, hcs, _, hl, hm, hmm, hx, hcell⟩
  · simp [Value.cells] at hcs
    obtain ⟨rfl, rfl, rfl⟩ := hcs
    exact ⟨[], .inl ⟨rfl, _, _, rfl⟩, fun a n c e => by cases e; omega⟩
  · simp [Value.cells] at hcs
    obtain ⟨rfl, rfl, rfl⟩ := hcs
    simp only [if_true] at hmm
    subst hmm
    have each : ∀ i, i < len → ∃ x : El, ∀ j v, (ev x)[j]? = some v → W.cell? (a.add (i * 5 + j)) = some v := by
      intro i hi
      obtain ⟨cs', h1, h2⟩ := hcell i (by omega)
      rw [cellsEl] at h1
      obtain ⟨_, hlen, hc⟩ := World.cells?_some h1
      obtain ⟨x, ex⟩ := open_el hlen h2
      refine ⟨x, fun j v hv => ?_⟩
      rw [← ex] at hv
      have hj : j < 5 := by
        have := (Array.getElem?_eq_some_iff.1 hv).1
        simpa [hlen] using this
      have := hc j hj
      rw [add_add] at this
      rw [this]
      simpa using hv
    obtain ⟨f, hf⟩ := choose_lt (α := El) each
    refine ⟨(List.range len).map f, ?_, fun a n c e => by cases e; omega⟩
    by_cases h0 : len = 0
    · subst h0
      exact .inl ⟨by simp, _, _, rfl⟩
    · obtain ⟨ab, ao, spot⟩ := a
      have c0 := hf 0 (by omega) 0 _ (show (ev (f 0))[0]? = some (.int .i64 (f 0).ep) from rfl)
      have hspot : spot = none := by simpa [Addr.add] using World.cell?_spot c0
      subst hspot
      have hblk : ab < W.heap.size := by
        have := World.block_lt_of_cell? _ _ c0
        simpa [Addr.add] using this
      refine .inr ⟨ab, ao, _, by rw [List.length_map, List.length_range], fun i x hi => ?_⟩
      have hil : i < len := by have := (List.getElem?_eq_some_iff.1 hi).1; simpa using this
      have hx : f i = x := by
        simp only [List.getElem?_map, List.getElem?_range hil, Option.map_some, Option.some.injEq] at hi
        exact hi
      have := hf i hil
      rw [hx] at this
      refine ⟨hblk, fun j v hv => ?_⟩
      have h3 := this j v hv
      rw [Addr.add_lit] at h3
      rw [Nat.add_assoc]; exact h3
end
end Go.Proofs.YtjalehlmldlooaaGreatDoor
namespace Go.Proofs.YtjalehlmldlooaaGreatDoor
open Go.ChangeShapes Go.WideShapes Go.ChangeAt Go.RowKit Go.Deep
set_option maxRecDepth 100000

def El.Wf (e : El) : Prop := e.id.In ∧ In64 e.hd
theorem wf64M {n : Int} (h : (Lit.int .i64 n).wf = true) : In64 n := by
  simp only [Lit.wf, Bool.and_eq_true, decide_eq_true_eq] at h
  have h1 : IntKind.i64.min = -9223372036854775808 := rfl
  have h2 : IntKind.i64.max = 9223372036854775807 := rfl
  unfold In64
  omega
section
variable {H : Type} {enc : TypeId × Value → H} {W : World} {base : Nat}
/-- The cells of an Element, with its bounds. -/
theorem open_elM {cs : List Value} {fuel bs : Nat} {sp : Nat → Bool} {hd : Bool} {x : DataW H × List MemPlace} (hlen : cs.length = 5) (h : DataW.trod enc Tryz.prog W bs sp hd fuel 49 cs = some x) : ∃ a : El, cs.toArray = ev a ∧ a.Wf := by
  obtain ⟨y0, y1, y2, k, _, _, g0, g1, g2⟩ := trod_struct3 Tryz.underlying49 h
  simp only [cellsID, cellsInt, cellsI32] at g0 g1 g2
  obtain ⟨z0, z1, z2, k', _, _, f0, f1, f2⟩ := trod_struct3 Tryz.underlying32 g0
  simp only [cellsInt] at f0 f1 f2
  obtain ⟨i0, e0, _, w0⟩ := DataW.trod_int Tryz.underlying3 f0
  obtain ⟨i1, e1, _, w1⟩ := DataW.trod_int Tryz.underlying3 f1
  obtain ⟨i2, e2, _, w2⟩ := DataW.trod_int Tryz.underlying3 f2
  obtain ⟨i3, e3, _, _⟩ := DataW.trod_int Tryz.underlying21 g1
  obtain ⟨i4, e4, _, w4⟩ := DataW.trod_int Tryz.underlying3 g2
  match cs, hlen with
  | [x0, x1, x2, x3, x4], _ =>
    refine ⟨⟨i0, i1, i2, i3, i4⟩, ?_, ⟨wf64M w0, wf64M w1, wf64M w2⟩, wf64M w4⟩
    simp at e0 e1 e2 e3 e4
    subst e0 e1 e2 e3 e4
    rfl
/-- Elements that came in, by their one cell, with their bounds. -/
theorem open_elsM {cs : List Value} {fuel : Nat} {x : DataW H × List MemPlace} (hf : DataW.trod enc Tryz.prog W 0 (fun _ => true) true fuel 22 cs = some x) :
    ∃ v, ∃ l : List El, cs = [v] ∧ SlE W v l ∧ (∀ e ∈ l, e.Wf) ∧ l.length ≤ 9223372036854775807 := by
  rcases open_slice Tryz.underlying22 hf with ⟨hcs, hx⟩ | ⟨a, len, cap, m, n, D, Pl, hcs, _, hl, hm, hmm, hx, hcell⟩
  · exact ⟨_, [], hcs, .inl ⟨rfl, _, _, rfl⟩, fun o ho => by simp at ho, by simp⟩
  · simp only [if_true] at hmm
    subst hmm
    have hmx : maxLen = 9223372036854775807 := rfl
    have each : ∀ i, i < len → ∃ x : El, (∀ j v, (ev x)[j]? = some v → W.cell? (a.add (i * 5 + j)) = some v) ∧ x.Wf := by
      intro i hi
      obtain ⟨cs', h1, h2⟩ := hcell i (by omega)
      rw [cellsEl] at h1
      obtain ⟨_, hlen, hc⟩ := World.cells?_some h1
      obtain ⟨x, ex, hin⟩ := open_elM hlen h2
      refine ⟨x, fun j v hv => ?_, hin⟩
      rw [← ex] at hv
      have hj : j < 5 := by
        have := (Array.getElem?_eq_some_iff.1 hv).1
        simpa [hlen] using this
      have := hc j hj
      rw [add_add] at this
      rw [this]
      simpa using hv
    obtain ⟨f, hf⟩ := choose_lt (α := El) each
    refine ⟨_, (List.range len).map f, hcs, ?_, fun o ho => ?_, by simp; omega⟩
    · by_cases h0 : len = 0
      · subst h0
        exact .inl ⟨by simp, _, _, rfl⟩
      · obtain ⟨ab, ao, spot⟩ := a
        have c0 := (hf 0 (by omega)).1 0 _ (show (ev (f 0))[0]? = some (.int .i64 (f 0).ep) from rfl)
        have hspot : spot = none := by simpa [Addr.add] using World.cell?_spot c0
        subst hspot
        have hblk : ab < W.heap.size := by
          have := World.block_lt_of_cell? _ _ c0
          simpa [Addr.add] using this
        refine .inr ⟨ab, ao, _, by rw [List.length_map, List.length_range], fun i x hx => ⟨hblk, fun j v hv => ?_⟩⟩
        have hi : i < len := by
          have := (List.getElem?_eq_some_iff.1 hx).1
          simpa using this
        have hfx : f i = x := by
          rw [List.getElem?_map, List.getElem?_range hi] at hx
          simpa using hx
        have := (hf i hi).1 j v (by rw [hfx]; exact hv)
        rw [Addr.add_lit] at this
        rw [Nat.add_assoc]; exact this
    · obtain ⟨i, hi, rfl⟩ := List.mem_map.1 ho
      exact (hf i (List.mem_range.1 hi)).2
theorem open_elsN {v : Value} {d : DataW H} {p : List MemPlace} (hval : Value.okWide Tryz.prog W .any base 22 v) (h : DataW.Trod enc Tryz.prog W 0 (fun _ => true) true 22 v d p) :
    ∃ l : List El, SlE W v l ∧ (∀ e ∈ l, e.Wf) ∧ l.length ≤ 9223372036854775807 ∧ ∀ a n c, v = .slice a n c → n ≤ c := by
  obtain ⟨a1, len, cap, rfl⟩ := okWide_slice Tryz.underlying22 hval
  obtain ⟨fuel, hf⟩ := h
  obtain ⟨v, l, hcs, h1, h2, h3⟩ := open_elsM hf
  simp [Value.cells] at hcs
  subst hcs
  refine ⟨l, h1, h2, h3, ?_⟩
  rcases open_slice Tryz.underlying22 hf with ⟨hcs, _⟩ | ⟨a, len', cap', m, n, D, Pl, hcs, _, hl, _⟩
  · simp [Value.cells] at hcs
    obtain ⟨rfl, rfl, rfl⟩ := hcs
    exact fun a n c e => by cases e; omega
  · simp [Value.cells] at hcs
    obtain ⟨rfl, rfl, rfl⟩ := hcs
    exact fun a n c e => by cases e; exact hl
end
end Go.Proofs.YtjalehlmldlooaaGreatDoor
namespace Go.Proofs.YtjalehlmldlooaaGreatDoor
open Go.ChangeShapes Go.WideShapes Go.ChangeAt Go.RowKit Go.Deep
set_option maxRecDepth 100000

instance : Inhabited Xo := ⟨⟨0, 0, 0, 0⟩⟩
theorem cellsOp7 : Tryz.prog.cellsOf 40 = 4 := by kernel_rfl
theorem wf_64 {n : Int} (h : (Lit.int .i64 n).wf = true) : In64 n := by
  simp only [Lit.wf, Bool.and_eq_true, decide_eq_true_eq] at h
  have h1 : IntKind.i64.min = -9223372036854775808 := rfl
  have h2 : IntKind.i64.max = 9223372036854775807 := rfl
  unfold In64
  omega
section
variable {H : Type} {enc : TypeId × Value → H} {W : World} {base : Nat}
/-- The cells of an operation. -/
theorem open_op {cs : List Value} {fuel bs : Nat} {sp : Nat → Bool} {hd : Bool} {x : DataW H × List MemPlace} (hlen : cs.length = 4) (h : DataW.trod enc Tryz.prog W bs sp hd fuel 40 cs = some x) : ∃ a : Xo, cs.toArray = ov a ∧ a.In := by
  obtain ⟨y0, y1, y2, y3, k, _, _, g0, g1, g2, g3⟩ := Go.Joins.trod_struct4 Tryz.underlying40 h
  simp only [cellsInt, cellsI32] at g0 g1 g2 g3
  obtain ⟨i0, e0, _, w0⟩ := DataW.trod_int Tryz.underlying3 g0
  obtain ⟨i1, e1, _, w1⟩ := DataW.trod_int Tryz.underlying3 g1
  obtain ⟨i2, e2, _, _⟩ := DataW.trod_int Tryz.underlying21 g2
  obtain ⟨i3, e3, _, w3⟩ := DataW.trod_int Tryz.underlying3 g3
  match cs, hlen with
  | [x0, x1, x2, x3], _ =>
    refine ⟨⟨i0, i1, i2, i3⟩, ?_, wf_64 w0, wf_64 w1, wf_64 w3⟩
    simp at e0 e1 e2 e3
    subst e0 e1 e2 e3
    rfl
/-- Operations that came in, by their one cell. -/
theorem open_opsC {cs : List Value} {fuel : Nat} {x : DataW H × List MemPlace} (hf : DataW.trod enc Tryz.prog W 0 (fun _ => true) true fuel 23 cs = some x) :
    ∃ v, ∃ l : List Xo, cs = [v] ∧ SlO W v l ∧ (∀ o ∈ l, o.In) ∧ l.length ≤ 9223372036854775807 := by
  rcases open_slice Tryz.underlying23 hf with ⟨hcs, hx⟩ | ⟨a, len, cap, m, n, D, Pl, hcs, _, hl, hm, hmm, hx, hcell⟩
  · exact ⟨_, [], hcs, .inl ⟨rfl, _, _, rfl⟩, fun o ho => by simp at ho, by simp⟩
  · simp only [if_true] at hmm
    subst hmm
    have hmx : maxLen = 9223372036854775807 := rfl
    have each : ∀ i, i < len → ∃ x : Xo, (∀ j v, (ov x)[j]? = some v → W.cell? (a.add (i * 4 + j)) = some v) ∧ x.In := by
      intro i hi
      obtain ⟨cs', h1, h2⟩ := hcell i (by omega)
      rw [cellsOp7] at h1
      obtain ⟨_, hlen, hc⟩ := World.cells?_some h1
      obtain ⟨x, ex, hin⟩ := open_op hlen h2
      refine ⟨x, fun j v hv => ?_, hin⟩
      rw [← ex] at hv
      have hj : j < 4 := by
        have := (Array.getElem?_eq_some_iff.1 hv).1
        simpa [hlen] using this
      have := hc j hj
      rw [add_add] at this
      rw [this]
      simpa using hv
    obtain ⟨f, hf⟩ := choose_lt (α := Xo) each
    refine ⟨_, (List.range len).map f, hcs, ?_, fun o ho => ?_, by simp; omega⟩
    · by_cases h0 : len = 0
      · subst h0
        exact .inl ⟨by simp, _, _, rfl⟩
      · obtain ⟨ab, ao, spot⟩ := a
        have c0 := (hf 0 (by omega)).1 0 _ (show (ov (f 0))[0]? = some (.int .i64 (f 0).k) from rfl)
        have hspot : spot = none := by simpa [Addr.add] using World.cell?_spot c0
        subst hspot
        have hblk : ab < W.heap.size := by
          have := World.block_lt_of_cell? _ _ c0
          simpa [Addr.add] using this
        refine .inr ⟨ab, ao, _, by rw [List.length_map, List.length_range], fun i x hx => ⟨hblk, fun j v hv => ?_⟩⟩
        have hi : i < len := by
          have := (List.getElem?_eq_some_iff.1 hx).1
          simpa using this
        have hfx : f i = x := by
          rw [List.getElem?_map, List.getElem?_range hi] at hx
          simpa using hx
        have := (hf i hi).1 j v (by rw [hfx]; exact hv)
        rw [Addr.add_lit] at this
        rw [Nat.add_assoc]; exact this
    · obtain ⟨i, hi, rfl⟩ := List.mem_map.1 ho
      exact (hf i (List.mem_range.1 hi)).2
/-- Operations that came in. -/
theorem open_ops {v : Value} {d : DataW H} {p : List MemPlace} (hval : Value.okWide Tryz.prog W .any base 23 v) (h : DataW.Trod enc Tryz.prog W 0 (fun _ => true) true 23 v d p) :
    ∃ l : List Xo, SlO W v l ∧ (∀ o ∈ l, o.In) ∧ l.length ≤ 9223372036854775807 := by
  obtain ⟨a1, len, cap, rfl⟩ := okWide_slice Tryz.underlying23 hval
  obtain ⟨fuel, hf⟩ := h
  obtain ⟨v, l, hcs, h1, h2, h3⟩ := open_opsC hf
  simp [Value.cells] at hcs
  subst hcs
  exact ⟨l, h1, h2, h3⟩
end
end Go.Proofs.YtjalehlmldlooaaGreatDoor
namespace Go.Proofs.YtjalehlmldlooaaGreatDoor
open Go.ChangeShapes Go.WideShapes Go.ChangeAt Go.RowKit Go.Deep
set_option maxRecDepth 100000

instance : Inhabited Idn := ⟨⟨0, 0, 0⟩⟩
theorem cellsJ : Tryz.prog.cellsOf 32 = 3 := by kernel_rfl
section
variable {H : Type} {enc : TypeId × Value → H} {W : World} {base : Nat}
/-- The cells of an ID, with its bounds. -/
theorem open_idx {cs : List Value} {fuel bs : Nat} {sp : Nat → Bool} {hd : Bool} {x : DataW H × List MemPlace} (hlen : cs.length = 3) (h : DataW.trod enc Tryz.prog W bs sp hd fuel 32 cs = some x) : ∃ a : Idn, cs.toArray = idc a.a a.b a.c ∧ a.In := by
  obtain ⟨z0, z1, z2, k', _, _, f0, f1, f2⟩ := trod_struct3 Tryz.underlying32 h
  simp only [cellsInt] at f0 f1 f2
  obtain ⟨i0, e0, _, w0⟩ := DataW.trod_int Tryz.underlying3 f0
  obtain ⟨i1, e1, _, w1⟩ := DataW.trod_int Tryz.underlying3 f1
  obtain ⟨i2, e2, _, w2⟩ := DataW.trod_int Tryz.underlying3 f2
  match cs, hlen with
  | [x0, x1, x2], _ =>
    refine ⟨⟨i0, i1, i2⟩, ?_, ⟨wf_64 w0, wf_64 w1, wf_64 w2⟩⟩
    simp at e0 e1 e2
    subst e0 e1 e2
    rfl
/-- A row of IDs that came in. -/
theorem open_idsJ {v : Value} {d : DataW H} {p : List MemPlace} (hval : Value.okWide Tryz.prog W .any base 24 v) (h : DataW.Trod enc Tryz.prog W 0 (fun _ => true) true 24 v d p) :
    ∃ l : List Idn, SlJ W v l ∧ (∀ x ∈ l, x.In) ∧ ∀ a n c, v = .slice a n c → n ≤ c := by
  obtain ⟨a1, len1, cap1, rfl⟩ := okWide_slice Tryz.underlying24 hval
  obtain ⟨fuel, hf⟩ := h
  rcases open_slice Tryz.underlying24 hf with ⟨hcs, hx⟩ | ⟨a, len, cap, m, n, D, Pl, hcs, _, hl, hm, hmm, hx, hcell⟩
  · simp [Value.cells] at hcs
    obtain ⟨rfl, rfl, rfl⟩ := hcs
    exact ⟨[], .inl ⟨rfl, _, _, rfl⟩, fun o ho => by simp at ho, fun a n c e => by cases e; omega⟩
  · simp [Value.cells] at hcs
    obtain ⟨rfl, rfl, rfl⟩ := hcs
    simp only [if_true] at hmm
    subst hmm
    have each : ∀ i, i < len1 → ∃ x : Idn, (∀ j v, (idc x.a x.b x.c)[j]? = some v → W.cell? (a.add (i * 3 + j)) = some v) ∧ x.In := by
      intro i hi
      obtain ⟨cs', h1, h2⟩ := hcell i (by omega)
      rw [cellsJ] at h1
      obtain ⟨_, hlen, hc⟩ := World.cells?_some h1
      obtain ⟨x, ex, hin⟩ := open_idx hlen h2
      refine ⟨x, fun j v hv => ?_, hin⟩
      rw [← ex] at hv
      have hj : j < 3 := by
        have := (Array.getElem?_eq_some_iff.1 hv).1
        simpa [hlen] using this
      have := hc j hj
      rw [add_add] at this
      rw [this]
      simpa using hv
    obtain ⟨f, hf⟩ := choose_lt (α := Idn) each
    refine ⟨(List.range len1).map f, ?_, fun o ho => ?_, fun a n c e => by cases e; exact hl⟩
    · by_cases h0 : len1 = 0
      · subst h0
        exact .inl ⟨by simp, _, _, rfl⟩
      · obtain ⟨ab, ao, spot⟩ := a
        have c0 := (hf 0 (by omega)).1 0 _ (show (idc (f 0).a (f 0).b (f 0).c)[0]? = some (.int .i64 (f 0).a) from rfl)
        have hspot : spot = none := by simpa [Addr.add] using World.cell?_spot c0
        subst hspot
        have hblk : ab < W.heap.size := by
          have := World.block_lt_of_cell? _ _ c0
          simpa [Addr.add] using this
        refine .inr ⟨ab, ao, _, by rw [List.length_map, List.length_range], fun i x hx => ⟨hblk, fun j v hv => ?_⟩⟩
        have hi : i < len1 := by
          have := (List.getElem?_eq_some_iff.1 hx).1
          simpa using this
        have hfx : f i = x := by
          rw [List.getElem?_map, List.getElem?_range hi] at hx
          simpa using hx
        have := (hf i hi).1 j v (by rw [hfx]; exact hv)
        rw [Addr.add_lit] at this
        rw [Nat.add_assoc]; exact this
    · obtain ⟨i, hi, rfl⟩ := List.mem_map.1 ho
      exact (hf i (List.mem_range.1 hi)).2
end
end Go.Proofs.YtjalehlmldlooaaGreatDoor
