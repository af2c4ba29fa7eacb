
/-
  Calls that came in: from the argument as the form reads it to what the walks use.
-/
import Derived.Test.YtbjbihgfkcnmbaaDoorRows
import Derived.Test.YtbjbihgfkcnmbaaDoorBgO
import Derived.ProofKit
import Derived.Deep.Slices
import Derived.Deep.Strs
import Derived.OpenShut
import Derived.Carry
import Derived.LaidHandle
import Derived.Lib.SmallJoins
namespace Go.Proofs.YtbjbihgfkcnmbaaDoor
open Go.ChangeShapes Go.WideShapes Go.ChangeAt Go.RowKit Go.Deep
set_option maxRecDepth 100000

instance : Inhabited Opb := ⟨⟨0, 0, 0, .slice none 0 0, []⟩⟩
theorem cellsObB : Tryd.prog.cellsOf 43 = 4 := by kernel_rfl
theorem cellsIntB : Tryd.prog.cellsOf 3 = 1 := by kernel_rfl
theorem cellsBsB : Tryd.prog.cellsOf 41 = 1 := by kernel_rfl
theorem cellsB : Tryd.prog.cellsOf 5 = 1 := by kernel_rfl
theorem wf_i64 {n : Int} (h : (Lit.int .i64 n).wf = true) : In64 n := by
  simp only [Lit.wf, Bool.and_eq_true, decide_eq_true_eq] at h
  have h1 : IntKind.i64.min = -9223372036854775808 := rfl
  have h2 : IntKind.i64.max = 9223372036854775807 := rfl
  unfold In64
  omega
section
variable {H : Type} {enc : TypeId × Value → H} {W : World} {base : Nat}
/-- An int that came in. -/
theorem open_iB {v : Value} {d : DataW H} {p : List MemPlace} (hval : Value.okWide Tryd.prog W .any base 3 v) (h : DataW.Trod enc Tryd.prog W 0 (fun _ => true) true 3 v d p) : ∃ n : Int, v = .int .i64 n ∧ In64 n := by
  obtain ⟨n, rfl⟩ := okWide_int Tryd.underlying3 hval
  obtain ⟨fuel, hf⟩ := h
  obtain ⟨z, e0, _, wf⟩ := DataW.trod_int Tryd.underlying3 hf
  simp [Value.cells] at e0
  subst e0
  exact ⟨_, rfl, wf_i64 wf⟩
/-- Bytes that came in, by their one cell. -/
theorem open_bsC {cs : List Value} {fuel : Nat} {x : DataW H × List MemPlace} (hf : DataW.trod enc Tryd.prog W 0 (fun _ => true) true fuel 41 cs = some x) :
    ∃ v, ∃ bs : List UInt8, cs = [v] ∧ SlB W v bs ∧ ∀ a n c, v = .slice a n c → n ≤ c := by
  rcases open_ints Tryd.underlying41 Tryd.underlying5 cellsB hf with ⟨hcs, hx⟩ | ⟨a, len, cap, zs, hcs, _, hl, hm, hz, hx, hcell, hwz⟩
  · exact ⟨_, [], hcs, .inl ⟨rfl, _, _, rfl⟩, fun a n c e => by cases e; omega⟩
  · simp only [if_true] at hz
    have hlen : ((zs.take len).map fun n => UInt8.ofNat n.toNat).length = len := by simp; omega
    refine ⟨_, (zs.take len).map fun n => UInt8.ofNat n.toNat, hcs, ?_, fun a n c e => by cases e; omega⟩
    by_cases h0 : len = 0
    · subst h0
      exact .inl ⟨by simp, _, _, rfl⟩
    · obtain ⟨ab, ao, spot⟩ := a
      have hspot : spot = none := by simpa [Addr.add] using World.cell?_spot (hcell 0 (by omega))
      subst hspot
      refine .inr ⟨ab, ao, cap, by rw [hlen], ?_, fun i b hi => ?_⟩
      · have := World.block_lt_of_cell? _ _ (hcell 0 (by omega))
        simpa [Addr.add] using this
      · have hil : i < len := by have := (List.getElem?_eq_some_iff.1 hi).1; omega
        have hci := hcell i (by omega)
        rw [Addr.add_lit] at hci
        rw [hci]
        have hzi : zs[i]? = some (zs[i]'(by omega)) := List.getElem?_eq_getElem _
        have e : zs.getD i 0 = zs[i]'(by omega) := by simp [List.getD, hzi]
        rw [e]
        have hb : 0 ≤ zs[i]'(by omega) ∧ zs[i]'(by omega) ≤ 255 := by
          have := hwz (zs[i]'(by omega)) (List.getElem_mem _)
          simp only [Lit.wf, Bool.and_eq_true, decide_eq_true_eq] at this
          have h1 : IntKind.u8.min = 0 := rfl
          have h2 : IntKind.u8.max = 255 := rfl
          omega
        simp only [List.getElem?_map, List.getElem?_take, if_pos hil, hzi, Option.map_some, Option.some.injEq] at hi
        rw [← hi]
        congr 2
        simp only [UInt8.toNat_ofNat']
        omega
/-- Calls that came in. -/
theorem open_opsB {v : Value} {d : DataW H} {p : List MemPlace} (hval : Value.okWide Tryd.prog W .any base 22 v) (h : DataW.Trod enc Tryd.prog W 0 (fun _ => true) true 22 v d p) :
    ∃ os : List Opb, SlOb W v os := by
  obtain ⟨a1, len, cap, rfl⟩ := okWide_slice Tryd.underlying22 hval
  obtain ⟨fuel, hf⟩ := h
  rcases open_slice Tryd.underlying22 hf with ⟨hcs, hx⟩ | ⟨a, len', cap', m, n, D, Pl, hcs, _, hl, hm, hmm, hx, hcell⟩
  · simp [Value.cells] at hcs
    obtain ⟨rfl, rfl, rfl⟩ := hcs
    exact ⟨[], .inl ⟨rfl, _, _, rfl⟩⟩
  · simp [Value.cells] at hcs
    obtain ⟨rfl, rfl, rfl⟩ := hcs
    simp only [if_true] at hmm
    subst hmm
    have each : ∀ i, i < len → ∃ x : Opb, x.Ok W ∧ ∀ j v, (ocb x)[j]? = some v → W.cell? (a.add (i * 4 + j)) = some v := by
      intro i hi
      obtain ⟨cs', h1, h2⟩ := hcell i (by omega)
      rw [cellsObB] at h1
      obtain ⟨_, hlen, hc⟩ := World.cells?_some h1
      obtain ⟨y0, y1, y2, y3, k, _, _, g0, g1, g2, g3⟩ := Go.Joins.trod_struct4 Tryd.underlying43 h2
      match cs', hlen with
      | [x0, x1, x2, x3], _ =>
        simp only [cellsIntB, cellsBsB] at g0 g1 g2 g3
        obtain ⟨k0, e0, _, wf0⟩ := DataW.trod_int Tryd.underlying3 g0
        obtain ⟨k1, e1, _, wf1⟩ := DataW.trod_int Tryd.underlying3 g1
        obtain ⟨k2, e2, _, wf2⟩ := DataW.trod_int Tryd.underlying3 g2
        obtain ⟨k3, l3, e3, s3, c3⟩ := open_bsC g3
        simp at e0 e1 e2 e3
        subst e0 e1 e2 e3
        refine ⟨⟨k0, k1, k2, x3, l3⟩, ⟨wf_i64 wf0, wf_i64 wf1, wf_i64 wf2, s3, c3⟩, fun j v hv => ?_⟩
        have hj : j < 4 := by
          have := (Array.getElem?_eq_some_iff.1 hv).1
          simpa [ocb] using this
        have := hc j hj
        rw [add_add] at this
        rw [this]
        simpa [ocb] using hv
    obtain ⟨f, hf⟩ := choose_lt (α := Opb) each
    refine ⟨(List.range len).map f, ?_⟩
    by_cases h0 : len = 0
    · subst h0
      exact .inl ⟨by simp, _, _, rfl⟩
    · obtain ⟨ab, ao, spot⟩ := a
      have c0 := (hf 0 (by omega)).2 0 _ (show (ocb (f 0))[0]? = some (.int .i64 (f 0).d) from rfl)
      have hspot : spot = none := by simpa [Addr.add] using World.cell?_spot c0
      subst hspot
      have hblk : ab < W.heap.size := by
        have := World.block_lt_of_cell? _ _ c0
        simpa [Addr.add] using this
      refine .inr ⟨ab, ao, _, by rw [List.length_map, List.length_range], fun i x hi => ?_⟩
      have hil : i < len := by have := (List.getElem?_eq_some_iff.1 hi).1; simpa using this
      have hx : f i = x := by
        simp only [List.getElem?_map, List.getElem?_range hil, Option.map_some, Option.some.injEq] at hi
        exact hi
      have := hf i hil
      rw [hx] at this
      refine ⟨this.1, hblk, fun j v hv => ?_⟩
      have h3 := this.2 j v hv
      rw [Addr.add_lit] at h3
      rw [Nat.add_assoc]; exact h3
end
end Go.Proofs.YtbjbihgfkcnmbaaDoor
