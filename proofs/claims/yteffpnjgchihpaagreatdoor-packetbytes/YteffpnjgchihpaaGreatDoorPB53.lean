
/-
  Rows of messages that came in.
-/
import Derived.Test.YteffpnjgchihpaaGreatDoorRows
import Derived.Test.YteffpnjgchihpaaGreatDoorPB50
import Derived.ProofKit
import Derived.Deep.Slices
import Derived.Deep.Strs
import Derived.OpenShut
import Derived.Carry
namespace Go.Proofs.YteffpnjgchihpaaGreatDoor
open Go.ChangeShapes Go.WideShapes Go.ChangeAt Go.RowKit Go.Deep
set_option maxRecDepth 100000

instance : Inhabited (Pms × Value) := ⟨⟨zeroM, .slice none 0 0⟩⟩
section
variable {H : Type} {enc : TypeId × Value → H} {W : World} {base : Nat}
/-- A message inside what came in. -/
theorem open_msC {cs : List Value} {fuel : Nat} {x : DataW H × List MemPlace} (hf : DataW.trod enc Tryz.prog W 0 (fun _ => true) true fuel 31 cs = some x) :
    ∃ (m : Pms) (s : Value), cs = ml m s ∧ shM m ∧ (∀ a ∈ m.2.2.2.2.1, fitA a) ∧ bndM m ∧ SlA W s m.2.2.2.2.1 ∧ (∀ a n c, s = .slice a n c → n ≤ c) ∧ ckM m := by
  obtain ⟨xs, k, _, _, hl, hlen, hfs⟩ := DataW.trod_struct Tryz.underlying31 hf
  rw [cellsMsP] at hl
  clear hf
  match xs, hlen, hfs with
  | [y0, y1, y2, y3, y4, y5], _, hfs =>
    have g0 : DataW.trod enc Tryz.prog W 0 (fun _ => true) true k 3 ((cs.drop 0).take (Tryz.prog.cellsOf 3)) = some y0 := hfs 0 _ rfl
    rw [cellsIntP] at g0
    have g1 : DataW.trod enc Tryz.prog W 0 (fun _ => true) true k 3 ((cs.drop 1).take (Tryz.prog.cellsOf 3)) = some y1 := hfs 1 _ rfl
    rw [cellsIntP] at g1
    have g2 : DataW.trod enc Tryz.prog W 0 (fun _ => true) true k 3 ((cs.drop 2).take (Tryz.prog.cellsOf 3)) = some y2 := hfs 2 _ rfl
    rw [cellsIntP] at g2
    have g3 : DataW.trod enc Tryz.prog W 0 (fun _ => true) true k 24 ((cs.drop 3).take (Tryz.prog.cellsOf 24)) = some y3 := hfs 3 _ rfl
    rw [cellsCkP] at g3
    have g4 : DataW.trod enc Tryz.prog W 0 (fun _ => true) true k 25 ((cs.drop 11).take (Tryz.prog.cellsOf 25)) = some y4 := hfs 4 _ rfl
    rw [cellsSlP] at g4
    have g5 : DataW.trod enc Tryz.prog W 0 (fun _ => true) true k 29 ((cs.drop 12).take (Tryz.prog.cellsOf 29)) = some y5 := hfs 5 _ rfl
    rw [cellsRsP] at g5
    rw [List.drop_zero] at g0
    have hl' : cs.length = 156 := hl
    obtain ⟨i0, e0, _, _⟩ := DataW.trod_int Tryz.underlying3 g0
    obtain ⟨i1, e1, _, _⟩ := DataW.trod_int Tryz.underlying3 g1
    obtain ⟨i2, e2, _, wf2⟩ := DataW.trod_int Tryz.underlying3 g2
    obtain ⟨c, e3, hc, hcb⟩ := open_row8 Tryz.underlying24 cellsCkP g3
    obtain ⟨s, l, e4, hs, hin, hcap⟩ := open_actsP g4
    obtain ⟨R, e5, hR, hRb⟩ := open_rndsP g5
    refine ⟨(i0, i1, i2, c, l, R), s, ?_, ⟨hc, fun a ha => (hin a ha).1.1, hR⟩, fun a ha => (hin a ha).1, ⟨wfP wf2, fun a ha => ⟨(hin a ha).2.1, (hin a ha).2.2.1⟩, fun r hr => (hRb r hr).1⟩, hs, hcap, hcb, fun a ha => (hin a ha).2.2.2, fun r hr => (hRb r hr).2⟩
    have s0 : cs = cs.take 1 ++ cs.drop 1 := (List.take_append_drop 1 cs).symm
    have s1 := split_at cs 1 1
    have s2 := split_at cs 2 1
    have s3 := split_at cs 3 8
    have s4 := split_at cs 11 1
    have s5 : cs.drop 12 = (cs.drop 12).take 144 := by rw [List.take_of_length_le (by simp; omega)]
    have : cs = ml (i0, i1, i2, c, l, R) s := by
      rw [s0, s1, s2, s3, s4, s5, e0, e1, e2, e3, e4, e5]
      rfl
    exact this
/-- Rows of messages that came in. -/
theorem open_msR {v : Value} {d : DataW H} {p : List MemPlace} (hval : Value.okWide Tryz.prog W .any base 22 v) (h : DataW.Trod enc Tryz.prog W 0 (fun _ => true) true 22 v d p) :
    ∃ ms : List (Pms × Value), SlMs W v ms := by
  obtain ⟨a1, len, cap, rfl⟩ := okWide_slice Tryz.underlying22 hval
  obtain ⟨fuel, hf⟩ := h
  rcases open_slice Tryz.underlying22 hf with ⟨hcs, hx⟩ | ⟨a, len', cap', m, n, D, Pl_, hcs, _, hl, hm, hmm, hx, hcell⟩
  · simp [Value.cells] at hcs
    obtain ⟨rfl, rfl, rfl⟩ := hcs
    exact ⟨[], .inl ⟨rfl, _, _, rfl⟩⟩
  · simp [Value.cells] at hcs
    obtain ⟨rfl, rfl, rfl⟩ := hcs
    simp only [if_true] at hmm
    subst hmm
    have each : ∀ i, i < len → ∃ x : Pms × Value, (∀ j u, (mv x.1 x.2)[j]? = some u → W.cell? (a.add (i * 156 + j)) = some u) ∧ shM x.1 ∧ (∀ a ∈ x.1.2.2.2.2.1, fitA a) ∧ bndM x.1 ∧ SlA W x.2 x.1.2.2.2.2.1 ∧ (∀ a n c, x.2 = .slice a n c → n ≤ c) ∧ ckM x.1 := by
      intro i hi
      obtain ⟨cs', h1, h2⟩ := hcell i (by omega)
      rw [cellsMsP] at h1
      obtain ⟨_, hlen, hc⟩ := World.cells?_some h1
      obtain ⟨m, s, hu, q1, q2, q3, q4, q5, q6⟩ := open_msC h2
      refine ⟨⟨m, s⟩, fun j u hj => ?_, q1, q2, q3, q4, q5, q6⟩
      have hj' : cs'[j]? = some u := by rw [hu]; simpa [mv] using hj
      have hjl : j < 156 := by rw [← hlen]; exact (List.getElem?_eq_some_iff.1 hj').1
      have := hc j hjl
      rw [add_add] at this
      rw [this]
      exact hj'
    obtain ⟨f, hf⟩ := choose_lt (α := Pms × Value) each
    by_cases h0 : len = 0
    · subst h0
      exact ⟨[], .inl ⟨rfl, _, _, rfl⟩⟩
    · obtain ⟨ab, ao, spot⟩ := a
      have c0 := (hf 0 (by omega)).1 0 _ (mv_k _ _)
      have hspot : spot = none := by simpa [Addr.add] using World.cell?_spot c0
      subst hspot
      have hlt := World.block_lt_of_cell? _ _ c0
      refine ⟨(List.range len).map fun i => f i, .inr ⟨ab, ao, _, by rw [List.length_map, List.length_range], fun i x hi' => ?_⟩⟩
      have hi : i < len := by
        have := (List.getElem?_eq_some_iff.1 hi').1
        simpa using this
      rw [List.getElem?_map, List.getElem?_range hi] at hi'
      simp at hi'
      subst hi'
      obtain ⟨q, qs⟩ := hf i hi
      refine ⟨⟨by simpa [Addr.add] using hlt, fun j u hj => ?_⟩, qs⟩
      have := q j u hj
      rw [Addr.add_lit] at this
      rw [Nat.add_assoc]
      exact this
end
end Go.Proofs.YteffpnjgchihpaaGreatDoor
