
/-
  A Message that came in.
-/
import Derived.Test.YteffpnjgchihpaaGreatDoorRows
import Derived.Test.YteffpnjgchihpaaGreatDoorPB42
import Derived.ProofKit
import Derived.Deep.Slices
import Derived.Deep.Strs
import Derived.OpenShut
import Derived.Carry
import Derived.LaidHandle
import Derived.Lib.SmallJoins
namespace Go.Proofs.YteffpnjgchihpaaGreatDoor
open Go.ChangeShapes Go.WideShapes Go.ChangeAt Go.RowKit Go.Deep
set_option maxRecDepth 100000

theorem cellsIntP : Tryz.prog.cellsOf 3 = 1 := by kernel_rfl
theorem cellsI32P : Tryz.prog.cellsOf 21 = 1 := by kernel_rfl
theorem cellsCkP : Tryz.prog.cellsOf 24 = 8 := by kernel_rfl
theorem cellsRowP : Tryz.prog.cellsOf 23 = 8 := by kernel_rfl
theorem cellsOpP : Tryz.prog.cellsOf 58 = 4 := by kernel_rfl
theorem cellsActP : Tryz.prog.cellsOf 60 = 13 := by kernel_rfl
theorem cellsRndP : Tryz.prog.cellsOf 27 = 18 := by kernel_rfl
theorem cellsRsP : Tryz.prog.cellsOf 29 = 144 := by kernel_rfl
theorem cellsMsP : Tryz.prog.cellsOf 31 = 156 := by kernel_rfl
theorem cellsSlP : Tryz.prog.cellsOf 25 = 1 := by kernel_rfl
theorem wfP {z : Int} (h : (Lit.int .i64 z).wf = true) : z ≤ 9223372036854775807 := by
  simp [Lit.wf] at h; omega
theorem wfP32 {z : Int} (h : (Lit.int .i32 z).wf = true) : fitC z := by
  unfold fitC; simp [Lit.wf, IntKind.min, IntKind.max, IntKind.bits, IntKind.signed] at h; omega
theorem split_at (cs : List Value) (o n : Nat) : cs.drop o = (cs.drop o).take n ++ cs.drop (o + n) := by
  rw [← List.drop_drop, List.take_append_drop]

section
variable {H : Type} {enc : TypeId × Value → H} {W : World} {base : Nat}
/-- Eight ints. -/
theorem open_row8 {t : TypeId} (ht : Tryz.prog.underlying t = some (.array 8 3)) (hc : Tryz.prog.cellsOf t = 8) {cs : List Value} {fuel bs : Nat} {sp : Nat → Bool} {hd : Bool} {x : DataW H × List MemPlace} (h : DataW.trod enc Tryz.prog W bs sp hd fuel t cs = some x) : ∃ a : List Int, cs = a.map (Value.int .i64) ∧ a.length = 8 ∧ ∀ z ∈ a, z ≤ 9223372036854775807 := by
  obtain ⟨xs, m, _, _, hlen, hxl, hi⟩ := DataW.trod_array ht h
  rw [hc] at hlen
  have each : ∀ i, i < 8 → ∃ z : Int, cs[i]? = some (.int .i64 z) ∧ z ≤ 9223372036854775807 := by
    intro i h8
    have h1 := hi i h8
    rw [cellsIntP, Nat.mul_one, List.getElem?_eq_getElem (show i < xs.length by omega)] at h1
    obtain ⟨z, e0, _, wf⟩ := DataW.trod_int Tryz.underlying3 h1
    refine ⟨z, ?_, wfP wf⟩
    have h2 : ((cs.drop i).take 1)[0]? = cs[i]? := by simp
    rw [← h2, e0]; rfl
  obtain ⟨f, hf⟩ := choose_lt (α := Int) each
  refine ⟨(List.range 8).map f, ?_, by simp, fun z hz => ?_⟩
  · apply List.ext_getElem?
    intro i
    by_cases h8 : i < 8
    · rw [(hf i h8).1]; simp [h8]
    · rw [List.getElem?_eq_none (by omega), List.getElem?_eq_none (by simp; omega)]
  · obtain ⟨i, hi8, rfl⟩ := List.mem_map.1 hz
    exact (hf i (by simpa using hi8)).2
def inA (a : Pac) : Prop := fitA a ∧ a.1.2.2.1 ≤ 9223372036854775807 ∧ a.2.1 ≤ 9223372036854775807 ∧ ∀ z ∈ a.2.2, z ≤ 9223372036854775807
/-- The cells of an Act. -/
theorem open_actP {cs : List Value} {fuel bs : Nat} {sp : Nat → Bool} {hd : Bool} {x : DataW H × List MemPlace} (hlen : cs.length = 13) (h : DataW.trod enc Tryz.prog W bs sp hd fuel 60 cs = some x) : ∃ a : Pac, cs = acl a ∧ inA a := by
  obtain ⟨y0, y1, y2, k, _, _, g0, g1, g2⟩ := trod_struct3 Tryz.underlying60 h
  simp only [cellsOpP, cellsIntP, cellsCkP] at g0 g1 g2
  obtain ⟨z0, z1, z2, z3, k', _, _, f0, f1, f2, f3⟩ := Go.Joins.trod_struct4 Tryz.underlying58 g0
  simp only [cellsIntP, cellsI32P] at f0 f1 f2 f3
  obtain ⟨i0, e0, _, _⟩ := DataW.trod_int Tryz.underlying3 f0
  obtain ⟨i1, e1, _, wf1⟩ := DataW.trod_int Tryz.underlying3 f1
  obtain ⟨i2, e2, _, wf2⟩ := DataW.trod_int Tryz.underlying21 f2
  obtain ⟨i3, e3, _, _⟩ := DataW.trod_int Tryz.underlying3 f3
  obtain ⟨i4, e4, _, wf4⟩ := DataW.trod_int Tryz.underlying3 g1
  obtain ⟨ck, e5, hck, hckb⟩ := open_row8 Tryz.underlying24 cellsCkP g2
  match cs, hlen with
  | [x0, x1, x2, x3, x4, x5, x6, x7, x8, x9, x10, x11, x12], _ =>
    refine ⟨((i0, i3, i1, i2), i4, ck), ?_, ⟨hck, wfP32 wf2⟩, wfP wf1, wfP wf4, hckb⟩
    simp at e0 e1 e2 e3 e4 e5
    subst e0 e1 e2 e3 e4
    simp [acl, ← e5]
/-- The cells of a Round. -/
theorem open_rndP {cs : List Value} {fuel bs : Nat} {sp : Nat → Bool} {hd : Bool} {x : DataW H × List MemPlace} (hlen : cs.length = 18) (h : DataW.trod enc Tryz.prog W bs sp hd fuel 27 cs = some x) : ∃ r : Prn, cs = rnl r ∧ shR r ∧ r.1 ≤ 9223372036854775807 ∧ ∀ z ∈ r.2.1, z ≤ 9223372036854775807 := by
  obtain ⟨z0, z1, z2, z3, k', _, _, f0, f1, f2, f3⟩ := Go.Joins.trod_struct4 Tryz.underlying27 h
  simp only [cellsIntP, cellsCkP, cellsRowP] at f0 f1 f2 f3
  obtain ⟨i0, e0, _, wf0⟩ := DataW.trod_int Tryz.underlying3 f0
  obtain ⟨c, e1, hc, hcb⟩ := open_row8 Tryz.underlying24 cellsCkP f1
  obtain ⟨v, e2, hv, _⟩ := open_row8 Tryz.underlying23 cellsRowP f2
  obtain ⟨i3, e3, _, _⟩ := DataW.trod_int Tryz.underlying3 f3
  refine ⟨(i0, c, v, i3), ?_, ⟨hc, hv⟩, wfP wf0, hcb⟩
  have s0 : cs = cs.take 1 ++ cs.drop 1 := (List.take_append_drop 1 cs).symm
  have s1 := split_at cs 1 8
  have s2 := split_at cs 9 8
  have s3 : cs.drop 17 = (cs.drop 17).take 1 := by rw [List.take_of_length_le (by simp; omega)]
  simp only [List.drop_zero] at e0
  rw [s0, s1, s2, s3, e0, e1, e2, e3]
  rfl
/-- The cells of Rounds. -/
theorem open_rndsP {cs : List Value} {fuel bs : Nat} {sp : Nat → Bool} {hd : Bool} {x : DataW H × List MemPlace} (h : DataW.trod enc Tryz.prog W bs sp hd fuel 29 cs = some x) : ∃ l : List Prn, cs = rsl l ∧ shRs l ∧ ∀ r ∈ l, r.1 ≤ 9223372036854775807 ∧ ∀ z ∈ r.2.1, z ≤ 9223372036854775807 := by
  obtain ⟨xs, m, _, _, hlen, hxl, hi⟩ := DataW.trod_array Tryz.underlying29 h
  rw [cellsRsP] at hlen
  have each : ∀ i, i < 8 → ∃ r : Prn, (cs.drop (i * 18)).take 18 = rnl r ∧ shR r ∧ r.1 ≤ 9223372036854775807 ∧ ∀ z ∈ r.2.1, z ≤ 9223372036854775807 := by
    intro i h8
    have h1 := hi i h8
    rw [cellsRndP, List.getElem?_eq_getElem (show i < xs.length by omega)] at h1
    exact open_rndP (by simp; omega) h1
  obtain ⟨f, hf⟩ := choose_lt (α := Prn) each
  refine ⟨(List.range 8).map f, ?_, ⟨by simp, fun r hr => ?_⟩, fun r hr => ?_⟩
  · have s0 : cs = cs.take 18 ++ cs.drop 18 := (List.take_append_drop 18 cs).symm
    have s1 := split_at cs 18 18
    have s2 := split_at cs 36 18
    have s3 := split_at cs 54 18
    have s4 := split_at cs 72 18
    have s5 := split_at cs 90 18
    have s6 := split_at cs 108 18
    have s7 : cs.drop 126 = (cs.drop 126).take 18 := by rw [List.take_of_length_le (by simp; omega)]
    have e0 := (hf 0 (by decide)).1
    have e1 := (hf 1 (by decide)).1
    have e2 := (hf 2 (by decide)).1
    have e3 := (hf 3 (by decide)).1
    have e4 := (hf 4 (by decide)).1
    have e5 := (hf 5 (by decide)).1
    have e6 := (hf 6 (by decide)).1
    have e7 := (hf 7 (by decide)).1
    simp only [Nat.zero_mul, List.drop_zero, Nat.reduceMul] at e0 e1 e2 e3 e4 e5 e6 e7
    rw [s0, s1, s2, s3, s4, s5, s6, s7, e0, e1, e2, e3, e4, e5, e6, e7]
    simp [rsl, List.range_succ]
  · obtain ⟨i, hi8, rfl⟩ := List.mem_map.1 hr
    exact (hf i (by simpa using hi8)).2.1
  · obtain ⟨i, hi8, rfl⟩ := List.mem_map.1 hr
    exact (hf i (by simpa using hi8)).2.2
/-- Acts inside what came in. -/
theorem open_actsP {cs : List Value} {fuel : Nat} {x : DataW H × List MemPlace} (hf : DataW.trod enc Tryz.prog W 0 (fun _ => true) true fuel 25 cs = some x) :
    ∃ v, ∃ l : List Pac, cs = [v] ∧ SlA W v l ∧ (∀ a ∈ l, inA a) ∧ ∀ a n c, v = .slice a n c → n ≤ c := by
  rcases open_slice Tryz.underlying25 hf with ⟨hcs, hx⟩ | ⟨a, len, cap, m, n, D, Pl, hcs, hcap, hl, hm, hmm, hx, hcell⟩
  · exact ⟨_, [], hcs, .inl ⟨rfl, _, _, rfl⟩, fun o ho => by simp at ho, fun a n c he => by cases he; exact Nat.le_refl _⟩
  · simp only [if_true] at hmm
    subst hmm
    have each : ∀ i, i < len → ∃ x : Pac, (∀ j v, (acv x)[j]? = some v → W.cell? (a.add (i * 13 + j)) = some v) ∧ inA x := by
      intro i hi
      obtain ⟨cs', h1, h2⟩ := hcell i (by omega)
      rw [cellsActP] at h1
      obtain ⟨_, hlen, hc⟩ := World.cells?_some h1
      obtain ⟨x, ex, hin⟩ := open_actP hlen h2
      refine ⟨x, fun j v hv => ?_, hin⟩
      have hv' : cs'[j]? = some v := by rw [ex]; simpa [acv] using hv
      have hj : j < 13 := by rw [← hlen]; exact (List.getElem?_eq_some_iff.1 hv').1
      have := hc j hj
      rw [add_add] at this
      rw [this]
      exact hv'
    obtain ⟨f, hf⟩ := choose_lt (α := Pac) each
    refine ⟨_, (List.range len).map f, hcs, ?_, fun o ho => ?_, fun a n c he => by cases he; omega⟩
    · by_cases h0 : len = 0
      · subst h0
        exact .inl ⟨by simp, _, _, rfl⟩
      · obtain ⟨ab, ao, spot⟩ := a
        have c0 := (hf 0 (by omega)).1 0 _ (show (acv (f 0))[0]? = some (.int .i64 (f 0).1.1) from rfl)
        have hspot : spot = none := by simpa [Addr.add] using World.cell?_spot c0
        subst hspot
        have hblk : ab < W.heap.size := by
          have := World.block_lt_of_cell? _ _ c0
          simpa [Addr.add] using this
        refine .inr ⟨ab, ao, _, by rw [List.length_map, List.length_range], hblk, fun i x hx => ⟨hblk, fun j v hv => ?_⟩⟩
        have hil : i < len := by have := (List.getElem?_eq_some_iff.1 hx).1; simpa using this
        have hx' : f i = x := by
          simp only [List.getElem?_map, List.getElem?_range hil, Option.map_some, Option.some.injEq] at hx
          exact hx
        have h3 := (hf i hil).1 j v (by rw [hx']; exact hv)
        rw [Addr.add_lit] at h3
        rw [Nat.add_assoc]; exact h3
    · obtain ⟨i, hi8, rfl⟩ := List.mem_map.1 ho
      exact (hf i (by simpa using hi8)).2
/-- The clocks of a message hold ints. -/
def ckM (m : Pms) : Prop := (∀ z ∈ m.2.2.2.1, z ≤ 9223372036854775807) ∧ (∀ a ∈ m.2.2.2.2.1, ∀ z ∈ a.2.2, z ≤ 9223372036854775807) ∧ ∀ r ∈ m.2.2.2.2.2, ∀ z ∈ r.2.1, z ≤ 9223372036854775807
/-- A Message that came in. -/
theorem open_msP {v : Value} {d : DataW H} {p : List MemPlace} (hval : Value.okWide Tryz.prog W .any base 31 v) (h : DataW.Trod enc Tryz.prog W 0 (fun _ => true) true 31 v d p) :
    ∃ (m : Pms) (s : Value), v = .agg (mv m s) ∧ shM m ∧ (∀ a ∈ m.2.2.2.2.1, fitA a) ∧ bndM m ∧ SlA W s m.2.2.2.2.1 ∧ (∀ a n c, s = .slice a n c → n ≤ c) ∧ ckM m := by
  obtain ⟨cs, rfl, hsz⟩ := okWide_struct Tryz.underlying31 hval
  obtain ⟨fuel, hf⟩ := h
  obtain ⟨xs, k, _, _, hl, hlen, hfs⟩ := DataW.trod_struct Tryz.underlying31 hf
  rw [cellsMsP] at hl
  have hcs : (Value.agg cs).cells.toList = cs.toList := rfl
  rw [hcs] at hl hfs
  obtain ⟨cs⟩ := cs
  clear hsz hval hcs hf
  match xs, hlen, hfs with
  | [y0, y1, y2, y3, y4, y5], _, hfs =>
    have g0 : DataW.trod enc Tryz.prog W 0 (fun _ => true) true k 3 ((cs.drop 0).take (Tryz.prog.cellsOf 3)) = some y0 := hfs 0 _ rfl
    rw [cellsIntP] at g0
    have g1 : DataW.trod enc Tryz.prog W 0 (fun _ => true) true k 3 ((cs.drop 1).take (Tryz.prog.cellsOf 3)) = some y1 := hfs 1 _ rfl
    rw [cellsIntP] at g1
    have g2 : DataW.trod enc Tryz.prog W 0 (fun _ => true) true k 3 ((cs.drop 2).take (Tryz.prog.cellsOf 3)) = some y2 := hfs 2 _ rfl
    rw [cellsIntP] at g2
    have g3 : DataW.trod enc Tryz.prog W 0 (fun _ => true) true k 24 ((cs.drop 3).take (Tryz.prog.cellsOf 24)) = some y3 := hfs 3 _ rfl
    rw [cellsCkP] at g3
    have g4 : DataW.trod enc Tryz.prog W 0 (fun _ => true) true k 25 ((cs.drop 11).take (Tryz.prog.cellsOf 25)) = some y4 := hfs 4 _ rfl
    rw [cellsSlP] at g4
    have g5 : DataW.trod enc Tryz.prog W 0 (fun _ => true) true k 29 ((cs.drop 12).take (Tryz.prog.cellsOf 29)) = some y5 := hfs 5 _ rfl
    rw [cellsRsP] at g5
    rw [List.drop_zero] at g0
    have hl' : cs.length = 156 := by simpa using hl
    obtain ⟨i0, e0, _, _⟩ := DataW.trod_int Tryz.underlying3 g0
    obtain ⟨i1, e1, _, _⟩ := DataW.trod_int Tryz.underlying3 g1
    obtain ⟨i2, e2, _, wf2⟩ := DataW.trod_int Tryz.underlying3 g2
    obtain ⟨c, e3, hc, hcb⟩ := open_row8 Tryz.underlying24 cellsCkP g3
    obtain ⟨s, l, e4, hs, hin, hcap⟩ := open_actsP g4
    obtain ⟨R, e5, hR, hRb⟩ := open_rndsP g5
    refine ⟨(i0, i1, i2, c, l, R), s, ?_, ⟨hc, fun a ha => (hin a ha).1.1, hR⟩, fun a ha => (hin a ha).1, ⟨wfP wf2, fun a ha => ⟨(hin a ha).2.1, (hin a ha).2.2.1⟩, fun r hr => (hRb r hr).1⟩, hs, hcap, hcb, fun a ha => (hin a ha).2.2.2, fun r hr => (hRb r hr).2⟩
    have s0 : cs = cs.take 1 ++ cs.drop 1 := (List.take_append_drop 1 cs).symm
    have s1 := split_at cs 1 1
    have s2 := split_at cs 2 1
    have s3 := split_at cs 3 8
    have s4 := split_at cs 11 1
    have s5 : cs.drop 12 = (cs.drop 12).take 144 := by rw [List.take_of_length_le (by simp; omega)]
    have : cs = ml (i0, i1, i2, c, l, R) s := by
      rw [s0, s1, s2, s3, s4, s5, e0, e1, e2, e3, e4, e5]
      rfl
    rw [this]; rfl
end
end Go.Proofs.YteffpnjgchihpaaGreatDoor
