
/-
  Rows of bytes; bag.copied; parcels, and a Bag in memory.
-/
import Derived.Test.YtdojjhhnciaegaaDoorZb08
import Derived.Test.YtdojjhhnciaegaaDoorZb13
import Derived.Test.YtdojjhhnciaegaaDoorZb14
import Derived.Laws.CopyOwn
import Derived.OwnWalk
import Derived.Deep.RegionWith
import Derived.BigRegion
namespace Go.Proofs.YtdojjhhnciaegaaDoor
open Go.RowKit
set_option maxRecDepth 100000

theorem info_parts {P : Program} {t : TypeId} {z : Value} {s b : Nat} (h : (P.info? t).map (fun i => (i.zero, i.size, i.bytes)) = some (some z, s, b)) : ∃ i, P.info? t = some i ∧ i.zero = some z ∧ i.size = s ∧ i.bytes = b := by
  obtain ⟨i, h1, h2⟩ := Option.map_eq_some_iff.1 h
  simp only [Prod.mk.injEq] at h2
  exact ⟨i, h1, h2.1, h2.2.1, h2.2.2⟩
set_option maxRecDepth 100000

theorem info_u8 : (Tryd.prog.info? 5).map (fun i => (i.zero, i.size, i.bytes)) = some (some (.int .u8 0), 1, 1) := by kernel_rfl
theorem size_u8 : (Tryd.prog.info? 5).map (·.size) = some 1 := by kernel_rfl

/-- A slice of bytes that is only read. -/
def SlB (w : World) (v : Value) (bs : List UInt8) : Prop :=
  (bs = [] ∧ ∃ a c, v = .slice a 0 c) ∨ ∃ g o c, v = .slice (some ⟨g, o, none⟩) bs.length c ∧ g < w.heap.size ∧ ∀ i b, bs[i]? = some b → w.cell? ⟨g, o + i, none⟩ = some (.int .u8 b.toNat)

theorem SlB.below {w w' : World} {v : Value} {bs : List UInt8} (h : SlB w v bs) {B : Nat} (hb : Below B w w') (hB : ∀ a, v.ownBlock = some a → a < B) : SlB w' v bs := by
  rcases h with h | ⟨g, o, c, rfl, hg, hc⟩
  · exact .inl h
  · exact .inr ⟨g, o, c, rfl, by have := hb.size; omega, fun i b hi => by rw [hb.cell (p := ⟨g, o + i, none⟩) (hB g rfl)]; exact hc i b hi⟩
theorem SlB.grow {w w' : World} {v : Value} {bs : List UInt8} (h : SlB w v bs) (hb : Below w.heap.size w w') : SlB w' v bs := by
  rcases h with h | ⟨g, o, c, rfl, hg, hc⟩
  · exact .inl h
  · exact .inr ⟨g, o, c, rfl, by have := hb.size; omega, fun i b hi => by rw [hb.cell (p := ⟨g, o + i, none⟩) hg]; exact hc i b hi⟩

theorem byteCells_at (bs : List UInt8) (i : Nat) : (Lib.byteCells bs)[i]? = (bs[i]?).map fun b => Value.int .u8 b.toNat := by simp [Lib.byteCells]
theorem byteCells_one (bs : List UInt8) : ∀ v ∈ Lib.byteCells bs, v.oneCell' = true := by
  intro v hv
  simp only [Lib.byteCells, List.mem_map] at hv
  obtain ⟨b, _, rfl⟩ := hv
  rfl

set_option maxHeartbeats 1000000 in
theorem copied_bag {w : World} {v : Value} {bs : List UInt8} (h : SlB w v bs) (hlen : bs.length ≤ 140737488355328) :
    Calls Tryd.prog 58 #[v] w fun e w' => e = .returned (.slice (some ⟨w.heap.size, 0, none⟩) bs.length bs.length) ∧ w'.heap[w.heap.size]? = some (.cells (Lib.byteCells bs).toArray 5 (0, 0)) ∧ Below w.heap.size w w' := by
  obtain ⟨i0, hi, hz0, hz1, hz2⟩ := info_parts info_u8
  obtain ⟨a, c, rfl, hpos⟩ : ∃ a c, v = .slice a bs.length c ∧ (0 < bs.length → ∃ ad, a = some ad ∧ ∀ j x, (Lib.byteCells bs)[j]? = some x → w.cell? (ad.add j) = some x) := by
    rcases h with ⟨rfl, a, c, rfl⟩ | ⟨g, o, c, rfl, hg, hc⟩
    · exact ⟨a, c, rfl, fun h => absurd h (by simp)⟩
    · refine ⟨_, c, rfl, fun _ => ⟨_, rfl, fun j x hx => ?_⟩⟩
      rw [byteCells_at] at hx
      obtain ⟨b, hb, rfl⟩ := Option.map_eq_some_iff.1 hx
      rw [Addr.add_lit]
      exact hc j b hb
  have HP : Aside (0 < bs.length → ∃ ad, a = some ad ∧ ∀ j x, (Lib.byteCells bs)[j]? = some x → w.cell? (ad.add j) = some x) := hpos
  clear hpos h
  go_enter Tryd.func58, Tryd.ntmps58
  go_wp2_with (first | (refine wpList_make_full _ rfl _ _ 41 rfl w.heap.size 5 i0 (.int .u8 0) 1 Tryd.underlying41 hi hz0 hz1 .i64 .i64 _ _ bs.length rfl rfl rfl rfl ?b2 ?b3 (Nat.le_refl _) ?_))
  case b2 => rw [hz2]; omega
  case b3 => unfold maxLen; omega
  intro w1 hown hgr
  have hb1 : Below w.heap.size w w1 := (Below.refl _ w).grown hgr (Nat.le_refl _) (by simp)
  obtain ⟨cur, hcur, hcs⟩ : ∃ cur : List Value, w1.heap[w.heap.size]? = some (.cells cur.toArray 5 (0, 0)) ∧ cur.length = bs.length := by
    rcases hown.2 with ⟨hv, _⟩ | ⟨g, cap, cur, hv, _, hg, _, _, hc, _⟩
    · simp at hv
    · simp only [Value.slice.injEq, Option.some.injEq, Addr.mk.injEq, and_true, true_and] at hv
      obtain ⟨rfl, rfl⟩ := hv
      exact ⟨cur.toList, by simpa using hg, by simpa using hc⟩
  have HS : Aside (0 < (Lib.byteCells bs).length → ∃ ad, a = some ad ∧ ∀ j x, (Lib.byteCells bs)[j]? = some x → w1.cell? (ad.add j) = some x) := fun h0 => by
    obtain ⟨ad, h1, h2⟩ := HP.out (by rwa [Lib.byteCells_length] at h0)
    exact ⟨ad, h1, fun j x hx => by
      have h3 := h2 j x hx
      rw [hb1.cell (World.block_lt_of_cell? _ _ h3)]; exact h3⟩
  clear hown hgr HP
  go_wp2_with (refine wpList_copy_splice rfl _ _ 41 41 rfl 5 Tryd.underlying41 size_u8 _ _ _ _ _ _ rfl rfl w.heap.size 0 cur 5 hcur (Lib.byteCells bs) ?c1 (fun h0 => ⟨rfl, HS.out h0⟩) ?c2 (byteCells_one bs) w.heap.size w hb1 (Nat.le_refl _) ?_)
  case c1 => rw [Lib.byteCells_length]; simp
  case c2 => rw [Lib.byteCells_length]; omega
  intro w2 hw2 hb2
  have hfin : w2.heap[w.heap.size]? = some (.cells (Lib.byteCells bs).toArray 5 (0, 0)) := by
    rw [hw2.out]
    have hsp : splice cur 0 (Lib.byteCells bs) = Lib.byteCells bs := by
      unfold splice
      rw [List.take_zero, List.drop_of_length_le (by rw [Lib.byteCells_length]; omega)]
      simp
    rw [hsp]
  have HF : Aside (w2.heap[w.heap.size]? = some (.cells (Lib.byteCells bs).toArray 5 (0, 0)) ∧ Below w.heap.size w w2) := ⟨hfin, hb2⟩
  clear hw2 hcur HS hfin hb1 hb2
  go_wp2
  go_ret
  exact ⟨rfl, HF.out.1, HF.out.2⟩

theorem hid_of' {p : Prop} (h : p) : Hid p := h
theorem row_new (w : World) (cs : Array Value) (t : TypeId) : RowAt w.heap.size cs t (w.alloc (.cells cs t)) := heap_alloc_last w _
theorem row_new2 (w : World) (o : Obj) (cs : Array Value) (t : TypeId) : RowAt (w.heap.size + 1) cs t ((w.alloc o).alloc (.cells cs t)) := by
  have := heap_alloc_last (w.alloc o) (.cells cs t)
  rw [World.size_alloc] at this
  exact this
theorem below_two (w : World) (o o' : Obj) : Below w.heap.size w ((w.alloc o).alloc o') := bgo (below_one w o) (below_one _ o')
theorem RowAt.cellIs {b : Nat} {cs : Array Value} {t : TypeId} {w : World} (h : RowAt b cs t w) (k : Nat) {v : Value} (hv : cs[k]? = some v) : w.cell? ⟨b, k, none⟩ = some v := (h.cell k).trans hv
theorem RowAt.froz {b : Nat} {cs : Array Value} {t : TypeId} {w : World} (h : RowAt b cs t w) (k : Nat) : w.frozen? ⟨b, k, none⟩ = false := Lib.frozen_of_heap h k

/-- A parcel as it lies in memory. -/
structure Pc where
  s : Int
  f : Int
  t : Int
  b : Value
/-- A parcel. -/
structure Pl where
  s : Int
  f : Int
  t : Int
  bs : List UInt8
/-- Its cells. -/
def pcv (p : Pc) : Array Value := #[.int .i64 p.s, .int .i64 p.f, .int .i64 p.t, p.b]
def pcells : List Pc → List Value
  | [] => []
  | p :: l => .int .i64 p.s :: .int .i64 p.f :: .int .i64 p.t :: p.b :: pcells l
theorem pcells_len : ∀ l : List Pc, (pcells l).length = l.length * 4
  | [] => rfl
  | e :: l => by simp only [pcells, List.length_cons, pcells_len l]; omega
theorem pcells_app : ∀ a b : List Pc, pcells (a ++ b) = pcells a ++ pcells b
  | [], _ => rfl
  | x :: r, b => by simp [pcells, pcells_app r b]
theorem pcells_of : ∀ (l : List Pc) (k : Nat) (u : Value), (pcells l)[k]? = some u → ∃ i e j, l[i]? = some e ∧ k = i * 4 + j ∧ (pcv e)[j]? = some u
  | [], k, u, h => by simp [pcells] at h
  | y :: r, k, u, h => by
    match k, h with
    | 0, h => exact ⟨0, y, 0, rfl, rfl, by simpa [pcv, pcells] using h⟩
    | 1, h => exact ⟨0, y, 1, rfl, rfl, by simpa [pcv, pcells] using h⟩
    | 2, h => exact ⟨0, y, 2, rfl, rfl, by simpa [pcv, pcells] using h⟩
    | 3, h => exact ⟨0, y, 3, rfl, rfl, by simpa [pcv, pcells] using h⟩
    | k + 4, h =>
      obtain ⟨i, e, j, h1, h2, h3⟩ := pcells_of r k u (by simpa [pcells] using h)
      exact ⟨i + 1, e, j, by simpa using h1, by omega, h3⟩
theorem pcells_at : ∀ (l : List Pc) (i : Nat) (e : Pc), l[i]? = some e → ∀ j v, (pcv e)[j]? = some v → (pcells l)[i * 4 + j]? = some v
  | [], i, e, h, _, _, _ => by simp at h
  | y :: r, 0, e, h, j, v, hv => by
    simp only [List.getElem?_cons_zero, Option.some.injEq] at h
    subst h
    match j, hv with
    | 0, hv => simpa [pcv, pcells] using hv
    | 1, hv => simpa [pcv, pcells] using hv
    | 2, hv => simpa [pcv, pcells] using hv
    | 3, hv => simpa [pcv, pcells] using hv
    | j + 4, hv => simp [pcv] at hv
  | y :: r, i + 1, e, h, j, v, hv => by
    have ih := pcells_at r i e (by simpa using h) j v hv
    rw [show (i + 1) * 4 + j = (i * 4 + j) + 4 by omega]
    simpa [pcells] using ih
theorem pcells_take : ∀ (l : List Pc) (n : Nat), (pcells l).take (n * 4) = pcells (l.take n)
  | [], n => by simp [pcells]
  | e :: l, 0 => by simp [pcells]
  | e :: l, n + 1 => by rw [show (n + 1) * 4 = n * 4 + 4 by omega]; simp [pcells, pcells_take l n]
theorem pcells_drop : ∀ (l : List Pc) (n : Nat), (pcells l).drop (n * 4) = pcells (l.drop n)
  | [], n => by simp [pcells]
  | e :: l, 0 => by simp [pcells]
  | e :: l, n + 1 => by rw [show (n + 1) * 4 = n * 4 + 4 by omega]; simp [pcells, pcells_drop l n]
theorem p_size (p : Pc) : (Tryd.prog.info? 65).map (·.size) = some (pcv p).size := (by kernel_rfl : (Tryd.prog.info? 65).map (·.size) = some 4)
theorem info_p : (Tryd.prog.info? 65).map (fun i => (i.zero, i.size, i.bytes)) = some (some (.agg #[.int .i64 0, .int .i64 0, .int .i64 0, .slice none 0 0]), 4, 48) := by kernel_rfl

/-- Bytes of one's own, in a block of K. -/
def BsAt (K : Nat → Prop) (v : Value) (bs : List UInt8) (w : World) : Prop := Rw 5 1 v bs.length (Lib.byteCells bs) w ∧ ∀ g, v.ownBlock = some g → K g
theorem BsAt.ch {K S : Nat → Prop} {v : Value} {bs : List UInt8} {w w' : World} (h : BsAt K v bs w) (c : Ch S w w') (hn : ∀ g, K g → ¬ S g) : BsAt K v bs w' := ⟨h.1.ch c (fun k hk => hn k (h.2 k hk)), h.2⟩
theorem BsAt.later {K : Nat → Prop} {v : Value} {bs : List UInt8} {w w' : World} (h : BsAt K v bs w) (hb : Below w.heap.size w w') : BsAt K v bs w' := ⟨h.1.later hb, h.2⟩
theorem BsAt.mono {K K' : Nat → Prop} {v : Value} {bs : List UInt8} {w : World} (h : BsAt K v bs w) (hk : ∀ g, K g → g < w.heap.size → K' g) : BsAt K' v bs w := ⟨h.1, fun g hg => hk g (h.2 g hg) (h.1.lt g hg)⟩
theorem BsAt.sl {K : Nat → Prop} {v : Value} {bs : List UInt8} {w : World} (h : BsAt K v bs w) : SlB w v bs := by
  have h0 := h.1
  rcases h.1.2 with ⟨rfl, hn⟩ | ⟨g, cap, cur, rfl, hg, _⟩
  · exact .inl ⟨List.eq_nil_of_length_eq_zero hn, _, _, rfl⟩
  · refine .inr ⟨g, 0, cap, rfl, (Array.getElem?_eq_some_iff.1 hg).1, fun i b hi => ?_⟩
    exact h0.cells i _ (by rw [byteCells_at, hi]; rfl)
theorem bs_new {K : Nat → Prop} {w : World} {g : Nat} {bs : List UInt8} (h : w.heap[g]? = some (.cells (Lib.byteCells bs).toArray 5 (0, 0))) (hl : bs.length ≤ 140737488355328) (hk : K g) : BsAt K (.slice (some ⟨g, 0, none⟩) bs.length bs.length) bs w :=
  ⟨⟨by rw [Lib.byteCells_length]; omega, .inr ⟨g, _, _, rfl, h, Nat.le_refl _, by unfold maxLen; omega, by simp [Lib.byteCells_length], List.take_of_length_le (by simp [Lib.byteCells_length])⟩⟩, fun k hk' => by cases hk'; exact hk⟩
/-- A parcel in memory, its bytes in a block of K. -/
structure PcIs (K : Nat → Prop) (p : Pc) (q : Pl) (w : World) : Prop where
  s : p.s = q.s
  f : p.f = q.f
  t : p.t = q.t
  b : BsAt K p.b q.bs w
  le : q.bs.length ≤ 140737488351232
/-- Several. -/
def PsAt (K : Nat → Prop) (ps : List Pc) (qs : List Pl) (w : World) : Prop := ps.length = qs.length ∧ ∀ (i : Nat) (p : Pc) (q : Pl), ps[i]? = some p → qs[i]? = some q → PcIs K p q w
theorem PcIs.ch {K S : Nat → Prop} {p : Pc} {q : Pl} {w w' : World} (h : PcIs K p q w) (c : Ch S w w') (hn : ∀ g, K g → ¬ S g) : PcIs K p q w' := ⟨h.s, h.f, h.t, h.b.ch c hn, h.le⟩
theorem PcIs.later {K : Nat → Prop} {p : Pc} {q : Pl} {w w' : World} (h : PcIs K p q w) (hb : Below w.heap.size w w') : PcIs K p q w' := ⟨h.s, h.f, h.t, h.b.later hb, h.le⟩
theorem PcIs.mono {K K' : Nat → Prop} {p : Pc} {q : Pl} {w : World} (h : PcIs K p q w) (hk : ∀ g, K g → g < w.heap.size → K' g) : PcIs K' p q w := ⟨h.s, h.f, h.t, h.b.mono hk, h.le⟩
theorem PsAt.ch {K S : Nat → Prop} {ps : List Pc} {qs : List Pl} {w w' : World} (h : PsAt K ps qs w) (c : Ch S w w') (hn : ∀ g, K g → ¬ S g) : PsAt K ps qs w' := ⟨h.1, fun i p q h1 h2 => (h.2 i p q h1 h2).ch c hn⟩
theorem PsAt.later {K : Nat → Prop} {ps : List Pc} {qs : List Pl} {w w' : World} (h : PsAt K ps qs w) (hb : Below w.heap.size w w') : PsAt K ps qs w' := ⟨h.1, fun i p q h1 h2 => (h.2 i p q h1 h2).later hb⟩
theorem PsAt.mono {K K' : Nat → Prop} {ps : List Pc} {qs : List Pl} {w : World} (h : PsAt K ps qs w) (hk : ∀ g, K g → g < w.heap.size → K' g) : PsAt K' ps qs w := ⟨h.1, fun i p q h1 h2 => (h.2 i p q h1 h2).mono hk⟩
theorem PsAt.nil (K : Nat → Prop) (w : World) : PsAt K [] [] w := ⟨rfl, fun i p q h => by simp at h⟩
theorem PsAt.app {K : Nat → Prop} {ps ps' : List Pc} {qs qs' : List Pl} {w : World} (h : PsAt K ps qs w) (h' : PsAt K ps' qs' w) : PsAt K (ps ++ ps') (qs ++ qs') w := by
  refine ⟨by rw [List.length_append, List.length_append, h.1, h'.1], fun i p q h1 h2 => ?_⟩
  by_cases e : i < ps.length
  · rw [List.getElem?_append_left e] at h1
    rw [List.getElem?_append_left (by rw [← h.1]; exact e)] at h2
    exact h.2 i p q h1 h2
  · rw [List.getElem?_append_right (by omega)] at h1
    rw [List.getElem?_append_right (by rw [← h.1]; omega), ← h.1] at h2
    exact h'.2 _ p q h1 h2
theorem PsAt.one {K : Nat → Prop} {p : Pc} {q : Pl} {w : World} (h : PcIs K p q w) : PsAt K [p] [q] w := ⟨rfl, fun i p' q' h1 h2 => by
  match i, h1, h2 with
  | 0, h1, h2 => cases h1; cases h2; exact h
  | i + 1, h1, h2 => simp at h1⟩
theorem PsAt.take {K : Nat → Prop} {ps : List Pc} {qs : List Pl} {w : World} (h : PsAt K ps qs w) (n : Nat) : PsAt K (ps.take n) (qs.take n) w := ⟨by rw [List.length_take, List.length_take, h.1], fun i p q h1 h2 => by
  rw [List.getElem?_take] at h1 h2
  split at h1
  next e => rw [if_pos e] at h2; exact h.2 i p q h1 h2
  next => cases h1⟩
theorem PsAt.drop {K : Nat → Prop} {ps : List Pc} {qs : List Pl} {w : World} (h : PsAt K ps qs w) (n : Nat) : PsAt K (ps.drop n) (qs.drop n) w := ⟨by rw [List.length_drop, List.length_drop, h.1], fun i p q h1 h2 => by
  rw [List.getElem?_drop] at h1 h2
  exact h.2 _ p q h1 h2⟩
theorem PsAt.at {K : Nat → Prop} {ps : List Pc} {qs : List Pl} {w : World} (h : PsAt K ps qs w) {i : Nat} {q : Pl} (hq : qs[i]? = some q) : ∃ p, ps[i]? = some p ∧ PcIs K p q w := by
  have hi := (List.getElem?_eq_some_iff.1 hq).1
  exact ⟨_, List.getElem?_eq_getElem (by rw [h.1]; exact hi), h.2 i _ q (List.getElem?_eq_getElem (by rw [h.1]; exact hi)) hq⟩
theorem PsAt.set {K : Nat → Prop} {ps : List Pc} {qs : List Pl} {w : World} (h : PsAt K ps qs w) (i : Nat) {p : Pc} {q : Pl} (hp : PcIs K p q w) : PsAt K (ps.set i p) (qs.set i q) w := ⟨by rw [List.length_set, List.length_set, h.1], fun k p' q' h1 h2 => by
  by_cases e : i = k
  · subst e
    have hi : i < ps.length := by have := (List.getElem?_eq_some_iff.1 h1).1; simpa using this
    rw [List.getElem?_set_self hi] at h1
    rw [List.getElem?_set_self (by rw [← h.1]; exact hi)] at h2
    cases h1
    cases h2
    exact hp
  · rw [List.getElem?_set_ne e] at h1 h2
    exact h.2 k p' q' h1 h2⟩

/-- A row of parcels of one's own. -/
def PRow (K : Nat → Prop) (v : Value) (l : List Pl) (w : World) : Prop := ∃ ps, Rw 65 4 v l.length (pcells ps) w ∧ PsAt K ps l w
theorem PRow.ch {K S : Nat → Prop} {v : Value} {l : List Pl} {w w' : World} (h : PRow K v l w) (c : Ch S w w') (hv : ∀ k, v.ownBlock = some k → ¬ S k) (hn : ∀ g, K g → ¬ S g) : PRow K v l w' := by
  obtain ⟨ps, h1, h2⟩ := h
  exact ⟨ps, h1.ch c hv, h2.ch c hn⟩
theorem PRow.later {K : Nat → Prop} {v : Value} {l : List Pl} {w w' : World} (h : PRow K v l w) (hb : Below w.heap.size w w') : PRow K v l w' := by
  obtain ⟨ps, h1, h2⟩ := h
  exact ⟨ps, h1.later hb, h2.later hb⟩
theorem PRow.mono {K K' : Nat → Prop} {v : Value} {l : List Pl} {w : World} (h : PRow K v l w) (hk : ∀ g, K g → g < w.heap.size → K' g) : PRow K' v l w := by
  obtain ⟨ps, h1, h2⟩ := h
  exact ⟨ps, h1, h2.mono hk⟩
theorem PRow.lt {K : Nat → Prop} {v : Value} {l : List Pl} {w : World} (h : PRow K v l w) : ∀ k, v.ownBlock = some k → k < w.heap.size := by
  obtain ⟨ps, h1, h2⟩ := h
  exact h1.lt
theorem PRow.form {K : Nat → Prop} {v : Value} {l : List Pl} {w : World} (h : PRow K v l w) : ∃ a c, v = .slice a l.length c ∧ l.length ≤ c ∧ c ≤ maxLen := by
  obtain ⟨ps, h1, h2⟩ := h
  exact h1.form
theorem PRow.nil (K : Nat → Prop) (w : World) : PRow K (.slice none 0 0) [] w := ⟨[], Rw.nil _ _ _, PsAt.nil _ _⟩
/-- Parcels that are only read, wherever they lie. -/
def SlP (K : Nat → Prop) (w : World) (v : Value) (l : List Pl) : Prop := (l = [] ∧ ∃ a c, v = .slice a 0 c) ∨ ∃ g o_ c ps, v = .slice (some ⟨g, o_, none⟩) l.length c ∧ PsAt K ps l w ∧ ∀ i p, ps[i]? = some p → CsIn g (o_ + i * 4) (pcv p) w
theorem PRow.at {K : Nat → Prop} {v : Value} {l : List Pl} {w : World} (h : PRow K v l w) {i : Nat} {q : Pl} (hq : l[i]? = some q) : ∃ g c p, v = .slice (some ⟨g, 0, none⟩) l.length c ∧ l.length ≤ c ∧ c ≤ maxLen ∧ CsIn g (i * 4) (pcv p) w ∧ PcIs K p q w ∧ w.there g (i * 4) 4 := by
  obtain ⟨ps, h1, h2⟩ := h
  obtain ⟨p, hp, hpq⟩ := h2.at hq
  have h0 := h1
  have hi := (List.getElem?_eq_some_iff.1 hq).1
  rcases h1.2 with ⟨_, hn⟩ | ⟨g, cap, cur, rfl, hg, hc1, hc2, hc3, _⟩
  · omega
  · refine ⟨g, cap, p, rfl, hc1, hc2, ⟨(Array.getElem?_eq_some_iff.1 hg).1, fun j v hv => ?_⟩, hpq, fun j hj => ⟨?_, Lib.frozen_of_heap hg _⟩⟩
    · have := h0.cells _ _ (pcells_at ps i p hp j v hv)
      rwa [Nat.zero_add] at this
    · rw [cell_of_row w g _ cur _ (0, 0) hg, Array.getElem?_eq_getElem (by omega)]
      rfl
theorem PRow.sl {K : Nat → Prop} {v : Value} {l : List Pl} {w : World} (h : PRow K v l w) : SlP K w v l := by
  obtain ⟨ps, h1, h2⟩ := h
  have h0 := h1
  rcases h1.2 with ⟨rfl, hn⟩ | ⟨g, cap, cur, rfl, hg, hc1, hc2, hc3, _⟩
  · exact .inl ⟨List.eq_nil_of_length_eq_zero hn, _, _, rfl⟩
  · refine .inr ⟨g, 0, cap, ps, rfl, h2, fun i p hp => ⟨(Array.getElem?_eq_some_iff.1 hg).1, fun j v hv => ?_⟩⟩
    have := h0.cells _ _ (pcells_at ps i p hp j v hv)
    rwa [Nat.add_assoc]
theorem SlP.later {K : Nat → Prop} {v : Value} {l : List Pl} {w w' : World} (h : SlP K w v l) (hb : Below w.heap.size w w') : SlP K w' v l := by
  rcases h with h | ⟨g, o_, c, ps, rfl, h1, h2⟩
  · exact .inl h
  · exact .inr ⟨g, o_, c, ps, rfl, h1.later hb, fun i p hp => (h2 i p hp).later hb⟩

/-- A Bag. -/
structure Bg where
  most : Int
  last : Int
  sent : Int
  arr : Int
  drp : Int
  dbl : Int
  l : List Pl
/-- A Bag of the program's in memory. -/
structure BgAt (B : Nat) (v : Value) (g : Bg) (K : Nat → Prop) (w : World) : Prop where
  lies : RowAt B #[.int .i64 g.most, v, .int .i64 g.last, .int .i64 g.sent, .int .i64 g.arr, .int .i64 g.drp, .int .i64 g.dbl] 55 w
  row : PRow K v g.l w
  most0 : 0 ≤ g.most
  most1 : g.most ≤ 4096
  room : (g.l.length : Int) ≤ g.most
theorem BgAt.ne {B : Nat} {v : Value} {g : Bg} {K : Nat → Prop} {w : World} (h : BgAt B v g K w) : ∀ k, v.ownBlock = some k → ¬ k = B := by
  intro k hk e
  obtain ⟨ps, h1, h2⟩ := h.row
  rcases h1.2 with ⟨rfl, _⟩ | ⟨g', cap, cur, rfl, hg, _⟩
  · cases hk
  · cases hk
    have := h.lies
    unfold RowAt at this
    rw [← e] at this
    simp only at this hg
    rw [hg] at this
    simp at this
theorem BgAt.bne {B : Nat} {v : Value} {g : Bg} {K : Nat → Prop} {w : World} (h : BgAt B v g K w) : BgAt B v g (fun k => K k ∧ k < w.heap.size ∧ ¬ k = B ∧ ∀ i, v.ownBlock = some i → ¬ k = i) w := by
  refine ⟨h.lies, ?_, h.most0, h.most1, h.room⟩
  obtain ⟨ps, h1, h2⟩ := h.row
  refine ⟨ps, h1, h2.1, fun i p q hp hq => ?_⟩
  have hpq := h2.2 i p q hp hq
  refine ⟨hpq.s, hpq.f, hpq.t, ⟨hpq.b.1, fun k hk => ⟨hpq.b.2 k hk, hpq.b.1.lt k hk, ?_, ?_⟩⟩, hpq.le⟩
  · intro e
    rcases hpq.b.1.2 with ⟨hb, _⟩ | ⟨g', cap, cur, hb, hg, _⟩
    · rw [hb] at hk; cases hk
    · rw [hb] at hk
      cases hk
      have := h.lies
      unfold RowAt at this
      rw [← e] at this
      simp only at this hg
      rw [hg] at this
      simp at this
  · intro j hj e
    rcases hpq.b.1.2 with ⟨hb, _⟩ | ⟨g', cap, cur, hb, hg, _⟩
    · rw [hb] at hk; cases hk
    · rw [hb] at hk
      cases hk
      rcases h1.2 with ⟨hv, _⟩ | ⟨g2, cap2, cur2, hv, hg2, _⟩
      · rw [hv] at hj; cases hj
      · rw [hv] at hj
        cases hj
        simp only at e
        rw [← e, hg] at hg2
        simp at hg2
theorem BgAt.ch {B : Nat} {v : Value} {g : Bg} {K S : Nat → Prop} {w w' : World} (h : BgAt B v g K w) (c : Ch S w w') (hB : ¬ S B) (hv : ∀ k, v.ownBlock = some k → ¬ S k) (hn : ∀ g, K g → ¬ S g) : BgAt B v g K w' := ⟨h.lies.ch c hB, h.row.ch c hv hn, h.most0, h.most1, h.room⟩
theorem BgAt.later {B : Nat} {v : Value} {g : Bg} {K : Nat → Prop} {w w' : World} (h : BgAt B v g K w) (hb : Below w.heap.size w w') : BgAt B v g K w' := ⟨h.lies.later hb, h.row.later hb, h.most0, h.most1, h.room⟩
theorem BgAt.mono {B : Nat} {v : Value} {g : Bg} {K K' : Nat → Prop} {w : World} (h : BgAt B v g K w) (hk : ∀ g, K g → g < w.heap.size → K' g) : BgAt B v g K' w := ⟨h.lies, h.row.mono hk, h.most0, h.most1, h.room⟩
end Go.Proofs.YtdojjhhnciaegaaDoor
