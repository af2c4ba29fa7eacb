
/-
  copied, New, NewReader, and what a Writer does.
-/
import Derived.Test.YteffpnjgchihpaaGreatDoorPB13
import Derived.Laws.CopyOwn
import Derived.OwnWalk
import Derived.Deep.RegionWith
namespace Go.Proofs.YteffpnjgchihpaaGreatDoor
open Go.RowKit
set_option maxRecDepth 100000

theorem info_u8 : (Tryz.prog.info? 5).map (fun i => (i.zero, i.size, i.bytes)) = some (some (.int .u8 0), 1, 1) := by kernel_rfl
theorem size_u8 : (Tryz.prog.info? 5).map (·.size) = some 1 := by kernel_rfl

/-- A slice of bytes that is only read. -/
def SlB (w : World) (v : Value) (bs : List UInt8) : Prop :=
  (bs = [] ∧ ∃ a c, v = .slice a 0 c) ∨ ∃ g o c, v = .slice (some ⟨g, o, none⟩) bs.length c ∧ g < w.heap.size ∧ ∀ i b, bs[i]? = some b → w.cell? ⟨g, o + i, none⟩ = some (.int .u8 b.toNat)

theorem SlB.below {w w' : World} {v : Value} {bs : List UInt8} (h : SlB w v bs) {B : Nat} (hb : Below B w w') (hB : ∀ a, v.ownBlock = some a → a < B) : SlB w' v bs := by
  rcases h with h | ⟨g, o, c, rfl, hg, hc⟩
  · exact .inl h
  · exact .inr ⟨g, o, c, rfl, by have := hb.size; omega, fun i b hi => by rw [hb.cell (p := ⟨g, o + i, none⟩) (hB g rfl)]; exact hc i b hi⟩
theorem SlB.grow {w w' : World} {v : Value} {bs : List UInt8} (h : SlB w v bs) (hb : Below w.heap.size w w') : SlB w' v bs := by
  rcases h with h | ⟨g, o, c, rfl, hg, hc⟩
  · exact .inl h
  · exact .inr ⟨g, o, c, rfl, by have := hb.size; omega, fun i b hi => by rw [hb.cell (p := ⟨g, o + i, none⟩) hg]; exact hc i b hi⟩

theorem byteCells_at (bs : List UInt8) (i : Nat) : (Lib.byteCells bs)[i]? = (bs[i]?).map fun b => Value.int .u8 b.toNat := by simp [Lib.byteCells]
theorem byteCells_one (bs : List UInt8) : ∀ v ∈ Lib.byteCells bs, v.oneCell' = true := by
  intro v hv
  simp only [Lib.byteCells, List.mem_map] at hv
  obtain ⟨b, _, rfl⟩ := hv
  rfl

set_option maxHeartbeats 1000000 in
theorem copied_any {w : World} {v : Value} {bs : List UInt8} (h : SlB w v bs) (hlen : bs.length ≤ 140737488355328) :
    Calls Tryz.prog 50 #[v] w fun e w' => e = .returned (.slice (some ⟨w.heap.size, 0, none⟩) bs.length bs.length) ∧ w'.heap[w.heap.size]? = some (.cells (Lib.byteCells bs).toArray 5 (0, 0)) ∧ Below w.heap.size w w' := by
  obtain ⟨i0, hi, hz0, hz1, hz2⟩ := info_parts info_u8
  obtain ⟨a, c, rfl, hpos⟩ : ∃ a c, v = .slice a bs.length c ∧ (0 < bs.length → ∃ ad, a = some ad ∧ ∀ j x, (Lib.byteCells bs)[j]? = some x → w.cell? (ad.add j) = some x) := by
    rcases h with ⟨rfl, a, c, rfl⟩ | ⟨g, o, c, rfl, hg, hc⟩
    · exact ⟨a, c, rfl, fun h => absurd h (by simp)⟩
    · refine ⟨_, c, rfl, fun _ => ⟨_, rfl, fun j x hx => ?_⟩⟩
      rw [byteCells_at] at hx
      obtain ⟨b, hb, rfl⟩ := Option.map_eq_some_iff.1 hx
      rw [Addr.add_lit]
      exact hc j b hb
  have HP : Aside (0 < bs.length → ∃ ad, a = some ad ∧ ∀ j x, (Lib.byteCells bs)[j]? = some x → w.cell? (ad.add j) = some x) := hpos
  clear hpos h
  go_enter Tryz.func50, Tryz.ntmps50
  go_wp2_with (first | (refine wpList_make_full _ rfl _ _ 33 rfl w.heap.size 5 i0 (.int .u8 0) 1 Tryz.underlying33 hi hz0 hz1 .i64 .i64 _ _ bs.length rfl rfl rfl rfl ?b2 ?b3 (Nat.le_refl _) ?_))
  case b2 => rw [hz2]; omega
  case b3 => unfold maxLen; omega
  intro w1 hown hgr
  have hb1 : Below w.heap.size w w1 := (Below.refl _ w).grown hgr (Nat.le_refl _) (by simp)
  obtain ⟨cur, hcur, hcs⟩ : ∃ cur : List Value, w1.heap[w.heap.size]? = some (.cells cur.toArray 5 (0, 0)) ∧ cur.length = bs.length := by
    rcases hown.2 with ⟨hv, _⟩ | ⟨g, cap, cur, hv, _, hg, _, _, hc, _⟩
    · simp at hv
    · simp only [Value.slice.injEq, Option.some.injEq, Addr.mk.injEq, and_true, true_and] at hv
      obtain ⟨rfl, rfl⟩ := hv
      exact ⟨cur.toList, by simpa using hg, by simpa using hc⟩
  have HS : Aside (0 < (Lib.byteCells bs).length → ∃ ad, a = some ad ∧ ∀ j x, (Lib.byteCells bs)[j]? = some x → w1.cell? (ad.add j) = some x) := fun h0 => by
    obtain ⟨ad, h1, h2⟩ := HP.out (by rwa [Lib.byteCells_length] at h0)
    exact ⟨ad, h1, fun j x hx => by
      have h3 := h2 j x hx
      rw [hb1.cell (World.block_lt_of_cell? _ _ h3)]; exact h3⟩
  clear hown hgr HP
  go_wp2_with (refine wpList_copy_splice rfl _ _ 33 33 rfl 5 Tryz.underlying33 size_u8 _ _ _ _ _ _ rfl rfl w.heap.size 0 cur 5 hcur (Lib.byteCells bs) ?c1 (fun h0 => ⟨rfl, HS.out h0⟩) ?c2 (byteCells_one bs) w.heap.size w hb1 (Nat.le_refl _) ?_)
  case c1 => rw [Lib.byteCells_length]; simp
  case c2 => rw [Lib.byteCells_length]; omega
  intro w2 hw2 hb2
  have hfin : w2.heap[w.heap.size]? = some (.cells (Lib.byteCells bs).toArray 5 (0, 0)) := by
    rw [hw2.out]
    have hsp : splice cur 0 (Lib.byteCells bs) = Lib.byteCells bs := by
      unfold splice
      rw [List.take_zero, List.drop_of_length_le (by rw [Lib.byteCells_length]; omega)]
      simp
    rw [hsp]
  have HF : Aside (w2.heap[w.heap.size]? = some (.cells (Lib.byteCells bs).toArray 5 (0, 0)) ∧ Below w.heap.size w w2) := ⟨hfin, hb2⟩
  clear hw2 hcur HS hfin hb1 hb2
  go_wp2
  go_ret
  exact ⟨rfl, HF.out.1, HF.out.2⟩

theorem newReader_any {w : World} {v : Value} {bs : List UInt8} (h : SlB w v bs) (hlen : bs.length ≤ 1000000) (hsz : 8 ≤ w.heap.size) :
    Calls Tryz.prog 68 #[v] w fun e w' => ∃ rb, e = .returned (.pointer (some ⟨rb, 0, none⟩)) ∧ RdAt rb w.heap.size bs 0 .nilIface w' ∧ w.heap.size < rb ∧ Below w.heap.size w w' := by
  have HH : Aside (SlB w v bs ∧ bs.length ≤ 140737488355328) := ⟨h, by omega⟩
  have HL : Aside (bs.length ≤ 1000000 ∧ 8 ≤ w.heap.size) := ⟨hlen, hsz⟩
  clear h hlen hsz
  go_enter Tryz.func68, Tryz.ntmps68
  go_wp2_with (go_at_call 50; refine (copied_any HH.out.1 HH.out.2).mono ?_; rintro e w1 ⟨rfl, hg1, hb1⟩)
  go_ret
  have hlt := lt_of_heap hg1
  refine ⟨w1.heap.size, rfl, ⟨?_, ?_, by have := HL.out; omega, Nat.zero_le _, HL.out.1⟩, hlt, hb1.alloc hb1.size _⟩
  · exact heap_alloc_last _ _ _
  · rw [Below.heap_alloc _ _ _ hlt]; exact hg1

theorem new_any (w : World) : Calls Tryz.prog 23 #[] w fun e w' => e = .returned (.pointer (some ⟨w.heap.size, 0, none⟩)) ∧ w' = w.alloc (.cells #[.slice none 0 0] 89) := by
  go_enter Tryz.func23, Tryz.ntmps23
  go_wp2
  go_ret
  exact ⟨rfl, rfl⟩

/-- A Writer in memory: the bytes that it holds; all that it has of its own lies from block B on. -/
structure WrAt (B b : Nat) (bs : List UInt8) (v : Value) (w : World) : Prop where
  lies : w.heap[b]? = some (.cells #[v] 89 (0, 0))
  own : w.ownsRow B 5 1 v bs.length (Lib.byteCells bs)
  lo : B ≤ b

theorem wr_new (w : World) (B : Nat) (hB : B ≤ w.heap.size) : WrAt B w.heap.size [] (.slice none 0 0) (w.alloc (.cells #[.slice none 0 0] 89)) := ⟨heap_alloc_last _ _ _, World.ownsRow_nil _ _ _ _, hB⟩

theorem WrAt.keep {B b : Nat} {bs : List UInt8} {v : Value} {S : List Nat} {w w' : World} (h : WrAt B b bs v w) (k : Kept S w w') (hS : ∀ s ∈ S, s < B) : WrAt B b bs v w' := by
  refine ⟨k.heap h.lies (fun hm => by have := hS _ hm; have := h.lo; omega), ⟨h.own.1, ?_⟩, h.lo⟩
  rcases h.own.2 with h2 | ⟨g, cap, cur, h1, h2, h3, h4⟩
  · exact .inl h2
  · exact .inr ⟨g, cap, cur, h1, h2, k.heap h3 (fun hm => by have := hS _ hm; omega), h4⟩

theorem WrAt.slB {B b : Nat} {bs : List UInt8} {v : Value} {w : World} (h : WrAt B b bs v w) : SlB w v bs := by
  rcases h.own.2 with ⟨rfl, h0⟩ | ⟨g, cap, cur, rfl, hB, hg, _, _, _, ht⟩
  · exact .inl ⟨List.eq_nil_of_length_eq_zero h0, _, _, rfl⟩
  · refine .inr ⟨g, 0, cap, rfl, lt_of_heap hg, fun i b hi => ?_⟩
    have hx : (Lib.byteCells bs)[i]? = some (.int .u8 b.toNat) := by rw [byteCells_at, hi]; rfl
    rw [Nat.zero_add, cellW_of hg]
    rw [← ht, List.getElem?_take] at hx
    split at hx
    · simpa using hx
    · cases hx

theorem len_any {B b : Nat} {bs : List UInt8} {v : Value} {w : World} (h : WrAt B b bs v w) :
    Calls Tryz.prog 59 #[.pointer (some ⟨b, 0, none⟩)] w fun e w' => e = .returned (.int .i64 bs.length) ∧ w' = w := by
  have c0 : w.cell? ⟨b, 0, none⟩ = some v := by rw [cellW_of h.lies]; rfl
  obtain ⟨a, c, rfl⟩ : ∃ a c, v = .slice a bs.length c := by
    rcases h.own.2 with ⟨rfl, h0⟩ | ⟨g, cap, cur, rfl, _⟩
    · exact ⟨none, 0, by rw [h0]⟩
    · exact ⟨_, _, rfl⟩
  clear h
  go_enter Tryz.func59, Tryz.ntmps59
  go_wp2
  go_ret
  exact ⟨rfl, rfl⟩

theorem bytes_any {B b : Nat} {bs : List UInt8} {v : Value} {w : World} (h : WrAt B b bs v w) (hlen : bs.length ≤ 140737488355328) :
    Calls Tryz.prog 25 #[.pointer (some ⟨b, 0, none⟩)] w fun e w' => e = .returned (.slice (some ⟨w.heap.size, 0, none⟩) bs.length bs.length) ∧ w'.heap[w.heap.size]? = some (.cells (Lib.byteCells bs).toArray 5 (0, 0)) ∧ Below w.heap.size w w' := by
  have c0 : w.cell? ⟨b, 0, none⟩ = some v := by rw [cellW_of h.lies]; rfl
  have HH : Aside (SlB w v bs ∧ bs.length ≤ 140737488355328) := ⟨h.slB, hlen⟩
  clear h hlen
  go_enter Tryz.func25, Tryz.ntmps25
  go_wp2_with (go_at_call 50; refine (copied_any HH.out.1 HH.out.2).mono ?_; rintro e w1 ⟨rfl, hg1, hb1⟩)
  go_ret
  exact ⟨rfl, hg1, hb1⟩

theorem cell_one_new (w : World) (x : Value) (t : TypeId) : ∀ j u, [x][j]? = some u → (w.alloc (.cells #[x] t)).cell? ((⟨w.heap.size, 0, none⟩ : Addr).add j) = some u := by
  intro j u hu
  match j, hu with
  | 0, hu => simp at hu; subst hu; simp [Addr.add]
  | n + 1, hu => simp at hu

theorem WrAt.put {B b : Nat} {bs bs' : List UInt8} {v v' : Value} {w w' : World} (h : WrAt B b bs v w) (hg : w.grownBy w' v.ownBlock) (hown : w'.ownsRow B 5 1 v' bs'.length (Lib.byteCells bs')) : WrAt B b bs' v' (w'.setCell ⟨b, 0, none⟩ v') ∧ w'.heap[b]? = some (.cells #[v] 89 (0, 0)) := by
  have hne : ∀ {x : World} {u : Value} {n : Nat} {xs : List Value}, x.ownsRow B 5 1 u n xs → ∀ {z : Array Value}, x.heap[b]? = some (.cells z 89 (0, 0)) → u.ownBlock ≠ some b := by
    intro x u n xs ho z hz he
    rcases ho.2 with ⟨rfl, _⟩ | ⟨g, cap, cur, rfl, _, hg, _⟩
    · simp [Value.ownBlock] at he
    · simp only [Value.ownBlock, Option.some.injEq] at he
      subst he
      rw [hg] at hz
      simp at hz
  have hb2 : w'.heap[b]? = some (.cells #[v] 89 (0, 0)) := by rw [hg.block b (lt_of_heap h.lies) (fun e => hne h.own h.lies e.symm)]; exact h.lies
  refine ⟨⟨by rw [heap_setCell_at hb2]; rfl, ?_, h.lo⟩, hb2⟩
  exact hown.kept (row := some b) ⟨rfl, rfl, rfl, by simp [World.setCell], fun k _ hk => Below.heap_setCell _ _ _ _ (fun e => hk (by simp [e]))⟩ (Or.inr (hne hown hb2))

set_option maxHeartbeats 1000000 in
theorem byte_any {B b : Nat} {bs : List UInt8} {v : Value} {w : World} (h : WrAt B b bs v w) (c : UInt8) (hlen : bs.length + 1 ≤ 140737488355328) (hBw : B ≤ w.heap.size) :
    Calls Tryz.prog 45 #[.pointer (some ⟨b, 0, none⟩), .int .u8 c.toNat] w fun e w' => e = .returned (.tuple #[]) ∧ (∃ v', WrAt B b (bs ++ [c]) v' w') ∧ Below B w w' := by
  obtain ⟨i0, hi, hz0, hz1, hz2⟩ := info_parts info_u8
  have c0 : w.cell? ⟨b, 0, none⟩ = some v := by rw [cellW_of h.lies]; rfl
  have HH : Aside (WrAt B b bs v w ∧ bs.length + 1 ≤ 140737488355328 ∧ B ≤ w.heap.size) := ⟨h, hlen, hBw⟩
  have hown := h.own
  clear h hlen hBw
  go_enter Tryz.func45, Tryz.ntmps45
  go_wp2_with (at_builtin; refine wpList_append_own _ rfl _ _ 33 rfl B 5 i0 (.int .u8 0) 1 1 Tryz.underlying33 hi hz0 hz1 hz2 rfl (by decide) _ _ _ rfl (hown.alloc _) ⟨w.heap.size, 0, none⟩ 1 1 [.int .u8 c.toNat] rfl rfl ?c1 ?c2 ?c3 ?c4 ?c5 ?_)
  case c1 => exact cell_one_new _ _ _
  case c2 => intro u hu; simp at hu; subst hu; rfl
  case c3 => have := HH.out.2.1; unfold maxLen; omega
  case c4 => have := HH.out.2.1; omega
  case c5 => have := HH.out.2.2; simp; omega
  intro v0 w2 hown0 hgrow hnn
  clear hnn
  have hW : WrAt B b bs v (w.alloc (.cells #[.int .u8 c.toNat] 5)) := HH.out.1.keep (S := []) ((Kept.refl _ w).alloc _) (by simp)
  obtain ⟨hput, hb2⟩ := hW.put (bs' := bs ++ [c]) (v' := v0) hgrow (by simpa [Lib.byteCells] using hown0)
  have d1 : w2.cell? ⟨b, 0, none⟩ = some v := by rw [cellW_of hb2]; rfl
  have f1 : w2.frozen? ⟨b, 0, none⟩ = false := frozenW_of hb2 0
  have HF : Aside (WrAt B b (bs ++ [c]) v0 (w2.setCell ⟨b, 0, none⟩ v0) ∧ Below B w (w2.setCell ⟨b, 0, none⟩ v0)) := ⟨hput, ((((Below.refl B w).alloc HH.out.2.2 _).grown hgrow (by have := HH.out.2.2; simp; omega) (fun k hk => (HH.out.1.own.lt k hk).1)).setCell (p := ⟨b, 0, none⟩) HH.out.1.lo _)⟩
  obtain ⟨va, vn, vc, hv'⟩ : ∃ a k c, v0 = .slice a k c := by
    rcases hown0.2 with ⟨hv, _⟩ | ⟨g, cap, cur, hv, _⟩
    · exact ⟨_, _, _, hv⟩
    · exact ⟨_, _, _, hv⟩
  rw [hv'] at HF ⊢
  clear hv' hput hb2 hW hown0 hgrow hown
  go_wp2
  go_end0
  exact ⟨rfl, ⟨_, HF.out.1⟩, HF.out.2⟩
end Go.Proofs.YteffpnjgchihpaaGreatDoor
