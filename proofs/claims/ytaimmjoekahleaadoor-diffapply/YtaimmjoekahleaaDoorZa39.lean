
/-
  copy, clear, append of a make, slices.overlaps: over rows of one-cell things in a block of one's own.
-/
import Derived.Test.YtaimmjoekahleaaDoorZa28
import Derived.Laws.CopyOwn
import Derived.Lib.AppendZerosOnto
import Derived.Lib.Overlaps
namespace Go.Proofs.YtaimmjoekahleaaDoor
open Go.RowKit Go.Extern.Stop Go.Stop Go.Extern
set_option maxRecDepth 100000

/-- A block's cells, as a list. -/
def Blk (g : Nat) (l : List Value) (t : TypeId) (w : World) : Prop := w.heap[g]? = some (.cells l.toArray t (0, 0))
theorem Blk.cell {g : Nat} {l : List Value} {t : TypeId} {w : World} (h : Blk g l t w) {j : Nat} {v : Value} (hv : l[j]? = some v) : w.cell? ⟨g, j, none⟩ = some v := by
  have h' : w.heap[g]? = some (.cells l.toArray t (0, 0)) := h
  rw [cell_of_row w g j _ _ _ h']
  simpa using hv
theorem Blk.lt {g : Nat} {l : List Value} {t : TypeId} {w : World} (h : Blk g l t w) : g < w.heap.size := (Array.getElem?_eq_some_iff.1 h).1
theorem Blk.later {g : Nat} {l : List Value} {t : TypeId} {w w' : World} (h : Blk g l t w) (hb : Below w.heap.size w w') : Blk g l t w' := (hb.block g h.lt).trans h
theorem Blk.grow {g : Nat} {l : List Value} {t : TypeId} {w w' : World} {row : Option Nat} (h : Blk g l t w) (k : w.grownBy w' row) (hn : ¬ row = some g) : Blk g l t w' := (k.block g h.lt (fun e => hn e.symm)).trans h
/-- A row of characters of one's own lies so. -/
theorem RwR.blk {v : Value} {xs : List Int} {w : World} (h : RwR v xs w) (h0 : ¬ v = .slice none 0 0) : ∃ g cap sp, v = .slice (some ⟨g, 0, none⟩) xs.length cap ∧ Blk g (xs.map (Value.int .i32) ++ sp) 21 w ∧ xs.length ≤ cap ∧ cap ≤ maxLen ∧ cap ≤ xs.length + sp.length := by
  rcases h.2 with ⟨q, _⟩ | ⟨g, cap, cur, rfl, hg, hc, hm, hs, ht⟩
  · exact absurd q h0
  · rw [Nat.mul_one] at hs ht
    refine ⟨g, cap, cur.toList.drop xs.length, rfl, ?_, hc, hm, ?_⟩
    · unfold Blk
      rw [← ht, List.take_append_drop]
      exact hg
    · have e : cur.toList.length = cur.size := Array.length_toList
      rw [List.length_drop, e]
      omega
theorem RwR.mk {g cap : Nat} {xs : List Int} {sp : List Value} {w : World} (h : Blk g (xs.map (Value.int .i32) ++ sp) 21 w) (hc : xs.length ≤ cap) (hm : cap ≤ maxLen) (hs : cap ≤ xs.length + sp.length) : RwR (.slice (some ⟨g, 0, none⟩) xs.length cap) xs w := by
  refine ⟨by simp, .inr ⟨g, cap, _, rfl, h, hc, hm, ?_, ?_⟩⟩
  · simp only [List.size_toArray, List.length_append, List.length_map, Nat.mul_one]
    exact hs
  · rw [Nat.mul_one]
    exact List.take_left' (by simp)

section
variable {P : Program} {K : Act → World → Prop} {ops : Array Oper} {rest : List Oper} {o : Oper} {A : Act} {w : World} {Q : Exit → Act → World → Prop}
/-- copy: so many cells go over. -/
theorem run_copyG (T ty e : TypeId) (hu : P.underlying T = some (.slice e)) (hsz : (P.info? e).map (·.size) = some 1) {g off dl dc sl sc : Nat} {dp sp : Option Addr} {cur : List Value} {t : TypeId} (hg : Blk g cur t w) (cs : List Value)
    (hn : cs.length = Nat.min sl dl) (hpos : 0 < cs.length → dp = some ⟨g, off, none⟩ ∧ ∃ ad, sp = some ad ∧ ∀ j v, cs[j]? = some v → w.cell? (ad.add j) = some v) (hfit : off + cs.length ≤ cur.length) (h1 : ∀ v ∈ cs, v.oneCell' = true) :
    ∃ w', (Builtin.copy_ #[T, T] ty #[.slice dp dl dc, .slice sp sl sc]).run P w = .ok (goInt cs.length) w' ∧ Blk g (splice cur off cs) t w' ∧ w.grownBy w' (some g) := by
  by_cases h0 : cs.length = 0
  · obtain rfl : cs = [] := List.eq_nil_of_length_eq_zero h0
    refine ⟨w, run_copy_none (P := P) w T T ty e dp sp dl dc sl sc hu hsz (by simpa using hn.symm), ?_, ⟨rfl, rfl, rfl, Nat.le_refl _, fun _ _ _ => rfl⟩⟩
    simpa [splice] using hg
  · obtain ⟨rfl, ad, rfl, hsrc⟩ := hpos (by omega)
    have hr := run_copy_row (P := P) w T T ty e g off dl dc ad sl sc cur.toArray t cs hu hsz hg hn hsrc (by simpa using hfit) h1
    refine ⟨_, hr, ?_, ⟨rfl, rfl, rfl, by simp, fun k _ hk => setRow_other w g k _ (fun e => hk (by simp [e]))⟩⟩
    unfold Blk
    have := setRow_heap w g cur.toArray (cur.toArray.toList.take off ++ cs ++ cur.toArray.toList.drop (off + cs.length)).toArray t _ hg
    rw [this]
    simp [splice]
theorem opw_copyG (d s : Operand) (T : TypeId) (ho : o.op = .call { callee := .builtin .copy, args := #[d, s], argTypes := #[T, T] }) (e : TypeId) (hu : P.underlying T = some (.slice e)) (hsz : (P.info? e).map (·.size) = some 1)
    {g dl dc sl sc : Nat} (off : Nat) {dp sp : Option Addr} {cur : List Value} {t : TypeId} (hd : A.eval d = .slice dp dl dc) (hs : A.eval s = .slice sp sl sc) (hg : Blk g cur t w) (cs : List Value)
    (hn : cs.length = Nat.min sl dl) (hpos : 0 < cs.length → dp = some ⟨g, off, none⟩ ∧ ∃ ad, sp = some ad ∧ ∀ j v, cs[j]? = some v → w.cell? (ad.add j) = some v) (hfit : off + cs.length ≤ cur.length) (h1 : ∀ v ∈ cs, v.oneCell' = true)
    (k : ∀ w', Blk g (splice cur off cs) t w' → w.grownBy w' (some g) → K (A.put o.dst (goInt cs.length)) w') : o.wp P A w K Q := by
  obtain ⟨w', hr, h2, h3⟩ := run_copyG (P := P) T o.type e hu hsz (dc := dc) (sc := sc) hg cs hn hpos hfit h1
  unfold Oper.wp execOp
  simp only [ho, resolve, invoke, builtin, Sem.run_bind, Sem.run_pure, Result.andThen_ok, List.map_toArray, List.map_cons, List.map_nil, hd, hs, hr]
  exact k w' h2 h3
theorem wpL_copyG (hgd : o.guard = none) (d s : Operand) (T : TypeId) (ho : o.op = .call { callee := .builtin .copy, args := #[d, s], argTypes := #[T, T] }) (e : TypeId) (hu : P.underlying T = some (.slice e)) (hsz : (P.info? e).map (·.size) = some 1)
    {g dl dc sl sc : Nat} (off : Nat) {dp sp : Option Addr} {cur : List Value} {t : TypeId} (hd : A.eval d = .slice dp dl dc) (hs : A.eval s = .slice sp sl sc) (hg : Blk g cur t w) (cs : List Value)
    (hn : cs.length = Nat.min sl dl) (hpos : 0 < cs.length → dp = some ⟨g, off, none⟩ ∧ ∃ ad, sp = some ad ∧ ∀ j v, cs[j]? = some v → w.cell? (ad.add j) = some v) (hfit : off + cs.length ≤ cur.length) (h1 : ∀ v ∈ cs, v.oneCell' = true)
    (k : ∀ w', Blk g (splice cur off cs) t w' → w.grownBy w' (some g) → wpList P ops Q rest (A.put o.dst (goInt cs.length)) w') : wpList P ops Q (o :: rest) A w :=
  wpList_plain hgd fun _ hK => opw_copyG d s T ho e hu hsz off hd hs hg cs hn hpos hfit h1 fun w' q1 q2 => hK _ _ (k w' q1 q2)
end
theorem size_r : (Tryd.prog.info? 21).map (·.size) = some 1 := by
  obtain ⟨i, h1, _, h3, _⟩ := info_parts info_r
  rw [h1]
  simp [h3]
theorem zeroR (n : Nat) : (Builtin.zeroCells #[Value.int .i32 0] n).toList = List.replicate n (Value.int .i32 0) := by
  unfold Builtin.zeroCells
  apply List.ext_getElem
  · simp
  · intro i h1 h2
    simp
    rw [Nat.mod_one]
    rfl
theorem zeroVR (w : World) : (zeroValue 21).run Tryd.prog w = .ok (.int .i32 0) w := by kernel_rfl
section
variable {K : Act → World → Prop} {ops : Array Oper} {rest : List Oper} {o : Oper} {A : Act} {w : World} {Q : Exit → Act → World → Prop}
/-- clear of the end of a row. -/
theorem run_clearR (ty : TypeId) {g off n c : Nat} {dp : Option Addr} {cur : List Value} {t : TypeId} (hg : Blk g cur t w) (hpos : 0 < n → dp = some ⟨g, off, none⟩) (hfit : off + n ≤ cur.length) :
    ∃ w', (Builtin.clear_ #[47] ty #[.slice dp n c]).run Tryd.prog w = .ok (.tuple #[]) w' ∧ Blk g (splice cur off (List.replicate n (Value.int .i32 0))) t w' ∧ w.grownBy w' (some g) := by
  by_cases h0 : n = 0
  · subst h0
    refine ⟨w, ?_, by simpa [splice] using hg, ⟨rfl, rfl, rfl, Nat.le_refl _, fun _ _ _ => rfl⟩⟩
    cases dp <;> simp [Builtin.clear_, run_underlying Tryd.underlying47]
  · obtain rfl := hpos (by omega)
    obtain ⟨m, rfl⟩ : ∃ m, n = m + 1 := ⟨n - 1, by omega⟩
    have hst := run_storeCells_at Tryd.prog g off t (List.replicate (m + 1) (Value.int .i32 0)) 0 cur.toArray w hg (by simp only [List.length_replicate, List.size_toArray]; omega) (fun u hu => by rw [List.mem_replicate] at hu; rw [hu.2]; rfl)
    rw [Nat.add_zero] at hst
    have hz := zeroVR w
    have hh := setRow_heap w g cur.toArray (cur.toArray.toList.take off ++ List.replicate (m + 1) (Value.int .i32 0) ++ cur.toArray.toList.drop (off + (List.replicate (m + 1) (Value.int .i32 0)).length)).toArray t _ hg
    have ho : ∀ k, some k ≠ some g → (w.setRow g (cur.toArray.toList.take off ++ List.replicate (m + 1) (Value.int .i32 0) ++ cur.toArray.toList.drop (off + (List.replicate (m + 1) (Value.int .i32 0)).length)).toArray).heap[k]? = w.heap[k]? := fun k hk => setRow_other w g k _ (fun e => hk (by simp [e]))
    refine ⟨w.setRow g (cur.toArray.toList.take off ++ List.replicate (m + 1) (Value.int .i32 0) ++ cur.toArray.toList.drop (off + (List.replicate (m + 1) (Value.int .i32 0)).length)).toArray, ?_, ?_, ⟨rfl, rfl, rfl, by simp, fun k _ hk => ho k hk⟩⟩
    · unfold Builtin.clear_
      simp [run_underlying Tryd.underlying47, hz, Value.cells, zeroR] at hst ⊢
      rw [hst]
      rfl
    · unfold Blk
      rw [hh]
      simp [splice]
theorem opw_clearR (x : Operand) (ho : o.op = .call { callee := .builtin .clear, args := #[x], argTypes := #[47] }) {g n c : Nat} (off : Nat) {dp : Option Addr} {cur : List Value} {t : TypeId} (hx : A.eval x = .slice dp n c) (hg : Blk g cur t w) (hpos : 0 < n → dp = some ⟨g, off, none⟩) (hfit : off + n ≤ cur.length)
    (k : ∀ w', Blk g (splice cur off (List.replicate n (Value.int .i32 0))) t w' → w.grownBy w' (some g) → K (A.put o.dst (.tuple #[])) w') : o.wp Tryd.prog A w K Q := by
  obtain ⟨w', hr, h2, h3⟩ := run_clearR o.type (c := c) hg hpos hfit
  unfold Oper.wp execOp
  simp only [ho, resolve, invoke, builtin, Sem.run_bind, Sem.run_pure, Result.andThen_ok, List.map_toArray, List.map_cons, List.map_nil, hx, hr]
  exact k w' h2 h3
theorem wpL_clearR (hgd : o.guard = none) (x : Operand) (ho : o.op = .call { callee := .builtin .clear, args := #[x], argTypes := #[47] }) {g n c : Nat} (off : Nat) {dp : Option Addr} {cur : List Value} {t : TypeId} (hx : A.eval x = .slice dp n c) (hg : Blk g cur t w) (hpos : 0 < n → dp = some ⟨g, off, none⟩) (hfit : off + n ≤ cur.length)
    (k : ∀ w', Blk g (splice cur off (List.replicate n (Value.int .i32 0))) t w' → w.grownBy w' (some g) → wpList Tryd.prog ops Q rest (A.put o.dst (.tuple #[])) w') : wpList Tryd.prog ops Q (o :: rest) A w :=
  wpList_plain hgd fun _ hK => opw_clearR x ho off hx hg hpos hfit fun w' q1 q2 => hK _ _ (k w' q1 q2)
end

/-- A row laid over another one. -/
theorem splice_take {L cs : List Value} {off : Nat} (h : off ≤ L.length) : (splice L off cs).take off = L.take off := by
  unfold splice
  rw [List.take_append_of_le_length (by rw [List.length_take]; omega), List.take_take, Nat.min_self]
theorem splice_less {L cs : List Value} {off k : Nat} (h : off ≤ L.length) (hk : k ≤ off) : (splice L off cs).take k = L.take k := by
  have e : (splice L off cs).take k = ((splice L off cs).take off).take k := by rw [List.take_take, Nat.min_eq_left hk]
  rw [e, splice_take h, List.take_take, Nat.min_eq_left hk]
theorem splice_takes {L cs : List Value} {off : Nat} (h : off ≤ L.length) : (splice L off cs).take (off + cs.length) = L.take off ++ cs := by
  unfold splice
  rw [← List.append_assoc, List.take_append_of_le_length (by rw [List.length_append, List.length_take]; omega), List.take_of_length_le (by rw [List.length_append, List.length_take]; omega)]
theorem splice_drop {L cs : List Value} {off : Nat} (h : off ≤ L.length) : (splice L off cs).drop off = cs ++ L.drop (off + cs.length) := by
  unfold splice
  exact List.drop_left' (by rw [List.length_take]; omega)
theorem splice_len {L cs : List Value} {off : Nat} (h : off + cs.length ≤ L.length) : (splice L off cs).length = L.length := length_splice L off cs h
theorem splice_past {L cs : List Value} {off k : Nat} (h : off + cs.length ≤ L.length) (hk : off + cs.length ≤ k) : (splice L off cs)[k]? = L[k]? := by
  unfold splice
  rw [← List.append_assoc, List.getElem?_append_right (by rw [List.length_append, List.length_take]; omega), List.length_append, List.length_take, List.getElem?_drop]
  congr 1
  omega
/-- First the one piece, then the next behind it. -/
theorem splice_two {L Y Z : List Value} {i : Nat} (h : i + Y.length + Z.length ≤ L.length) : (splice (splice L i Y) (i + Y.length) Z).take (i + Y.length + Z.length) = L.take i ++ (Y ++ Z) := by
  rw [splice_takes (by rw [splice_len (by omega)]; omega), splice_takes (by omega), List.append_assoc]
/-- First the piece behind, then the one ahead of it. -/
theorem splice_back {L Y Z : List Value} {i : Nat} (h : i + Y.length + Z.length ≤ L.length) : (splice (splice L (i + Y.length) Z) i Y).take (i + Y.length + Z.length) = L.take i ++ (Y ++ Z) := by
  have e1 : splice (splice L (i + Y.length) Z) i Y = L.take i ++ (Y ++ (Z ++ L.drop (i + Y.length + Z.length))) := by
    have q : splice (splice L (i + Y.length) Z) i Y = (splice L (i + Y.length) Z).take i ++ (Y ++ (splice L (i + Y.length) Z).drop (i + Y.length)) := rfl
    rw [q, splice_less (by omega) (by omega), splice_drop (by omega)]
  rw [e1, ← List.append_assoc, ← List.append_assoc]
  rw [List.take_append_of_le_length (by simp only [List.length_append, List.length_take]; omega), List.take_of_length_le (by simp only [List.length_append, List.length_take]; omega), List.append_assoc]
theorem RwR.of {g cap : Nat} {xs : List Int} {L : List Value} {w : World} (h : Blk g L 21 w) (ht : L.take xs.length = xs.map (Value.int .i32)) (hc : xs.length ≤ cap) (hm : cap ≤ maxLen) (hs : cap ≤ L.length) : RwR (.slice (some ⟨g, 0, none⟩) xs.length cap) xs w := by
  refine ⟨by simp, .inr ⟨g, cap, _, rfl, h, hc, hm, ?_, ?_⟩⟩
  · simpa using hs
  · rw [Nat.mul_one]
    exact ht
theorem grown_trans {a b c : World} {row : Option Nat} (g : a.grownBy b row) (k : b.grownBy c row) : a.grownBy c row := ⟨k.os.trans g.os, k.tape.trans g.tape, k.output.trans g.output, Nat.le_trans g.size k.size, fun i hi q => (k.block i (Nat.lt_of_lt_of_le hi g.size) q).trans (g.block i hi q)⟩
/-- Nothing of what was there: a new block was laid, and changed. -/
theorem grown_new {a b c : World} {row : Option Nat} {g : Nat} (h : a.grownBy b row) (k : b.grownBy c (some g)) (hg : a.heap.size ≤ g) : a.grownBy c row := ⟨k.os.trans h.os, k.tape.trans h.tape, k.output.trans h.output, Nat.le_trans h.size k.size, fun i hi q => (k.block i (Nat.lt_of_lt_of_le hi h.size) (fun e => by cases e; omega)).trans (h.block i hi q)⟩
theorem ints_one (l : List Int) : ∀ v ∈ l.map (Value.int .i32), v.oneCell' = true := fun v hv => by
  obtain ⟨z, _, rfl⟩ := List.mem_map.1 hv
  rfl
/-- slices.overlaps of two rows in two blocks. -/
theorem overlaps_no {w : World} {g h : Nat} {L M : List Value} {T T' : TypeId} (hg : Blk g L T w) (hh : Blk h M T' w) (hne : ¬ g = h) (hM : ¬ M.length = 0) (o1 o2 la ca lb cb : Nat) :
    (callFunc 39 #[.slice (some ⟨g, o1, none⟩) la ca, .slice (some ⟨h, o2, none⟩) lb cb]).run Tryd.prog w = .ok (.value (.bool false)) w := by
  have e1 : w.shape? g = some (T, L.length) := by
    unfold World.shape?
    rw [show w.heap[g]? = some (.cells L.toArray T (0, 0)) from hg]
    simp
  have e2 : w.shape? h = some (T', M.length) := by
    unfold World.shape?
    rw [show w.heap[h]? = some (.cells M.toArray T' (0, 0)) from hh]
    simp
  rw [run_callFunc_extern Tryd.func39 (by kernel_rfl) (by kernel_rfl) (by kernel_rfl) (e := Extern.SlicesOverlaps.overlaps #[47, 47] #[4]) (by kernel_rfl),
    Lib.run_overlaps_apart w 47 4 21 Tryd.underlying47 1 Tryd.sizeOf21 ⟨g, o1, none⟩ ⟨h, o2, none⟩ la ca lb cb hne T T' L.length M.length e1 e2 hM (Lib.frozen_of_heap hg _) (Lib.frozen_of_heap hg _)]
  rfl
/-- append(s[:i], make(..)...) where there is no room. -/
theorem run_zeros {w : World} {g i c k : Nat} {L : List Value} (hg : Blk g L 21 w) (hi : i ≤ L.length) (hk : 0 < k) (hr : c < i + k) (hb : i + k ≤ 4398046511104) :
    ∃ c' sp w', (∀ ty, (Builtin.append_ #[47, 3] ty #[.slice (some ⟨g, 0, none⟩) i c, .int .i64 (k : Int)]).run Tryd.prog w = .ok (.slice (some ⟨w.heap.size, 0, none⟩) (i + k) c') w') ∧
      Blk w.heap.size (L.take i ++ sp) 21 w' ∧ i + k ≤ c' ∧ c' ≤ maxLen ∧ c' ≤ i + sp.length ∧ Below w.heap.size w w' := by
  obtain ⟨i0, hi0, hz, hs, hby⟩ := info_parts info_r
  have hold : (Builtin.firstCells i0.size i (.slice (some ⟨g, 0, none⟩) i c)).run Tryd.prog w.drew = .ok (L.take i).toArray w.drew := by
    rw [hs]
    exact run_firstCells_some w.drew 1 i ⟨g, 0, none⟩ i c (L.take i) (by rw [List.length_take]; omega) (fun j v hj => by
      rw [Addr.add_lit, Nat.zero_add]
      rw [List.getElem?_take] at hj
      split at hj
      · exact hg.cell hj
      · cases hj)
  have h := fun ty => Lib.run_append_grow_zeros w 47 3 ty 21 i0 _ .i64 .i64 Tryd.underlying47 Tryd.underlying3 hi0 hz (some ⟨g, 0, none⟩) i c (L.take i) hold k hk (by omega) hr (by omega) (by rw [hby]; omega) (by rw [hby]; exact growslice_fits hr (by omega))
  have hge := grownCap_ge w (i + k) c 21
  have hcm : grownCap w (i + k) c 21 ≤ maxLen := grownCap_le_maxLen w (i + k) c 21 (by unfold maxLen; omega)
  refine ⟨_, (Builtin.zeroCells (Value.int .i32 0).cells k).toList ++ (Builtin.zeroCells (Value.int .i32 0).cells (grownCap w (i + k) c 21 - (i + k))).toList, _, h, ?_, hge, hcm, ?_, ?_⟩
  · unfold Blk
    have := heap_alloc_new w.drew (.cells ((L.take i).toArray ++ Builtin.zeroCells (Value.int .i32 0).cells k ++ Builtin.zeroCells (Value.int .i32 0).cells (grownCap w (i + k) c 21 - (i + k))) 21)
    rw [show w.heap.size = w.drew.heap.size from rfl, this]
    congr 2
    apply Array.ext'
    simp
  · simp only [List.length_append, Array.length_toList, size_zeroCells]
    show _ ≤ i + (k * 1 + _ * 1)
    omega
  · exact (below_drewN (Below.refl _ _) 1).alloc (Nat.le_refl _) _

section
variable {K : Act → World → Prop} {o : Oper} {A : Act} {w : World} {Q : Exit → Act → World → Prop}
/-- A row from a place on. -/
theorem opw_subL (x lo : Operand) (ho : o.op = .slice 47 x (some lo) none none) {g n c l : Nat} {q : Int} (hx : A.eval x = .slice (some ⟨g, 0, none⟩) n c) (hlo : A.eval lo = .int .i64 q) (hq : q = (l : Int)) (h1 : l ≤ n) (h2 : l < c)
    (k : K (A.put o.dst (.slice (some ⟨g, l, none⟩) (n - l) (c - l))) w) : o.wp Tryd.prog A w K Q := by
  subst hq
  have hz : (sizeOf (Tryd.prog.elem 47)).run Tryd.prog w = .ok 1 w := by
    show (sizeOf 21).run Tryd.prog w = _
    simp [go_sem]
  have hn : ¬ c = l := by omega
  have hr : (Instr.sliceAt 47 (.slice (some ⟨g, 0, none⟩) n c) (some (.int .i64 (l : Int))) none none).run Tryd.prog w = .ok (.slice (some ⟨g, l, none⟩) (n - l) (c - l)) w := by
    rw [run_sliceAt_slice (P := Tryd.prog) (w := w) 47 _ _ _ _ Tryd.underlying47, run_slice_l (P := Tryd.prog) w 47 (some ⟨g, 0, none⟩) n c Tryd.underlying47 .i64 (l : Int) (by omega) (by omega), hz]
    simp [Result.andThen, sliced, hn, Addr.add]
    exact fun e => e.symm
  unfold Oper.wp execOp
  simp only [ho, hx, hlo, Option.map_some, Option.map_none, Sem.run_bind, hr, Result.andThen]
  exact k
/-- A row up to a place: its length. -/
theorem opw_subH (x hi : Operand) (ho : o.op = .slice 47 x none (some hi) none) {a : Option Addr} {n c h : Nat} {q : Int} (hx : A.eval x = .slice a n c) (hhi : A.eval hi = .int .i64 q) (hq : q = (h : Int)) (h2 : h ≤ c) (h0 : 0 < c)
    (k : K (A.put o.dst (.slice (a.map (·.add 0)) h c)) w) : o.wp Tryd.prog A w K Q := by
  subst hq
  have hz : (sizeOf (Tryd.prog.elem 47)).run Tryd.prog w = .ok 1 w := by
    show (sizeOf 21).run Tryd.prog w = _
    simp [go_sem]
  have hn : ¬ c = 0 := by omega
  have hr : (Instr.sliceAt 47 (.slice a n c) none (some (.int .i64 (h : Int))) none).run Tryd.prog w = .ok (.slice (a.map (·.add 0)) h c) w := by
    rw [run_sliceAt_slice (P := Tryd.prog) (w := w) 47 _ _ _ _ Tryd.underlying47, run_slice_h (P := Tryd.prog) w 47 a n c Tryd.underlying47 .i64 (h : Int) (by omega) (by omega), hz]
    simp [Result.andThen, sliced, hn]
  unfold Oper.wp execOp
  simp only [ho, hx, hhi, Option.map_some, Option.map_none, Sem.run_bind, hr, Result.andThen]
  exact k
end

section
variable {ops : Array Oper} {rest : List Oper} {o : Oper} {A : Act} {w : World} {Q : Exit → Act → World → Prop}
/-- append to the front of a row, where there is room: in place. -/
theorem wpL_appB (hgd : o.guard = none) (s x : Operand) (ho : o.op = .call { callee := .builtin .append, args := #[s, x], argTypes := #[47, 47] }) {g g2 p m c c2 : Nat} {L M Y : List Value}
    (hs : A.eval s = .slice (some ⟨g, 0, none⟩) p c) (hx : A.eval x = .slice (some ⟨g2, 0, none⟩) m c2) (hg : Blk g L 21 w) (hg2 : Blk g2 M 21 w) (hcs : ∀ (j : Nat) (u : Value), Y[j]? = some u → M[j]? = some u) (hl : Y.length = m) (h1 : ∀ v ∈ Y, v.oneCell' = true) (hr : p + m ≤ c) (hc : c ≤ L.length)
    (k : ∀ w', Blk g (splice L p Y) 21 w' → w.grownBy w' (some g) → wpList Tryd.prog ops Q rest (A.put o.dst (.slice (some ⟨g, 0, none⟩) (p + m) c)) w') : wpList Tryd.prog ops Q (o :: rest) A w := by
  obtain ⟨i0, hi, _, hsz, _⟩ := info_parts info_r
  have hrun : ∃ w', (Builtin.append_ #[47, 47] o.type #[.slice (some ⟨g, 0, none⟩) p c, .slice (some ⟨g2, 0, none⟩) m c2]).run Tryd.prog w = .ok (.slice (some ⟨g, 0, none⟩) (p + m) c) w' ∧ Blk g (splice L p Y) 21 w' ∧ w.grownBy w' (some g) := by
    by_cases h0 : m = 0
    · subst h0
      obtain rfl : Y = [] := List.eq_nil_of_length_eq_zero hl
      exact ⟨w, run_append_nothing w 47 47 o.type 21 i0 Tryd.underlying47 hi (some ⟨g, 0, none⟩) p c (by omega) _ (Src.ofSlice w Tryd.underlying47 ⟨g2, 0, none⟩ 0 c2 [] (by simp) (fun j u h => by simp at h) (fun u h => by simp at h)), by simpa [splice] using hg, ⟨rfl, rfl, rfl, Nat.le_refl _, fun _ _ _ => rfl⟩⟩
    · have hr' := run_append_room (P := Tryd.prog) w 47 o.type 21 i0 Tryd.underlying47 hi g p c L.toArray hg ⟨g2, 0, none⟩ m c2 Y (by rw [hsz, Nat.mul_one]; exact hl) (fun j u hu => by rw [Addr.add_lit, Nat.zero_add]; exact hg2.cell (hcs j u hu)) h1 hr (by rw [hsz, Nat.mul_one, List.size_toArray]; omega)
      refine ⟨_, hr', ?_, ⟨rfl, rfl, rfl, by simp, fun k _ hk => setRow_other w g k _ (fun e => hk (by simp [e]))⟩⟩
      unfold Blk
      rw [setRow_heap w g L.toArray _ 21 _ hg]
      simp [splice, hsz]
  obtain ⟨w', e1, e2, e3⟩ := hrun
  refine wpList_plain hgd fun _ hK => ?_
  unfold Oper.wp execOp
  simp only [ho, resolve, invoke, builtin, Sem.run_bind, Sem.run_pure, Result.andThen_ok, List.map_toArray, List.map_cons, List.map_nil, hs, hx, e1]
  exact hK _ _ (k w' e2 e3)
end
end Go.Proofs.YtaimmjoekahleaaDoor
