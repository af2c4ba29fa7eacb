
/-
  Rows of characters in memory; a table of numbers.
-/
import Derived.Test.YtaimmjoekahleaaDoorZa04
import Derived.Test.YtaimmjoekahleaaDoorZa06
import Derived.Test.YtaimmjoekahleaaDoorZa17
import Derived.Test.YtaimmjoekahleaaDoorZa18
import Derived.Laws.MakeOwn
import Derived.OwnWalk
import Derived.Deep.RegionWith
import Derived.BigRegion
namespace Go.Proofs.YtaimmjoekahleaaDoor
open Go.RowKit Go.Extern.Stop Go.Stop Go.Extern
set_option maxRecDepth 100000

theorem info_parts {P : Program} {t : TypeId} {z : Value} {s b : Nat} (h : (P.info? t).map (fun i => (i.zero, i.size, i.bytes)) = some (some z, s, b)) : ∃ i, P.info? t = some i ∧ i.zero = some z ∧ i.size = s ∧ i.bytes = b := by
  obtain ⟨i, h1, h2⟩ := Option.map_eq_some_iff.1 h
  simp only [Prod.mk.injEq] at h2
  exact ⟨i, h1, h2.1, h2.2.1, h2.2.2⟩
theorem hid_of' {p : Prop} (h : p) : Hid p := h
theorem wrapIs {n : Int} (h1 : -9223372036854775808 ≤ n) (h2 : n ≤ 9223372036854775807) : wrap64 n = n := by
  unfold wrap64
  omega
theorem wrapS {n N : Nat} (h : N = n + 1) (hl : n ≤ 8388609) : wrap64 ((n : Int) + 1) = (N : Int) := by
  rw [wrapIs (by omega) (by omega)]
  omega
theorem wrapK {n N : Nat} (h : N = n + 1) (hl : n ≤ 8388609) : IntKind.i64.wrap ((n : Int) + 1) = (N : Int) := by
  rw [IntKind.wrap_i64]
  omega
theorem wrapK3 {n : Int} (h1 : 0 ≤ n) (h2 : n ≤ 2147483647) : IntKind.i32.wrap n = n := by
  rw [IntKind.wrap_i32]
  omega
theorem wrapD {n : Nat} (hl : n ≤ 8388609) : wrap64 ((n : Int) - 1) = (n : Int) - 1 := wrapIs (by omega) (by omega)
theorem wrap3 {n : Int} (h1 : -2147483648 ≤ n) (h2 : n ≤ 2147483647) : wrap32 n = n := by
  unfold wrap32
  omega
theorem RowAt.setc {b : Nat} {cs : Array Value} {t : TypeId} {w : World} (h : RowAt b cs t w) (k : Nat) (v : Value) : RowAt b (cs.setIfInBounds k v) t (w.setCell ⟨b, k, none⟩ v) := by
  unfold RowAt at h ⊢
  simp [World.setCell, Array.getElem?_modify, h]
theorem RowAt.setO {b : Nat} {cs : Array Value} {t : TypeId} {w : World} (h : RowAt b cs t w) (a : Addr) (v : Value) (hn : ¬ b = a.block) : RowAt b cs t (w.setCell a v) := by
  unfold RowAt at h ⊢
  rw [Below.heap_setCell _ _ _ _ hn]
  exact h
theorem RowAt.free {b : Nat} {cs : Array Value} {t : TypeId} {w : World} (h : RowAt b cs t w) (k : Nat) : w.frozen? ⟨b, k, none⟩ = false := by
  unfold RowAt at h
  simp [World.frozen?, h]
theorem RowAt.new (w : World) (cs : Array Value) (t : TypeId) : RowAt w.heap.size cs t (w.alloc (.cells cs t)) := heap_alloc_new w _
theorem RowAt.is {b : Nat} {cs : Array Value} {t : TypeId} {w : World} (h : RowAt b cs t w) {k : Nat} {v : Value} (hv : cs[k]? = some v) : w.cell? ⟨b, k, none⟩ = some v := by
  rw [h.cell]
  exact hv

/-- A row of characters of one's own. -/
def RwR (v : Value) (xs : List Int) (w : World) : Prop := Rw 21 1 v xs.length (xs.map (Value.int .i32)) w
theorem RwR.later {v : Value} {xs : List Int} {w w' : World} (h : RwR v xs w) (hb : Below w.heap.size w w') : RwR v xs w' := Rw.later h hb
theorem RwR.ch {v : Value} {xs : List Int} {S : Nat → Prop} {w w' : World} (h : RwR v xs w) (c : Ch S w w') (hn : ∀ k, v.ownBlock = some k → ¬ S k) : RwR v xs w' := Rw.ch h c hn
theorem RwR.at {v : Value} {xs : List Int} {w : World} (h : RwR v xs w) (h0 : xs ≠ []) : ∃ g c, v = .slice (some ⟨g, 0, none⟩) xs.length c ∧ xs.length ≤ c ∧ g < w.heap.size ∧ ∀ (j : Nat) (z : Int), xs[j]? = some z → w.cell? ⟨g, j, none⟩ = some (.int .i32 z) := by
  have h9 := h
  rcases h.2 with ⟨_, q⟩ | ⟨g, cap, cur, rfl, hg, hc, _⟩
  · exact absurd (List.eq_nil_of_length_eq_zero q) h0
  · refine ⟨g, cap, rfl, hc, (Array.getElem?_eq_some_iff.1 hg).1, fun j z hz => ?_⟩
    have := Rw.cells (o := 0) h9 j (.int .i32 z) (by rw [List.getElem?_map, hz]; rfl)
    rwa [Nat.zero_add] at this
theorem RwR.form {v : Value} {xs : List Int} {w : World} (h : RwR v xs w) : ∃ a c, v = .slice a xs.length c ∧ xs.length ≤ c ∧ c ≤ maxLen := Rw.form h

theorem make_rows (w : World) (N : Nat) (hN : N ≤ 8388610) : (Instr.makeSlice 112 (.int .i64 (N : Int)) (.int .i64 (N : Int))).run Tryd.prog w = .ok (.slice (some ⟨w.heap.size, 0, none⟩) N N) (w.alloc (.cells (madeCells #[.slice none 0 0] N) 47)) := by
  obtain ⟨i, hi, hz, hs, hb⟩ := info_parts (P := Tryd.prog) (t := 47) (z := .slice none 0 0) (s := 1) (b := 24) (by kernel_rfl)
  have := run_make (P := Tryd.prog) w 112 47 i _ (by kernel_rfl) hi hz .i64 .i64 (N : Int) (N : Int) (by omega) (by omega) (by rw [hb]; omega) (by omega)
  rw [hs, Nat.mul_one, Int.toNat_natCast] at this
  exact this
theorem make_row (w : World) (N : Nat) (hN : N ≤ 8388610) : (Instr.makeSlice 47 (.int .i64 (N : Int)) (.int .i64 (N : Int))).run Tryd.prog w = .ok (.slice (some ⟨w.heap.size, 0, none⟩) N N) (w.alloc (.cells (madeCells #[.int .i32 0] N) 21)) := by
  obtain ⟨i, hi, hz, hs, hb⟩ := info_parts (P := Tryd.prog) (t := 21) (z := .int .i32 0) (s := 1) (b := 4) (by kernel_rfl)
  have := run_make (P := Tryd.prog) w 47 21 i _ (by kernel_rfl) hi hz .i64 .i64 (N : Int) (N : Int) (by omega) (by omega) (by rw [hb]; omega) (by omega)
  rw [hs, Nat.mul_one, Int.toNat_natCast] at this
  exact this
/-- Some rows of a table, from one on. -/
def Rws (e : IntKind) (t : TypeId) (xs ys : List Int) (cur : Array Value) (T lo s0 N : Nat) (w : World) : Prop :=
  ∀ k, lo ≤ k → k ≤ xs.length → ∃ b row, cur[k]? = some (.slice (some ⟨b, 0, none⟩) (ys.length + 1) (ys.length + 1)) ∧ RowAt b row t w ∧ s0 ≤ b ∧ b < N ∧ ¬ b = T ∧ ∀ j, j ≤ ys.length → row[j]? = some (.int e (ds (xs.drop k) (ys.drop j)))
theorem Rws.set {e : IntKind} {t : TypeId} {xs ys : List Int} {cur : Array Value} {T lo s0 N : Nat} {w : World} (h : Rws e t xs ys cur T lo s0 N w) (a : Addr) (v : Value) (ha : N ≤ a.block ∨ a.block = T) : Rws e t xs ys cur T lo s0 N (w.setCell a v) := fun k h1 h2 => by
  obtain ⟨b, row, q1, q2, q3, q4, q5, q6⟩ := h k h1 h2
  exact ⟨b, row, q1, q2.setO a v (fun e => by rcases ha with ha | ha <;> omega), q3, q4, q5, q6⟩
theorem Rws.later {e : IntKind} {t : TypeId} {xs ys : List Int} {cur : Array Value} {T lo s0 N : Nat} {w w' : World} (h : Rws e t xs ys cur T lo s0 N w) (hb : Below w.heap.size w w') : Rws e t xs ys cur T lo s0 N w' := fun k h1 h2 => by
  obtain ⟨b, row, q1, q2, q⟩ := h k h1 h2
  exact ⟨b, row, q1, q2.later hb, q⟩
/-- A whole table. -/
def TbAt (e : IntKind) (t tt : TypeId) (xs ys : List Int) (T s0 : Nat) (w : World) : Prop := ∃ cur N, RowAt T cur tt w ∧ s0 ≤ T ∧ Rws e t xs ys cur T 0 s0 N w
theorem TbAt.later {e : IntKind} {t tt : TypeId} {xs ys : List Int} {T s0 : Nat} {w w' : World} (h : TbAt e t tt xs ys T s0 w) (hb : Below w.heap.size w w') : TbAt e t tt xs ys T s0 w' := by
  obtain ⟨cur, N, q1, q2, q3⟩ := h
  exact ⟨cur, N, q1.later hb, q2, q3.later hb⟩
theorem TbAt.row {e : IntKind} {t tt : TypeId} {xs ys : List Int} {T s0 : Nat} {w : World} (h : TbAt e t tt xs ys T s0 w) {k : Nat} (hk : k ≤ xs.length) :
    ∃ b, w.cell? ⟨T, k, none⟩ = some (.slice (some ⟨b, 0, none⟩) (ys.length + 1) (ys.length + 1)) ∧ ∀ j, j ≤ ys.length → w.cell? ⟨b, j, none⟩ = some (.int e (ds (xs.drop k) (ys.drop j))) := by
  obtain ⟨cur, N, q1, q2, q3⟩ := h
  obtain ⟨b, row, r1, r2, _, _, _, r6⟩ := q3 k (Nat.zero_le _) hk
  exact ⟨b, q1.is r1, fun j hj => r2.is (r6 j hj)⟩

/-- What stands at a place of the table. -/
theorem ds_end {xs ys : List Int} {i j : Nat} (hi : i ≤ xs.length) (hj : j ≤ ys.length) (h : i = xs.length ∨ j = ys.length) : ds (xs.drop i) (ys.drop j) = xs.length - i + (ys.length - j) := by
  rcases h with h | h
  · subst h
    rw [List.drop_length, ds_nil, List.length_drop]
    omega
  · subst h
    rw [List.drop_length, ds_nilr, List.length_drop]
    omega
theorem ds_eq {xs ys : List Int} {i j : Nat} {a : Int} (h1 : xs[i]? = some a) (h2 : ys[j]? = some a) : ds (xs.drop i) (ys.drop j) = ds (xs.drop (i + 1)) (ys.drop (j + 1)) := by
  obtain ⟨k1, e1⟩ := List.getElem?_eq_some_iff.1 h1
  obtain ⟨k2, e2⟩ := List.getElem?_eq_some_iff.1 h2
  rw [List.drop_eq_getElem_cons k1, List.drop_eq_getElem_cons k2, e1, e2, ds_same]
theorem ds_un {xs ys : List Int} {i j : Nat} {a b : Int} (h1 : xs[i]? = some a) (h2 : ys[j]? = some b) (h : ¬ a = b) : ds (xs.drop i) (ys.drop j) = 1 + min (ds (xs.drop (i + 1)) (ys.drop j)) (ds (xs.drop i) (ys.drop (j + 1))) := by
  obtain ⟨k1, e1⟩ := List.getElem?_eq_some_iff.1 h1
  obtain ⟨k2, e2⟩ := List.getElem?_eq_some_iff.1 h2
  have d1 : xs.drop i = a :: xs.drop (i + 1) := by rw [List.drop_eq_getElem_cons k1, e1]
  have d2 : ys.drop j = b :: ys.drop (j + 1) := by rw [List.drop_eq_getElem_cons k2, e2]
  rw [d1, d2, ds_ne h]
theorem ds_le (xs ys : List Int) : ds xs ys ≤ xs.length + ys.length := by
  have := kp_len _ 0 0 xs ys (Nat.le_refl _)
  omega
theorem ds_le' (xs ys : List Int) (i j : Nat) : ds (xs.drop i) (ys.drop j) ≤ xs.length + ys.length := by
  have := ds_le (xs.drop i) (ys.drop j)
  simp only [List.length_drop] at this
  omega
end Go.Proofs.YtaimmjoekahleaaDoor
