
/-
  What the walks over package wire share: what stays in memory, the reasons' variables, a Reader and a Writer in memory.
-/
import Derived.Test.YthabeapgkaggmaaDoorPure
import Derived.WalkKit
import Derived.WalkSpells
import Derived.WalkLawsBesides
import Derived.LaidEql
import Derived.LaidEqlPtr
import Derived.Defers
import Derived.Recover
import Derived.Lib.AppendStr
import Derived.Lib.UnsafeStr
import Derived.Deep.LoopGhost
import Derived.BigQuiet
namespace Go.Proofs.YthabeapgkaggmaaDoor
open Go.RowKit
set_option maxRecDepth 100000

/-- The variable of the reason at a place. -/
def gixW : Nat → Nat
  | 0 => 0
  | 1 => 2
  | 2 => 5
  | 3 => 6
  | 4 => 7
  | 5 => 1
  | 6 => 4
  | 7 => 8
  | 8 => 9
  | 9 => 10
  | 10 => 11
  | 11 => 12
  | 12 => 13
  | _ => 14

theorem cellW_of {w : World} {b : Nat} {cs : Array Value} {t : TypeId} (h : w.heap[b]? = some (.cells cs t (0, 0))) (i : Nat) : w.cell? ⟨b, i, none⟩ = cs[i]? := cell_of_row w b i cs t (0, 0) h
theorem frozenW_of {w : World} {b : Nat} {cs : Array Value} {t : TypeId} (h : w.heap[b]? = some (.cells cs t (0, 0))) (i : Nat) : w.frozen? ⟨b, i, none⟩ = false := by simp [World.frozen?, h]
theorem lt_of_heap {w : World} {b : Nat} {o : Obj} (h : w.heap[b]? = some o) : b < w.heap.size := (Array.getElem?_eq_some_iff.1 h).1

/-- Nothing that was there has turned but the blocks of S. -/
structure Kept (S : List Nat) (w w' : World) : Prop where
  os : w'.os = w.os
  tape : w'.tape = w.tape
  output : w'.output = w.output
  size : w.heap.size ≤ w'.heap.size
  block : ∀ k, k < w.heap.size → k ∉ S → w'.heap[k]? = w.heap[k]?

theorem Kept.refl (S : List Nat) (w : World) : Kept S w w := ⟨rfl, rfl, rfl, Nat.le_refl _, fun _ _ _ => rfl⟩
theorem Kept.trans {S : List Nat} {a b c : World} (h : Kept S a b) (k : Kept S b c) : Kept S a c :=
  ⟨k.os.trans h.os, k.tape.trans h.tape, k.output.trans h.output, Nat.le_trans h.size k.size, fun i hi hn => (k.block i (Nat.lt_of_lt_of_le hi h.size) hn).trans (h.block i hi hn)⟩
theorem Kept.mono {S S' : List Nat} {a b : World} (h : Kept S a b) (hs : ∀ s ∈ S, s ∈ S' ∨ a.heap.size ≤ s) : Kept S' a b :=
  ⟨h.os, h.tape, h.output, h.size, fun i hi hn => h.block i hi fun hm => (hs i hm).elim hn (fun hle => by omega)⟩
theorem Kept.go {S S' : List Nat} {a b c : World} (h : Kept S a b) (k : Kept S' b c) (hs : ∀ s ∈ S', s ∈ S ∨ a.heap.size ≤ s) : Kept S a c :=
  ⟨k.os.trans h.os, k.tape.trans h.tape, k.output.trans h.output, Nat.le_trans h.size k.size, fun i hi hn => (k.block i (Nat.lt_of_lt_of_le hi h.size) (fun hm => (hs i hm).elim hn (fun hle => by omega))).trans (h.block i hi hn)⟩
theorem Kept.of {S : List Nat} {w w' : World} (h : Below w.heap.size w w') : Kept S w w' := ⟨h.os, h.tape, h.output, h.size, fun k hk _ => h.block k hk⟩
theorem Kept.alloc {S : List Nat} {a w : World} (h : Kept S a w) (o : Obj) : Kept S a (w.alloc o) := h.trans (.of ((Below.refl _ _).alloc (Nat.le_refl _) o))
theorem Kept.drew {S : List Nat} {a w : World} (h : Kept S a w) : Kept S a w.drew := ⟨h.os, h.tape, h.output, h.size, h.block⟩
theorem Kept.set {S : List Nat} {a w : World} (h : Kept S a w) {p : Addr} (hp : p.block ∈ S ∨ a.heap.size ≤ p.block) (v : Value) : Kept S a (w.setCell p v) :=
  ⟨h.os, h.tape, h.output, by simpa [World.setCell] using h.size, fun k hk hn => (Below.heap_setCell _ _ _ _ (fun e => by subst e; exact hp.elim hn (fun hle => by omega))).trans (h.block k hk hn)⟩
theorem Kept.grown {S : List Nat} {a w w' : World} {row : Option Nat} (h : Kept S a w) (hg : w.grownBy w' row) (hr : ∀ k, row = some k → k ∈ S ∨ a.heap.size ≤ k) : Kept S a w' := by
  have hb : ∀ k, k < w.heap.size → row ≠ some k → w'.heap[k]? = w.heap[k]? := fun k hk hn => hg.block k hk (fun e => hn e.symm)
  exact ⟨hg.os.trans h.os, hg.tape.trans h.tape, hg.output.trans h.output, Nat.le_trans h.size hg.size, fun k hk hn => (hb k (Nat.lt_of_lt_of_le hk h.size) (fun e => (hr k e).elim hn (fun hle => by omega))).trans (h.block k hk hn)⟩
theorem Kept.below {S : List Nat} {w w' : World} {B : Nat} (h : Kept S w w') (hS : ∀ s ∈ S, B ≤ s) (hB : B ≤ w.heap.size) : Below B w w' :=
  ⟨h.os, h.tape, h.output, h.size, fun k hk => h.block k (Nat.lt_of_lt_of_le hk hB) (fun hm => by have := hS k hm; omega)⟩
theorem Kept.heap {S : List Nat} {w w' : World} (h : Kept S w w') {b : Nat} {o : Obj} (hb : w.heap[b]? = some o) (hn : b ∉ S) : w'.heap[b]? = some o := by rw [h.block b (lt_of_heap hb) hn]; exact hb

/-- The reasons that package wire names: ErrArg, ErrRange, ErrForm, ErrShort. -/
structure Lw (ad : Nat → Addr) (w : World) : Prop where
  var : ∀ k, k = 0 ∨ k = 1 ∨ k = 5 ∨ k = 6 → w.cell? ⟨gixW k, 0, none⟩ = some (.iface 128 (.pointer (some (ad k))))
  size : 5 ≤ w.heap.size

theorem gixW_lt (k : Nat) (hk : k = 0 ∨ k = 1 ∨ k = 5 ∨ k = 6) : gixW k < 5 := by rcases hk with rfl | rfl | rfl | rfl <;> decide
theorem Lw.kept {ad : Nat → Addr} {S : List Nat} {w w' : World} (L : Lw ad w) (h : Kept S w w') (hS : ∀ s ∈ S, 5 ≤ s) : Lw ad w' :=
  ⟨fun k hk => by
    rw [World.cell?_of_block (w := w) (h.block (gixW k) (by have := gixW_lt k hk; have := L.size; omega) (fun hm => by have := hS _ hm; have := gixW_lt k hk; omega))]
    exact L.var k hk, by have := L.size; have := h.size; omega⟩

/-- A Reader in memory: its bytes, its place, its refusal. -/
structure RdAt (rb g : Nat) (bs : List UInt8) (pl : Nat) (br : Value) (w : World) : Prop where
  lies : w.heap[rb]? = some (.cells #[.slice (some ⟨g, 0, none⟩) bs.length bs.length, .int .i64 pl, br] 80 (0, 0))
  raw : w.heap[g]? = some (.cells (Lib.byteCells bs).toArray 5 (0, 0))
  lo : 5 ≤ rb
  le : pl ≤ bs.length
  lim : bs.length ≤ 1000000

theorem RdAt.ne {rb g : Nat} {bs : List UInt8} {pl : Nat} {br : Value} {w : World} (h : RdAt rb g bs pl br w) : ¬ g = rb := by
  intro e
  have h1 := h.lies
  rw [← e, h.raw] at h1
  simp at h1
theorem RdAt.kept {rb g : Nat} {bs : List UInt8} {pl : Nat} {br : Value} {S : List Nat} {w w' : World} (h : RdAt rb g bs pl br w) (k : Kept S w w') (h1 : rb ∉ S) (h2 : g ∉ S) : RdAt rb g bs pl br w' :=
  ⟨k.heap h.lies h1, k.heap h.raw h2, h.lo, h.le, h.lim⟩
theorem RdAt.c0 {rb g : Nat} {bs : List UInt8} {pl : Nat} {br : Value} {w : World} (h : RdAt rb g bs pl br w) : w.cell? ⟨rb, 0, none⟩ = some (.slice (some ⟨g, 0, none⟩) bs.length bs.length) := by rw [cellW_of h.lies]; rfl
theorem RdAt.c1 {rb g : Nat} {bs : List UInt8} {pl : Nat} {br : Value} {w : World} (h : RdAt rb g bs pl br w) : w.cell? ⟨rb, 1, none⟩ = some (.int .i64 pl) := by rw [cellW_of h.lies]; rfl
theorem RdAt.c2 {rb g : Nat} {bs : List UInt8} {pl : Nat} {br : Value} {w : World} (h : RdAt rb g bs pl br w) : w.cell? ⟨rb, 2, none⟩ = some br := by rw [cellW_of h.lies]; rfl
theorem RdAt.byte {rb g : Nat} {bs : List UInt8} {pl : Nat} {br : Value} {w : World} (h : RdAt rb g bs pl br w) (i : Nat) (b : UInt8) (hb : bs[i]? = some b) : w.cell? ⟨g, i, none⟩ = some (.int .u8 b.toNat) := by
  rw [cellW_of h.raw]
  simp [Lib.byteCells, hb]
theorem RdAt.frozen {rb g : Nat} {bs : List UInt8} {pl : Nat} {br : Value} {w : World} (h : RdAt rb g bs pl br w) (i : Nat) : w.frozen? ⟨rb, i, none⟩ = false := frozenW_of h.lies i
theorem heap_setCell_at {w : World} {b : Nat} {cs : Array Value} {t : TypeId} (h : w.heap[b]? = some (.cells cs t (0, 0))) (i : Nat) (v : Value) : (w.setCell ⟨b, i, none⟩ v).heap[b]? = some (.cells (cs.setIfInBounds i v) t (0, 0)) := by
  simp [World.setCell, Array.getElem?_modify, h]
theorem RdAt.place {rb g : Nat} {bs : List UInt8} {pl : Nat} {br : Value} {w : World} (h : RdAt rb g bs pl br w) (q : Nat) (hq : q ≤ bs.length) : RdAt rb g bs q br (w.setCell ⟨rb, 1, none⟩ (.int .i64 q)) :=
  ⟨by rw [heap_setCell_at h.lies]; rfl, by rw [Below.heap_setCell _ _ _ _ h.ne]; exact h.raw, h.lo, hq, h.lim⟩
theorem RdAt.broke {rb g : Nat} {bs : List UInt8} {pl : Nat} {br : Value} {w : World} (h : RdAt rb g bs pl br w) (v : Value) : RdAt rb g bs pl v (w.setCell ⟨rb, 2, none⟩ v) :=
  ⟨by rw [heap_setCell_at h.lies]; rfl, by rw [Below.heap_setCell _ _ _ _ h.ne]; exact h.raw, h.lo, h.le, h.lim⟩
end Go.Proofs.YthabeapgkaggmaaDoor
