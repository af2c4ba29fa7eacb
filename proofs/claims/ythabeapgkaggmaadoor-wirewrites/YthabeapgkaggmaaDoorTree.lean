
/-
  Errors as trees in memory; the tour's state; fault.meet over a row of Faults and what stands at its end.
-/
import Derived.Test.YthabeapgkaggmaaDoorAs
namespace Go.Proofs.YthabeapgkaggmaaDoor
open Go.RowKit Go.Extern.Stop Go.Stop Go.Extern
set_option maxRecDepth 100000

/-- An error: none, the reason at a place, a Fault in its block, a Many in its block with its list's block. -/
inductive ErrT where
  | none
  | rsn (k : Nat)
  | fault (b : Nat) (la ca : ByteArray) (at_ : Int) (why : ErrT)
  | many (b g cap : Nat) (kids : List ErrT)

/-- The error as a value. -/
def val (ad : Nat → Addr) : ErrT → Value
  | .none => .nilIface
  | .rsn k => .iface 128 (.pointer (some (ad k)))
  | .fault b _ _ _ _ => .iface 64 (.pointer (some ⟨b, 0, none⟩))
  | .many b _ _ _ => .iface 73 (.pointer (some ⟨b, 0, none⟩))

/-- What stands at the end of a row of Faults. -/
def leaf : ErrT → ErrT
  | .fault _ _ _ _ why => leaf why
  | e => e

/-- How many Faults stand ahead of it. -/
def deep : ErrT → Nat
  | .fault _ _ _ _ why => deep why + 1
  | _ => 0

/-- The Faults of the row lie in memory below block m, and none wraps nil. -/
def Spine (ad : Nat → Addr) (m : Nat) (w : World) : ErrT → Prop
  | .fault b la ca at_ why => b < m ∧ w.heap[b]? = some (.cells #[.string la, .string ca, .int .i64 at_, val ad why] 66 (0, 0)) ∧ why ≠ .none ∧ Spine ad m w why
  | .rsn k => k < 14
  | _ => True

theorem Spine.below {ad : Nat → Addr} {m : Nat} {w w' : World} (hb : Below m w w') : ∀ {e : ErrT}, Spine ad m w e → Spine ad m w' e
  | .fault _ _ _ _ _, h => ⟨h.1, by rw [hb.block _ h.1]; exact h.2.1, h.2.2.1, Spine.below hb h.2.2.2⟩
  | .rsn _, h => h
  | .none, _ => trivial
  | .many _ _ _ _, _ => trivial

theorem cell_of_heap {w : World} {b : Nat} {cs : Array Value} {t : TypeId} (h : w.heap[b]? = some (.cells cs t (0, 0))) (i : Nat) : w.cell? ⟨b, i, none⟩ = cs[i]? := cell_of_row w b i cs t (0, 0) h
theorem frozen_of_heap {w : World} {b : Nat} {cs : Array Value} {t : TypeId} (h : w.heap[b]? = some (.cells cs t (0, 0))) (i : Nat) : w.frozen? ⟨b, i, none⟩ = false := by simp [World.frozen?, h]

theorem val_iface (ad : Nat → Addr) {e : ErrT} (h : e ≠ .none) : ∃ t v, val ad e = .iface t v := by
  cases e with
  | none => exact absurd rfl h
  | rsn k => exact ⟨_, _, rfl⟩
  | fault b la ca a y => exact ⟨_, _, rfl⟩
  | many b g c k => exact ⟨_, _, rfl⟩

/-- fault.asFault of a tree. -/
def faultOf : ErrT → Value
  | .fault b _ _ _ _ => .pointer (some ⟨b, 0, none⟩)
  | _ => .pointer none

theorem faultOf_fault (b : Nat) (la ca : ByteArray) (a : Int) (y : ErrT) : faultOf (.fault b la ca a y) = .pointer (some ⟨b, 0, none⟩) := rfl
theorem faultOf_none : faultOf .none = .pointer none := rfl
theorem faultOf_rsn (k : Nat) : faultOf (.rsn k) = .pointer none := rfl
theorem faultOf_many (b g c : Nat) (l : List ErrT) : faultOf (.many b g c l) = .pointer none := rfl
theorem val_none (ad : Nat → Addr) : val ad .none = .nilIface := rfl
theorem val_rsn (ad : Nat → Addr) (k : Nat) : val ad (.rsn k) = .iface 128 (.pointer (some (ad k))) := rfl
theorem val_fault (ad : Nat → Addr) (b : Nat) (la ca : ByteArray) (a : Int) (y : ErrT) : val ad (.fault b la ca a y) = .iface 64 (.pointer (some ⟨b, 0, none⟩)) := rfl
theorem val_many (ad : Nat → Addr) (b g c : Nat) (l : List ErrT) : val ad (.many b g c l) = .iface 73 (.pointer (some ⟨b, 0, none⟩)) := rfl

theorem asFault_any {ad : Nat → Addr} {w : World} {m : Nat} (L : Laid ad w) (e : ErrT) (h : Spine ad m w e) :
    Calls Tryd.prog 30 #[val ad e] w fun ev w' => ev = .returned (faultOf e) ∧ Below w.heap.size w w' := by
  cases e with
  | none => exact asFault_nil w
  | rsn k => exact asFault_s _ w
  | many b g c k => exact asFault_m _ w
  | fault b la ca at_ why =>
    obtain ⟨t, v, hv⟩ := val_iface ad h.2.2.1
    exact asFault_f b t v w (by rw [cell_of_heap h.2.1, hv]; rfl) L.et

/-- The tour in block T, its codes in a row of its own, its map in block m. -/
structure TourAt (T m : Nat) (w : World) (again : Bool) (first codes : Value) (xs : List Int) : Prop where
  lies : w.heap[T]? = some (.cells #[.bool again, first, codes, .map (some m)] 69 (0, 0))
  own : w.ownsRow (T + 1) 3 1 codes xs.length (xs.map (Value.int .i64 ·))

theorem TourAt.lt {T m : Nat} {w : World} {again : Bool} {first codes : Value} {xs : List Int} (h : TourAt T m w again first codes xs) : T < w.heap.size := (Array.getElem?_eq_some_iff.1 h.lies).1

theorem TourAt.below {T m : Nat} {w w' : World} {again : Bool} {first codes : Value} {xs : List Int} (h : TourAt T m w again first codes xs) (hb : Below w.heap.size w w') : TourAt T m w' again first codes xs where
  lies := by rw [hb.block _ h.lt]; exact h.lies
  own := h.own.kept (row := none) ⟨hb.os, hb.tape, hb.output, hb.size, fun k hk _ => hb.block k hk⟩ (by cases hv : codes.ownBlock <;> simp)

/-- t.first = f. -/
theorem TourAt.first {T m : Nat} {w : World} {again : Bool} {first codes : Value} {xs : List Int} (h : TourAt T m w again first codes xs) (p : Value) : TourAt T m (w.setCell ⟨T, 1, none⟩ p) again p codes xs where
  lies := by rw [setCell_eq_setRow w T 1 _ _ _ p h.lies, setRow_heap w T _ _ _ _ h.lies]; rfl
  own := ownsRow_setCell_below h.own (Nat.lt_succ_self T) p

theorem TourAt.codes {T m : Nat} {w w' : World} {again : Bool} {first codes codes' : Value} {xs ys : List Int} (h : TourAt T m w again first codes xs) (hg : w.grownBy w' codes.ownBlock)
    (ho : w'.ownsRow (T + 1) 3 1 codes' ys.length (ys.map (Value.int .i64 ·))) : TourAt T m (w'.setCell ⟨T, 2, none⟩ codes') again first codes' ys where
  lies := by
    have hT : w'.heap[T]? = some (.cells #[.bool again, first, codes, .map (some m)] 69 (0, 0)) := by
      rw [hg.block T h.lt (fun e => by have := (h.own.lt T e.symm).1; omega)]; exact h.lies
    rw [setCell_eq_setRow w' T 2 _ _ _ codes' hT, setRow_heap w' T _ _ _ _ hT]; rfl
  own := ownsRow_setCell_below ho (Nat.lt_succ_self T) codes'

mutual
/-- P1.4: the numbers of the reasons, in order. -/
def cds : ErrT → List Int
  | .none => []
  | .rsn k => if k < 13 then [(k : Int) + 1] else []
  | .fault _ _ _ _ why => cds why
  | .many _ _ _ kids => cdsL kids
def cdsL : List ErrT → List Int
  | [] => []
  | e :: r => cds e ++ cdsL r
end
mutual
/-- P1.5: the block of the first Fault. -/
def fst : ErrT → Option Nat
  | .none => Option.none
  | .rsn _ => Option.none
  | .fault b _ _ _ _ => some b
  | .many _ _ _ kids => fstL kids
def fstL : List ErrT → Option Nat
  | [] => Option.none
  | e :: r => (fst e).or (fstL r)
end
mutual
/-- The blocks of the Manys, the last that is done first. -/
def mns : ErrT → List Nat
  | .none => []
  | .rsn _ => []
  | .fault _ _ _ _ why => mns why
  | .many b _ _ kids => b :: mnsL kids
def mnsL : List ErrT → List Nat
  | [] => []
  | e :: r => mnsL r ++ mns e
end

/-- A block as a pointer. -/
def fp : Option Nat → Value
  | Option.none => .pointer none
  | some b => .pointer (some ⟨b, 0, none⟩)

theorem faultOf_fp (e : ErrT) (h : deep e = 0) : faultOf e = .pointer none := by
  cases e <;> simp_all [faultOf, deep]

/-- All that the listed variables are lies below block m. -/
structure LaidB (ad : Nat → Addr) (m : Nat) (w : World) : Prop where
  laid : Laid ad w
  g : 15 ≤ m
  a : ∀ k, k < 14 → (ad k).block < m

theorem LaidB.below {ad : Nat → Addr} {m : Nat} {w w' : World} (h : LaidB ad m w) (hb : Below m w w') : LaidB ad m w' where
  laid := {
    var := fun k hk => by rw [hb.cell (p := ⟨gix k, 0, Option.none⟩) (by have := h.g; have := gix_lt k hk; show gix k < m; omega)]; exact h.laid.var k hk
    str := fun k hk => by rw [hb.cell (h.a k hk)]; exact h.laid.str k hk
    ne := h.laid.ne
    row := fun k hk => by rw [hb.block _ (h.a k hk)]; exact h.laid.row k hk
    et := by rw [hb.cell (p := ⟨3, 0, Option.none⟩) (Nat.lt_of_lt_of_le (by decide) h.g)]; exact h.laid.et }
  g := h.g
  a := h.a
end Go.Proofs.YthabeapgkaggmaaDoor
