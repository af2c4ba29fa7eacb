
/-
  fault.asFault and fault.asMany of each kind of error; fault.number of a reason and of nil. Errors as trees in memory; the tour's state; fault.meet over a row of Faults and what stands at its end.
-/
import Derived.Test.YteffpnjgchihpaaGreatDoorPB03
namespace Go.Proofs.YteffpnjgchihpaaGreatDoor
open Go.RowKit Go.Extern.Stop Go.Stop Go.Extern
set_option maxRecDepth 100000

theorem bal {w w' : World} (h : Below w.heap.size w w') (o : Obj) : Below w.heap.size w (w'.alloc o) := h.alloc h.size o
theorem bgoE {w w1 w2 : World} (h : Below w.heap.size w w1) (k : Below w1.heap.size w1 w2) : Below w.heap.size w w2 := h.trans (k.mono h.size)

theorem et_alloc {w : World} {o : Obj} {v : Value} (h : w.cell? ⟨2, 0, none⟩ = some v) : (w.alloc o).cell? ⟨2, 0, none⟩ = some v := by
  rw [World.cell?_alloc_lt _ _ ⟨2, 0, none⟩ (lt_of_cell h)]; exact h

theorem asFault_nil (w : World) :
    Calls Tryz.prog 54 #[.nilIface] w fun e w' => e = .returned (.pointer none) ∧ Below w.heap.size w w' := by
  go_enter Tryz.func54, Tryz.ntmps54
  go_wp2_with (go_at_call 66; refine (unwrap_nil _).mono ?_; rintro e w' ⟨rfl, rfl⟩)
  go_ret
  exact ⟨rfl, below_oneE _ _⟩

theorem asFault_s (v : Value) (w : World) :
    Calls Tryz.prog 54 #[.iface 195 v] w fun e w' => e = .returned (.pointer none) ∧ Below w.heap.size w w' := by
  go_enter Tryz.func54, Tryz.ntmps54
  go_wp2_with (go_at_call 66; refine (unwrap_s _ _).mono ?_; rintro e w' ⟨rfl, rfl⟩)
  go_ret
  exact ⟨rfl, below_oneE _ _⟩

theorem asFault_m (v : Value) (w : World) :
    Calls Tryz.prog 54 #[.iface 106 v] w fun e w' => e = .returned (.pointer none) ∧ Below w.heap.size w w' := by
  go_enter Tryz.func54, Tryz.ntmps54
  go_wp2_with (go_at_call 66; refine (unwrap_m _ _).mono ?_; rintro e w' ⟨rfl, rfl⟩)
  go_ret
  exact ⟨rfl, below_oneE _ _⟩

set_option maxHeartbeats 400000 in
theorem asFault_f (b : Nat) (t : TypeId) (v : Value) (w : World) (hv : w.cell? ⟨b, 3, none⟩ = some (.iface t v))
    (hg : w.cell? ⟨2, 0, none⟩ = some (.iface 172 (.agg #[.pointer (some ⟨15, 42, none⟩)]))) :
    Calls Tryz.prog 54 #[.iface 85 (.pointer (some ⟨b, 0, none⟩))] w fun e w' => e = .returned (.pointer (some ⟨b, 0, none⟩)) ∧ Below w.heap.size w w' := by
  have hv2 : (w.alloc (.cells #[.pointer none] 85)).cell? ⟨b, 3, none⟩ = some (.iface t v) := by
    rw [World.cell?_alloc_lt _ _ ⟨b, 3, none⟩ (lt_of_cell hv)]; exact hv
  have hg2 := et_alloc (o := .cells #[.pointer none] 85) hg
  have ht2 : (w.alloc (.cells #[.pointer none] 85)).cell? ⟨w.heap.size, 0, none⟩ = some (.pointer none) := by simp
  have hf2 : (w.alloc (.cells #[.pointer none] 85)).frozen? ⟨w.heap.size, 0, none⟩ = false := by simp
  go_enter Tryz.func54, Tryz.ntmps54
  go_wp2_with (first | (go_at_call 66; refine (unwrap_f b _ _ hv2).mono ?_; rintro e w' ⟨rfl, rfl⟩) | (go_at_call 67; refine (as_hitFault _ _ (.pointer none) _ hg2 ht2 hf2).mono ?_; rintro e w' ⟨rfl, rfl⟩))
  go_ret
  refine ⟨rfl, ?_⟩
  exact bal (bal (bal (bal (below_oneE _ _) _) _) _) _

theorem asMany_nil (w : World) :
    Calls Tryz.prog 55 #[.nilIface] w fun e w' => e = .returned (.pointer none) ∧ Below w.heap.size w w' := by
  go_enter Tryz.func55, Tryz.ntmps55
  go_wp2_with (first | (go_at_call 66; refine (unwrap_nil _).mono ?_; rintro e w' ⟨rfl, rfl⟩) | (go_at_call 67; refine (as_nil _ _).mono ?_; rintro e w' ⟨rfl, rfl⟩))
  go_ret
  exact ⟨rfl, below_oneE _ _⟩

theorem asMany_f (b : Nat) (t : TypeId) (v : Value) (w : World) (hv : w.cell? ⟨b, 3, none⟩ = some (.iface t v)) :
    Calls Tryz.prog 55 #[.iface 85 (.pointer (some ⟨b, 0, none⟩))] w fun e w' => e = .returned (.pointer none) ∧ Below w.heap.size w w' := by
  have hv2 : (w.alloc (.cells #[.pointer none] 106)).cell? ⟨b, 3, none⟩ = some (.iface t v) := by
    rw [World.cell?_alloc_lt _ _ ⟨b, 3, none⟩ (lt_of_cell hv)]; exact hv
  go_enter Tryz.func55, Tryz.ntmps55
  go_wp2_with (go_at_call 66; refine (unwrap_f b _ _ hv2).mono ?_; rintro e w' ⟨rfl, rfl⟩)
  go_ret
  exact ⟨rfl, below_oneE _ _⟩

set_option maxHeartbeats 400000 in
theorem asMany_s (v : Value) (w : World)
    (hg : w.cell? ⟨2, 0, none⟩ = some (.iface 172 (.agg #[.pointer (some ⟨15, 42, none⟩)]))) :
    Calls Tryz.prog 55 #[.iface 195 v] w fun e w' => e = .returned (.pointer none) ∧ Below w.heap.size w w' := by
  have hg2 := et_alloc (o := .cells #[.pointer none] 106) hg
  go_enter Tryz.func55, Tryz.ntmps55
  go_wp2_with (first | (go_at_call 66; refine (unwrap_s _ _).mono ?_; rintro e w' ⟨rfl, rfl⟩) | (go_at_call 67; refine (as_missMany _ _ _ hg2).mono ?_; rintro e w' ⟨rfl, rfl⟩))
  go_ret
  exact ⟨rfl, bal (bal (bal (below_oneE _ _) _) _) _⟩

set_option maxHeartbeats 400000 in
theorem asMany_m (a : Addr) (w : World)
    (hg : w.cell? ⟨2, 0, none⟩ = some (.iface 172 (.agg #[.pointer (some ⟨15, 42, none⟩)]))) :
    Calls Tryz.prog 55 #[.iface 106 (.pointer (some a))] w fun e w' => e = .returned (.pointer (some a)) ∧ Below w.heap.size w w' := by
  have hg2 := et_alloc (o := .cells #[.pointer none] 106) hg
  have ht2 : (w.alloc (.cells #[.pointer none] 106)).cell? ⟨w.heap.size, 0, none⟩ = some (.pointer none) := by simp
  have hf2 : (w.alloc (.cells #[.pointer none] 106)).frozen? ⟨w.heap.size, 0, none⟩ = false := by simp
  go_enter Tryz.func55, Tryz.ntmps55
  go_wp2_with (first | (go_at_call 66; refine (unwrap_m _ _).mono ?_; rintro e w' ⟨rfl, rfl⟩) | (go_at_call 67; refine (as_hitMany _ _ (.pointer none) _ hg2 ht2 hf2).mono ?_; rintro e w' ⟨rfl, rfl⟩))
  go_ret
  exact ⟨rfl, bal (bal (bal (bal (below_oneE _ _) _) _) _) _⟩

/-- errors.Is of two reasons. -/
theorem is_rsn {ad : Nat → Addr} {w : World} (L : Laid ad w) (j k : Nat) (hj : j < 14) (hk : k < 14) :
    Calls Tryz.prog 95 #[.iface 195 (.pointer (some (ad j))), .iface 195 (.pointer (some (ad k)))] w fun e w' => e = .returned (.bool (decide (j = k))) ∧ w' = w := by
  by_cases h : j = k
  · subst h
    simpa using is_same (ad j) w
  · obtain ⟨c1, t1, h1⟩ := L.row j hj
    obtain ⟨c2, t2, h2⟩ := L.row k hk
    simpa [h] using is_other (ad j) (ad k) c1 c2 t1 t2 w (L.ne j k hj hk h) h1 h2

/-- fault.number of a reason: its place and one; of ErrOther 0. -/
def numb (k : Nat) : Int := if k < 13 then (k : Int) + 1 else 0

set_option maxHeartbeats 1000000 in
theorem number_rsn {ad : Nat → Addr} {w : World} (L : Laid ad w) (k : Nat) (hk : k < 14) :
    Calls Tryz.prog 78 #[.iface 195 (.pointer (some (ad k)))] w fun e w' => e = .returned (.int .i64 (numb k)) ∧ Below w.heap.size w w' := by
  go_enter Tryz.func78, Tryz.ntmps78
  go_wp2
  go_loopw [3] (fun i wr => ∃ j : Nat, i = .int .i64 ((j : Int) + 1) ∧ j ≤ k ∧ Below w.heap.size w wr) (fun i _ => 14 - (intOf i).toNat)
  case atStart => exact ⟨0, rfl, Nat.zero_le _, Below.refl _ _⟩
  case round =>
    obtain ⟨j, rfl, hjk, hb⟩ := hrel
    have L1 := L.below hb
    by_cases h13 : j < 13
    · by_cases he : k = j
      · subst he
        go_wp2_with (first | (go_at_call 96; refine (named_ok L1 k h13).mono ?_; rintro e w1 ⟨rfl, hb1⟩) | (go_at_call 95; refine (is_same _ _).mono ?_; rintro e w2 ⟨rfl, rfl⟩))
        go_ret
        exact ⟨by simp [numb, h13], bgoE hb hb1⟩
      · have hkj : decide (k = j) = false := by simpa using he
        go_wp2_with (first | (go_at_call 96; refine (named_ok L1 j h13).mono ?_; rintro e w1 ⟨rfl, hb1⟩) | (go_at_call 95; refine (is_rsn (L1.below hb1) k j hk (by omega)).mono ?_; rintro e w2 ⟨rfl, rfl⟩))
        go_roundw
        case rel => exact ⟨j + 1, by go_num, by omega, bgoE hb hb1⟩
        case measure => simp [intOf]; omega
    · go_wp2
      go_ret
      exact ⟨by simp [numb]; omega, hb⟩

theorem number_yes {ad : Nat → Addr} {w : World} (L : Laid ad w) (k : Nat) (hk : k < 13) :
    Calls Tryz.prog 78 #[.iface 195 (.pointer (some (ad k)))] w fun e w' => e = .returned (.int .i64 ((k : Int) + 1)) ∧ Below w.heap.size w w' := by
  simpa [numb, hk] using number_rsn L k (by omega)

theorem number_other {ad : Nat → Addr} {w : World} (L : Laid ad w) :
    Calls Tryz.prog 78 #[.iface 195 (.pointer (some (ad 13)))] w fun e w' => e = .returned (.int .i64 0) ∧ Below w.heap.size w w' := by
  simpa [numb] using number_rsn L 13 (by omega)

set_option maxHeartbeats 1000000 in
theorem number_nil {ad : Nat → Addr} {w : World} (L : Laid ad w) :
    Calls Tryz.prog 78 #[.nilIface] w fun e w' => e = .returned (.int .i64 0) ∧ Below w.heap.size w w' := by
  go_enter Tryz.func78, Tryz.ntmps78
  go_wp2
  go_loopw [3] (fun i wr => ∃ j : Nat, i = .int .i64 ((j : Int) + 1) ∧ Below w.heap.size w wr) (fun i _ => 14 - (intOf i).toNat)
  case atStart => exact ⟨0, rfl, Below.refl _ _⟩
  case round =>
    obtain ⟨j, rfl, hb⟩ := hrel
    have L1 := L.below hb
    by_cases h13 : j < 13
    · go_wp2_with (first | (go_at_call 96; refine (named_ok L1 j h13).mono ?_; rintro e w1 ⟨rfl, hb1⟩) | (go_at_call 95; refine (is_nil _ _).mono ?_; rintro e w2 ⟨rfl, rfl⟩))
      go_roundw
      case rel => exact ⟨j + 1, by go_num, bgoE hb hb1⟩
      case measure => simp [intOf]; omega
    · go_wp2
      go_ret
      exact ⟨rfl, hb⟩
end Go.Proofs.YteffpnjgchihpaaGreatDoor
namespace Go.Proofs.YteffpnjgchihpaaGreatDoor
open Go.RowKit Go.Extern.Stop Go.Stop Go.Extern
set_option maxRecDepth 100000

/-- An error: none, the reason at a place, a Fault in its block, a Many in its block with its list's block. -/
inductive ErrT where
  | none
  | rsn (k : Nat)
  | fault (b : Nat) (la ca : ByteArray) (at_ : Int) (why : ErrT)
  | many (b g cap : Nat) (kids : List ErrT)

/-- The error as a value. -/
def val (ad : Nat → Addr) : ErrT → Value
  | .none => .nilIface
  | .rsn k => .iface 195 (.pointer (some (ad k)))
  | .fault b _ _ _ _ => .iface 85 (.pointer (some ⟨b, 0, none⟩))
  | .many b _ _ _ => .iface 106 (.pointer (some ⟨b, 0, none⟩))

/-- What stands at the end of a row of Faults. -/
def leaf : ErrT → ErrT
  | .fault _ _ _ _ why => leaf why
  | e => e

/-- How many Faults stand ahead of it. -/
def deep : ErrT → Nat
  | .fault _ _ _ _ why => deep why + 1
  | _ => 0

/-- The Faults of the row lie in memory below block m, and none wraps nil. -/
def Spine (ad : Nat → Addr) (m : Nat) (w : World) : ErrT → Prop
  | .fault b la ca at_ why => b < m ∧ w.heap[b]? = some (.cells #[.string la, .string ca, .int .i64 at_, val ad why] 87 (0, 0)) ∧ why ≠ .none ∧ Spine ad m w why
  | .rsn k => k < 14
  | _ => True

theorem Spine.below {ad : Nat → Addr} {m : Nat} {w w' : World} (hb : Below m w w') : ∀ {e : ErrT}, Spine ad m w e → Spine ad m w' e
  | .fault _ _ _ _ _, h => ⟨h.1, by rw [hb.block _ h.1]; exact h.2.1, h.2.2.1, Spine.below hb h.2.2.2⟩
  | .rsn _, h => h
  | .none, _ => trivial
  | .many _ _ _ _, _ => trivial

theorem cell_of_heap {w : World} {b : Nat} {cs : Array Value} {t : TypeId} (h : w.heap[b]? = some (.cells cs t (0, 0))) (i : Nat) : w.cell? ⟨b, i, none⟩ = cs[i]? := cell_of_row w b i cs t (0, 0) h
theorem frozen_of_heap {w : World} {b : Nat} {cs : Array Value} {t : TypeId} (h : w.heap[b]? = some (.cells cs t (0, 0))) (i : Nat) : w.frozen? ⟨b, i, none⟩ = false := by simp [World.frozen?, h]

theorem val_iface (ad : Nat → Addr) {e : ErrT} (h : e ≠ .none) : ∃ t v, val ad e = .iface t v := by
  cases e with
  | none => exact absurd rfl h
  | rsn k => exact ⟨_, _, rfl⟩
  | fault b la ca a y => exact ⟨_, _, rfl⟩
  | many b g c k => exact ⟨_, _, rfl⟩

/-- fault.asFault of a tree. -/
def faultOf : ErrT → Value
  | .fault b _ _ _ _ => .pointer (some ⟨b, 0, none⟩)
  | _ => .pointer none

theorem faultOf_fault (b : Nat) (la ca : ByteArray) (a : Int) (y : ErrT) : faultOf (.fault b la ca a y) = .pointer (some ⟨b, 0, none⟩) := rfl
theorem faultOf_none : faultOf .none = .pointer none := rfl
theorem faultOf_rsn (k : Nat) : faultOf (.rsn k) = .pointer none := rfl
theorem faultOf_many (b g c : Nat) (l : List ErrT) : faultOf (.many b g c l) = .pointer none := rfl
theorem val_none (ad : Nat → Addr) : val ad .none = .nilIface := rfl
theorem val_rsn (ad : Nat → Addr) (k : Nat) : val ad (.rsn k) = .iface 195 (.pointer (some (ad k))) := rfl
theorem val_fault (ad : Nat → Addr) (b : Nat) (la ca : ByteArray) (a : Int) (y : ErrT) : val ad (.fault b la ca a y) = .iface 85 (.pointer (some ⟨b, 0, none⟩)) := rfl
theorem val_many (ad : Nat → Addr) (b g c : Nat) (l : List ErrT) : val ad (.many b g c l) = .iface 106 (.pointer (some ⟨b, 0, none⟩)) := rfl

theorem asFault_any {ad : Nat → Addr} {w : World} {m : Nat} (L : Laid ad w) (e : ErrT) (h : Spine ad m w e) :
    Calls Tryz.prog 54 #[val ad e] w fun ev w' => ev = .returned (faultOf e) ∧ Below w.heap.size w w' := by
  cases e with
  | none => exact asFault_nil w
  | rsn k => exact asFault_s _ w
  | many b g c k => exact asFault_m _ w
  | fault b la ca at_ why =>
    obtain ⟨t, v, hv⟩ := val_iface ad h.2.2.1
    exact asFault_f b t v w (by rw [cell_of_heap h.2.1, hv]; rfl) L.et

/-- The tour in block T, its codes in a row of its own, its map in block m. -/
structure TourAt (T m : Nat) (w : World) (again : Bool) (first codes : Value) (xs : List Int) : Prop where
  lies : w.heap[T]? = some (.cells #[.bool again, first, codes, .map (some m)] 100 (0, 0))
  own : w.ownsRow (T + 1) 3 1 codes xs.length (xs.map (Value.int .i64 ·))

theorem TourAt.lt {T m : Nat} {w : World} {again : Bool} {first codes : Value} {xs : List Int} (h : TourAt T m w again first codes xs) : T < w.heap.size := (Array.getElem?_eq_some_iff.1 h.lies).1

theorem TourAt.below {T m : Nat} {w w' : World} {again : Bool} {first codes : Value} {xs : List Int} (h : TourAt T m w again first codes xs) (hb : Below w.heap.size w w') : TourAt T m w' again first codes xs where
  lies := by rw [hb.block _ h.lt]; exact h.lies
  own := h.own.kept (row := none) ⟨hb.os, hb.tape, hb.output, hb.size, fun k hk _ => hb.block k hk⟩ (by cases hv : codes.ownBlock <;> simp)

/-- t.first = f. -/
theorem TourAt.first {T m : Nat} {w : World} {again : Bool} {first codes : Value} {xs : List Int} (h : TourAt T m w again first codes xs) (p : Value) : TourAt T m (w.setCell ⟨T, 1, none⟩ p) again p codes xs where
  lies := by rw [setCell_eq_setRow w T 1 _ _ _ p h.lies, setRow_heap w T _ _ _ _ h.lies]; rfl
  own := ownsRow_setCell_below h.own (Nat.lt_succ_self T) p

theorem TourAt.codes {T m : Nat} {w w' : World} {again : Bool} {first codes codes' : Value} {xs ys : List Int} (h : TourAt T m w again first codes xs) (hg : w.grownBy w' codes.ownBlock)
    (ho : w'.ownsRow (T + 1) 3 1 codes' ys.length (ys.map (Value.int .i64 ·))) : TourAt T m (w'.setCell ⟨T, 2, none⟩ codes') again first codes' ys where
  lies := by
    have hT : w'.heap[T]? = some (.cells #[.bool again, first, codes, .map (some m)] 100 (0, 0)) := by
      rw [hg.block T h.lt (fun e => by have := (h.own.lt T e.symm).1; omega)]; exact h.lies
    rw [setCell_eq_setRow w' T 2 _ _ _ codes' hT, setRow_heap w' T _ _ _ _ hT]; rfl
  own := ownsRow_setCell_below ho (Nat.lt_succ_self T) codes'

mutual
/-- P1.4: the numbers of the reasons, in order. -/
def cds : ErrT → List Int
  | .none => []
  | .rsn k => if k < 13 then [(k : Int) + 1] else []
  | .fault _ _ _ _ why => cds why
  | .many _ _ _ kids => cdsL kids
def cdsL : List ErrT → List Int
  | [] => []
  | e :: r => cds e ++ cdsL r
end
mutual
/-- P1.5: the block of the first Fault. -/
def fst : ErrT → Option Nat
  | .none => Option.none
  | .rsn _ => Option.none
  | .fault b _ _ _ _ => some b
  | .many _ _ _ kids => fstL kids
def fstL : List ErrT → Option Nat
  | [] => Option.none
  | e :: r => (fst e).or (fstL r)
end
mutual
/-- The blocks of the Manys, the last that is done first. -/
def mns : ErrT → List Nat
  | .none => []
  | .rsn _ => []
  | .fault _ _ _ _ why => mns why
  | .many b _ _ kids => b :: mnsL kids
def mnsL : List ErrT → List Nat
  | [] => []
  | e :: r => mnsL r ++ mns e
end

/-- A block as a pointer. -/
def fp : Option Nat → Value
  | Option.none => .pointer none
  | some b => .pointer (some ⟨b, 0, none⟩)

theorem faultOf_fp (e : ErrT) (h : deep e = 0) : faultOf e = .pointer none := by
  cases e <;> simp_all [faultOf, deep]

/-- All that the listed variables are lies below block m. -/
structure LaidB (ad : Nat → Addr) (m : Nat) (w : World) : Prop where
  laid : Laid ad w
  g : 15 ≤ m
  a : ∀ k, k < 14 → (ad k).block < m

theorem LaidB.below {ad : Nat → Addr} {m : Nat} {w w' : World} (h : LaidB ad m w) (hb : Below m w w') : LaidB ad m w' where
  laid := {
    var := fun k hk => by rw [hb.cell (p := ⟨gix k, 0, Option.none⟩) (by have := h.g; have := gix_lt k hk; show gix k < m; omega)]; exact h.laid.var k hk
    str := fun k hk => by rw [hb.cell (h.a k hk)]; exact h.laid.str k hk
    ne := h.laid.ne
    row := fun k hk => by rw [hb.block _ (h.a k hk)]; exact h.laid.row k hk
    et := by rw [hb.cell (p := ⟨2, 0, Option.none⟩) (Nat.lt_of_lt_of_le (by decide) h.g)]; exact h.laid.et }
  g := h.g
  a := h.a
end Go.Proofs.YteffpnjgchihpaaGreatDoor
