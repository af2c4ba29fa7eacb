
/-
  A message is read: giving up, numbers, kinds, entries.
-/
import Derived.Test.YteffpnjgchihpaaGreatDoorPB30
import Derived.Test.YteffpnjgchihpaaGreatDoorPB31
namespace Go.Proofs.YteffpnjgchihpaaGreatDoor
open Go.RowKit
set_option maxRecDepth 100000

def nmRead : ByteArray := ⟨#[82, 101, 97, 100]⟩
def nmWire : ByteArray := ⟨#[119, 105, 114, 101]⟩
/-- The refusal of a reading, in memory. -/
def PeAt (ad : Nat → Addr) (x : Pe) (f : Nat) (w : World) : Prop := match x with
  | .form p => w.heap[f]? = some (.cells #[.string nmPacket, .string nmRead, .int .i64 (p : Int), rsn ad 5] 87 (0, 0))
  | .wire call p c => ∃ f2, w.heap[f]? = some (.cells #[.string nmPacket, .string nmRead, .int .i64 (p : Int), refv f2] 87 (0, 0)) ∧ w.heap[f2]? = some (.cells #[.string nmWire, .string call, .int .i64 (p : Int), rsn ad c] 87 (0, 0))
theorem PeAt.kept {ad : Nat → Addr} {x : Pe} {f : Nat} {S : List Nat} {w w' : World} (h : PeAt ad x f w) (k : Kept S w w') (hS : ∀ s ∈ S, ∃ cs t, w.heap[s]? = some (.cells cs t (0, 0)) ∧ t ≠ 87) : PeAt ad x f w' := by
  have hn : ∀ (b : Nat) (cs : Array Value), w.heap[b]? = some (.cells cs 87 (0, 0)) → b ∉ S := fun b cs hb hm => by
    obtain ⟨cs', t, h1, h2⟩ := hS b hm
    rw [hb] at h1
    simp only [Option.some.injEq, Obj.cells.injEq] at h1
    exact h2 h1.2.1.symm
  cases x with
  | form p => exact k.heap h (hn _ _ h)
  | wire call p c =>
    obtain ⟨f2, h1, h2⟩ := h
    exact ⟨f2, k.heap h1 (hn _ _ h1), k.heap h2 (hn _ _ h2)⟩
/-- What a reading that gives up ends in. -/
abbrev gaveP (f : Nat) : Ending := .panicked [{ v := .iface 132 (.agg #[refv f]), recovered := false }]
abbrev rgv (sb : Nat) : Value := .pointer (some ⟨sb, 0, none⟩)
/-- The cells of a scan's Reader, and one in memory. -/
def scv (rb : Nat) : Array Value := #[.string nmPacket, .string nmRead, .pointer (some ⟨rb, 0, none⟩)]
def SdAt (sb rb : Nat) (w : World) : Prop := RowAt sb (scv rb) 130 w

/-- What a reading leaves. -/
def RdV {α : Type} (ad : Nat → Addr) (rb g : Nat) (bs : List UInt8) (w : World) (enc : α → Value) (p : Except Pe (α × Nat)) (e : Ending) (w' : World) : Prop := Kept [rb] w w' ∧ match p with
  | .ok (a, q) => e = .returned (enc a) ∧ RdAt rb g bs q .nilIface w'
  | .error x => ∃ f, w.heap.size ≤ f ∧ e = gaveP f ∧ PeAt ad x f w'
theorem RdV.ok {α : Type} {ad : Nat → Addr} {rb g : Nat} {bs : List UInt8} {w : World} {enc : α → Value} {p : Except Pe (α × Nat)} {e : Ending} {w' : World} {a : α} {q : Nat} (h : RdV ad rb g bs w enc p e w') (hp : p = .ok (a, q)) : Kept [rb] w w' ∧ e = .returned (enc a) ∧ RdAt rb g bs q .nilIface w' := by subst hp; exact h
theorem RdV.err {α : Type} {ad : Nat → Addr} {rb g : Nat} {bs : List UInt8} {w : World} {enc : α → Value} {p : Except Pe (α × Nat)} {e : Ending} {w' : World} {x : Pe} (h : RdV ad rb g bs w enc p e w') (hp : p = .error x) : Kept [rb] w w' ∧ ∃ f, w.heap.size ≤ f ∧ e = gaveP f ∧ PeAt ad x f w' := by subst hp; exact h
theorem RdV.mkOk {α : Type} {ad : Nat → Addr} {rb g : Nat} {bs : List UInt8} {w : World} {enc : α → Value} {p : Except Pe (α × Nat)} {w' : World} {a : α} {q : Nat} (hp : p = .ok (a, q)) (hk : Kept [rb] w w') (hr : RdAt rb g bs q .nilIface w') : RdV ad rb g bs w enc p (.returned (enc a)) w' := by subst hp; exact ⟨hk, rfl, hr⟩
theorem RdV.mkErr {α : Type} {ad : Nat → Addr} {rb g : Nat} {bs : List UInt8} {w : World} {enc : α → Value} {p : Except Pe (α × Nat)} {w' : World} {x : Pe} {f : Nat} (hp : p = .error x) (hk : Kept [rb] w w') (hf : w.heap.size ≤ f) (hx : PeAt ad x f w') : RdV ad rb g bs w enc p (gaveP f) w' := by subst hp; exact ⟨hk, f, hf, rfl, hx⟩

theorem rdOut_ok {ad : Nat → Addr} {rb g : Nat} {bs : List UInt8} {pl : Nat} {name : ByteArray} {w : World} {tup : Value → Value → Value} {z : Value} {res : Except Nat (Value × Nat)} {v : Value} {k : Nat} {e : Ending} {w' : World} (h : RdOut ad rb g bs pl name w tup z res e w') (hr : res = .ok (v, k)) : e = .returned (tup v .nilIface) ∧ RdAt rb g bs (pl + k) .nilIface w' ∧ Kept [rb] w w' := by
  subst hr; exact ⟨h.2.1, h.2.2, h.1⟩
theorem rdOut_err {ad : Nat → Addr} {rb g : Nat} {bs : List UInt8} {pl : Nat} {name : ByteArray} {w : World} {tup : Value → Value → Value} {z : Value} {res : Except Nat (Value × Nat)} {c : Nat} {e : Ending} {w' : World} (h : RdOut ad rb g bs pl name w tup z res e w') (hr : res = .error c) : ∃ f, w.heap.size ≤ f ∧ e = .returned (tup z (refv f)) ∧ RdAt rb g bs pl (refv f) w' ∧ w'.heap[f]? = some (.cells #[.string nmWire, .string name, .int .i64 pl, rsn ad c] 87 (0, 0)) ∧ Kept [rb] w w' := by
  subst hr
  obtain ⟨hk, f, h1, h2, h3, h4⟩ := h
  exact ⟨f, h1, h2, h3, h4, hk⟩

theorem SdAt.c0 {sb rb : Nat} {w : World} (h : SdAt sb rb w) : w.cell? ⟨sb, 0, none⟩ = some (.string nmPacket) := by unfold SdAt at h; rw [h.cell]; rfl
theorem SdAt.c1 {sb rb : Nat} {w : World} (h : SdAt sb rb w) : w.cell? ⟨sb, 1, none⟩ = some (.string nmRead) := by unfold SdAt at h; rw [h.cell]; rfl
theorem SdAt.c2 {sb rb : Nat} {w : World} (h : SdAt sb rb w) : w.cell? ⟨sb, 2, none⟩ = some (.pointer (some ⟨rb, 0, none⟩)) := by unfold SdAt at h; rw [h.cell]; rfl
theorem SdAt.lt {sb rb : Nat} {w : World} (h : SdAt sb rb w) : sb < w.heap.size := RowAt.lt h
theorem SdAt.kept {sb rb : Nat} {S : List Nat} {w w' : World} (h : SdAt sb rb w) (k : Kept S w w') (hS : sb ∉ S) : SdAt sb rb w' := RowAt.kept h k hS
theorem SdAt.ne {sb rb g : Nat} {bs : List UInt8} {pl : Nat} {br : Value} {w : World} (h : SdAt sb rb w) (hr : RdAt rb g bs pl br w) : sb ≠ rb := fun hm => by
  have h9 := hr.lies
  subst hm
  unfold SdAt at h
  rw [h] at h9
  simp at h9

set_option maxHeartbeats 1000000 in
theorem giveUpP_any {sb rb : Nat} (p : Nat) (t : TypeId) (z : Value) (w : World) (hs : SdAt sb rb w) :
    Calls Tryz.prog 83 #[rgv sb, .int .i64 (p : Int), .iface t z] w fun e w' => ∃ f, w.heap.size ≤ f ∧ e = gaveP f ∧ w'.heap[f]? = some (.cells #[.string nmPacket, .string nmRead, .int .i64 (p : Int), .iface t z] 87 (0, 0)) ∧ Kept [] w w' := by
  have H := hid_of' hs
  clear hs
  go_enter Tryz.func83, Tryz.ntmps83
  go_upto_region 0 with fail
  refine wp_region_tail 10 (by kernel_rfl) (fun _ => none) (by kernel_rfl) (by kernel_rfl) (by decide) (fun i v x => match i with
    | 0 => v = .pointer (some ⟨sb, 0, none⟩)
    | 1 => v = .pointer (some ⟨sb, 0, none⟩)
    | 2 => v = .pointer (some ⟨sb, 0, none⟩)
    | 3 => v = .string nmPacket
    | 4 => v = .pointer (some ⟨sb, 0, none⟩)
    | 5 => v = .pointer (some ⟨sb, 0, none⟩)
    | 6 => v = .pointer (some ⟨sb, 1, none⟩)
    | 7 => v = .string nmRead
    | 8 => v = .int .i64 (p : Int)
    | 9 => v = .iface t z
    | _ => True) (fun _ => false) (fun _ _ _ _ h => by cases h) ?_ ?_ ?_
  · intro i v x x' hR hb
    match i, hR with
    | 0, h => exact h
    | 1, h => exact h
    | 2, h => exact h
    | 3, h => exact h
    | 4, h => exact h
    | 5, h => exact h
    | 6, h => exact h
    | 7, h => exact h
    | 8, h => exact h
    | 9, h => exact h
    | m + 10, h => exact h
  · intro i o hi ho q x vals hX hdep hoth
    have t0 : q.tmps[0]? = some (.pointer (some ⟨sb, 0, none⟩)) := by rw [hoth 0 (by kernel_rfl)]; rfl
    have t1 : q.tmps[1]? = some (.int .i64 (p : Int)) := by rw [hoth 1 (by kernel_rfl)]; rfl
    have t2 : q.tmps[2]? = some (.iface t z) := by rw [hoth 2 (by kernel_rfl)]; rfl
    match i, hi, ho with
    | 0, _, ho =>
      simp only [List.getElem?_cons_zero, Option.some.injEq] at ho
      subst ho
      unfold Oper.wp
      simp [execOp, go_sem, t0]
      exact came _ rfl (Below.refl _ _) rfl (fun h => absurd h (by decide))
    | 1, _, ho =>
      simp only [List.getElem?_cons_succ, List.getElem?_cons_zero, Option.some.injEq] at ho
      subst ho
      obtain ⟨u0, e0⟩ := hdep ⟨0, .data⟩ (by simp) rfl _ 6 rfl rfl
      rw [show vals 0 = .pointer (some ⟨sb, 0, none⟩) from e0] at u0
      unfold Oper.wp
      simp [execOp, go_sem, u0]
      exact came _ rfl (Below.refl _ _) rfl (fun h => absurd h (by decide))
    | 2, _, ho =>
      simp only [List.getElem?_cons_succ, List.getElem?_cons_zero, Option.some.injEq] at ho
      subst ho
      obtain ⟨u1, e1⟩ := hdep ⟨1, .data⟩ (by simp) rfl _ 7 rfl rfl
      rw [show vals 1 = .pointer (some ⟨sb, 0, none⟩) from e1] at u1
      unfold Oper.wp
      simp [execOp, go_sem, u1]
      exact came _ rfl (Below.refl _ _) rfl (fun h => absurd h (by decide))
    | 3, _, ho =>
      simp only [List.getElem?_cons_succ, List.getElem?_cons_zero, Option.some.injEq] at ho
      subst ho
      obtain ⟨u2, e2⟩ := hdep ⟨2, .data⟩ (by simp) rfl _ 8 rfl rfl
      rw [show vals 2 = .pointer (some ⟨sb, 0, none⟩) from e2] at u2
      have cc : x.cell? ⟨sb, 0, none⟩ = some (.string nmPacket) := SdAt.c0 (sb := sb) (rb := rb) (RowAt.later H.out hX)
      unfold Oper.wp
      simp [execOp, go_sem, u2, cc]
      exact came _ rfl (Below.refl _ _) rfl (fun h => absurd h (by decide))
    | 4, _, ho =>
      simp only [List.getElem?_cons_succ, List.getElem?_cons_zero, Option.some.injEq] at ho
      subst ho
      unfold Oper.wp
      simp [execOp, go_sem, t0]
      exact came _ rfl (Below.refl _ _) rfl (fun h => absurd h (by decide))
    | 5, _, ho =>
      simp only [List.getElem?_cons_succ, List.getElem?_cons_zero, Option.some.injEq] at ho
      subst ho
      obtain ⟨u4, e4⟩ := hdep ⟨4, .data⟩ (by simp) rfl _ 10 rfl rfl
      rw [show vals 4 = .pointer (some ⟨sb, 0, none⟩) from e4] at u4
      unfold Oper.wp
      simp [execOp, go_sem, u4]
      exact came _ rfl (Below.refl _ _) rfl (fun h => absurd h (by decide))
    | 6, _, ho =>
      simp only [List.getElem?_cons_succ, List.getElem?_cons_zero, Option.some.injEq] at ho
      subst ho
      obtain ⟨u5, e5⟩ := hdep ⟨5, .data⟩ (by simp) rfl _ 11 rfl rfl
      rw [show vals 5 = .pointer (some ⟨sb, 0, none⟩) from e5] at u5
      unfold Oper.wp
      simp [execOp, go_sem, u5]
      exact came _ rfl (Below.refl _ _) rfl (fun h => absurd h (by decide))
    | 7, _, ho =>
      simp only [List.getElem?_cons_succ, List.getElem?_cons_zero, Option.some.injEq] at ho
      subst ho
      obtain ⟨u6, e6⟩ := hdep ⟨6, .data⟩ (by simp) rfl _ 12 rfl rfl
      rw [show vals 6 = .pointer (some ⟨sb, 1, none⟩) from e6] at u6
      have cc : x.cell? ⟨sb, 1, none⟩ = some (.string nmRead) := SdAt.c1 (sb := sb) (rb := rb) (RowAt.later H.out hX)
      unfold Oper.wp
      simp [execOp, go_sem, u6, cc]
      exact came _ rfl (Below.refl _ _) rfl (fun h => absurd h (by decide))
    | 8, _, ho =>
      simp only [List.getElem?_cons_succ, List.getElem?_cons_zero, Option.some.injEq] at ho
      subst ho
      unfold Oper.wp
      simp [execOp, go_sem, t1]
      exact came _ rfl (Below.refl _ _) rfl (fun h => absurd h (by decide))
    | 9, _, ho =>
      simp only [List.getElem?_cons_succ, List.getElem?_cons_zero, Option.some.injEq] at ho
      subst ho
      unfold Oper.wp
      simp [execOp, go_sem, t2]
      exact came _ rfl (Below.refl _ _) rfl (fun h => absurd h (by decide))
    | m + 10, hi, _ => exact absurd hi (by omega)
  · intro vals x hX hR _
    have e3 : vals 3 = .string nmPacket := hR 3 (by decide)
    have e7 : vals 7 = .string nmRead := hR 7 (by decide)
    have e8 : vals 8 = .int .i64 (p : Int) := hR 8 (by decide)
    have e9 : vals 9 = .iface t z := hR 9 (by decide)
    simp only [List.drop, List.take, putAll, List.setIfInBounds_toArray, List.set_cons_succ, List.set_cons_zero, e3, e7, e8, e9]
    clear hR e3 e7 e8 e9
    go_wp2_with (go_at_call 22; refine (new_f _ _ _ (by omega) _ _ _).mono ?_; rintro e w2 ⟨rfl, rfl⟩)
    exact ⟨rfl, x.heap.size, hX.size, rfl, heap_alloc_last _ _ _, (Kept.of hX).go (S' := []) ((Kept.refl [] x).alloc _) (by simp)⟩

theorem checkP_nil {sb : Nat} (w : World) :
    Calls Tryz.prog 70 #[rgv sb, .nilIface] w fun e w' => e = .returned (.tuple #[]) ∧ w' = w := by
  go_enter Tryz.func70, Tryz.ntmps70
  go_wp2
  go_end0
  exact ⟨rfl, rfl⟩
theorem checkP_err {ad : Nat → Addr} {rb sb g : Nat} {bs : List UInt8} {pl : Nat} {br : Value} {w : World} (h : RdAt rb g bs pl br w) (hs : SdAt sb rb w) (f2 : Nat) (call : ByteArray) (c : Nat) (hf : w.heap[f2]? = some (.cells #[.string nmWire, .string call, .int .i64 pl, rsn ad c] 87 (0, 0))) :
    Calls Tryz.prog 70 #[rgv sb, refv f2] w fun e w' => ∃ f, w.heap.size ≤ f ∧ e = gaveP f ∧ PeAt ad (.wire call pl c) f w' ∧ Kept [] w w' := by
  have c2 := hs.c2
  have HR := hid_of' h
  have HF := hid_of' (And.intro hf hs)
  clear h hf hs
  go_enter Tryz.func70, Tryz.ntmps70
  go_wp2_with (first | (go_at_call 84; refine (at_any HR.out).mono ?_; rintro e w2 ⟨rfl, h0⟩; obtain rfl := h0.symm) | (go_at_call 83; refine (giveUpP_any _ _ _ _ HF.out.2).mono ?_; rintro e w2 ⟨f, hf, rfl, hfl, hk⟩))
  exact ⟨rfl, f, hf, rfl, ⟨f2, hfl, hk.heap HF.out.1 (by simp)⟩, hk⟩

/-- What every reading begins with. -/
theorem rd_sd {ad : Nat → Addr} {rb sb g : Nat} {bs : List UInt8} {pl : Nat} {w : World} (L : Lw ad w) (h : RdAt rb g bs pl .nilIface w) (hs : SdAt sb rb w) : Lw ad w ∧ RdAt rb g bs pl .nilIface w ∧ SdAt sb rb w ∧ Kept [rb] w w ∧ sb ≠ rb := ⟨L, h, hs, Kept.refl _ _, SdAt.ne hs h⟩
theorem SdAt.rd {sb rb : Nat} {w w' : World} (h : SdAt sb rb w) (k : Kept [rb] w w') (hn : sb ≠ rb) : SdAt sb rb w' := h.kept k (by simpa using hn)
theorem Lw.rd {ad : Nat → Addr} {rb g : Nat} {bs : List UInt8} {pl : Nat} {br : Value} {w w' : World} (L : Lw ad w) (k : Kept [rb] w w') (h : RdAt rb g bs pl br w) : Lw ad w' := L.kept k (by simpa using h.lo)
theorem RowAt.rd {b rb : Nat} {cs : Array Value} {t : TypeId} {w w' : World} (h : RowAt b cs t w) (k : Kept [rb] w w') (hn : b ≠ rb) : RowAt b cs t w' := h.kept k (by simpa using hn)

theorem pNum_ok {most : Int} {bs : List UInt8} {pl n k : Nat} (h : numR (bs.drop pl) most = .ok (n, k)) : pNum most bs pl = .ok ((n : Int), pl + k) := by unfold pNum; rw [h]
theorem pNum_err {most : Int} {bs : List UInt8} {pl c : Nat} (h : numR (bs.drop pl) most = .error c) : pNum most bs pl = .error (.wire nmNumber pl c) := by unfold pNum; rw [h]

set_option maxHeartbeats 1000000 in
theorem number_rd {ad : Nat → Addr} {rb sb g : Nat} {bs : List UInt8} {pl : Nat} {w : World} (L : Lw ad w) (h : RdAt rb g bs pl .nilIface w) (hs : SdAt sb rb w) (most : Int) :
    Calls Tryz.prog 73 #[rgv sb, .int .i64 most] w (RdV ad rb g bs w (Value.int .i64) (pNum most bs pl)) := by
  obtain ⟨L1, h1, r1, k1, hne⟩ := rd_sd L h hs
  clear hs
  have HN := hid_of' (Number_any L1 h1 most)
  have c1 := r1.c2
  clear L h h1
  cases hr : numR (bs.drop pl) most with
  | error c =>
    have hr' : (numR (bs.drop pl) most).map (fun x => (Value.int .i64 x.1, x.2)) = .error c := by rw [hr]; rfl
    have HR := hid_of' (And.intro hr' (pNum_err hr))
    clear hr hr'
    go_enter Tryz.func73, Tryz.ntmps73
    go_upto_region 2 with (go_at_call 90; refine HN.out.mono ?_; intro e w2 h2; obtain ⟨f2, hf2, rfl, hr2, hl2, hk2⟩ := rdOut_err h2 HR.out.1)
    replace r1 := r1.rd hk2 hne
    replace k1 := k1.trans hk2
    clear h2 c1 HN hk2
    go_wp2_with (first | (go_at_call 70; refine (checkP_err hr2 r1 f2 _ c hl2).mono ?_; rintro e w3 ⟨f, hf, rfl, hp, hk3⟩))
    exact ⟨rfl, RdV.mkErr HR.out.2 (k1.go hk3 (by simp)) (by have := k1.size; omega) hp⟩
  | ok y =>
    obtain ⟨n, k⟩ := y
    have hr' : (numR (bs.drop pl) most).map (fun x => (Value.int .i64 x.1, x.2)) = .ok (.int .i64 n, k) := by rw [hr]; rfl
    have HR := hid_of' (And.intro hr' (pNum_ok hr))
    clear hr hr'
    go_enter Tryz.func73, Tryz.ntmps73
    go_upto_region 2 with (go_at_call 90; refine HN.out.mono ?_; intro e w2 h2; obtain ⟨rfl, hr2, hk2⟩ := rdOut_ok h2 HR.out.1)
    replace r1 := r1.rd hk2 hne
    replace k1 := k1.trans hk2
    clear h2 c1 HN hk2
    go_wp2_with (first | (go_at_call 70; refine (checkP_nil _).mono ?_; rintro e w3 ⟨rfl, rfl⟩))
    go_ret
    exact RdV.mkOk HR.out.2 k1 hr2

theorem pKind_err {last : Int} {bs : List UInt8} {pl c : Nat} (h : byteR (bs.drop pl) = .error c) : pKind last bs pl = .error (.wire nmByte pl c) := by unfold pKind; rw [h]
theorem pKind_ok {last : Int} {bs : List UInt8} {pl n k : Nat} (h : byteR (bs.drop pl) = .ok (n, k)) (h1 : oneB n last = true) : pKind last bs pl = .ok ((n : Int), pl + k) := by
  simp only [oneB, Bool.and_eq_true, decide_eq_true_eq] at h1
  unfold pKind; rw [h]; simp only; rw [if_pos h1]
theorem pKind_no {last : Int} {bs : List UInt8} {pl n k : Nat} (h : byteR (bs.drop pl) = .ok (n, k)) (h1 : oneB n last = false) : pKind last bs pl = .error (.form pl) := by
  have h1' : ¬ (1 ≤ (n : Int) ∧ (n : Int) ≤ last) := fun hh => by
    have : oneB n last = true := by simp [oneB, hh]
    rw [this] at h1; cases h1
  unfold pKind; rw [h]; simp only; rw [if_neg h1']
theorem byteR_lt {bs : List UInt8} {n k : Nat} (h : byteR bs = .ok (n, k)) : n < 256 := by
  cases bs with
  | nil => simp [byteR] at h
  | cons b r => simp [byteR] at h; rw [← h.1]; exact b.toNat_lt
theorem wrap_small {n : Nat} (h : n < 256) : IntKind.i64.wrap (n : Int) = (n : Int) := by simp [IntKind.wrap, IntKind.bits, IntKind.signed]; omega

set_option maxHeartbeats 1000000 in
theorem kind_rd {ad : Nat → Addr} {rb sb g : Nat} {bs : List UInt8} {pl : Nat} {w : World} (L : Lw ad w) (h : RdAt rb g bs pl .nilIface w) (hs : SdAt sb rb w) (last : Int) :
    Calls Tryz.prog 72 #[rgv sb, .int .i64 1, .int .i64 last] w (RdV ad rb g bs w (Value.int .i64) (pKind last bs pl)) := by
  obtain ⟨L1, h1, r1, k1, hne⟩ := rd_sd L h hs
  clear hs
  have HA := hid_of' (at_any h1)
  have HN := hid_of' (Byte_any L1 h1)
  have HL := hid_of' (And.intro L1 h1)
  have c1 := r1.c2
  clear L h h1 L1
  cases hr : byteR (bs.drop pl) with
  | error c =>
    have hr' : (byteR (bs.drop pl)).map (fun x => (Value.int .u8 x.1, x.2)) = .error c := by rw [hr]; rfl
    have HR := hid_of' (And.intro hr' (pKind_err (last := last) hr))
    clear hr hr'
    go_enter Tryz.func72, Tryz.ntmps72
    go_upto_region 3 with (first | (go_at_call 84; refine HA.out.mono ?_; rintro e w2 ⟨rfl, h0⟩; obtain rfl := h0.symm) | (go_at_call 89; refine HN.out.mono ?_; intro e w2 h2; obtain ⟨f2, hf2, rfl, hr2, hl2, hk2⟩ := rdOut_err h2 HR.out.1))
    replace r1 := r1.rd hk2 hne
    replace k1 := k1.trans hk2
    clear h2 c1 HN hk2 HA
    go_wp2_with (first | (go_at_call 70; refine (checkP_err hr2 r1 f2 _ c hl2).mono ?_; rintro e w3 ⟨f, hf, rfl, hp, hk3⟩))
    exact ⟨rfl, RdV.mkErr HR.out.2 (k1.go hk3 (by simp)) (by have := k1.size; omega) hp⟩
  | ok y =>
    obtain ⟨n, k⟩ := y
    have hr' : (byteR (bs.drop pl)).map (fun x => (Value.int .u8 x.1, x.2)) = .ok (.int .u8 n, k) := by rw [hr]; rfl
    have hw := wrap_small (byteR_lt hr)
    cases ho : oneB n last with
    | true =>
      have HR := hid_of' (And.intro hr' (pKind_ok hr ho))
      simp only [oneB, Bool.and_eq_true, decide_eq_true_eq] at ho
      have m1 : ¬ (n : Int) < 1 := by omega
      have m2 : ¬ last < (n : Int) := by omega
      clear hr hr' ho
      go_enter Tryz.func72, Tryz.ntmps72
      go_upto_region 3 with (first | (go_at_call 84; refine HA.out.mono ?_; rintro e w2 ⟨rfl, h0⟩; obtain rfl := h0.symm) | (go_at_call 89; refine HN.out.mono ?_; intro e w2 h2; obtain ⟨rfl, hr2, hk2⟩ := rdOut_ok h2 HR.out.1))
      replace r1 := r1.rd hk2 hne
      replace k1 := k1.trans hk2
      clear h2 c1 HN hk2 HA
      go_wp2_with (first | (go_at_call 70; refine (checkP_nil _).mono ?_; rintro e w3 ⟨rfl, rfl⟩))
      go_ret
      exact RdV.mkOk HR.out.2 k1 hr2
    | false =>
      have HR := hid_of' (And.intro hr' (pKind_no hr ho))
      have hor : (n : Int) < 1 ∨ ¬ (n : Int) < 1 ∧ last < (n : Int) := by
        by_cases h1 : (n : Int) < 1
        · exact .inl h1
        · refine .inr ⟨h1, ?_⟩
          by_cases h2 : last < (n : Int)
          · exact h2
          · have : oneB n last = true := by simp only [oneB, Bool.and_eq_true, decide_eq_true_eq]; omega
            rw [this] at ho; cases ho
      clear hr hr' ho
      rcases hor with m1 | ⟨m1, m2⟩
      · go_enter Tryz.func72, Tryz.ntmps72
        go_upto_region 3 with (first | (go_at_call 84; refine HA.out.mono ?_; rintro e w2 ⟨rfl, h0⟩; obtain rfl := h0.symm) | (go_at_call 89; refine HN.out.mono ?_; intro e w2 h2; obtain ⟨rfl, hr2, hk2⟩ := rdOut_ok h2 HR.out.1))
        replace r1 := r1.rd hk2 hne
        replace k1 := k1.trans hk2
        have h5 : w2.cell? ⟨0, 0, none⟩ = some (rsn ad 5) := (HL.out.1.rd hk2 HL.out.2).var 5 (by decide)
        clear h2 c1 HN hk2 HA
        go_wp2_with (first | (go_at_call 70; refine (checkP_nil _).mono ?_; rintro e w3 ⟨rfl, rfl⟩) | (go_at_call 83; refine (giveUpP_any pl _ _ _ r1).mono ?_; rintro e w5 ⟨f, hf, rfl, hfl, hk5⟩))
        exact ⟨rfl, RdV.mkErr HR.out.2 (k1.go hk5 (by simp)) (Nat.le_trans k1.size hf) hfl⟩
      · go_enter Tryz.func72, Tryz.ntmps72
        go_upto_region 3 with (first | (go_at_call 84; refine HA.out.mono ?_; rintro e w2 ⟨rfl, h0⟩; obtain rfl := h0.symm) | (go_at_call 89; refine HN.out.mono ?_; intro e w2 h2; obtain ⟨rfl, hr2, hk2⟩ := rdOut_ok h2 HR.out.1))
        replace r1 := r1.rd hk2 hne
        replace k1 := k1.trans hk2
        have h5 : w2.cell? ⟨0, 0, none⟩ = some (rsn ad 5) := (HL.out.1.rd hk2 HL.out.2).var 5 (by decide)
        clear h2 c1 HN hk2 HA
        go_wp2_with (first | (go_at_call 70; refine (checkP_nil _).mono ?_; rintro e w3 ⟨rfl, rfl⟩) | (go_at_call 83; refine (giveUpP_any pl _ _ _ r1).mono ?_; rintro e w5 ⟨f, hf, rfl, hfl, hk5⟩))
        exact ⟨rfl, RdV.mkErr HR.out.2 (k1.go hk5 (by simp)) (Nat.le_trans k1.size hf) hfl⟩

theorem pNz_err {most : Int} {bs : List UInt8} {pl : Nat} {x : Pe} (h : pNum most bs pl = .error x) : pNz most bs pl = .error x := by unfold pNz; rw [h]
theorem pNz_no {most : Int} {bs : List UInt8} {pl q : Nat} (h : pNum most bs pl = .ok (0, q)) : pNz most bs pl = .error (.form pl) := by unfold pNz; rw [h]; rfl
theorem pNz_ok {most : Int} {bs : List UInt8} {pl q : Nat} {n : Int} (h : pNum most bs pl = .ok (n, q)) (h0 : n ≠ 0) : pNz most bs pl = .ok (n, q) := by unfold pNz; rw [h]; simp only; rw [if_neg h0]

set_option maxHeartbeats 1000000 in
theorem notZero_rd {ad : Nat → Addr} {rb sb g : Nat} {bs : List UInt8} {pl : Nat} {w : World} (L : Lw ad w) (h : RdAt rb g bs pl .nilIface w) (hs : SdAt sb rb w) (most : Int) :
    Calls Tryz.prog 107 #[rgv sb, .int .i64 most] w (RdV ad rb g bs w (Value.int .i64) (pNz most bs pl)) := by
  obtain ⟨L1, h1, r1, k1, hne⟩ := rd_sd L h hs
  clear hs
  have HA := hid_of' (at_any h1)
  have HN := hid_of' (number_rd L1 h1 r1 most)
  have HL := hid_of' (And.intro L1 h1)
  have c1 := r1.c2
  clear L h h1 L1
  cases hr : pNum most bs pl with
  | error x =>
    have HR := hid_of' (And.intro hr (pNz_err hr))
    clear hr
    go_enter Tryz.func107, Tryz.ntmps107
    go_wp2_with (first | (go_at_call 84; refine HA.out.mono ?_; rintro e w2 ⟨rfl, h0⟩; obtain rfl := h0.symm) | (go_at_call 73; refine HN.out.mono ?_; intro e w2 h2; obtain ⟨hk2, f, hf, rfl, hp⟩ := h2.err HR.out.1))
    exact ⟨rfl, RdV.mkErr HR.out.2 (k1.trans hk2) (by have := k1.size; omega) hp⟩
  | ok y =>
    obtain ⟨n, q⟩ := y
    by_cases h0 : n = 0
    · subst h0
      have HR := hid_of' (And.intro hr (pNz_no hr))
      clear hr
      go_enter Tryz.func107, Tryz.ntmps107
      go_upto_region 3 with (first | (go_at_call 84; refine HA.out.mono ?_; rintro e w2 ⟨rfl, h0⟩; obtain rfl := h0.symm) | (go_at_call 73; refine HN.out.mono ?_; intro e w2 h2; obtain ⟨hk2, rfl, hr2⟩ := h2.ok HR.out.1))
      have h5 : w2.cell? ⟨0, 0, none⟩ = some (rsn ad 5) := (HL.out.1.rd hk2 HL.out.2).var 5 (by decide)
      replace r1 := r1.rd hk2 hne
      replace k1 := k1.trans hk2
      clear h2 HN HA c1 hk2
      go_wp2_with (go_at_call 83; refine (giveUpP_any pl _ _ _ r1).mono ?_; rintro e w5 ⟨f, hf, rfl, hfl, hk5⟩)
      exact ⟨rfl, RdV.mkErr HR.out.2 (k1.go hk5 (by simp)) (Nat.le_trans k1.size hf) hfl⟩
    · have h0' : (n == 0) = false := by simpa using h0
      have HR := hid_of' (And.intro hr (pNz_ok hr h0))
      clear hr h0
      go_enter Tryz.func107, Tryz.ntmps107
      go_wp2_with (first | (go_at_call 84; refine HA.out.mono ?_; rintro e w2 ⟨rfl, h0⟩; obtain rfl := h0.symm) | (go_at_call 73; refine HN.out.mono ?_; intro e w2 h2; obtain ⟨hk2, rfl, hr2⟩ := h2.ok HR.out.1))
      go_ret
      exact RdV.mkOk HR.out.2 (k1.trans hk2) hr2

set_option maxHeartbeats 1000000 in
theorem entry_rd {ad : Nat → Addr} {rb sb g : Nat} {bs : List UInt8} {pl : Nat} {w : World} (L : Lw ad w) (h : RdAt rb g bs pl .nilIface w) (hs : SdAt sb rb w) (last : Bool) (most : Int) :
    Calls Tryz.prog 108 #[rgv sb, .bool last, .int .i64 most] w (RdV ad rb g bs w (Value.int .i64) (pEntry most last bs pl)) := by
  obtain ⟨L1, h1, r1, k1, hne⟩ := rd_sd L h hs
  clear hs
  have HA := hid_of' (notZero_rd L1 h1 r1 most)
  have HN := hid_of' (number_rd L1 h1 r1 most)
  clear L h h1 L1
  cases last with
  | true =>
    have hp : pEntry most true bs pl = pNz most bs pl := rfl
    rw [hp]
    cases hr : pNz most bs pl with
    | error x =>
      have HR := hid_of' hr
      clear hr
      go_enter Tryz.func108, Tryz.ntmps108
      go_wp2_with (first | (go_at_call 107; refine HA.out.mono ?_; intro e w2 h2; obtain ⟨hk2, f, hf, rfl, hp⟩ := h2.err HR.out))
      exact ⟨rfl, RdV.mkErr rfl (k1.trans hk2) (by have := k1.size; omega) hp⟩
    | ok y =>
      obtain ⟨n, q⟩ := y
      have HR := hid_of' hr
      clear hr
      go_enter Tryz.func108, Tryz.ntmps108
      go_wp2_with (first | (go_at_call 107; refine HA.out.mono ?_; intro e w2 h2; obtain ⟨hk2, rfl, hr2⟩ := h2.ok HR.out))
      go_ret
      exact RdV.mkOk rfl (k1.trans hk2) hr2
  | false =>
    have hp : pEntry most false bs pl = pNum most bs pl := rfl
    rw [hp]
    cases hr : pNum most bs pl with
    | error x =>
      have HR := hid_of' hr
      clear hr
      go_enter Tryz.func108, Tryz.ntmps108
      go_wp2_with (first | (go_at_call 73; refine HN.out.mono ?_; intro e w2 h2; obtain ⟨hk2, f, hf, rfl, hp⟩ := h2.err HR.out))
      exact ⟨rfl, RdV.mkErr rfl (k1.trans hk2) (by have := k1.size; omega) hp⟩
    | ok y =>
      obtain ⟨n, q⟩ := y
      have HR := hid_of' hr
      clear hr
      go_enter Tryz.func108, Tryz.ntmps108
      go_wp2_with (first | (go_at_call 73; refine HN.out.mono ?_; intro e w2 h2; obtain ⟨hk2, rfl, hr2⟩ := h2.ok HR.out))
      go_ret
      exact RdV.mkOk rfl (k1.trans hk2) hr2
end Go.Proofs.YteffpnjgchihpaaGreatDoor
