
/-
  (*Reader).Number, Count, Text, Byte, End.
-/
import Derived.Test.YthabeapgkaggmaaDoorAtt2
namespace Go.Proofs.YthabeapgkaggmaaDoor
open Go.RowKit
set_option maxRecDepth 100000

/-- The refusal that a Reader keeps. -/
abbrev refv (f : Nat) : Value := .iface 64 (.pointer (some ⟨f, 0, none⟩))

/-- What a reading function leaves: 'z' is the zero that it answers beside a refusal. -/
def RdOut (ad : Nat → Addr) (rb g : Nat) (bs : List UInt8) (pl : Nat) (name : ByteArray) (w : World) (tup : Value → Value → Value) (z : Value) (res : Except Nat (Value × Nat)) (e : Ending) (w' : World) : Prop := Kept [rb] w w' ∧ match res with
  | .ok (v, k) => e = .returned (tup v .nilIface) ∧ RdAt rb g bs (pl + k) .nilIface w'
  | .error c => ∃ f, w.heap.size ≤ f ∧ e = .returned (tup z (refv f)) ∧ RdAt rb g bs pl (refv f) w' ∧ w'.heap[f]? = some (.cells #[.string ⟨#[119, 105, 114, 101]⟩, .string name, .int .i64 pl, rsn ad c] 66 (0, 0))

theorem rdPost_ok {ad : Nat → Addr} {rb g : Nat} {bs : List UInt8} {pl : Nat} {br : Value} {w : World} {res : Except Nat (Value × Nat)} {v : Value} {k : Nat} {e : Ending} {w' : World} (h : RdPost ad rb g bs pl br w res e w') (hr : res = .ok (v, k)) : Kept [rb] w w' ∧ e = .returned v ∧ RdAt rb g bs (pl + k) br w' := by
  subst hr; exact h
theorem rdPost_err {ad : Nat → Addr} {rb g : Nat} {bs : List UInt8} {pl : Nat} {br : Value} {w : World} {res : Except Nat (Value × Nat)} {c : Nat} {e : Ending} {w' : World} (h : RdPost ad rb g bs pl br w res e w') (hr : res = .error c) : Kept [rb] w w' ∧ e = gaveUp ad c ∧ ∃ q, RdAt rb g bs q br w' := by
  subst hr; exact h

theorem numC {ad : Nat → Addr} {rb g : Nat} {bs : List UInt8} {pl : Nat} {w : World} (L : Lw ad w) (h : RdAt rb g bs pl .nilIface w) (most : Int) (rv mv nv : Nat) (x : Value) (hrv : w.heap[rv]? = some (.cells #[.pointer (some ⟨rb, 0, none⟩)] 58 (0, 0))) (hmv : w.heap[mv]? = some (.cells #[.int .i64 most] 3 (0, 0))) (hnv : w.heap[nv]? = some (.cells #[x] 3 (0, 0))) (hn : ¬ nv = rb) (hg : ¬ nv = g) :
    Calls Tryd.prog 34 #[.pointer (some ⟨rv, 0, none⟩), .pointer (some ⟨mv, 0, none⟩), .pointer (some ⟨nv, 0, none⟩)] w fun e w' => Kept [rb, nv] w w' ∧ match numR (bs.drop pl) most with
      | .ok (n, k) => e = .returned (.tuple #[]) ∧ RdAt rb g bs (pl + k) .nilIface w' ∧ w'.heap[nv]? = some (.cells #[.int .i64 n] 3 (0, 0))
      | .error c => e = gaveUp ad c ∧ (∃ q, RdAt rb g bs q .nilIface w') ∧ w'.heap[nv]? = some (.cells #[x] 3 (0, 0)) := by
  have c1 : w.cell? ⟨rv, 0, none⟩ = some (.pointer (some ⟨rb, 0, none⟩)) := by rw [cellW_of hrv]; rfl
  have c2 : w.cell? ⟨mv, 0, none⟩ = some (.int .i64 most) := by rw [cellW_of hmv]; rfl
  have HA : Aside (Lw ad w ∧ RdAt rb g bs pl .nilIface w ∧ w.heap[nv]? = some (.cells #[x] 3 (0, 0))) := ⟨L, h, hnv⟩
  clear L h hrv hmv hnv
  cases hr : numR (bs.drop pl) most with
  | error c =>
    have HR : Aside (numR (bs.drop pl) most = .error c) := hr
    clear hr
    go_enter Tryd.func34, Tryd.ntmps34
    go_wp2_with (go_at_call 35; refine (number_any HA.out.1 HA.out.2.1 most).mono ?_; intro e w2 h2; obtain ⟨rfl, hk2, hr2⟩ := numPost_err h2 HR.out)
    exact ⟨rfl, hk2.mono (by simp), rfl, hr2, hk2.heap HA.out.2.2 (by simpa using hn)⟩
  | ok y =>
    obtain ⟨n, k⟩ := y
    have HR : Aside (numR (bs.drop pl) most = .ok (n, k)) := hr
    clear hr
    go_enter Tryd.func34, Tryd.ntmps34
    go_wp2_with (go_at_call 35; refine (number_any HA.out.1 HA.out.2.1 most).mono ?_; intro e w2 h2; obtain ⟨rfl, hr2, hk2, L2⟩ := numPost_ok HA.out.1 HA.out.2.1.lo h2 HR.out; have hn2 : w2.heap[nv]? = some (.cells #[x] 3 (0, 0)) := hk2.heap HA.out.2.2 (by simpa using hn); have d1 : w2.cell? ⟨nv, 0, none⟩ = some x := (by rw [cellW_of hn2]; rfl); have d2 := frozenW_of hn2 0)
    go_end0
    exact ⟨(hk2.mono (by simp)).set (p := ⟨nv, 0, none⟩) (.inl (by simp)) _, rfl, hr2.kept (S := [nv]) ((Kept.refl _ _).set (p := ⟨nv, 0, none⟩) (.inl (by simp)) _) (by simpa using fun e => hn e.symm) (by simpa using fun e => hg e.symm), by rw [heap_setCell_at hn2]; rfl⟩
end Go.Proofs.YthabeapgkaggmaaDoor
