
/-
  What (*Reader).Text reads.
-/
import Derived.Test.YteffpnjgchihpaaGreatDoorPB11
import Derived.Laws.IdiomStrings
namespace Go.Proofs.YteffpnjgchihpaaGreatDoor
open Go.RowKit
set_option maxRecDepth 100000

/-- P2.4: a text. -/
def txtR (bs : List UInt8) (most : Int) : Except Nat (ByteArray × Nat) :=
  match numR bs most with
  | .error c => .error c
  | .ok (n, k) => if bs.length - k < n then .error 6 else .ok (⟨((bs.drop k).take n).toArray⟩, k + n)

/-- How far the reading of a text has come: nothing; its length; its bytes; the variable holds it. -/
def TxtSt (ad : Nat → Addr) (rb g : Nat) (bs : List UInt8) (pl n k : Nat) (x : Value) (rv mv nv : Nat) (most : Int) (w : World) (s : Nat) (w' : World) : Prop :=
  (s ≤ 2 → Lw ad w') ∧ Kept [rb, nv] w w' ∧ w'.heap[rv]? = some (.cells #[.pointer (some ⟨rb, 0, none⟩)] 127 (0, 0)) ∧ w'.heap[mv]? = some (.cells #[.int .i64 most] 3 (0, 0)) ∧
    w'.heap[nv]? = some (.cells #[if s = 3 then .string ⟨((bs.drop (pl + k)).take n).toArray⟩ else x] 9 (0, 0)) ∧ RdAt rb g bs (if s = 0 then pl else if s = 1 then pl + k else pl + k + n) .nilIface w' ∧ (1 ≤ s → numR (bs.drop pl) most = .ok (n, k)) ∧ (2 ≤ s → n ≤ bs.length - (pl + k))

theorem take_exact {rb g : Nat} {bs : List UInt8} {pl : Nat} {br : Value} {w : World} (h : RdAt rb g bs pl br w) (n : Nat) (hn : n ≤ bs.length - pl) :
    Calls Tryz.prog 102 #[.pointer (some ⟨rb, 0, none⟩), .int .i64 n] w fun e w' => e = .returned (.slice (some ⟨g, if bs.length = pl then 0 else pl, none⟩) n (bs.length - pl)) ∧ ∃ m m', w' = ((w.drewN m).setCell ⟨rb, 1, none⟩ (.int .i64 (pl + n : Nat))).drewN m' := by
  have HR : Aside (RdAt rb g bs pl br w) := h
  have c0 := h.c0
  have c1 := h.c1
  have hfz := h.frozen 1
  have hg : ¬ ((bs.length - pl : Nat) : Int) < (n : Int) := by omega
  have he : wrap64 ((pl : Int) + (n : Int)) = ((pl + n : Nat) : Int) := by
    have hle := h.le
    have hlim := h.lim
    unfold wrap64; omega
  have e1 : (0:Int) ≤ (pl : Int) ∧ (pl : Int) ≤ ((pl + n : Nat) : Int) := by omega
  have e2 : ((pl + n : Nat) : Int) ≤ (bs.length : Int) := by have := h.le; omega
  clear h
  go_enter Tryz.func102, Tryz.ntmps102
  go_wp2_with (first | (go_at_call 87; refine (left_any HR.out).mono ?_; rintro e w1 ⟨rfl, m, rfl⟩))
  go_quiet (fail)
  go_wp2
  case inl hbp =>
    go_ret
    exact ⟨by simp, _, _, rfl⟩
  case inr hbp =>
    go_ret
    exact ⟨by simp, _, _, rfl⟩

theorem getD_flip {l : Array Bool} {i : Nat} {b : Bool} (h : l.getD i true = false) : l.getD i b = false := by
  simp only [Array.getD_eq_getD_getElem?] at h ⊢
  cases hx : l[i]? with
  | none => simp [hx] at h
  | some y => simpa [hx] using h

end Go.Proofs.YteffpnjgchihpaaGreatDoor
