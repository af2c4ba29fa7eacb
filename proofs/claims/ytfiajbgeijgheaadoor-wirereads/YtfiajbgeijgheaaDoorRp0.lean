
/-
  The program's Reader and the document's, side by side.
-/
import Derived.Test.YtfiajbgeijgheaaDoorRf6
import Derived.Test.YtfiajbgeijgheaaDoorTsRefuse
import Derived.Test.YtfiajbgeijgheaaDoorRd4
namespace Go.Proofs.YtfiajbgeijgheaaDoor
open Go.RowKit
set_option maxRecDepth 100000

/-- The error that the program's Reader keeps. -/
def ErSt (ad : Nat → Addr) (w : World) (er : Value) : Option (ByteArray × Nat × Nat) → Prop
  | none => er = .nilIface
  | some (ca, p, c) => ∃ f, er = refv f ∧ c < 13 ∧ FaultAt ad f nmW ca (p : Int) c w
/-- Both Readers over the same bytes, at the same place, with the same refusal. -/
structure PairAt (ad : Nat → Addr) (rb g xb : Nat) (v : Value) (bs : List UInt8) (pl : Nat) (st : Option (ByteArray × Nat × Nat)) (er n0 n1 n2 : Value) (w : World) : Prop where
  rd : RdAt rb g bs pl er w
  xs : XsAt xb v bs pl st n0 n1 n2 w
  er : ErSt ad w er st
  ap : ∀ g o n c, v = .slice (some ⟨g, o, none⟩) n c → 0 < n → g ≠ rb

theorem rd_ne_xs {rb g xb : Nat} {v n0 n1 n2 er : Value} {bs : List UInt8} {pl q : Nat} {w : World} (h : RdAt rb g bs pl er w) (hx : RowAt xb #[v, .int .i64 (q : Int), n0, n1, n2] 56 w) : rb ≠ xb ∧ g ≠ xb := by
  have h1 := h.lies
  have h2 := h.raw
  unfold RowAt at hx
  constructor
  · intro e
    rw [e, hx] at h1
    simp at h1
  · intro e
    rw [e, hx] at h2
    simp at h2
theorem NoSt.ne_rd {rb g : Nat} {er n0 n1 n2 : Value} {bs : List UInt8} {pl : Nat} {st : Option (ByteArray × Nat × Nat)} {w : World} (h : NoSt w n0 n1 n2 st) (r : RdAt rb g bs pl er w) : ∀ b, n1 = .slice (some ⟨b, 0, none⟩) 1 1 ∨ n2 = .slice (some ⟨b, 0, none⟩) 1 1 → b ≠ rb := by
  have c0 := r.c0
  match st, h with
  | none, h => obtain ⟨_, rfl, rfl⟩ := h; intro b hb; simp at hb
  | some (_, _, _), ⟨x, x', _, e1, e2, h3, h4⟩ =>
    subst e1 e2
    intro b hb e
    subst e
    have a3 := h3.2 0 _ rfl
    have a4 := h4.2 0 _ rfl
    rcases hb with hb | hb
    · simp at hb
      subst hb
      rw [Nat.add_zero, c0] at a3; simp at a3
    · simp at hb
      subst hb
      rw [Nat.add_zero, c0] at a4; simp at a4
/-- The document's Reader, behind a step of the program's. -/
theorem PairAt.wire {ad : Nat → Addr} {rb g xb : Nat} {v : Value} {bs : List UInt8} {pl : Nat} {st : Option (ByteArray × Nat × Nat)} {er n0 n1 n2 : Value} {w w' : World} (h : PairAt ad rb g xb v bs pl st er n0 n1 n2 w) (k : Kept [rb] w w') : XsAt xb v bs pl st n0 n1 n2 w' := by
  have hn := (rd_ne_xs h.rd h.xs.at_.row).1
  exact ⟨⟨RowAt.kept h.xs.at_.row k (by simpa using fun e => hn e.symm), h.xs.at_.raw.keptX k (fun a o n c e => by simpa using h.ap a o n c e), h.xs.at_.le, h.xs.at_.lim⟩, h.xs.no.keptX (xb := rb) k (h.xs.no.ne_rd h.rd), h.xs.ap⟩
theorem FaultAt.ne_xs {ad : Nat → Addr} {f xb k q : Nat} {la ca : ByteArray} {p : Int} {v n0 n1 n2 : Value} {w : World} (h : FaultAt ad f la ca p k w) (hx : RowAt xb #[v, .int .i64 (q : Int), n0, n1, n2] 56 w) : f ≠ xb := by
  intro e
  unfold FaultAt RowAt at h
  unfold RowAt at hx
  rw [e, hx] at h
  simp at h
theorem FaultAt.ne_rd {ad : Nat → Addr} {f rb g k q : Nat} {la ca : ByteArray} {p : Int} {bs : List UInt8} {er : Value} {w : World} (h : FaultAt ad f la ca p k w) (r : RdAt rb g bs q er w) : f ≠ rb := by
  intro e
  have h1 := r.lies
  unfold FaultAt RowAt at h
  rw [← e, h] at h1
  simp at h1
theorem ErSt.ref {ad : Nat → Addr} {er : Value} {st : Option (ByteArray × Nat × Nat)} {xb q : Nat} {v n0 n1 n2 : Value} {w w' : World} (h : ErSt ad w er st) (hx : RowAt xb #[v, .int .i64 (q : Int), n0, n1, n2] 56 w) (k : Kept [xb] w w') : ErSt ad w' er st := by
  match st, h with
  | none, h => exact h
  | some (_, _, _), ⟨f, h1, h2, h3⟩ => exact ⟨f, h1, h2, RowAt.kept h3 k (by simpa using h3.ne_xs hx)⟩
/-- Both, behind a step of each. -/
theorem PairAt.both {ad : Nat → Addr} {rb g xb : Nat} {v : Value} {bs : List UInt8} {pl q : Nat} {st st' : Option (ByteArray × Nat × Nat)} {er er' n0 n1 n2 m0 m1 m2 : Value} {w w' w2 : World} (h : PairAt ad rb g xb v bs pl st er n0 n1 n2 w) (k : Kept [rb] w w') (hr : RdAt rb g bs q er' w') (he : ErSt ad w' er' st')
    (hx : XsAt xb v bs q st' m0 m1 m2 w2) (k2 : Kept [xb] w' w2) : PairAt ad rb g xb v bs q st' er' m0 m1 m2 w2 := by
  have x1 := h.wire k
  have hn := rd_ne_xs hr x1.at_.row
  exact ⟨hr.kept k2 (by simpa using hn.1) (by simpa using hn.2), hx, he.ref x1.at_.row k2, h.ap⟩
theorem PairAt.later {ad : Nat → Addr} {rb g xb : Nat} {v : Value} {bs : List UInt8} {pl : Nat} {st : Option (ByteArray × Nat × Nat)} {er n0 n1 n2 : Value} {w w' : World} (h : PairAt ad rb g xb v bs pl st er n0 n1 n2 w) (hb : Below w.heap.size w w') : PairAt ad rb g xb v bs pl st er n0 n1 n2 w' := by
  refine ⟨h.rd.kept (S := []) (.of hb) (by simp) (by simp), h.xs.later hb, ?_, h.ap⟩
  have he := h.er
  match st, he with
  | none, he => exact he
  | some (_, _, _), ⟨f, h1, h2, h3⟩ => exact ⟨f, h1, h2, RowAt.later h3 hb⟩
/-- What the program's Reader refuses is what the document's refuses. -/
theorem refused_pair {ad : Nat → Addr} {er n0 n1 n2 : Value} {st : Option (ByteArray × Nat × Nat)} {w : World} (L : Laid ad w) (he : ErSt ad w er st) (hn : NoSt w n0 n1 n2 st) :
    Calls Tryd.prog 15 #[er, .agg #[n0, n1, n2]] w fun e w' => e = .returned (.bool true) ∧ Below w.heap.size w w' := by
  match st, he, hn with
  | none, he, hn =>
    obtain ⟨rfl, rfl, rfl⟩ := hn
    subst he
    exact refused_none none none 0 0 0 0 w
  | some (ca, p, c), ⟨f, h1, h2, h3⟩, ⟨x, x', e0, e1, e2, c1, c2⟩ =>
    subst h1 e0 e1 e2
    exact refused_some L h3 h2 c1 c2
end Go.Proofs.YtfiajbgeijgheaaDoor
