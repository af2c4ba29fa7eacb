
/-
  barrowlaw02.WireStays answers true.
-/
import Derived.Test.YtfiajbgeijgheaaDoorWk
namespace Go.Proofs.YtfiajbgeijgheaaDoor
open Go.RowKit
set_option maxRecDepth 100000

/-- What any reading function leaves: its refusal is the Reader's; one that was there stays. -/
def StOut (rb g : Nat) (bs : List UInt8) (br : Value) (w : World) (tup : Value → Value → Value) (e : Ending) (w' : World) : Prop :=
  ∃ v br' pl', e = .returned (tup v br') ∧ RdAt rb g bs pl' br' w' ∧ Kept [rb] w w' ∧ (br' = .nilIface ∨ ∃ f, br' = refv f) ∧ (br = .nilIface ∨ br' = br)

theorem stOut_of {ad : Nat → Addr} {rb g : Nat} {bs : List UInt8} {pl : Nat} {name : ByteArray} {w : World} {tup : Value → Value → Value} {z : Value} {res : Except Nat (Value × Nat)} {e : Ending} {w' : World} (h : RdOut ad rb g bs pl name w tup z res e w') : StOut rb g bs .nilIface w tup e w' := by
  obtain ⟨hk, h⟩ := h
  cases res with
  | ok x => exact ⟨x.1, .nilIface, pl + x.2, h.1, h.2, hk, .inl rfl, .inl rfl⟩
  | error c =>
    obtain ⟨f, _, he, hr, _⟩ := h
    exact ⟨z, refv f, pl, he, hr, hk, .inr ⟨f, rfl⟩, .inl rfl⟩
theorem stOut_broken {rb g : Nat} {bs : List UInt8} {pl f : Nat} {w : World} {tup : Value → Value → Value} {z : Value} {e : Ending} {w' : World} (hr : RdAt rb g bs pl (refv f) w) (h : e = .returned (tup z (refv f)) ∧ Below w.heap.size w w') : StOut rb g bs (refv f) w tup e w' :=
  ⟨z, refv f, pl, h.1, hr.kept (S := []) (.of h.2) (by simp) (by simp), .of h.2, .inr ⟨f, rfl⟩, .inr rfl⟩

theorem number_st {ad : Nat → Addr} {rb g : Nat} {bs : List UInt8} {pl : Nat} {br : Value} {w : World} (L : Lw ad w) (h : RdAt rb g bs pl br w) (hb : br = .nilIface ∨ ∃ f, br = refv f) (most : Int) :
    Calls Tryd.prog 39 #[.pointer (some ⟨rb, 0, none⟩), .int .i64 most] w (StOut rb g bs br w (fun a b => .tuple #[a, b])) := by
  rcases hb with rfl | ⟨f, rfl⟩
  · exact (Number_any L h most).mono fun _ _ => stOut_of
  · exact (Number_broken h most).mono fun _ _ => stOut_broken (tup := fun a b => .tuple #[a, b]) (z := .int .i64 0) h
theorem text_st {ad : Nat → Addr} {rb g : Nat} {bs : List UInt8} {pl : Nat} {br : Value} {w : World} (L : Lw ad w) (h : RdAt rb g bs pl br w) (hb : br = .nilIface ∨ ∃ f, br = refv f) (most : Int) :
    Calls Tryd.prog 41 #[.pointer (some ⟨rb, 0, none⟩), .int .i64 most] w (StOut rb g bs br w (fun a b => .tuple #[a, b])) := by
  rcases hb with rfl | ⟨f, rfl⟩
  · exact (Text_any L h most).mono fun _ _ => stOut_of
  · exact (Text_broken h most).mono fun _ _ => stOut_broken (tup := fun a b => .tuple #[a, b]) (z := .string ⟨#[]⟩) h
theorem byte_st {ad : Nat → Addr} {rb g : Nat} {bs : List UInt8} {pl : Nat} {br : Value} {w : World} (L : Lw ad w) (h : RdAt rb g bs pl br w) (hb : br = .nilIface ∨ ∃ f, br = refv f) :
    Calls Tryd.prog 43 #[.pointer (some ⟨rb, 0, none⟩)] w (StOut rb g bs br w (fun a b => .tuple #[a, b])) := by
  rcases hb with rfl | ⟨f, rfl⟩
  · exact (Byte_any L h).mono fun _ _ => stOut_of
  · exact (Byte_broken h).mono fun _ _ => stOut_broken (tup := fun a b => .tuple #[a, b]) (z := .int .u8 0) h
theorem count_st {ad : Nat → Addr} {rb g : Nat} {bs : List UInt8} {pl : Nat} {br : Value} {w : World} (L : Lw ad w) (h : RdAt rb g bs pl br w) (hb : br = .nilIface ∨ ∃ f, br = refv f) (least most : Int) (h1 : -9223372036854775808 ≤ least) (h2 : least ≤ 9223372036854775807) :
    Calls Tryd.prog 45 #[.pointer (some ⟨rb, 0, none⟩), .int .i64 least, .int .i64 most] w (StOut rb g bs br w (fun a b => .tuple #[a, b])) := by
  rcases hb with rfl | ⟨f, rfl⟩
  · exact (Count_any L h least most h1 h2).mono fun _ _ => stOut_of
  · exact (Count_broken h least most).mono fun _ _ => stOut_broken (tup := fun a b => .tuple #[a, b]) (z := .int .i64 0) h
theorem end_st {ad : Nat → Addr} {rb g : Nat} {bs : List UInt8} {pl : Nat} {br : Value} {w : World} (L : Lw ad w) (h : RdAt rb g bs pl br w) (hb : br = .nilIface ∨ ∃ f, br = refv f) :
    Calls Tryd.prog 47 #[.pointer (some ⟨rb, 0, none⟩)] w (StOut rb g bs br w (fun _ b => b)) := by
  rcases hb with rfl | ⟨f, rfl⟩
  · exact (End_any L h).mono fun _ _ => stOut_of
  · exact (End_broken h).mono fun _ _ => stOut_broken (tup := fun _ b => b) (z := .nilIface) h

/-- A call that came in. -/
structure Cl where
  kind : Int
  least : Int
  most : Int

/-- The row of calls, in memory. -/
def SlC (w : World) (v : Value) (cl : List Cl) : Prop :=
  (cl = [] ∧ ∃ a c, v = .slice a 0 c) ∨ ∃ g o c, v = .slice (some ⟨g, o, none⟩) cl.length c ∧ g < w.heap.size ∧ ∀ i x, cl[i]? = some x → (-9223372036854775808 ≤ x.least ∧ x.least ≤ 9223372036854775807) ∧ w.cell? ⟨g, o + i * 3, none⟩ = some (.int .i64 x.kind) ∧ w.cell? ⟨g, o + i * 3 + 1, none⟩ = some (.int .i64 x.least) ∧ w.cell? ⟨g, o + i * 3 + 2, none⟩ = some (.int .i64 x.most)

/-- What stands between two rounds. -/
structure StInv (ad : Nat → Addr) (rb g : Nat) (bs : List UInt8) (w : World) (br : Value) (wr : World) : Prop where
  rd : ∃ pl, RdAt rb g bs pl br wr
  br : br = .nilIface ∨ ∃ f, br = refv f
  lw : Lw ad wr
  bel : Below w.heap.size w wr

theorem StInv.next {ad : Nat → Addr} {rb g : Nat} {bs : List UInt8} {w : World} {br : Value} {wr : World} (h : StInv ad rb g bs w br wr) (o : Obj) {wx : World} {v' br' : Value} {pl' : Nat} (hrb : w.heap.size ≤ rb) (hr : RdAt rb g bs pl' br' wx) (hk : Kept [rb] (wr.alloc o) wx) (hb : br' = .nilIface ∨ ∃ f, br' = refv f) (_ : v' = v') : StInv ad rb g bs w br' wx := by
  have hb0 : Below w.heap.size w (wr.alloc o) := h.bel.alloc h.bel.size o
  refine ⟨⟨pl', hr⟩, hb, (h.lw.kept (S := []) ((Kept.refl _ wr).alloc o) (by simp)).kept hk (by simpa using hr.lo), hb0.trans (hk.below (by simpa using hrb) hb0.size)⟩

end Go.Proofs.YtfiajbgeijgheaaDoor
