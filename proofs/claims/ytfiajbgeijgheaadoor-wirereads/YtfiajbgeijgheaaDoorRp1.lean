
/-
  One reading: what the program's Reader leaves, and the document's.
-/
import Derived.Test.YtfiajbgeijgheaaDoorRp0
namespace Go.Proofs.YtfiajbgeijgheaaDoor
open Go.RowKit
set_option maxRecDepth 100000

abbrev StO := Option (ByteArray × Nat × Nat)
/-- What a reading answers, where it leaves the place, what it has refused. -/
def resS (z : Value) (nm : ByteArray) (pl : Nat) (res : Except Nat (Value × Nat)) : StO → Value × Nat × StO
  | some s => (z, pl, some s)
  | none => match res with
    | .ok (v, k) => (v, pl + k, none)
    | .error c => (z, pl, some (nm, pl, c))
def tp (a b : Value) : Value := .tuple #[a, b]
def WOut (ad : Nat → Addr) (rb g : Nat) (bs : List UInt8) (tup : Value → Value → Value) (w : World) (r : Value × Nat × StO) (e : Ending) (w' : World) : Prop :=
  ∃ er, e = .returned (tup r.1 er) ∧ RdAt rb g bs r.2.1 er w' ∧ ErSt ad w' er r.2.2 ∧ Kept [rb] w w'
def XOut (xb : Nat) (v : Value) (bs : List UInt8) (tup : Value → Value → Value) (w : World) (r : Value × Nat × StO) (e : Ending) (w' : World) : Prop :=
  ∃ m0 m1 m2, e = .returned (tup r.1 (.agg #[m0, m1, m2])) ∧ XsAt xb v bs r.2.1 r.2.2 m0 m1 m2 w' ∧ Kept [xb] w w'
theorem wo_of {ad : Nat → Addr} {rb g : Nat} {bs : List UInt8} {pl : Nat} {name : ByteArray} {w w' : World} {tup : Value → Value → Value} {z : Value} {res : Except Nat (Value × Nat)} {e : Ending} (h : RdOut ad rb g bs pl name w tup z res e w') (hc : ∀ c, res = .error c → c < 13) :
    WOut ad rb g bs tup w (resS z name pl res none) e w' := by
  obtain ⟨k, h⟩ := h
  match res, h, hc with
  | .ok (v, n), ⟨h1, h2⟩, _ => exact ⟨.nilIface, h1, h2, rfl, k⟩
  | .error c, ⟨f, _, h1, h2, h3⟩, hc => exact ⟨refv f, h1, h2, ⟨f, rfl, hc c rfl, h3⟩, k⟩
theorem wo_broken {ad : Nat → Addr} {rb g f : Nat} {bs : List UInt8} {pl p c : Nat} {ca name : ByteArray} {w w' : World} {tup : Value → Value → Value} {z : Value} {res : Except Nat (Value × Nat)} {e : Ending} (h : RdAt rb g bs pl (refv f) w) (hc : c < 13) (hf : FaultAt ad f nmW ca (p : Int) c w)
    (ho : e = .returned (tup z (refv f)) ∧ Below w.heap.size w w') : WOut ad rb g bs tup w (resS z name pl res (some (ca, p, c))) e w' :=
  ⟨refv f, ho.1, h.kept (S := []) (.of ho.2) (by simp) (by simp), ⟨f, rfl, hc, RowAt.later hf ho.2⟩, .of (ho.2)⟩
theorem map_err {α β : Type} {r : Except Nat α} {f : α → β} {c : Nat} (h : r.map f = .error c) : r = .error c := by
  cases r with
  | error d => simpa [Except.map] using h
  | ok x => simp [Except.map] at h
theorem cntR_err {bs : List UInt8} {least most : Int} {c : Nat} (h : cntR bs least most = .error c) : c < 13 := by
  unfold cntR at h
  split at h
  · rename_i d hd
    have := numR_err hd
    cases h; omega
  · split at h <;> split at h <;> cases h <;> omega
theorem txtR_err {bs : List UInt8} {most : Int} {c : Nat} (h : txtR bs most = .error c) : c < 13 := by
  unfold txtR at h
  split at h
  · rename_i d hd
    have := numR_err hd
    cases h; omega
  · split at h
    · cases h; omega
    · cases h
theorem wo_Number {ad : Nat → Addr} {rb g : Nat} {bs : List UInt8} {pl : Nat} {er : Value} {st : StO} {w : World} (L : Lw ad w) (h : RdAt rb g bs pl er w) (he : ErSt ad w er st) (most : Int) :
    Calls Tryd.prog 39 #[.pointer (some ⟨rb, 0, none⟩), .int .i64 most] w (WOut ad rb g bs tp w (resS (.int .i64 0) ⟨#[78, 117, 109, 98, 101, 114]⟩ pl ((numR (bs.drop pl) most).map fun x => (.int .i64 x.1, x.2)) st)) := by
  match st, he with
  | none, he => subst he; exact (Number_any L h most).mono fun e w' ho => wo_of ho fun c hc => by have := numR_err (map_err hc); omega
  | some (ca, p, c), ⟨f, e1, e2, e3⟩ => subst e1; exact (Number_broken h most).mono fun e w' ho => wo_broken h e2 e3 ho
theorem wo_Text {ad : Nat → Addr} {rb g : Nat} {bs : List UInt8} {pl : Nat} {er : Value} {st : StO} {w : World} (L : Lw ad w) (h : RdAt rb g bs pl er w) (he : ErSt ad w er st) (most : Int) :
    Calls Tryd.prog 41 #[.pointer (some ⟨rb, 0, none⟩), .int .i64 most] w (WOut ad rb g bs tp w (resS (.string ⟨#[]⟩) ⟨#[84, 101, 120, 116]⟩ pl ((txtR (bs.drop pl) most).map fun x => (.string x.1, x.2)) st)) := by
  match st, he with
  | none, he => subst he; exact (Text_any L h most).mono fun e w' ho => wo_of ho fun c hc => txtR_err (map_err hc)
  | some (ca, p, c), ⟨f, e1, e2, e3⟩ => subst e1; exact (Text_broken h most).mono fun e w' ho => wo_broken h e2 e3 ho
theorem wo_Byte {ad : Nat → Addr} {rb g : Nat} {bs : List UInt8} {pl : Nat} {er : Value} {st : StO} {w : World} (L : Lw ad w) (h : RdAt rb g bs pl er w) (he : ErSt ad w er st)  :
    Calls Tryd.prog 43 #[.pointer (some ⟨rb, 0, none⟩)] w (WOut ad rb g bs tp w (resS (.int .u8 0) ⟨#[66, 121, 116, 101]⟩ pl ((byteR (bs.drop pl)).map fun x => (.int .u8 x.1, x.2)) st)) := by
  match st, he with
  | none, he => subst he; exact (Byte_any L h ).mono fun e w' ho => wo_of ho fun c hc => by have h := map_err hc; unfold byteR at h; split at h <;> cases h; decide
  | some (ca, p, c), ⟨f, e1, e2, e3⟩ => subst e1; exact (Byte_broken h ).mono fun e w' ho => wo_broken h e2 e3 ho
theorem wo_Count {ad : Nat → Addr} {rb g : Nat} {bs : List UInt8} {pl : Nat} {er : Value} {st : StO} {w : World} (L : Lw ad w) (h : RdAt rb g bs pl er w) (he : ErSt ad w er st) (least most : Int) (hl1 : -9223372036854775808 ≤ least) (hl2 : least ≤ 9223372036854775807) :
    Calls Tryd.prog 45 #[.pointer (some ⟨rb, 0, none⟩), .int .i64 least, .int .i64 most] w (WOut ad rb g bs tp w (resS (.int .i64 0) ⟨#[67, 111, 117, 110, 116]⟩ pl ((cntR (bs.drop pl) least most).map fun x => (.int .i64 x.1, x.2)) st)) := by
  match st, he with
  | none, he => subst he; exact (Count_any L h least most hl1 hl2).mono fun e w' ho => wo_of ho fun c hc => cntR_err (map_err hc)
  | some (ca, p, c), ⟨f, e1, e2, e3⟩ => subst e1; exact (Count_broken h least most).mono fun e w' ho => wo_broken h e2 e3 ho
theorem wo_End {ad : Nat → Addr} {rb g : Nat} {bs : List UInt8} {pl : Nat} {er : Value} {st : StO} {w : World} (L : Lw ad w) (h : RdAt rb g bs pl er w) (he : ErSt ad w er st)  :
    Calls Tryd.prog 47 #[.pointer (some ⟨rb, 0, none⟩)] w (WOut ad rb g bs (fun _ b => b) w (resS Value.nilIface ⟨#[69, 110, 100]⟩ pl ((endR (bs.drop pl)).map fun x => (.nilIface, x.2)) st)) := by
  match st, he with
  | none, he => subst he; exact (End_any L h ).mono fun e w' ho => wo_of ho fun c hc => by have h := map_err hc; unfold endR at h; split at h <;> cases h; decide
  | some (ca, p, c), ⟨f, e1, e2, e3⟩ => subst e1; exact (End_broken h ).mono fun e w' ho => wo_broken h e2 e3 ho
end Go.Proofs.YtfiajbgeijgheaaDoor
