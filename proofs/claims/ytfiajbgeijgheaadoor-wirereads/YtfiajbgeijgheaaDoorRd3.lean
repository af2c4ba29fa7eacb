
/-
  (*Reader).Number, Count, Text, Byte, End.
-/
import Derived.Test.YtfiajbgeijgheaaDoorAtt2
namespace Go.Proofs.YtfiajbgeijgheaaDoor
open Go.RowKit
set_option maxRecDepth 100000

/-- The refusal that a Reader keeps. -/
abbrev refv (f : Nat) : Value := .iface 94 (.pointer (some ⟨f, 0, none⟩))

/-- What a reading function leaves: 'z' is the zero that it answers beside a refusal. -/
def RdOut (ad : Nat → Addr) (rb g : Nat) (bs : List UInt8) (pl : Nat) (name : ByteArray) (w : World) (tup : Value → Value → Value) (z : Value) (res : Except Nat (Value × Nat)) (e : Ending) (w' : World) : Prop := Kept [rb] w w' ∧ match res with
  | .ok (v, k) => e = .returned (tup v .nilIface) ∧ RdAt rb g bs (pl + k) .nilIface w'
  | .error c => ∃ f, w.heap.size ≤ f ∧ e = .returned (tup z (refv f)) ∧ RdAt rb g bs pl (refv f) w' ∧ w'.heap[f]? = some (.cells #[.string ⟨#[119, 105, 114, 101]⟩, .string name, .int .i64 pl, rsn ad c] 96 (0, 0))

theorem rdPost_ok {ad : Nat → Addr} {rb g : Nat} {bs : List UInt8} {pl : Nat} {br : Value} {w : World} {res : Except Nat (Value × Nat)} {v : Value} {k : Nat} {e : Ending} {w' : World} (h : RdPost ad rb g bs pl br w res e w') (hr : res = .ok (v, k)) : Kept [rb] w w' ∧ e = .returned v ∧ RdAt rb g bs (pl + k) br w' := by
  subst hr; exact h
theorem rdPost_err {ad : Nat → Addr} {rb g : Nat} {bs : List UInt8} {pl : Nat} {br : Value} {w : World} {res : Except Nat (Value × Nat)} {c : Nat} {e : Ending} {w' : World} (h : RdPost ad rb g bs pl br w res e w') (hr : res = .error c) : Kept [rb] w w' ∧ e = gaveUp ad c ∧ ∃ q, RdAt rb g bs q br w' := by
  subst hr; exact h

theorem numC {ad : Nat → Addr} {rb g : Nat} {bs : List UInt8} {pl : Nat} {w : World} (L : Lw ad w) (h : RdAt rb g bs pl .nilIface w) (most : Int) (rv mv nv : Nat) (x : Value) (hrv : w.heap[rv]? = some (.cells #[.pointer (some ⟨rb, 0, none⟩)] 51 (0, 0))) (hmv : w.heap[mv]? = some (.cells #[.int .i64 most] 3 (0, 0))) (hnv : w.heap[nv]? = some (.cells #[x] 3 (0, 0))) (hn : ¬ nv = rb) (hg : ¬ nv = g) :
    Calls Tryd.prog 54 #[.pointer (some ⟨rv, 0, none⟩), .pointer (some ⟨mv, 0, none⟩), .pointer (some ⟨nv, 0, none⟩)] w fun e w' => Kept [rb, nv] w w' ∧ match numR (bs.drop pl) most with
      | .ok (n, k) => e = .returned (.tuple #[]) ∧ RdAt rb g bs (pl + k) .nilIface w' ∧ w'.heap[nv]? = some (.cells #[.int .i64 n] 3 (0, 0))
      | .error c => e = gaveUp ad c ∧ (∃ q, RdAt rb g bs q .nilIface w') ∧ w'.heap[nv]? = some (.cells #[x] 3 (0, 0)) := by
  have c1 : w.cell? ⟨rv, 0, none⟩ = some (.pointer (some ⟨rb, 0, none⟩)) := by rw [cellW_of hrv]; rfl
  have c2 : w.cell? ⟨mv, 0, none⟩ = some (.int .i64 most) := by rw [cellW_of hmv]; rfl
  have HA : Aside (Lw ad w ∧ RdAt rb g bs pl .nilIface w ∧ w.heap[nv]? = some (.cells #[x] 3 (0, 0))) := ⟨L, h, hnv⟩
  clear L h hrv hmv hnv
  cases hr : numR (bs.drop pl) most with
  | error c =>
    have HR : Aside (numR (bs.drop pl) most = .error c) := hr
    clear hr
    go_enter Tryd.func54, Tryd.ntmps54
    go_wp2_with (go_at_call 55; refine (number_any HA.out.1 HA.out.2.1 most).mono ?_; intro e w2 h2; obtain ⟨rfl, hk2, hr2⟩ := numPost_err h2 HR.out)
    exact ⟨rfl, hk2.mono (by simp), rfl, hr2, hk2.heap HA.out.2.2 (by simpa using hn)⟩
  | ok y =>
    obtain ⟨n, k⟩ := y
    have HR : Aside (numR (bs.drop pl) most = .ok (n, k)) := hr
    clear hr
    go_enter Tryd.func54, Tryd.ntmps54
    go_wp2_with (go_at_call 55; refine (number_any HA.out.1 HA.out.2.1 most).mono ?_; intro e w2 h2; obtain ⟨rfl, hr2, hk2, L2⟩ := numPost_ok HA.out.1 HA.out.2.1.lo h2 HR.out; have hn2 : w2.heap[nv]? = some (.cells #[x] 3 (0, 0)) := hk2.heap HA.out.2.2 (by simpa using hn); have d1 : w2.cell? ⟨nv, 0, none⟩ = some x := (by rw [cellW_of hn2]; rfl); have d2 := frozenW_of hn2 0)
    go_end0
    exact ⟨(hk2.mono (by simp)).set (p := ⟨nv, 0, none⟩) (.inl (by simp)) _, rfl, hr2.kept (S := [nv]) ((Kept.refl _ _).set (p := ⟨nv, 0, none⟩) (.inl (by simp)) _) (by simpa using fun e => hn e.symm) (by simpa using fun e => hg e.symm), by rw [heap_setCell_at hn2]; rfl⟩
theorem cntC {ad : Nat → Addr} {rb g : Nat} {bs : List UInt8} {pl : Nat} {w : World} (L : Lw ad w) (h : RdAt rb g bs pl .nilIface w) (least most : Int) (hl1 : -9223372036854775808 ≤ least) (hl2 : least ≤ 9223372036854775807) (rv lv mv nv : Nat) (x : Value) (hrv : w.heap[rv]? = some (.cells #[.pointer (some ⟨rb, 0, none⟩)] 51 (0, 0))) (hlv : w.heap[lv]? = some (.cells #[.int .i64 least] 3 (0, 0))) (hmv : w.heap[mv]? = some (.cells #[.int .i64 most] 3 (0, 0))) (hnv : w.heap[nv]? = some (.cells #[x] 3 (0, 0))) (hn : ¬ nv = rb) (hg : ¬ nv = g) :
    Calls Tryd.prog 61 #[.pointer (some ⟨rv, 0, none⟩), .pointer (some ⟨lv, 0, none⟩), .pointer (some ⟨mv, 0, none⟩), .pointer (some ⟨nv, 0, none⟩)] w fun e w' => Kept [rb, nv] w w' ∧ match cntR (bs.drop pl) least most with
      | .ok (n, k) => e = .returned (.tuple #[]) ∧ RdAt rb g bs (pl + k) .nilIface w' ∧ w'.heap[nv]? = some (.cells #[.int .i64 n] 3 (0, 0))
      | .error c => e = gaveUp ad c ∧ (∃ q, RdAt rb g bs q .nilIface w') ∧ w'.heap[nv]? = some (.cells #[x] 3 (0, 0)) := by
  have c1 : w.cell? ⟨rv, 0, none⟩ = some (.pointer (some ⟨rb, 0, none⟩)) := by rw [cellW_of hrv]; rfl
  have c3 : w.cell? ⟨lv, 0, none⟩ = some (.int .i64 least) := by rw [cellW_of hlv]; rfl
  have c2 : w.cell? ⟨mv, 0, none⟩ = some (.int .i64 most) := by rw [cellW_of hmv]; rfl
  have HA : Aside (Lw ad w ∧ RdAt rb g bs pl .nilIface w ∧ w.heap[nv]? = some (.cells #[x] 3 (0, 0))) := ⟨L, h, hnv⟩
  have HL : Aside (-9223372036854775808 ≤ least ∧ least ≤ 9223372036854775807) := ⟨hl1, hl2⟩
  clear L h hrv hmv hlv hnv hl1 hl2
  cases hr : cntR (bs.drop pl) least most with
  | error c =>
    have HR : Aside (cntR (bs.drop pl) least most = .error c) := hr
    clear hr
    go_enter Tryd.func61, Tryd.ntmps61
    go_wp2_with (go_at_call 62; refine (count_any HA.out.1 HA.out.2.1 least most HL.out.1 HL.out.2).mono ?_; intro e w2 h2; obtain ⟨hk2, rfl, hr2⟩ := rdPost_err (c := c) h2 (by rw [HR.out]; rfl))
    exact ⟨rfl, hk2.mono (by simp), rfl, hr2, hk2.heap HA.out.2.2 (by simpa using hn)⟩
  | ok y =>
    obtain ⟨n, k⟩ := y
    have HR : Aside (cntR (bs.drop pl) least most = .ok (n, k)) := hr
    clear hr
    go_enter Tryd.func61, Tryd.ntmps61
    go_wp2_with (go_at_call 62; refine (count_any HA.out.1 HA.out.2.1 least most HL.out.1 HL.out.2).mono ?_; intro e w2 h2; obtain ⟨hk2, rfl, hr2⟩ := rdPost_ok (v := .int .i64 n) (k := k) h2 (by rw [HR.out]; rfl); have hn2 : w2.heap[nv]? = some (.cells #[x] 3 (0, 0)) := hk2.heap HA.out.2.2 (by simpa using hn); have d1 : w2.cell? ⟨nv, 0, none⟩ = some x := (by rw [cellW_of hn2]; rfl); have d2 := frozenW_of hn2 0)
    go_end0
    exact ⟨(hk2.mono (by simp)).set (p := ⟨nv, 0, none⟩) (.inl (by simp)) _, rfl, hr2.kept (S := [nv]) ((Kept.refl _ _).set (p := ⟨nv, 0, none⟩) (.inl (by simp)) _) (by simpa using fun e => hn e.symm) (by simpa using fun e => hg e.symm), by rw [heap_setCell_at hn2]; rfl⟩
/-- P2.4: a byte. -/
def byteR : List UInt8 → Except Nat (Nat × Nat)
  | [] => .error 6
  | b :: _ => .ok (b.toNat, 1)

theorem byteC {ad : Nat → Addr} {rb g : Nat} {bs : List UInt8} {pl : Nat} {w : World} (L : Lw ad w) (h : RdAt rb g bs pl .nilIface w) (rv nv : Nat) (x : Value) (hrv : w.heap[rv]? = some (.cells #[.pointer (some ⟨rb, 0, none⟩)] 51 (0, 0))) (hnv : w.heap[nv]? = some (.cells #[x] 5 (0, 0))) (hn : ¬ nv = rb) (hg : ¬ nv = g) :
    Calls Tryd.prog 60 #[.pointer (some ⟨rv, 0, none⟩), .pointer (some ⟨nv, 0, none⟩)] w fun e w' => Kept [rb, nv] w w' ∧ match byteR (bs.drop pl) with
      | .ok (n, k) => e = .returned (.tuple #[]) ∧ RdAt rb g bs (pl + k) .nilIface w' ∧ w'.heap[nv]? = some (.cells #[.int .u8 n] 5 (0, 0))
      | .error c => e = gaveUp ad c ∧ (∃ q, RdAt rb g bs q .nilIface w') ∧ w'.heap[nv]? = some (.cells #[x] 5 (0, 0)) := by
  have c1 : w.cell? ⟨rv, 0, none⟩ = some (.pointer (some ⟨rb, 0, none⟩)) := by rw [cellW_of hrv]; rfl
  have HA : Aside (Lw ad w ∧ RdAt rb g bs pl .nilIface w ∧ w.heap[nv]? = some (.cells #[x] 5 (0, 0))) := ⟨L, h, hnv⟩
  have hle := h.le
  clear L h hrv hnv
  cases hd : bs.drop pl with
  | nil =>
    have hsh : ((bs.length - pl : Nat) : Int) < 1 := by have := congrArg List.length hd; simp at this; omega
    have HD : Aside (((bs.length - pl : Nat) : Int) < 1) := hsh
    clear hd
    simp only [byteR]
    go_enter Tryd.func60, Tryd.ntmps60
    go_wp2_with (go_at_call 59; refine (take_at_short HA.out.1 HA.out.2.1 1 HD.out).mono ?_; rintro e w2 ⟨rfl, hr2, hk2⟩)
    exact ⟨rfl, hk2.mono (by simp), rfl, ⟨_, hr2⟩, hk2.heap HA.out.2.2 (by simpa using hn)⟩
  | cons b r =>
    have hb : bs[pl]? = some b := by have := congrArg (fun l => l[0]?) hd; simpa using this
    have hlt : pl < bs.length := (List.getElem?_eq_some_iff.1 hb).1
    have HD : Aside (bs[pl]? = some b ∧ 1 ≤ bs.length - pl) := ⟨hb, by omega⟩
    clear hd hb
    simp only [byteR]
    go_enter Tryd.func60, Tryd.ntmps60
    go_wp2_with (go_at_call 59; refine (take_at_ok HA.out.1 HA.out.2.1 1 HD.out.2).mono ?_; rintro e w2 ⟨o, rfl, ho, hr2, hk2, L2⟩; have ho' := ho (by decide); clear ho; subst ho'; have cb := hr2.byte _ _ HD.out.1; have hn2 : w2.heap[nv]? = some (.cells #[x] 5 (0, 0)) := hk2.heap HA.out.2.2 (by simpa using hn); have d1 : w2.cell? ⟨nv, 0, none⟩ = some x := (by rw [cellW_of hn2]; rfl); have d2 := frozenW_of hn2 0)
    go_end0
    exact ⟨(hk2.mono (by simp)).set (p := ⟨nv, 0, none⟩) (.inl (by simp)) _, rfl, hr2.kept (S := [nv]) ((Kept.refl _ _).set (p := ⟨nv, 0, none⟩) (.inl (by simp)) _) (by simpa using fun e => hn e.symm) (by simpa using fun e => hg e.symm), by rw [heap_setCell_at hn2]; rfl⟩

/-- P2.4: the end. -/
def endR : List UInt8 → Except Nat (Unit × Nat)
  | [] => .ok ((), 0)
  | _ :: _ => .error 5

theorem endC {ad : Nat → Addr} {rb g : Nat} {bs : List UInt8} {pl : Nat} {w : World} (L : Lw ad w) (h : RdAt rb g bs pl .nilIface w) (rv : Nat) (hrv : w.heap[rv]? = some (.cells #[.pointer (some ⟨rb, 0, none⟩)] 51 (0, 0))) :
    Calls Tryd.prog 63 #[.pointer (some ⟨rv, 0, none⟩)] w fun e w' => Kept [rb] w w' ∧ match endR (bs.drop pl) with
      | .ok (_, k) => e = .returned (.tuple #[]) ∧ RdAt rb g bs (pl + k) .nilIface w'
      | .error c => e = gaveUp ad c ∧ (∃ q, RdAt rb g bs q .nilIface w') := by
  have c1 : w.cell? ⟨rv, 0, none⟩ = some (.pointer (some ⟨rb, 0, none⟩)) := by rw [cellW_of hrv]; rfl
  have h5 : w.cell? ⟨1, 0, none⟩ = some (rsn ad 5) := L.var 5 (by decide)
  have HA : Aside (RdAt rb g bs pl .nilIface w) := h
  have hle := h.le
  clear L h hrv
  cases hd : bs.drop pl with
  | nil =>
    have h0 : ¬ (0 : Int) < ((bs.length - pl : Nat) : Int) := by have := congrArg List.length hd; simp at this; omega
    clear hd
    simp only [endR]
    go_enter Tryd.func63, Tryd.ntmps63
    go_wp2_with (go_at_call 26; refine (left_any HA.out).mono ?_; rintro e w2 ⟨rfl, m, rfl⟩)
    go_end0
    exact ⟨(Kept.refl _ _).drewN m, rfl, HA.out.drewN m⟩
  | cons b r =>
    have h0 : (0 : Int) < ((bs.length - pl : Nat) : Int) := by have := congrArg List.length hd; simp at this; omega
    clear hd
    simp only [endR]
    go_enter Tryd.func63, Tryd.ntmps63
    go_wp2_with (first | (go_at_call 26; refine (left_any HA.out).mono ?_; rintro e w2 ⟨rfl, m, rfl⟩) | (go_at_call 64; refine (giveUp_any _ _).mono ?_; rintro e w3 ⟨rfl, rfl⟩))
    exact ⟨rfl, (Kept.refl _ _).drewN m, rfl, _, HA.out.drewN m⟩

end Go.Proofs.YtfiajbgeijgheaaDoor
