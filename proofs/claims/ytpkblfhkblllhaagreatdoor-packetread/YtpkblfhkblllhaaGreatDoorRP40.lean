
/-
  One reading of the document's Reader (wire's), whatever has been refused. barrowref09.Reader: Bad, form, Number, Count, Byte.
-/
import Derived.Test.YtpkblfhkblllhaaGreatDoorRP39
namespace Go.Proofs.YtpkblfhkblllhaaGreatDoor
open Go.RowKit
set_option maxRecDepth 100000

abbrev StO := Option (ByteArray × Nat × Nat)
/-- What a reading answers, where it leaves the place, what it has refused. -/
def resS (z : Value) (nm : ByteArray) (pl : Nat) (res : Except Nat (Value × Nat)) : StO → Value × Nat × StO
  | some s => (z, pl, some s)
  | none => match res with
    | .ok (v, k) => (v, pl + k, none)
    | .error c => (z, pl, some (nm, pl, c))
def tp (a b : Value) : Value := .tuple #[a, b]
def XOut (xb : Nat) (v : Value) (bs : List UInt8) (tup : Value → Value → Value) (w : World) (r : Value × Nat × StO) (e : Ending) (w' : World) : Prop :=
  ∃ m0 m1 m2, e = .returned (tup r.1 (.agg #[m0, m1, m2])) ∧ XsAt xb v bs r.2.1 r.2.2 m0 m1 m2 w' ∧ Kept [xb] w w'
theorem xo_Number {xb : Nat} {v n0 n1 n2 : Value} {bs : List UInt8} {pl : Nat} {st : StO} {w : World} (h : XsAt xb v bs pl st n0 n1 n2 w) (most : Int) :
    Calls Tryz.prog 37 #[.pointer (some ⟨xb, 0, none⟩), .int .i64 most] w (XOut xb v bs tp w (resS (.int .i64 0) ⟨#[78, 117, 109, 98, 101, 114]⟩ pl ((numR (bs.drop pl) most).map fun x => (.int .i64 x.1, x.2)) st)) := by
  match st, h with
  | some (ca, p, c), h => exact (refNumber_broken h most).mono fun e w' ho => ⟨_, _, _, ho⟩
  | none, h =>
    match hr : numR (bs.drop pl) most with
    | .error c => exact (refNumber_err h most hr).mono fun e w' ho => ho
    | .ok (n, k) => exact (refNumber_ok h most hr).mono fun e w' ho => ⟨_, _, _, ho⟩
theorem xo_Byte {xb : Nat} {v n0 n1 n2 : Value} {bs : List UInt8} {pl : Nat} {st : StO} {w : World} (h : XsAt xb v bs pl st n0 n1 n2 w) :
    Calls Tryz.prog 35 #[.pointer (some ⟨xb, 0, none⟩)] w (XOut xb v bs tp w (resS (.int .u8 0) ⟨#[66, 121, 116, 101]⟩ pl ((byteR (bs.drop pl)).map fun x => (.int .u8 x.1, x.2)) st)) := by
  match st, h with
  | some (ca, p, c), h => exact (refByte_broken h).mono fun e w' ho => ⟨_, _, _, ho⟩
  | none, h =>
    match hd : bs.drop pl with
    | [] =>
      have hl : (bs.drop pl).length = 0 := by rw [hd]; rfl
      rw [List.length_drop] at hl
      exact (refByte_err h (by omega)).mono fun e w' ho => ho
    | b :: r =>
      have hb : bs[pl]? = some b := by
        have := List.getElem?_drop (xs := bs) (i := pl) (j := 0)
        rw [hd] at this
        simpa using this.symm
      exact (refByte_ok h hb).mono fun e w' ho => ⟨_, _, _, ho⟩
theorem xo_End {xb : Nat} {v n0 n1 n2 : Value} {bs : List UInt8} {pl : Nat} {st : StO} {w : World} (h : XsAt xb v bs pl st n0 n1 n2 w) :
    Calls Tryz.prog 39 #[.pointer (some ⟨xb, 0, none⟩)] w (XOut xb v bs (fun _ b => b) w (resS .nilIface ⟨#[69, 110, 100]⟩ pl ((endR (bs.drop pl)).map fun x => (.nilIface, x.2)) st)) := by
  match st, h with
  | some (ca, p, c), h => exact (refEnd_broken h).mono fun e w' ho => ⟨_, _, _, ho⟩
  | none, h =>
    match hd : bs.drop pl with
    | [] =>
      have hl : (bs.drop pl).length = 0 := by rw [hd]; rfl
      rw [List.length_drop] at hl
      have hno := h.no
      obtain ⟨e0, e1, e2⟩ := hno
      subst e0 e1 e2
      exact (refEnd_ok h (by omega)).mono fun e w' ho => ⟨_, _, _, ho⟩
    | b :: r =>
      have hl : (bs.drop pl).length = r.length + 1 := by rw [hd]; rfl
      rw [List.length_drop] at hl
      exact (refEnd_err h (by omega)).mono fun e w' ho => ho
theorem xo_Count {xb : Nat} {v n0 n1 n2 : Value} {bs : List UInt8} {pl : Nat} {st : StO} {w : World} (h : XsAt xb v bs pl st n0 n1 n2 w) (least most : Int) :
    Calls Tryz.prog 62 #[.pointer (some ⟨xb, 0, none⟩), .int .i64 least, .int .i64 most] w (XOut xb v bs tp w (resS (.int .i64 0) ⟨#[67, 111, 117, 110, 116]⟩ pl ((cntR (bs.drop pl) least most).map fun x => (.int .i64 x.1, x.2)) st)) := by
  match st, h with
  | some (ca, p, c), h => exact (refCount_broken h least most).mono fun e w' ho => ⟨_, _, _, ho⟩
  | none, h =>
    match hr : numR (bs.drop pl) most with
    | .error c =>
      have ht : cntR (bs.drop pl) least most = .error c := by unfold cntR; rw [hr]
      rw [ht]
      by_cases hl : least < 1
      · exact (refCount_numL (_n := 0) (_k := 0) h least most hl hr).mono fun e w' ho => ho
      · exact (refCount_numH (_n := 0) (_k := 0) h least most hl hr).mono fun e w' ho => ho
    | .ok (n, k) =>
      by_cases hl : least < 1
      · by_cases hm : ((bs.length - pl - k : Nat) : Int) < (n : Int)
        · have ht : cntR (bs.drop pl) least most = .error 6 := by unfold cntR; rw [hr]; simp only [List.length_drop, if_pos hl, Int.ediv_one]; rw [if_pos hm]
          rw [ht]
          exact (refCount_manyL (_c := 0) h least most hl hr hm).mono fun e w' ho => ho
        · have ht : cntR (bs.drop pl) least most = .ok (n, k) := by unfold cntR; rw [hr]; simp only [List.length_drop, if_pos hl, Int.ediv_one]; rw [if_neg hm]
          rw [ht]
          exact (refCount_okL h least most hl hr hm).mono fun e w' ho => ⟨_, _, _, ho⟩
      · by_cases hm : ((bs.length - pl - k : Nat) : Int) / least < (n : Int)
        · have ht : cntR (bs.drop pl) least most = .error 6 := by unfold cntR; rw [hr]; simp only [List.length_drop, if_neg hl]; rw [if_pos hm]
          rw [ht]
          exact (refCount_manyH (_c := 0) h least most hl hr hm).mono fun e w' ho => ho
        · have ht : cntR (bs.drop pl) least most = .ok (n, k) := by unfold cntR; rw [hr]; simp only [List.length_drop, if_neg hl]; rw [if_neg hm]
          rw [ht]
          exact (refCount_okH h least most hl hr hm).mono fun e w' ho => ⟨_, _, _, ho⟩
end Go.Proofs.YtpkblfhkblllhaaGreatDoor
namespace Go.Proofs.YtpkblfhkblllhaaGreatDoor
open Go.RowKit
set_option maxRecDepth 100000

/-- Where a reading stands: the place, what wire's Reader has refused, where the layer above has. -/
structure PS where
  pl : Nat
  st : StO
  wf : Option Nat
def PS.bad (s : PS) : Bool := s.wf.isSome || s.st.isSome
def PS.form (s : PS) (at_ : Nat) (no : Bool) : PS := if no && !s.bad then { s with wf := some at_ } else s
/-- The document's Reader of packets in memory. -/
structure PxAt (pb xb : Nat) (v : Value) (bs : List UInt8) (s : PS) (w : World) : Prop where
  row : RowAt pb #[.pointer (some ⟨xb, 0, none⟩), .bool s.wf.isSome, .int .i64 ((s.wf.getD 0 : Nat) : Int)] 56 w
  xs : ∃ n0 n1 n2, XsAt xb v bs s.pl s.st n0 n1 n2 w
  ap : ∀ g o n c, v = .slice (some ⟨g, o, none⟩) n c → 0 < n → g ≠ pb
theorem PxAt.ne {pb xb : Nat} {v : Value} {bs : List UInt8} {s : PS} {w : World} (h : PxAt pb xb v bs s w) : pb ≠ xb := fun e => by
  obtain ⟨n0, n1, n2, hx⟩ := h.xs
  have h1 := hx.at_.row
  have h2 := h.row
  subst e
  unfold RowAt at h1 h2
  rw [h1] at h2
  simp at h2
theorem PxAt.later {pb xb : Nat} {v : Value} {bs : List UInt8} {s : PS} {w w' : World} (h : PxAt pb xb v bs s w) (hb : Below w.heap.size w w') : PxAt pb xb v bs s w' := by
  obtain ⟨n0, n1, n2, hx⟩ := h.xs
  exact ⟨h.row.later hb, ⟨n0, n1, n2, hx.later hb⟩, h.ap⟩
theorem NoSt.code {w : World} {n0 n1 n2 : Value} {st : StO} (h : NoSt w n0 n1 n2 st) : ∃ z : Int, n0 = .int .i64 z ∧ ((z != 0) = st.isSome) := by
  match st, h with
  | none, h => exact ⟨0, h.1, rfl⟩
  | some (ca, p, c), ⟨g, g', h0, _⟩ => exact ⟨_, h0, by simp; omega⟩
theorem bad_is {pb xb : Nat} {v : Value} {bs : List UInt8} {s : PS} {w : World} (h : PxAt pb xb v bs s w) :
    Calls Tryz.prog 34 #[.pointer (some ⟨pb, 0, none⟩)] w fun e w' => e = .returned (.bool s.bad) ∧ w' = w := by
  obtain ⟨n0, n1, n2, hx⟩ := h.xs
  obtain ⟨z, rfl, hz⟩ := hx.no.code
  obtain ⟨pl, st, wf⟩ := s
  dsimp only at hz hx
  have p0 : w.cell? ⟨pb, 0, none⟩ = some (.pointer (some ⟨xb, 0, none⟩)) := h.row.cell 0
  have p1 : w.cell? ⟨pb, 1, none⟩ = some (.bool wf.isSome) := h.row.cell 1
  have x2 : w.cell? ⟨xb, 2, none⟩ = some (.int .i64 z) := hx.at_.row.cell 2
  have HB : Hid (PS.bad ⟨pl, st, wf⟩ = (wf.isSome || st.isSome)) := rfl
  clear h hx
  cases hw : wf.isSome with
  | true =>
    rw [hw] at p1 HB
    go_enter Tryz.func34, Tryz.ntmps34
    go_wp2
    go_ret
    exact ⟨by rw [HB.out]; rfl, rfl⟩
  | false =>
    rw [hw] at p1 HB
    go_enter Tryz.func34, Tryz.ntmps34
    go_wp2
    go_ret
    exact ⟨by rw [HB.out]; rfl, rfl⟩

/-- The two Readers' blocks. -/
theorem PxAt.p0 {pb xb : Nat} {v : Value} {bs : List UInt8} {s : PS} {w : World} (h : PxAt pb xb v bs s w) : w.cell? ⟨pb, 0, none⟩ = some (.pointer (some ⟨xb, 0, none⟩)) := h.row.cell 0
/-- Behind a reading of wire's Reader. -/
theorem PxAt.next {pb xb q : Nat} {v m0 m1 m2 : Value} {bs : List UInt8} {s : PS} {st : StO} {w w' : World} (h : PxAt pb xb v bs s w) (k : Kept [xb] w w') (hx : XsAt xb v bs q st m0 m1 m2 w') : PxAt pb xb v bs ⟨q, st, s.wf⟩ w' :=
  ⟨h.row.kept k (by simpa using h.ne), ⟨m0, m1, m2, hx⟩, h.ap⟩
def PS.number (bs : List UInt8) (s : PS) (most : Int) : Int × PS :=
  if s.bad then (0, s) else match numR (bs.drop s.pl) most with
    | .ok (n, k) => ((n : Int), { s with pl := s.pl + k })
    | .error c => (0, { s with st := some (⟨#[78, 117, 109, 98, 101, 114]⟩, s.pl, c) })
theorem NoSt.nePx {pb : Nat} {w : World} {n0 n1 n2 : Value} {st : StO} {a : Addr} (h : NoSt w n0 n1 n2 st) (hp : w.cell? ⟨pb, 0, none⟩ = some (.pointer (some a))) : ∀ g, n1 = .slice (some ⟨g, 0, none⟩) 1 1 ∨ n2 = .slice (some ⟨g, 0, none⟩) 1 1 → g ≠ pb := by
  match st, h with
  | none, ⟨_, h1, h2⟩ => intro g hg; rw [h1, h2] at hg; rcases hg with hg | hg <;> cases hg
  | some (ca, p, c), ⟨g1, g2, _, h1, h2, c1, c2⟩ =>
    intro g hg e
    subst e
    rw [h1, h2] at hg
    rcases hg with hg | hg
    · simp only [Value.slice.injEq, Option.some.injEq, Addr.mk.injEq, and_true] at hg
      subst hg
      have := c1.cell 0
      rw [hp] at this
      cases this
    · simp only [Value.slice.injEq, Option.some.injEq, Addr.mk.injEq, and_true] at hg
      subst hg
      have := c2.cell 0
      rw [hp] at this
      cases this
theorem PS.good {s : PS} (h : s.bad = false) : s.st = none ∧ s.wf = none := by
  obtain ⟨pl, st, wf⟩ := s
  cases st <;> cases wf <;> simp [PS.bad] at h ⊢
/-- What wire's Number leaves, as the layer above tells it. -/
theorem num_out {xb : Nat} {v : Value} {bs : List UInt8} {s : PS} {most : Int} {w w' : World} {e : Ending} (hb : s.bad = false) (h : XOut xb v bs tp w (resS (.int .i64 0) ⟨#[78, 117, 109, 98, 101, 114]⟩ s.pl ((numR (bs.drop s.pl) most).map fun x => (.int .i64 x.1, x.2)) none) e w') :
    ∃ m0 m1 m2, e = .returned (.tuple #[.int .i64 (s.number bs most).1, .agg #[m0, m1, m2]]) ∧ XsAt xb v bs (s.number bs most).2.pl (s.number bs most).2.st m0 m1 m2 w' ∧ Kept [xb] w w' ∧ (s.number bs most).2.wf = s.wf := by
  obtain ⟨m0, m1, m2, h1, h2, h3⟩ := h
  refine ⟨m0, m1, m2, ?_⟩
  unfold PS.number
  rw [hb]
  have hg := (PS.good hb).1
  cases hr : numR (bs.drop s.pl) most with
  | error c =>
    rw [hr] at h1 h2
    exact ⟨h1, h2, h3, rfl⟩
  | ok x =>
    obtain ⟨n, k⟩ := x
    rw [hr] at h1 h2
    refine ⟨h1, ?_, h3, rfl⟩
    show XsAt xb v bs (s.pl + k) s.st m0 m1 m2 w'
    rw [hg]
    exact h2
theorem size_No : (Tryz.prog.info? 37).map (·.size) = some 3 := by kernel_rfl
set_option maxHeartbeats 1000000 in
theorem number_px {pb xb : Nat} {v : Value} {bs : List UInt8} {s : PS} {w : World} (h : PxAt pb xb v bs s w) (most : Int) :
    Calls Tryz.prog 16 #[.pointer (some ⟨pb, 0, none⟩), .int .i64 most] w fun e w' => e = .returned (.int .i64 (s.number bs most).1) ∧ PxAt pb xb v bs (s.number bs most).2 w' ∧ Kept [pb, xb] w w' := by
  have p0 := h.p0
  have hB := bad_is h
  cases hb : s.bad with
  | true =>
    rw [hb] at hB
    have HB := hid_of' (And.intro hB h)
    have HN : Hid (s.number bs most = (0, s)) := by unfold PS.number; rw [hb]; rfl
    clear hB h
    go_enter Tryz.func16, Tryz.ntmps16
    go_wp2_with (go_at_call 34; refine HB.out.1.mono ?_; rintro e w1 ⟨rfl, hz⟩; obtain rfl := hz.symm)
    go_ret
    rw [HN.out]
    exact ⟨rfl, HB.out.2, Kept.refl _ _⟩
  | false =>
    rw [hb] at hB
    obtain ⟨n0, n1, n2, hx⟩ := h.xs
    rw [(PS.good hb).1] at hx
    have hX := (xo_Number hx most).mono (fun e w' h => num_out hb h)
    have HB := hid_of' (And.intro hB (And.intro h hX))
    clear hB h hX hx
    obtain ⟨z, hz⟩ : ∃ z, z = (s.number bs most).1 := ⟨_, rfl⟩
    rw [← hz] at HB
    have HZ := hid_of' hz
    clear hz
    go_enter Tryz.func16, Tryz.ntmps16
    go_wp2_with (first
      | (go_at_call 34; refine HB.out.1.mono ?_; rintro e w1 ⟨rfl, hz⟩; obtain rfl := hz.symm)
      | (go_at_call 37; refine HB.out.2.2.mono ?_; rintro e w1 ⟨m0, m1, m2, rfl, hx, hk, hw⟩; have HK := hid_of' (And.intro hx (And.intro hk hw)); clear hx hk hw)
      | (refine wpL_stNew rfl 37 _ _ rfl rfl rfl (cs := #[m0, m1, m2]) rfl size_No rfl (by have := HK.out.1.no.one; simpa using this) ?_))
    go_ret
    have hb1 := below_one w1 (.cells #[m0, m1, m2] 37)
    refine ⟨by rw [← HZ.out]; rfl, ?_, ?_⟩
    · have := (HB.out.2.1.next HK.out.2.1 HK.out.1).later hb1
      rw [← HK.out.2.2] at this
      exact this
    · exact (HK.out.2.1.mono (by simp)).trans (.of hb1)
end Go.Proofs.YtpkblfhkblllhaaGreatDoor
