/-
  barrowlaw02.WireStays answers true.
-/
import Derived.Test.YtacbgognnjcinaaDoorWk
namespace Go.Proofs.YtacbgognnjcinaaDoor
open Go.RowKit
set_option maxRecDepth 100000

/-- What any reading function leaves: its refusal is the Reader's; one that was there stays. -/
def StOut (rb g : Nat) (bs : List UInt8) (br : Value) (w : World) (tup : Value → Value → Value) (e : Ending) (w' : World) : Prop :=
  ∃ v br' pl', e = .returned (tup v br') ∧ RdAt rb g bs pl' br' w' ∧ Kept [rb] w w' ∧ (br' = .nilIface ∨ ∃ f, br' = refv f) ∧ (br = .nilIface ∨ br' = br)

theorem stOut_of {ad : Nat → Addr} {rb g : Nat} {bs : List UInt8} {pl : Nat} {name : ByteArray} {w : World} {tup : Value → Value → Value} {z : Value} {res : Except Nat (Value × Nat)} {e : Ending} {w' : World} (h : RdOut ad rb g bs pl name w tup z res e w') : StOut rb g bs .nilIface w tup e w' := by
  obtain ⟨hk, h⟩ := h
  cases res with
  | ok x => exact ⟨x.1, .nilIface, pl + x.2, h.1, h.2, hk, .inl rfl, .inl rfl⟩
  | error c =>
    obtain ⟨f, _, he, hr, _⟩ := h
    exact ⟨z, refv f, pl, he, hr, hk, .inr ⟨f, rfl⟩, .inl rfl⟩
theorem stOut_broken {rb g : Nat} {bs : List UInt8} {pl f : Nat} {w : World} {tup : Value → Value → Value} {z : Value} {e : Ending} {w' : World} (hr : RdAt rb g bs pl (refv f) w) (h : e = .returned (tup z (refv f)) ∧ Below w.heap.size w w') : StOut rb g bs (refv f) w tup e w' :=
  ⟨z, refv f, pl, h.1, hr.kept (S := []) (.of h.2) (by simp) (by simp), .of h.2, .inr ⟨f, rfl⟩, .inr rfl⟩

theorem number_st {ad : Nat → Addr} {rb g : Nat} {bs : List UInt8} {pl : Nat} {br : Value} {w : World} (L : Lw ad w) (h : RdAt rb g bs pl br w) (hb : br = .nilIface ∨ ∃ f, br = refv f) (most : Int) :
    Calls Tryd.prog 30 #[.pointer (some ⟨rb, 0, none⟩), .int .i64 most] w (StOut rb g bs br w (fun a b => .tuple #[a, b])) := by
  rcases hb with rfl | ⟨f, rfl⟩
  · exact (Number_any L h most).mono fun _ _ => stOut_of
  · exact (Number_broken h most).mono fun _ _ => stOut_broken (tup := fun a b => .tuple #[a, b]) (z := .int .i64 0) h
theorem text_st {ad : Nat → Addr} {rb g : Nat} {bs : List UInt8} {pl : Nat} {br : Value} {w : World} (L : Lw ad w) (h : RdAt rb g bs pl br w) (hb : br = .nilIface ∨ ∃ f, br = refv f) (most : Int) :
    Calls Tryd.prog 31 #[.pointer (some ⟨rb, 0, none⟩), .int .i64 most] w (StOut rb g bs br w (fun a b => .tuple #[a, b])) := by
  rcases hb with rfl | ⟨f, rfl⟩
  · exact (Text_any L h most).mono fun _ _ => stOut_of
  · exact (Text_broken h most).mono fun _ _ => stOut_broken (tup := fun a b => .tuple #[a, b]) (z := .string ⟨#[]⟩) h
theorem byte_st {ad : Nat → Addr} {rb g : Nat} {bs : List UInt8} {pl : Nat} {br : Value} {w : World} (L : Lw ad w) (h : RdAt rb g bs pl br w) (hb : br = .nilIface ∨ ∃ f, br = refv f) :
    Calls Tryd.prog 32 #[.pointer (some ⟨rb, 0, none⟩)] w (StOut rb g bs br w (fun a b => .tuple #[a, b])) := by
  rcases hb with rfl | ⟨f, rfl⟩
  · exact (Byte_any L h).mono fun _ _ => stOut_of
  · exact (Byte_broken h).mono fun _ _ => stOut_broken (tup := fun a b => .tuple #[a, b]) (z := .int .u8 0) h
theorem count_st {ad : Nat → Addr} {rb g : Nat} {bs : List UInt8} {pl : Nat} {br : Value} {w : World} (L : Lw ad w) (h : RdAt rb g bs pl br w) (hb : br = .nilIface ∨ ∃ f, br = refv f) (least most : Int) (h1 : -9223372036854775808 ≤ least) (h2 : least ≤ 9223372036854775807) :
    Calls Tryd.prog 33 #[.pointer (some ⟨rb, 0, none⟩), .int .i64 least, .int .i64 most] w (StOut rb g bs br w (fun a b => .tuple #[a, b])) := by
  rcases hb with rfl | ⟨f, rfl⟩
  · exact (Count_any L h least most h1 h2).mono fun _ _ => stOut_of
  · exact (Count_broken h least most).mono fun _ _ => stOut_broken (tup := fun a b => .tuple #[a, b]) (z := .int .i64 0) h
theorem end_st {ad : Nat → Addr} {rb g : Nat} {bs : List UInt8} {pl : Nat} {br : Value} {w : World} (L : Lw ad w) (h : RdAt rb g bs pl br w) (hb : br = .nilIface ∨ ∃ f, br = refv f) :
    Calls Tryd.prog 34 #[.pointer (some ⟨rb, 0, none⟩)] w (StOut rb g bs br w (fun _ b => b)) := by
  rcases hb with rfl | ⟨f, rfl⟩
  · exact (End_any L h).mono fun _ _ => stOut_of
  · exact (End_broken h).mono fun _ _ => stOut_broken (tup := fun _ b => b) (z := .nilIface) h

/-- A call that came in. -/
structure Cl where
  kind : Int
  least : Int
  most : Int

/-- The row of calls, in memory. -/
def SlC (w : World) (v : Value) (cl : List Cl) : Prop :=
  (cl = [] ∧ ∃ a c, v = .slice a 0 c) ∨ ∃ g o c, v = .slice (some ⟨g, o, none⟩) cl.length c ∧ g < w.heap.size ∧ ∀ i x, cl[i]? = some x → (-9223372036854775808 ≤ x.least ∧ x.least ≤ 9223372036854775807) ∧ w.cell? ⟨g, o + i * 3, none⟩ = some (.int .i64 x.kind) ∧ w.cell? ⟨g, o + i * 3 + 1, none⟩ = some (.int .i64 x.least) ∧ w.cell? ⟨g, o + i * 3 + 2, none⟩ = some (.int .i64 x.most)

/-- What stands between two rounds. -/
structure StInv (ad : Nat → Addr) (rb g : Nat) (bs : List UInt8) (w : World) (br : Value) (wr : World) : Prop where
  rd : ∃ pl, RdAt rb g bs pl br wr
  br : br = .nilIface ∨ ∃ f, br = refv f
  lw : Lw ad wr
  bel : Below w.heap.size w wr

theorem StInv.next {ad : Nat → Addr} {rb g : Nat} {bs : List UInt8} {w : World} {br : Value} {wr : World} (h : StInv ad rb g bs w br wr) (o : Obj) {wx : World} {v' br' : Value} {pl' : Nat} (hrb : w.heap.size ≤ rb) (hr : RdAt rb g bs pl' br' wx) (hk : Kept [rb] (wr.alloc o) wx) (hb : br' = .nilIface ∨ ∃ f, br' = refv f) (_ : v' = v') : StInv ad rb g bs w br' wx := by
  have hb0 : Below w.heap.size w (wr.alloc o) := h.bel.alloc h.bel.size o
  refine ⟨⟨pl', hr⟩, hb, (h.lw.kept (S := []) ((Kept.refl _ wr).alloc o) (by simp)).kept hk (by simpa using hr.lo), hb0.trans (hk.below (by simpa using hrb) hb0.size)⟩

set_option maxHeartbeats 4000000 in
theorem stays_ok {ad : Nat → Addr} {w : World} (L : Lw ad w) (v0 v1 : Value) (bs : List UInt8) (cl : List Cl) (h0 : SlB w v0 bs) (hc0 : ∀ a n c, v0 = .slice a n c → n ≤ c) (h1 : SlC w v1 cl) :
    Calls Tryd.prog 5 #[v0, v1] w fun e w' => e = .returned (.bool true) ∧ Below w.heap.size w w' := by
  have HL : Aside (Lw ad w ∧ SlB w v0 bs ∧ ∀ a n c, v0 = .slice a n c → n ≤ c) := ⟨L, h0, hc0⟩
  have hlen : (bs.take 4000).length ≤ 1000000 := by simp; omega
  have HT : Aside ((bs.take 4000).length ≤ 1000000) := hlen
  clear L h0 hc0 hlen
  obtain ⟨a1, c1, rfl⟩ : ∃ a c, v1 = .slice a cl.length c := by
    rcases h1 with ⟨rfl, a, c, rfl⟩ | ⟨g, o, c, rfl, _⟩
    · exact ⟨a, c, rfl⟩
    · exact ⟨_, c, rfl⟩
  have HC : Aside (SlC w (.slice a1 cl.length c1) cl) := h1
  clear h1
  go_enter Tryd.func5, Tryd.ntmps5
  go_wp2_with (first | (go_at_call 22; refine (clip_any HL.out.2.1 HL.out.2.2).mono ?_; rintro e w0 ⟨u, rfl, hu, h0⟩; obtain rfl := h0.symm) | (go_at_call 24; refine (newReader_any hu HT.out (by have := HL.out.1.size; omega)).mono ?_; rintro e w2 ⟨rb, rfl, hr2, hlt2, hb2⟩))
  have hI : StInv ad rb w.heap.size (bs.take 4000) w .nilIface w2 := ⟨⟨0, hr2⟩, .inl rfl, HL.out.1.kept (S := []) (.of hb2) (by simp), hb2⟩
  generalize bs.take 4000 = bs' at *
  clear hu hr2 hb2
  go_loopg [6, 7] cl.length (fun k fv iv wr => ∃ (i : Nat), k = cl.length - i ∧ i ≤ cl.length ∧ iv = .int .i64 (i : Int) ∧ StInv ad rb w.heap.size bs' w fv wr)
  case atStart => exact ⟨0, by omega, by omega, rfl, hI⟩
  case round =>
    obtain ⟨i, hgk, hi, rfl, hS⟩ := hrel
    clear hI
    by_cases hlt : i < cl.length
    · have hii : (i : Int) < (cl.length : Int) := by omega
      by_cases h200 : i < 200
      · have h200' : (i : Int) < 200 := by omega
        have hx : cl[i]? = some cl[i] := List.getElem?_eq_getElem hlt
        generalize cl[i] = x at hx
        obtain ⟨gc, oc, hga, hgl, hcc⟩ : ∃ gc oc, a1 = some ⟨gc, oc, none⟩ ∧ gc < w.heap.size ∧ ((-9223372036854775808 ≤ x.least ∧ x.least ≤ 9223372036854775807) ∧ w.cell? ⟨gc, oc + i * 3, none⟩ = some (.int .i64 x.kind) ∧ w.cell? ⟨gc, oc + i * 3 + 1, none⟩ = some (.int .i64 x.least) ∧ w.cell? ⟨gc, oc + i * 3 + 2, none⟩ = some (.int .i64 x.most)) := by
          rcases HC.out with ⟨h0, _⟩ | ⟨g, o, c, he, hg, hc⟩
          · rw [h0] at hlt; simp at hlt
          · simp only [Value.slice.injEq, true_and] at he
            exact ⟨g, o, he.1, hg, hc i x hx⟩
        subst hga
        obtain ⟨kind, least, most⟩ := x
        have HX : Aside (-9223372036854775808 ≤ least ∧ least ≤ 9223372036854775807) := hcc.1
        have d0 : wr.cell? ⟨gc, oc + i * 3, none⟩ = some (.int .i64 kind) := by rw [hS.bel.cell (p := ⟨gc, oc + i * 3, none⟩) hgl]; exact hcc.2.1
        have d1 : wr.cell? ⟨gc, oc + i * 3 + 1, none⟩ = some (.int .i64 least) := by rw [hS.bel.cell (p := ⟨gc, oc + i * 3 + 1, none⟩) hgl]; exact hcc.2.2.1
        have d2 : wr.cell? ⟨gc, oc + i * 3 + 2, none⟩ = some (.int .i64 most) := by rw [hS.bel.cell (p := ⟨gc, oc + i * 3 + 2, none⟩) hgl]; exact hcc.2.2.2
        obtain ⟨pl, hrd⟩ := hS.rd
        have HB : Aside (Lw ad (wr.alloc (.cells #[.int .i64 kind, .int .i64 least, .int .i64 most] 59)) ∧ RdAt rb w.heap.size bs' pl u6 (wr.alloc (.cells #[.int .i64 kind, .int .i64 least, .int .i64 most] 59))) := ⟨hS.lw.kept (S := []) ((Kept.refl _ wr).alloc _) (by simp), hrd.kept (S := []) ((Kept.refl _ wr).alloc _) (by simp) (by simp)⟩
        have HI : Aside (StInv ad rb w.heap.size bs' w u6 wr) := hS
        have HR : Aside (w.heap.size ≤ rb) := by show _ ≤ _; omega
        have hbr := hS.br
        clear hS hrd hcc hx HC HL HT hgl
        have hkind : kind % 5 = 0 ∨ kind % 5 = 1 ∨ kind % 5 = 2 ∨ kind % 5 = 3 ∨ kind % 5 = 4 := by omega
        rcases hbr with rfl | ⟨f, rfl⟩
        · rcases hkind with hk | hk | hk | hk | hk
          · go_wp2_with (first | (go_at_call 10; refine (within5 _ _).mono ?_; rintro e w9 ⟨rfl, h9⟩; obtain rfl := h9.symm) | (go_at_call 30; refine (number_st HB.out.1 HB.out.2 (.inl rfl) _).mono ?_; rintro e w3 ⟨v', br', pl', rfl, hr3, hk3, hb3, hst⟩) | (go_at_call 31; refine (text_st HB.out.1 HB.out.2 (.inl rfl) _).mono ?_; rintro e w3 ⟨v', br', pl', rfl, hr3, hk3, hb3, hst⟩) | (go_at_call 32; refine (byte_st HB.out.1 HB.out.2 (.inl rfl)).mono ?_; rintro e w3 ⟨v', br', pl', rfl, hr3, hk3, hb3, hst⟩) | (go_at_call 33; refine (count_st HB.out.1 HB.out.2 (.inl rfl) _ _ HX.out.1 HX.out.2).mono ?_; rintro e w3 ⟨v', br', pl', rfl, hr3, hk3, hb3, hst⟩) | (go_at_call 34; refine (end_st HB.out.1 HB.out.2 (.inl rfl)).mono ?_; rintro e w3 ⟨v', br', pl', rfl, hr3, hk3, hb3, hst⟩))
            go_roundg (cl.length - (i + 1))
            case measure => rw [hgk]; omega
            case rel => exact ⟨i + 1, rfl, by omega, by go_num, HI.out.next (v' := v') _ HR.out hr3 hk3 hb3 rfl⟩
          · go_wp2_with (first | (go_at_call 10; refine (within5 _ _).mono ?_; rintro e w9 ⟨rfl, h9⟩; obtain rfl := h9.symm) | (go_at_call 30; refine (number_st HB.out.1 HB.out.2 (.inl rfl) _).mono ?_; rintro e w3 ⟨v', br', pl', rfl, hr3, hk3, hb3, hst⟩) | (go_at_call 31; refine (text_st HB.out.1 HB.out.2 (.inl rfl) _).mono ?_; rintro e w3 ⟨v', br', pl', rfl, hr3, hk3, hb3, hst⟩) | (go_at_call 32; refine (byte_st HB.out.1 HB.out.2 (.inl rfl)).mono ?_; rintro e w3 ⟨v', br', pl', rfl, hr3, hk3, hb3, hst⟩) | (go_at_call 33; refine (count_st HB.out.1 HB.out.2 (.inl rfl) _ _ HX.out.1 HX.out.2).mono ?_; rintro e w3 ⟨v', br', pl', rfl, hr3, hk3, hb3, hst⟩) | (go_at_call 34; refine (end_st HB.out.1 HB.out.2 (.inl rfl)).mono ?_; rintro e w3 ⟨v', br', pl', rfl, hr3, hk3, hb3, hst⟩))
            go_roundg (cl.length - (i + 1))
            case measure => rw [hgk]; omega
            case rel => exact ⟨i + 1, rfl, by omega, by go_num, HI.out.next (v' := v') _ HR.out hr3 hk3 hb3 rfl⟩
          · go_wp2_with (first | (go_at_call 10; refine (within5 _ _).mono ?_; rintro e w9 ⟨rfl, h9⟩; obtain rfl := h9.symm) | (go_at_call 30; refine (number_st HB.out.1 HB.out.2 (.inl rfl) _).mono ?_; rintro e w3 ⟨v', br', pl', rfl, hr3, hk3, hb3, hst⟩) | (go_at_call 31; refine (text_st HB.out.1 HB.out.2 (.inl rfl) _).mono ?_; rintro e w3 ⟨v', br', pl', rfl, hr3, hk3, hb3, hst⟩) | (go_at_call 32; refine (byte_st HB.out.1 HB.out.2 (.inl rfl)).mono ?_; rintro e w3 ⟨v', br', pl', rfl, hr3, hk3, hb3, hst⟩) | (go_at_call 33; refine (count_st HB.out.1 HB.out.2 (.inl rfl) _ _ HX.out.1 HX.out.2).mono ?_; rintro e w3 ⟨v', br', pl', rfl, hr3, hk3, hb3, hst⟩) | (go_at_call 34; refine (end_st HB.out.1 HB.out.2 (.inl rfl)).mono ?_; rintro e w3 ⟨v', br', pl', rfl, hr3, hk3, hb3, hst⟩))
            go_roundg (cl.length - (i + 1))
            case measure => rw [hgk]; omega
            case rel => exact ⟨i + 1, rfl, by omega, by go_num, HI.out.next (v' := v') _ HR.out hr3 hk3 hb3 rfl⟩
          · go_wp2_with (first | (go_at_call 10; refine (within5 _ _).mono ?_; rintro e w9 ⟨rfl, h9⟩; obtain rfl := h9.symm) | (go_at_call 30; refine (number_st HB.out.1 HB.out.2 (.inl rfl) _).mono ?_; rintro e w3 ⟨v', br', pl', rfl, hr3, hk3, hb3, hst⟩) | (go_at_call 31; refine (text_st HB.out.1 HB.out.2 (.inl rfl) _).mono ?_; rintro e w3 ⟨v', br', pl', rfl, hr3, hk3, hb3, hst⟩) | (go_at_call 32; refine (byte_st HB.out.1 HB.out.2 (.inl rfl)).mono ?_; rintro e w3 ⟨v', br', pl', rfl, hr3, hk3, hb3, hst⟩) | (go_at_call 33; refine (count_st HB.out.1 HB.out.2 (.inl rfl) _ _ HX.out.1 HX.out.2).mono ?_; rintro e w3 ⟨v', br', pl', rfl, hr3, hk3, hb3, hst⟩) | (go_at_call 34; refine (end_st HB.out.1 HB.out.2 (.inl rfl)).mono ?_; rintro e w3 ⟨v', br', pl', rfl, hr3, hk3, hb3, hst⟩))
            go_roundg (cl.length - (i + 1))
            case measure => rw [hgk]; omega
            case rel => exact ⟨i + 1, rfl, by omega, by go_num, HI.out.next (v' := v') _ HR.out hr3 hk3 hb3 rfl⟩
          · go_wp2_with (first | (go_at_call 10; refine (within5 _ _).mono ?_; rintro e w9 ⟨rfl, h9⟩; obtain rfl := h9.symm) | (go_at_call 30; refine (number_st HB.out.1 HB.out.2 (.inl rfl) _).mono ?_; rintro e w3 ⟨v', br', pl', rfl, hr3, hk3, hb3, hst⟩) | (go_at_call 31; refine (text_st HB.out.1 HB.out.2 (.inl rfl) _).mono ?_; rintro e w3 ⟨v', br', pl', rfl, hr3, hk3, hb3, hst⟩) | (go_at_call 32; refine (byte_st HB.out.1 HB.out.2 (.inl rfl)).mono ?_; rintro e w3 ⟨v', br', pl', rfl, hr3, hk3, hb3, hst⟩) | (go_at_call 33; refine (count_st HB.out.1 HB.out.2 (.inl rfl) _ _ HX.out.1 HX.out.2).mono ?_; rintro e w3 ⟨v', br', pl', rfl, hr3, hk3, hb3, hst⟩) | (go_at_call 34; refine (end_st HB.out.1 HB.out.2 (.inl rfl)).mono ?_; rintro e w3 ⟨v', br', pl', rfl, hr3, hk3, hb3, hst⟩))
            go_roundg (cl.length - (i + 1))
            case measure => rw [hgk]; omega
            case rel => exact ⟨i + 1, rfl, by omega, by go_num, HI.out.next (v' := v') _ HR.out hr3 hk3 hb3 rfl⟩
        · rcases hkind with hk | hk | hk | hk | hk
          · go_wp2_with (first | (go_at_call 10; refine (within5 _ _).mono ?_; rintro e w9 ⟨rfl, h9⟩; obtain rfl := h9.symm) | (go_at_call 30; refine (number_st HB.out.1 HB.out.2 (.inr ⟨f, rfl⟩) _).mono ?_; rintro e w3 ⟨v', br', pl', rfl, hr3, hk3, hb3, hst⟩; obtain rfl := (hst.resolve_left (by simp))) | (go_at_call 31; refine (text_st HB.out.1 HB.out.2 (.inr ⟨f, rfl⟩) _).mono ?_; rintro e w3 ⟨v', br', pl', rfl, hr3, hk3, hb3, hst⟩; obtain rfl := (hst.resolve_left (by simp))) | (go_at_call 32; refine (byte_st HB.out.1 HB.out.2 (.inr ⟨f, rfl⟩)).mono ?_; rintro e w3 ⟨v', br', pl', rfl, hr3, hk3, hb3, hst⟩; obtain rfl := (hst.resolve_left (by simp))) | (go_at_call 33; refine (count_st HB.out.1 HB.out.2 (.inr ⟨f, rfl⟩) _ _ HX.out.1 HX.out.2).mono ?_; rintro e w3 ⟨v', br', pl', rfl, hr3, hk3, hb3, hst⟩; obtain rfl := (hst.resolve_left (by simp))) | (go_at_call 34; refine (end_st HB.out.1 HB.out.2 (.inr ⟨f, rfl⟩)).mono ?_; rintro e w3 ⟨v', br', pl', rfl, hr3, hk3, hb3, hst⟩; obtain rfl := (hst.resolve_left (by simp))) | (go_at_call 35; refine (same_ref f _).mono ?_; rintro e w8 ⟨rfl, h8⟩; obtain rfl := h8.symm))
            go_roundg (cl.length - (i + 1))
            case measure => rw [hgk]; omega
            case rel => exact ⟨i + 1, rfl, by omega, by go_num, HI.out.next (v' := v') _ HR.out hr3 hk3 hb3 rfl⟩
          · go_wp2_with (first | (go_at_call 10; refine (within5 _ _).mono ?_; rintro e w9 ⟨rfl, h9⟩; obtain rfl := h9.symm) | (go_at_call 30; refine (number_st HB.out.1 HB.out.2 (.inr ⟨f, rfl⟩) _).mono ?_; rintro e w3 ⟨v', br', pl', rfl, hr3, hk3, hb3, hst⟩; obtain rfl := (hst.resolve_left (by simp))) | (go_at_call 31; refine (text_st HB.out.1 HB.out.2 (.inr ⟨f, rfl⟩) _).mono ?_; rintro e w3 ⟨v', br', pl', rfl, hr3, hk3, hb3, hst⟩; obtain rfl := (hst.resolve_left (by simp))) | (go_at_call 32; refine (byte_st HB.out.1 HB.out.2 (.inr ⟨f, rfl⟩)).mono ?_; rintro e w3 ⟨v', br', pl', rfl, hr3, hk3, hb3, hst⟩; obtain rfl := (hst.resolve_left (by simp))) | (go_at_call 33; refine (count_st HB.out.1 HB.out.2 (.inr ⟨f, rfl⟩) _ _ HX.out.1 HX.out.2).mono ?_; rintro e w3 ⟨v', br', pl', rfl, hr3, hk3, hb3, hst⟩; obtain rfl := (hst.resolve_left (by simp))) | (go_at_call 34; refine (end_st HB.out.1 HB.out.2 (.inr ⟨f, rfl⟩)).mono ?_; rintro e w3 ⟨v', br', pl', rfl, hr3, hk3, hb3, hst⟩; obtain rfl := (hst.resolve_left (by simp))) | (go_at_call 35; refine (same_ref f _).mono ?_; rintro e w8 ⟨rfl, h8⟩; obtain rfl := h8.symm))
            go_roundg (cl.length - (i + 1))
            case measure => rw [hgk]; omega
            case rel => exact ⟨i + 1, rfl, by omega, by go_num, HI.out.next (v' := v') _ HR.out hr3 hk3 hb3 rfl⟩
          · go_wp2_with (first | (go_at_call 10; refine (within5 _ _).mono ?_; rintro e w9 ⟨rfl, h9⟩; obtain rfl := h9.symm) | (go_at_call 30; refine (number_st HB.out.1 HB.out.2 (.inr ⟨f, rfl⟩) _).mono ?_; rintro e w3 ⟨v', br', pl', rfl, hr3, hk3, hb3, hst⟩; obtain rfl := (hst.resolve_left (by simp))) | (go_at_call 31; refine (text_st HB.out.1 HB.out.2 (.inr ⟨f, rfl⟩) _).mono ?_; rintro e w3 ⟨v', br', pl', rfl, hr3, hk3, hb3, hst⟩; obtain rfl := (hst.resolve_left (by simp))) | (go_at_call 32; refine (byte_st HB.out.1 HB.out.2 (.inr ⟨f, rfl⟩)).mono ?_; rintro e w3 ⟨v', br', pl', rfl, hr3, hk3, hb3, hst⟩; obtain rfl := (hst.resolve_left (by simp))) | (go_at_call 33; refine (count_st HB.out.1 HB.out.2 (.inr ⟨f, rfl⟩) _ _ HX.out.1 HX.out.2).mono ?_; rintro e w3 ⟨v', br', pl', rfl, hr3, hk3, hb3, hst⟩; obtain rfl := (hst.resolve_left (by simp))) | (go_at_call 34; refine (end_st HB.out.1 HB.out.2 (.inr ⟨f, rfl⟩)).mono ?_; rintro e w3 ⟨v', br', pl', rfl, hr3, hk3, hb3, hst⟩; obtain rfl := (hst.resolve_left (by simp))) | (go_at_call 35; refine (same_ref f _).mono ?_; rintro e w8 ⟨rfl, h8⟩; obtain rfl := h8.symm))
            go_roundg (cl.length - (i + 1))
            case measure => rw [hgk]; omega
            case rel => exact ⟨i + 1, rfl, by omega, by go_num, HI.out.next (v' := v') _ HR.out hr3 hk3 hb3 rfl⟩
          · go_wp2_with (first | (go_at_call 10; refine (within5 _ _).mono ?_; rintro e w9 ⟨rfl, h9⟩; obtain rfl := h9.symm) | (go_at_call 30; refine (number_st HB.out.1 HB.out.2 (.inr ⟨f, rfl⟩) _).mono ?_; rintro e w3 ⟨v', br', pl', rfl, hr3, hk3, hb3, hst⟩; obtain rfl := (hst.resolve_left (by simp))) | (go_at_call 31; refine (text_st HB.out.1 HB.out.2 (.inr ⟨f, rfl⟩) _).mono ?_; rintro e w3 ⟨v', br', pl', rfl, hr3, hk3, hb3, hst⟩; obtain rfl := (hst.resolve_left (by simp))) | (go_at_call 32; refine (byte_st HB.out.1 HB.out.2 (.inr ⟨f, rfl⟩)).mono ?_; rintro e w3 ⟨v', br', pl', rfl, hr3, hk3, hb3, hst⟩; obtain rfl := (hst.resolve_left (by simp))) | (go_at_call 33; refine (count_st HB.out.1 HB.out.2 (.inr ⟨f, rfl⟩) _ _ HX.out.1 HX.out.2).mono ?_; rintro e w3 ⟨v', br', pl', rfl, hr3, hk3, hb3, hst⟩; obtain rfl := (hst.resolve_left (by simp))) | (go_at_call 34; refine (end_st HB.out.1 HB.out.2 (.inr ⟨f, rfl⟩)).mono ?_; rintro e w3 ⟨v', br', pl', rfl, hr3, hk3, hb3, hst⟩; obtain rfl := (hst.resolve_left (by simp))) | (go_at_call 35; refine (same_ref f _).mono ?_; rintro e w8 ⟨rfl, h8⟩; obtain rfl := h8.symm))
            go_roundg (cl.length - (i + 1))
            case measure => rw [hgk]; omega
            case rel => exact ⟨i + 1, rfl, by omega, by go_num, HI.out.next (v' := v') _ HR.out hr3 hk3 hb3 rfl⟩
          · go_wp2_with (first | (go_at_call 10; refine (within5 _ _).mono ?_; rintro e w9 ⟨rfl, h9⟩; obtain rfl := h9.symm) | (go_at_call 30; refine (number_st HB.out.1 HB.out.2 (.inr ⟨f, rfl⟩) _).mono ?_; rintro e w3 ⟨v', br', pl', rfl, hr3, hk3, hb3, hst⟩; obtain rfl := (hst.resolve_left (by simp))) | (go_at_call 31; refine (text_st HB.out.1 HB.out.2 (.inr ⟨f, rfl⟩) _).mono ?_; rintro e w3 ⟨v', br', pl', rfl, hr3, hk3, hb3, hst⟩; obtain rfl := (hst.resolve_left (by simp))) | (go_at_call 32; refine (byte_st HB.out.1 HB.out.2 (.inr ⟨f, rfl⟩)).mono ?_; rintro e w3 ⟨v', br', pl', rfl, hr3, hk3, hb3, hst⟩; obtain rfl := (hst.resolve_left (by simp))) | (go_at_call 33; refine (count_st HB.out.1 HB.out.2 (.inr ⟨f, rfl⟩) _ _ HX.out.1 HX.out.2).mono ?_; rintro e w3 ⟨v', br', pl', rfl, hr3, hk3, hb3, hst⟩; obtain rfl := (hst.resolve_left (by simp))) | (go_at_call 34; refine (end_st HB.out.1 HB.out.2 (.inr ⟨f, rfl⟩)).mono ?_; rintro e w3 ⟨v', br', pl', rfl, hr3, hk3, hb3, hst⟩; obtain rfl := (hst.resolve_left (by simp))) | (go_at_call 35; refine (same_ref f _).mono ?_; rintro e w8 ⟨rfl, h8⟩; obtain rfl := h8.symm))
            go_roundg (cl.length - (i + 1))
            case measure => rw [hgk]; omega
            case rel => exact ⟨i + 1, rfl, by omega, by go_num, HI.out.next (v' := v') _ HR.out hr3 hk3 hb3 rfl⟩
      · have h200' : ¬ (i : Int) < 200 := by omega
        have HI : Aside (StInv ad rb w.heap.size bs' w u6 wr) := hS
        clear hS
        go_wp2_with (go_at_call 21; refine (wakes_ok HI.out.lw).mono ?_; rintro e w9 ⟨rfl, hb9⟩)
        go_ret
        exact ⟨rfl, HI.out.bel.trans (hb9.mono HI.out.bel.size)⟩
    · have hii : ¬ (i : Int) < (cl.length : Int) := by omega
      have HI : Aside (StInv ad rb w.heap.size bs' w u6 wr) := hS
      clear hS
      go_wp2_with (go_at_call 21; refine (wakes_ok HI.out.lw).mono ?_; rintro e w9 ⟨rfl, hb9⟩)
      go_ret
      exact ⟨rfl, HI.out.bel.trans (hb9.mono HI.out.bel.size)⟩
end Go.Proofs.YtacbgognnjcinaaDoor
