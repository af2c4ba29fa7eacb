
/-
  A message is read: giving up, numbers, kinds, entries.
-/
import Derived.Test.YtpjanipodigamaaDoorPkWz
namespace Go.Proofs.YtpjanipodigamaaDoor
open Go.RowKit
set_option maxRecDepth 100000

def nmRead : ByteArray := ⟨#[82, 101, 97, 100]⟩
def nmWire : ByteArray := ⟨#[119, 105, 114, 101]⟩
/-- The refusal of a reading, in memory. -/
def PeAt (ad : Nat → Addr) (x : Pe) (f : Nat) (w : World) : Prop := match x with
  | .form p => w.heap[f]? = some (.cells #[.string nmPacket, .string nmRead, .int .i64 (p : Int), rsn ad 5] 72 (0, 0))
  | .wire call p c => ∃ f2, w.heap[f]? = some (.cells #[.string nmPacket, .string nmRead, .int .i64 (p : Int), refv f2] 72 (0, 0)) ∧ w.heap[f2]? = some (.cells #[.string nmWire, .string call, .int .i64 (p : Int), rsn ad c] 72 (0, 0))
theorem PeAt.kept {ad : Nat → Addr} {x : Pe} {f : Nat} {S : List Nat} {w w' : World} (h : PeAt ad x f w) (k : Kept S w w') (hS : ∀ s ∈ S, ∃ cs t, w.heap[s]? = some (.cells cs t (0, 0)) ∧ t ≠ 72) : PeAt ad x f w' := by
  have hn : ∀ (b : Nat) (cs : Array Value), w.heap[b]? = some (.cells cs 72 (0, 0)) → b ∉ S := fun b cs hb hm => by
    obtain ⟨cs', t, h1, h2⟩ := hS b hm
    rw [hb] at h1
    simp only [Option.some.injEq, Obj.cells.injEq] at h1
    exact h2 h1.2.1.symm
  cases x with
  | form p => exact k.heap h (hn _ _ h)
  | wire call p c =>
    obtain ⟨f2, h1, h2⟩ := h
    exact ⟨f2, k.heap h1 (hn _ _ h1), k.heap h2 (hn _ _ h2)⟩
/-- What a reading that gives up ends in. -/
abbrev gaveP (f : Nat) : Ending := .panicked [{ v := .iface 85 (.agg #[refv f]), recovered := false }]
abbrev rgv (rb : Nat) : Value := .agg #[.pointer (some ⟨rb, 0, none⟩)]

/-- What a reading leaves. -/
def RdV {α : Type} (ad : Nat → Addr) (rb g : Nat) (bs : List UInt8) (w : World) (enc : α → Value) (p : Except Pe (α × Nat)) (e : Ending) (w' : World) : Prop := Kept [rb] w w' ∧ match p with
  | .ok (a, q) => e = .returned (enc a) ∧ RdAt rb g bs q .nilIface w'
  | .error x => ∃ f, w.heap.size ≤ f ∧ e = gaveP f ∧ PeAt ad x f w'
theorem RdV.ok {α : Type} {ad : Nat → Addr} {rb g : Nat} {bs : List UInt8} {w : World} {enc : α → Value} {p : Except Pe (α × Nat)} {e : Ending} {w' : World} {a : α} {q : Nat} (h : RdV ad rb g bs w enc p e w') (hp : p = .ok (a, q)) : Kept [rb] w w' ∧ e = .returned (enc a) ∧ RdAt rb g bs q .nilIface w' := by subst hp; exact h
theorem RdV.err {α : Type} {ad : Nat → Addr} {rb g : Nat} {bs : List UInt8} {w : World} {enc : α → Value} {p : Except Pe (α × Nat)} {e : Ending} {w' : World} {x : Pe} (h : RdV ad rb g bs w enc p e w') (hp : p = .error x) : Kept [rb] w w' ∧ ∃ f, w.heap.size ≤ f ∧ e = gaveP f ∧ PeAt ad x f w' := by subst hp; exact h
theorem RdV.mkOk {α : Type} {ad : Nat → Addr} {rb g : Nat} {bs : List UInt8} {w : World} {enc : α → Value} {p : Except Pe (α × Nat)} {w' : World} {a : α} {q : Nat} (hp : p = .ok (a, q)) (hk : Kept [rb] w w') (hr : RdAt rb g bs q .nilIface w') : RdV ad rb g bs w enc p (.returned (enc a)) w' := by subst hp; exact ⟨hk, rfl, hr⟩
theorem RdV.mkErr {α : Type} {ad : Nat → Addr} {rb g : Nat} {bs : List UInt8} {w : World} {enc : α → Value} {p : Except Pe (α × Nat)} {w' : World} {x : Pe} {f : Nat} (hp : p = .error x) (hk : Kept [rb] w w') (hf : w.heap.size ≤ f) (hx : PeAt ad x f w') : RdV ad rb g bs w enc p (gaveP f) w' := by subst hp; exact ⟨hk, f, hf, rfl, hx⟩

theorem rdOut_ok {ad : Nat → Addr} {rb g : Nat} {bs : List UInt8} {pl : Nat} {name : ByteArray} {w : World} {tup : Value → Value → Value} {z : Value} {res : Except Nat (Value × Nat)} {v : Value} {k : Nat} {e : Ending} {w' : World} (h : RdOut ad rb g bs pl name w tup z res e w') (hr : res = .ok (v, k)) : e = .returned (tup v .nilIface) ∧ RdAt rb g bs (pl + k) .nilIface w' ∧ Kept [rb] w w' := by
  subst hr; exact ⟨h.2.1, h.2.2, h.1⟩
theorem rdOut_err {ad : Nat → Addr} {rb g : Nat} {bs : List UInt8} {pl : Nat} {name : ByteArray} {w : World} {tup : Value → Value → Value} {z : Value} {res : Except Nat (Value × Nat)} {c : Nat} {e : Ending} {w' : World} (h : RdOut ad rb g bs pl name w tup z res e w') (hr : res = .error c) : ∃ f, w.heap.size ≤ f ∧ e = .returned (tup z (refv f)) ∧ RdAt rb g bs pl (refv f) w' ∧ w'.heap[f]? = some (.cells #[.string nmWire, .string name, .int .i64 pl, rsn ad c] 72 (0, 0)) ∧ Kept [rb] w w' := by
  subst hr
  obtain ⟨hk, f, h1, h2, h3, h4⟩ := h
  exact ⟨f, h1, h2, h3, h4, hk⟩

theorem giveUpP_any (p : Nat) (t : TypeId) (v : Value) (w : World) :
    Calls Tryd.prog 60 #[.int .i64 (p : Int), .iface t v] w fun e w' => e = gaveP w.heap.size ∧ w' = w.alloc (.cells #[.string nmPacket, .string nmRead, .int .i64 (p : Int), .iface t v] 72) := by
  go_enter Tryd.func60, Tryd.ntmps60
  go_wp2_with (go_at_call 16; refine (new_f _ _ _ (by omega) _ _ _).mono ?_; rintro e w2 ⟨rfl, rfl⟩)
  exact ⟨rfl, rfl, rfl⟩

theorem ptr_rd {w : World} {k b : Nat} (h : RowAt k #[.pointer (some ⟨b, 0, none⟩)] 59 w) : w.cell? ⟨k, 0, none⟩ = some (.pointer (some ⟨b, 0, none⟩)) := by rw [h.cell]; rfl
theorem szRg (b : Nat) : (Tryd.prog.info? 59).map (·.size) = some (#[Value.pointer (some ⟨b, 0, none⟩)] : Array Value).size := (by kernel_rfl : (Tryd.prog.info? 59).map (·.size) = some 1)
theorem ld_rg {ops : Array Oper} {rest : List Oper} {o : Oper} {a : Act} {w : World} {Q : Exit → Act → World → Prop} {b : Nat} (hgd : o.guard = none) (y : Operand) (ho : o.op = .load 59 y) {k : Nat} (hy : a.eval y = .pointer (some ⟨k, 0, none⟩)) (h : RowAt k #[.pointer (some ⟨b, 0, none⟩)] 59 w) (hk : wpList Tryd.prog ops Q rest (a.put o.dst (.agg #[.pointer (some ⟨b, 0, none⟩)])) w) : wpList Tryd.prog ops Q (o :: rest) a w :=
  wpL_ld hgd _ y ho hy h.in Tryd.underlying59 rfl (szRg b) hk

theorem checkP_nil (rb : Nat) (w : World) :
    Calls Tryd.prog 50 #[rgv rb, .nilIface] w fun e w' => e = .returned (.tuple #[]) ∧ w' = w.alloc (.cells #[.pointer (some ⟨rb, 0, none⟩)] 59) := by
  go_enter Tryd.func50, Tryd.ntmps50
  go_wp2
  go_end0
  exact ⟨rfl, rfl⟩
theorem checkP_err {ad : Nat → Addr} {rb g : Nat} {bs : List UInt8} {pl : Nat} {br : Value} {w : World} (h : RdAt rb g bs pl br w) (f2 : Nat) (call : ByteArray) (c : Nat) (hf : w.heap[f2]? = some (.cells #[.string nmWire, .string call, .int .i64 pl, rsn ad c] 72 (0, 0))) :
    Calls Tryd.prog 50 #[rgv rb, refv f2] w fun e w' => ∃ f, w.heap.size ≤ f ∧ e = gaveP f ∧ PeAt ad (.wire call pl c) f w' ∧ Kept [] w w' := by
  have h1 := RowAt.new w #[.pointer (some ⟨rb, 0, none⟩)] 59
  have c1 := ptr_rd h1
  have k1 : Kept [] w (w.alloc (.cells #[.pointer (some ⟨rb, 0, none⟩)] 59)) := (Kept.refl _ w).alloc _
  have HR := hid_of' (h.kept k1 (by simp) (by simp))
  have HF := hid_of' (And.intro (k1.heap hf (by simp)) k1)
  clear h hf k1
  go_enter Tryd.func50, Tryd.ntmps50
  go_wp2_with (first | (go_at_call 58; refine (at_any HR.out).mono ?_; rintro e w2 ⟨rfl, h0⟩; obtain rfl := h0.symm) | (go_at_call 60; refine (giveUpP_any _ _ _ _).mono ?_; rintro e w2 ⟨rfl, rfl⟩))
  exact ⟨rfl, _, by simp, rfl, ⟨f2, by have := heap_alloc_last (w.alloc (.cells #[.pointer (some ⟨rb, 0, none⟩)] 59)) #[.string nmPacket, .string nmRead, .int .i64 (pl : Int), refv f2] 72; rwa [World.size_alloc] at this, (((Kept.refl [] _).alloc _).heap HF.out.1 (by simp))⟩, HF.out.2.alloc _⟩

/-- A reading behind the box of 'r'. -/
theorem rd_box {ad : Nat → Addr} {rb g : Nat} {bs : List UInt8} {pl : Nat} {w : World} (L : Lw ad w) (h : RdAt rb g bs pl .nilIface w) : Lw ad (w.alloc (.cells #[.pointer (some ⟨rb, 0, none⟩)] 59)) ∧ RdAt rb g bs pl .nilIface (w.alloc (.cells #[.pointer (some ⟨rb, 0, none⟩)] 59)) ∧ RowAt w.heap.size #[.pointer (some ⟨rb, 0, none⟩)] 59 (w.alloc (.cells #[.pointer (some ⟨rb, 0, none⟩)] 59)) ∧ Kept [rb] w (w.alloc (.cells #[.pointer (some ⟨rb, 0, none⟩)] 59)) ∧ w.heap.size ≠ rb := by
  have k1 : Kept [] w (w.alloc (.cells #[.pointer (some ⟨rb, 0, none⟩)] 59)) := (Kept.refl _ w).alloc _
  have := lt_of_heap h.lies
  exact ⟨L.kept k1 (by simp), h.kept k1 (by simp) (by simp), RowAt.new _ _ _, k1.mono (by simp), by omega⟩
theorem Lw.rd {ad : Nat → Addr} {rb g : Nat} {bs : List UInt8} {pl : Nat} {br : Value} {w w' : World} (L : Lw ad w) (k : Kept [rb] w w') (h : RdAt rb g bs pl br w) : Lw ad w' := L.kept k (by simpa using h.lo)
theorem RowAt.rd {b rb : Nat} {cs : Array Value} {t : TypeId} {w w' : World} (h : RowAt b cs t w) (k : Kept [rb] w w') (hn : b ≠ rb) : RowAt b cs t w' := h.kept k (by simpa using hn)

theorem pNum_ok {most : Int} {bs : List UInt8} {pl n k : Nat} (h : numR (bs.drop pl) most = .ok (n, k)) : pNum most bs pl = .ok ((n : Int), pl + k) := by unfold pNum; rw [h]
theorem pNum_err {most : Int} {bs : List UInt8} {pl c : Nat} (h : numR (bs.drop pl) most = .error c) : pNum most bs pl = .error (.wire nmNumber pl c) := by unfold pNum; rw [h]

set_option maxHeartbeats 1000000 in
theorem number_rd {ad : Nat → Addr} {rb g : Nat} {bs : List UInt8} {pl : Nat} {w : World} (L : Lw ad w) (h : RdAt rb g bs pl .nilIface w) (most : Int) :
    Calls Tryd.prog 46 #[rgv rb, .int .i64 most] w (RdV ad rb g bs w (Value.int .i64) (pNum most bs pl)) := by
  obtain ⟨L1, h1, r1, k1, hne⟩ := rd_box L h
  have HN := hid_of' (Number_any L1 h1 most)
  have c1 := ptr_rd r1
  clear L h h1
  cases hr : numR (bs.drop pl) most with
  | error c =>
    have hr' : (numR (bs.drop pl) most).map (fun x => (Value.int .i64 x.1, x.2)) = .error c := by rw [hr]; rfl
    have HR := hid_of' (And.intro hr' (pNum_err hr))
    clear hr hr'
    go_enter Tryd.func46, Tryd.ntmps46
    go_upto_region 2 with (go_at_call 61; refine HN.out.mono ?_; intro e w2 h2; obtain ⟨f2, hf2, rfl, hr2, hl2, hk2⟩ := rdOut_err h2 HR.out.1)
    replace r1 := r1.rd hk2 hne
    replace k1 := k1.trans hk2
    clear h2 c1 HN hk2
    go_wp2_with (first | (refine ld_rg rfl _ rfl rfl r1 ?_) | (go_at_call 50; refine (checkP_err hr2 f2 _ c hl2).mono ?_; rintro e w3 ⟨f, hf, rfl, hp, hk3⟩))
    exact ⟨rfl, RdV.mkErr HR.out.2 (k1.go hk3 (by simp)) (by have := k1.size; omega) hp⟩
  | ok y =>
    obtain ⟨n, k⟩ := y
    have hr' : (numR (bs.drop pl) most).map (fun x => (Value.int .i64 x.1, x.2)) = .ok (.int .i64 n, k) := by rw [hr]; rfl
    have HR := hid_of' (And.intro hr' (pNum_ok hr))
    clear hr hr'
    go_enter Tryd.func46, Tryd.ntmps46
    go_upto_region 2 with (go_at_call 61; refine HN.out.mono ?_; intro e w2 h2; obtain ⟨rfl, hr2, hk2⟩ := rdOut_ok h2 HR.out.1)
    replace r1 := r1.rd hk2 hne
    replace k1 := k1.trans hk2
    clear h2 c1 HN hk2
    go_wp2_with (first | (refine ld_rg rfl _ rfl rfl r1 ?_) | (go_at_call 50; refine (checkP_nil rb _).mono ?_; rintro e w3 ⟨rfl, rfl⟩))
    go_ret
    exact RdV.mkOk HR.out.2 (k1.alloc _) (hr2.kept (S := []) ((Kept.refl _ _).alloc _) (by simp) (by simp))

theorem pKind_err {last : Int} {bs : List UInt8} {pl c : Nat} (h : byteR (bs.drop pl) = .error c) : pKind last bs pl = .error (.wire nmByte pl c) := by unfold pKind; rw [h]
theorem pKind_ok {last : Int} {bs : List UInt8} {pl n k : Nat} (h : byteR (bs.drop pl) = .ok (n, k)) (h1 : oneB n last = true) : pKind last bs pl = .ok ((n : Int), pl + k) := by
  simp only [oneB, Bool.and_eq_true, decide_eq_true_eq] at h1
  unfold pKind; rw [h]; simp only; rw [if_pos h1]
theorem pKind_no {last : Int} {bs : List UInt8} {pl n k : Nat} (h : byteR (bs.drop pl) = .ok (n, k)) (h1 : oneB n last = false) : pKind last bs pl = .error (.form pl) := by
  have h1' : ¬ (1 ≤ (n : Int) ∧ (n : Int) ≤ last) := fun hh => by
    have : oneB n last = true := by simp [oneB, hh]
    rw [this] at h1; cases h1
  unfold pKind; rw [h]; simp only; rw [if_neg h1']
theorem byteR_lt {bs : List UInt8} {n k : Nat} (h : byteR bs = .ok (n, k)) : n < 256 := by
  cases bs with
  | nil => simp [byteR] at h
  | cons b r => simp [byteR] at h; rw [← h.1]; exact b.toNat_lt
theorem wrap_small {n : Nat} (h : n < 256) : IntKind.i64.wrap (n : Int) = (n : Int) := by simp [IntKind.wrap, IntKind.bits, IntKind.signed]; omega

set_option maxHeartbeats 1000000 in
theorem kind_rd {ad : Nat → Addr} {rb g : Nat} {bs : List UInt8} {pl : Nat} {w : World} (L : Lw ad w) (h : RdAt rb g bs pl .nilIface w) (last : Int) :
    Calls Tryd.prog 45 #[rgv rb, .int .i64 last] w (RdV ad rb g bs w (Value.int .i64) (pKind last bs pl)) := by
  obtain ⟨L1, h1, r1, k1, hne⟩ := rd_box L h
  have HA := hid_of' (at_any h1)
  have HN := hid_of' (Byte_any L1 h1)
  have HL := hid_of' (And.intro L1 h1)
  have c1 := ptr_rd r1
  clear L h h1 L1
  cases hr : byteR (bs.drop pl) with
  | error c =>
    have hr' : (byteR (bs.drop pl)).map (fun x => (Value.int .u8 x.1, x.2)) = .error c := by rw [hr]; rfl
    have HR := hid_of' (And.intro hr' (pKind_err (last := last) hr))
    clear hr hr'
    go_enter Tryd.func45, Tryd.ntmps45
    go_upto_region 3 with (first | (go_at_call 58; refine HA.out.mono ?_; rintro e w2 ⟨rfl, h0⟩; obtain rfl := h0.symm) | (go_at_call 59; refine HN.out.mono ?_; intro e w2 h2; obtain ⟨f2, hf2, rfl, hr2, hl2, hk2⟩ := rdOut_err h2 HR.out.1))
    replace r1 := r1.rd hk2 hne
    replace k1 := k1.trans hk2
    clear h2 c1 HN hk2 HA
    go_wp2_with (first | (refine ld_rg rfl _ rfl rfl r1 ?_) | (go_at_call 50; refine (checkP_err hr2 f2 _ c hl2).mono ?_; rintro e w3 ⟨f, hf, rfl, hp, hk3⟩))
    exact ⟨rfl, RdV.mkErr HR.out.2 (k1.go hk3 (by simp)) (by have := k1.size; omega) hp⟩
  | ok y =>
    obtain ⟨n, k⟩ := y
    have hr' : (byteR (bs.drop pl)).map (fun x => (Value.int .u8 x.1, x.2)) = .ok (.int .u8 n, k) := by rw [hr]; rfl
    have hw := wrap_small (byteR_lt hr)
    cases ho : oneB n last with
    | true =>
      have HR := hid_of' (And.intro hr' (pKind_ok hr ho))
      clear hr hr'
      go_enter Tryd.func45, Tryd.ntmps45
      go_upto_region 3 with (first | (go_at_call 58; refine HA.out.mono ?_; rintro e w2 ⟨rfl, h0⟩; obtain rfl := h0.symm) | (go_at_call 59; refine HN.out.mono ?_; intro e w2 h2; obtain ⟨rfl, hr2, hk2⟩ := rdOut_ok h2 HR.out.1))
      replace r1 := r1.rd hk2 hne
      replace k1 := k1.trans hk2
      clear h2 c1 HN hk2 HA
      go_wp2_with (first | (refine ld_rg rfl _ rfl rfl r1 ?_) | (go_at_call 50; refine (checkP_nil rb _).mono ?_; rintro e w3 ⟨rfl, rfl⟩) | (go_at_call 20; refine (isOne_is ho _).mono ?_; rintro e w4 ⟨rfl, h0⟩; obtain rfl := h0.symm))
      go_ret
      exact RdV.mkOk HR.out.2 (k1.alloc _) (hr2.kept (S := []) ((Kept.refl _ _).alloc _) (by simp) (by simp))
    | false =>
      have HR := hid_of' (And.intro hr' (pKind_no hr ho))
      clear hr hr'
      go_enter Tryd.func45, Tryd.ntmps45
      go_upto_region 3 with (first | (go_at_call 58; refine HA.out.mono ?_; rintro e w2 ⟨rfl, h0⟩; obtain rfl := h0.symm) | (go_at_call 59; refine HN.out.mono ?_; intro e w2 h2; obtain ⟨rfl, hr2, hk2⟩ := rdOut_ok h2 HR.out.1))
      replace r1 := r1.rd hk2 hne
      replace k1 := k1.trans hk2
      have h5 : (w2.alloc (.cells #[.pointer (some ⟨rb, 0, none⟩)] 59)).cell? ⟨0, 0, none⟩ = some (rsn ad 5) := ((HL.out.1.rd hk2 HL.out.2).kept (S := []) ((Kept.refl _ _).alloc _) (by simp)).var 5 (by decide)
      clear h2 c1 HN hk2 HA
      go_wp2_with (first | (refine ld_rg rfl _ rfl rfl r1 ?_) | (go_at_call 50; refine (checkP_nil rb _).mono ?_; rintro e w3 ⟨rfl, rfl⟩) | (go_at_call 20; refine (isOne_is ho _).mono ?_; rintro e w4 ⟨rfl, h0⟩; obtain rfl := h0.symm) | (go_at_call 60; refine (giveUpP_any pl _ _ _).mono ?_; rintro e w5 ⟨rfl, rfl⟩))
      exact ⟨rfl, RdV.mkErr HR.out.2 ((k1.alloc _).alloc _) (by have := k1.size; simp; omega) (heap_alloc2_new _ _ _)⟩

theorem pNz_err {most : Int} {bs : List UInt8} {pl : Nat} {x : Pe} (h : pNum most bs pl = .error x) : pNz most bs pl = .error x := by unfold pNz; rw [h]
theorem pNz_no {most : Int} {bs : List UInt8} {pl q : Nat} (h : pNum most bs pl = .ok (0, q)) : pNz most bs pl = .error (.form pl) := by unfold pNz; rw [h]; rfl
theorem pNz_ok {most : Int} {bs : List UInt8} {pl q : Nat} {n : Int} (h : pNum most bs pl = .ok (n, q)) (h0 : n ≠ 0) : pNz most bs pl = .ok (n, q) := by unfold pNz; rw [h]; simp only; rw [if_neg h0]

set_option maxHeartbeats 1000000 in
theorem notZero_rd {ad : Nat → Addr} {rb g : Nat} {bs : List UInt8} {pl : Nat} {w : World} (L : Lw ad w) (h : RdAt rb g bs pl .nilIface w) (most : Int) :
    Calls Tryd.prog 77 #[rgv rb, .int .i64 most] w (RdV ad rb g bs w (Value.int .i64) (pNz most bs pl)) := by
  obtain ⟨L1, h1, r1, k1, hne⟩ := rd_box L h
  have HA := hid_of' (at_any h1)
  have HN := hid_of' (number_rd L1 h1 most)
  have HL := hid_of' (And.intro L1 h1)
  have c1 := ptr_rd r1
  clear L h h1 L1
  cases hr : pNum most bs pl with
  | error x =>
    have HR := hid_of' (And.intro hr (pNz_err hr))
    clear hr
    go_enter Tryd.func77, Tryd.ntmps77
    go_wp2_with (first | (go_at_call 58; refine HA.out.mono ?_; rintro e w2 ⟨rfl, h0⟩; obtain rfl := h0.symm) | (refine ld_rg rfl _ rfl rfl r1 ?_) | (go_at_call 46; refine HN.out.mono ?_; intro e w2 h2; obtain ⟨hk2, f, hf, rfl, hp⟩ := h2.err HR.out.1))
    exact ⟨rfl, RdV.mkErr HR.out.2 (k1.trans hk2) (by have := k1.size; omega) hp⟩
  | ok y =>
    obtain ⟨n, q⟩ := y
    by_cases h0 : n = 0
    · subst h0
      have HR := hid_of' (And.intro hr (pNz_no hr))
      clear hr
      go_enter Tryd.func77, Tryd.ntmps77
      go_upto_region 3 with (first | (go_at_call 58; refine HA.out.mono ?_; rintro e w2 ⟨rfl, h0⟩; obtain rfl := h0.symm) | (refine ld_rg rfl _ rfl rfl r1 ?_) | (go_at_call 46; refine HN.out.mono ?_; intro e w2 h2; obtain ⟨hk2, rfl, hr2⟩ := h2.ok HR.out.1))
      have h5 : w2.cell? ⟨0, 0, none⟩ = some (rsn ad 5) := (HL.out.1.rd hk2 HL.out.2).var 5 (by decide)
      replace k1 := k1.trans hk2
      clear h2 HN HA c1 hk2
      go_wp2_with (go_at_call 60; refine (giveUpP_any pl _ _ _).mono ?_; rintro e w5 ⟨rfl, rfl⟩)
      exact ⟨rfl, RdV.mkErr HR.out.2 (k1.alloc _) k1.size (heap_alloc_last _ _ _)⟩
    · have h0' : (n == 0) = false := by simpa using h0
      have HR := hid_of' (And.intro hr (pNz_ok hr h0))
      clear hr h0
      go_enter Tryd.func77, Tryd.ntmps77
      go_wp2_with (first | (go_at_call 58; refine HA.out.mono ?_; rintro e w2 ⟨rfl, h0⟩; obtain rfl := h0.symm) | (refine ld_rg rfl _ rfl rfl r1 ?_) | (go_at_call 46; refine HN.out.mono ?_; intro e w2 h2; obtain ⟨hk2, rfl, hr2⟩ := h2.ok HR.out.1))
      go_ret
      exact RdV.mkOk HR.out.2 (k1.trans hk2) hr2

set_option maxHeartbeats 1000000 in
theorem entry_rd {ad : Nat → Addr} {rb g : Nat} {bs : List UInt8} {pl : Nat} {w : World} (L : Lw ad w) (h : RdAt rb g bs pl .nilIface w) (last : Bool) (most : Int) :
    Calls Tryd.prog 64 #[rgv rb, .bool last, .int .i64 most] w (RdV ad rb g bs w (Value.int .i64) (pEntry most last bs pl)) := by
  obtain ⟨L1, h1, r1, k1, hne⟩ := rd_box L h
  have HA := hid_of' (notZero_rd L1 h1 most)
  have HN := hid_of' (number_rd L1 h1 most)
  clear L h h1 L1
  cases last with
  | true =>
    have hp : pEntry most true bs pl = pNz most bs pl := rfl
    rw [hp]
    cases hr : pNz most bs pl with
    | error x =>
      have HR := hid_of' hr
      clear hr
      go_enter Tryd.func64, Tryd.ntmps64
      go_wp2_with (first | (refine ld_rg rfl _ rfl rfl r1 ?_) | (go_at_call 77; refine HA.out.mono ?_; intro e w2 h2; obtain ⟨hk2, f, hf, rfl, hp⟩ := h2.err HR.out))
      exact ⟨rfl, RdV.mkErr rfl (k1.trans hk2) (by have := k1.size; omega) hp⟩
    | ok y =>
      obtain ⟨n, q⟩ := y
      have HR := hid_of' hr
      clear hr
      go_enter Tryd.func64, Tryd.ntmps64
      go_wp2_with (first | (refine ld_rg rfl _ rfl rfl r1 ?_) | (go_at_call 77; refine HA.out.mono ?_; intro e w2 h2; obtain ⟨hk2, rfl, hr2⟩ := h2.ok HR.out))
      go_ret
      exact RdV.mkOk rfl (k1.trans hk2) hr2
  | false =>
    have hp : pEntry most false bs pl = pNum most bs pl := rfl
    rw [hp]
    cases hr : pNum most bs pl with
    | error x =>
      have HR := hid_of' hr
      clear hr
      go_enter Tryd.func64, Tryd.ntmps64
      go_wp2_with (first | (refine ld_rg rfl _ rfl rfl r1 ?_) | (go_at_call 46; refine HN.out.mono ?_; intro e w2 h2; obtain ⟨hk2, f, hf, rfl, hp⟩ := h2.err HR.out))
      exact ⟨rfl, RdV.mkErr rfl (k1.trans hk2) (by have := k1.size; omega) hp⟩
    | ok y =>
      obtain ⟨n, q⟩ := y
      have HR := hid_of' hr
      clear hr
      go_enter Tryd.func64, Tryd.ntmps64
      go_wp2_with (first | (refine ld_rg rfl _ rfl rfl r1 ?_) | (go_at_call 46; refine HN.out.mono ?_; intro e w2 h2; obtain ⟨hk2, rfl, hr2⟩ := h2.ok HR.out))
      go_ret
      exact RdV.mkOk rfl (k1.trans hk2) hr2
end Go.Proofs.YtpjanipodigamaaDoor
