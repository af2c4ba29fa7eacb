
/-
  The document's reading of a message, in plain words: it goes as one that gives up at the first refusal.
-/
import Derived.Test.YtpkblfhkblllhaaGreatDoorRP43
namespace Go.Proofs.YtpkblfhkblllhaaGreatDoor
open Go.RowKit
set_option maxRecDepth 100000

/-- What a reading that goes on with zeros leaves, beside one that gives up. -/
def Sim {α : Type} (p : Except Pe (α × Nat)) (r : α × PS) : Prop := match p with
  | .ok (a, q) => r = (a, ⟨q, none, none⟩)
  | .error (.form x) => r.2.wf = some x ∧ r.2.st = none
  | .error (.wire c x k) => r.2.st = some (c, x, k) ∧ r.2.wf = none ∧ r.2.pl = x
theorem Sim.err {α β : Type} {e : Pe} {r : α × PS} {r' : β × PS} (h : Sim (.error e : Except Pe (α × Nat)) r) (hr : r'.2 = r.2) : Sim (.error e : Except Pe (β × Nat)) r' := by
  cases e with
  | form x => simp only [Sim] at h ⊢; rw [hr]; exact h
  | wire c x k => simp only [Sim] at h ⊢; rw [hr]; exact h
theorem Sim.bad {α : Type} {e : Pe} {r : α × PS} (h : Sim (.error e : Except Pe (α × Nat)) r) : r.2.bad = true := by
  cases e with
  | form x => simp only [Sim] at h; simp [PS.bad, h.1]
  | wire c x k => simp only [Sim] at h; simp [PS.bad, h.1]
structure Goes {α : Type} (bs : List UInt8) (p : Prs α) (R : PS → α × PS) : Prop where
  good : ∀ pl, Sim (p bs pl) (R ⟨pl, none, none⟩)
  bad : ∀ s, s.bad = true → (R s).2 = s
theorem Goes.congr {α : Type} {bs : List UInt8} {p : Prs α} {R R' : PS → α × PS} (h : Goes bs p R) (e : ∀ s, R' s = R s) : Goes bs p R' := by
  have : R' = R := funext e
  rw [this]; exact h
theorem goes_pure {α : Type} (bs : List UInt8) (z : α) : Goes bs (pPure z) (fun s => (z, s)) := ⟨fun _ => rfl, fun _ _ => rfl⟩
theorem Goes.seq {α β : Type} {bs : List UInt8} {p : Prs α} {q : α → Prs β} {R : PS → α × PS} {R' : α → PS → β × PS} (hp : Goes bs p R) (hq : ∀ a, Goes bs (q a) (R' a)) :
    Goes bs (pSeq p q) (fun s => (((R s).1, (R' (R s).1 (R s).2).1), (R' (R s).1 (R s).2).2)) := by
  constructor
  · intro pl
    have h1 := hp.good pl
    cases hp1 : p bs pl with
    | error e =>
      rw [hp1] at h1
      rw [pSeq_err hp1]
      exact h1.err ((hq _).bad _ h1.bad)
    | ok y =>
      obtain ⟨a, k⟩ := y
      rw [hp1] at h1
      have h1' : R ⟨pl, none, none⟩ = (a, ⟨k, none, none⟩) := h1
      simp only [h1']
      have h2 := (hq a).good k
      cases hp2 : q a bs k with
      | error e =>
        rw [hp2] at h2
        rw [pSeq_err2 hp1 hp2]
        exact h2.err rfl
      | ok y =>
        obtain ⟨b, k2⟩ := y
        rw [hp2] at h2
        have h2' : R' a ⟨k, none, none⟩ = (b, ⟨k2, none, none⟩) := h2
        rw [pSeq_ok hp1 hp2]
        simp only [h2']
        rfl
  · intro s hs
    have h1 := hp.bad s hs
    show (R' (R s).1 (R s).2).2 = s
    rw [h1]
    exact (hq _).bad s hs
theorem Goes.map {α β : Type} {bs : List UInt8} {p : Prs α} {R : PS → α × PS} (hp : Goes bs p R) (g : α → β) : Goes bs (pMap g p) (fun s => (g (R s).1, (R s).2)) := by
  refine ⟨fun pl => ?_, fun s hs => hp.bad s hs⟩
  have h1 := hp.good pl
  cases hp1 : p bs pl with
  | error e =>
    rw [hp1] at h1
    rw [pMap_err hp1]
    exact h1.err rfl
  | ok y =>
    obtain ⟨a, k⟩ := y
    rw [hp1] at h1
    have h1' : R ⟨pl, none, none⟩ = (a, ⟨k, none, none⟩) := h1
    rw [pMap_ok hp1]
    simp only [h1']
    rfl
theorem goes_ite {α : Type} {bs : List UInt8} {c : Prop} [Decidable c] {p q : Prs α} {R R' : PS → α × PS} (h1 : Goes bs p R) (h2 : Goes bs q R') : Goes bs (if c then p else q) (fun s => if c then R s else R' s) := by
  by_cases hc : c
  · simp only [if_pos hc]; exact h1
  · simp only [if_neg hc]; exact h2
theorem PS.form_bad {s : PS} (h : s.bad = true) (p : Nat) (no : Bool) : s.form p no = s := by simp [PS.form, h]
theorem goes_num (bs : List UInt8) (most : Int) : Goes bs (pNum most) (fun s => s.number bs most) := by
  constructor
  · intro pl
    unfold pNum
    show Sim _ (PS.number bs ⟨pl, none, none⟩ most)
    cases hr : numR (bs.drop pl) most with
    | error c => simp only [PS.number, PS.bad, hr]; exact ⟨rfl, rfl, rfl⟩
    | ok y => obtain ⟨n, k⟩ := y; simp only [PS.number, PS.bad, hr]; rfl
  · intro s hs
    simp [PS.number, hs]
theorem goes_cnt (bs : List UInt8) : Goes bs pCnt (fun s => s.count bs 4) := by
  constructor
  · intro pl
    unfold pCnt
    show Sim _ (PS.count bs ⟨pl, none, none⟩ 4)
    cases hr : cntR (bs.drop pl) 4 2147483647 with
    | error c => simp only [PS.count, PS.bad, hr]; exact ⟨rfl, rfl, rfl⟩
    | ok y => obtain ⟨n, k⟩ := y; simp only [PS.count, PS.bad, hr]; rfl
  · intro s hs
    simp [PS.count, hs]
theorem goes_kind (bs : List UInt8) (last : Int) : Goes bs (pKind last) (fun s => s.byte bs 1 last) := by
  constructor
  · intro pl
    unfold pKind
    show Sim _ (PS.byte bs ⟨pl, none, none⟩ 1 last)
    cases hd : bs.drop pl with
    | nil => simp only [PS.byte, PS.byte0, PS.bad, hd, byteR]; exact ⟨rfl, rfl, rfl⟩
    | cons b r =>
      simp only [PS.byte, PS.byte0, PS.bad, hd, byteR]
      by_cases h1 : 1 ≤ (b.toNat : Int) ∧ (b.toNat : Int) ≤ last
      · rw [if_pos h1]
        have e : (decide ((b.toNat : Int) < 1) || decide (last < (b.toNat : Int))) = false := by simp; omega
        simp only [e]
        rfl
      · rw [if_neg h1]
        have e : (decide ((b.toNat : Int) < 1) || decide (last < (b.toNat : Int))) = true := by simp; omega
        simp only [e]
        exact ⟨rfl, rfl⟩
  · intro s hs
    simp [PS.byte, hs]
/-- A number that is not 0 where it is the last one. -/
def PS.entry (bs : List UInt8) (most : Int) (last : Bool) (s : PS) : Int × PS := ((s.number bs most).1, (s.number bs most).2.form s.pl (last && decide ((s.number bs most).1 = 0)))
theorem goes_entry (bs : List UInt8) (most : Int) (last : Bool) : Goes bs (pEntry most last) (PS.entry bs most last) := by
  have hn := goes_num bs most
  constructor
  · intro pl
    have h1 := hn.good pl
    cases hp1 : pNum most bs pl with
    | error e =>
      rw [hp1] at h1
      have hp : pEntry most last bs pl = .error e := by cases last <;> simp [pEntry, pNz, hp1]
      rw [hp]
      exact h1.err (PS.form_bad h1.bad _ _)
    | ok y =>
      obtain ⟨a, k⟩ := y
      rw [hp1] at h1
      have h1' : PS.number bs ⟨pl, none, none⟩ most = (a, ⟨k, none, none⟩) := h1
      unfold PS.entry
      rw [h1']
      cases last with
      | false =>
        have hp : pEntry most false bs pl = .ok (a, k) := by simp [pEntry, hp1]
        rw [hp]
        rfl
      | true =>
        simp only [pEntry, pNz, hp1, Bool.true_and, if_true]
        by_cases h0 : a = 0
        · rw [if_pos h0]; simp only [h0]; exact ⟨rfl, rfl⟩
        · rw [if_neg h0]; simp only [h0, decide_false]; rfl
  · intro s hs
    have h2 : (s.number bs most).2 = s := hn.bad s hs
    simp only [PS.entry, h2]
    exact PS.form_bad hs _ _
/-- m more of n things of a row, from the i-th on. -/
def PS.row {α : Type} (e : Bool → PS → α × PS) (n : Nat) : Nat → Nat → List α → PS → List α × PS
  | 0, _, c, s => (c, s)
  | m + 1, i, c, s => PS.row e n m (i + 1) (c.set i (e (decide (i + 1 = n)) s).1) (e (decide (i + 1 = n)) s).2
theorem PS.row_bad {α : Type} {bs : List UInt8} {p : Bool → Prs α} {e : Bool → PS → α × PS} (he : ∀ last, Goes bs (p last) (e last)) (n : Nat) : ∀ m i c s, s.bad = true → (PS.row e n m i c s).2 = s
  | 0, _, _, _, _ => rfl
  | m + 1, i, c, s, hs => by
    have h1 := (he (decide (i + 1 = n))).bad s hs
    unfold PS.row
    rw [h1]
    exact PS.row_bad he n m _ _ s hs
theorem set_pre {α : Type} (z a : α) (pre : List α) (i : Nat) (hi : pre.length = i) (h8 : i < 8) : (pre ++ List.replicate (8 - i) z).set i a = (pre ++ [a]) ++ List.replicate (8 - (i + 1)) z := by
  rw [show 8 - i = (8 - (i + 1)) + 1 by omega, List.replicate_succ, List.set_append_right _ _ (by omega), hi, Nat.sub_self, List.set_cons_zero]
  simp
theorem goes_rowM {α : Type} {bs : List UInt8} {p : Bool → Prs α} {e : Bool → PS → α × PS} (he : ∀ last, Goes bs (p last) (e last)) (z : α) (n : Nat) (hn : n ≤ 8) : ∀ m i (pre : List α), pre.length = i → i + m = n →
    ∀ pl, Sim (pMap (fun l => pre ++ l ++ List.replicate (8 - n) z) (pMany p m) bs pl) (PS.row e n m i (pre ++ List.replicate (8 - i) z) ⟨pl, none, none⟩)
  | 0, i, pre, hi, hm, pl => by
    obtain rfl : i = n := by omega
    rw [pMap_ok (p := pMany p 0) (a := []) (k := pl) rfl, List.append_nil]
    rfl
  | m + 1, i, pre, hi, hm, pl => by
    have hl : (m == 0) = decide (i + 1 = n) := by
      rw [Bool.eq_iff_iff]; simp; omega
    have h1 := (he (decide (i + 1 = n))).good pl
    unfold PS.row
    cases hp1 : p (decide (i + 1 = n)) bs pl with
    | error x =>
      rw [hp1] at h1
      rw [pMap_err (p := pMany p (m + 1)) (e := x) (by unfold pMany; rw [hl]; exact pMap_err (pSeq_err hp1))]
      exact h1.err (PS.row_bad he n _ _ _ _ h1.bad)
    | ok y =>
      obtain ⟨a, k⟩ := y
      rw [hp1] at h1
      have h1' : e (decide (i + 1 = n)) ⟨pl, none, none⟩ = (a, ⟨k, none, none⟩) := h1
      rw [h1', set_pre z a pre i hi (by omega)]
      have h2 := goes_rowM he z n hn m (i + 1) (pre ++ [a]) (by simp [hi]) (by omega) k
      cases hp2 : pMany p m bs k with
      | error x =>
        rw [pMap_err hp2] at h2
        rw [pMap_err (p := pMany p (m + 1)) (e := x) (by unfold pMany; rw [hl]; exact pMap_err (pSeq_err2 hp1 hp2))]
        exact h2
      | ok y =>
        obtain ⟨l, k2⟩ := y
        rw [pMap_ok hp2] at h2
        rw [pMap_ok (p := pMany p (m + 1)) (a := a :: l) (k := k2) (by unfold pMany; rw [hl]; exact pMap_ok (pSeq_ok hp1 hp2))]
        simpa using h2
theorem pMany_len {α : Type} {bs : List UInt8} {p : Bool → Prs α} : ∀ {m : Nat} {pl : Nat} {l : List α} {q : Nat}, pMany p m bs pl = .ok (l, q) → l.length = m
  | 0, pl, l, q, h => by
    simp only [pMany, pPure, Except.ok.injEq, Prod.mk.injEq] at h
    rw [← h.1]; rfl
  | m + 1, pl, l, q, h => by
    unfold pMany at h
    cases hp1 : p (m == 0) bs pl with
    | error x => rw [pMap_err (pSeq_err hp1)] at h; cases h
    | ok y =>
      obtain ⟨a, k⟩ := y
      cases hp2 : pMany p m bs k with
      | error x => rw [pMap_err (pSeq_err2 hp1 hp2)] at h; cases h
      | ok y =>
        obtain ⟨l', k2⟩ := y
        rw [pMap_ok (pSeq_ok hp1 hp2)] at h
        simp only [Except.ok.injEq, Prod.mk.injEq] at h
        rw [← h.1, List.length_cons, pMany_len hp2]
def PS.rowG {α : Type} (bs : List UInt8) (z : α) (e : Bool → PS → α × PS) (s : PS) : List α × PS :=
  PS.row e (s.number bs 8).1.toNat (s.number bs 8).1.toNat 0 (List.replicate 8 z) (s.number bs 8).2
theorem goes_rowG {α : Type} {bs : List UInt8} {p : Bool → Prs α} {e : Bool → PS → α × PS} (he : ∀ last, Goes bs (p last) (e last)) (z : α) : Goes bs (pRowG z p) (PS.rowG bs z e) := by
  have hn := goes_num bs 8
  constructor
  · intro pl
    have h1 := hn.good pl
    unfold PS.rowG
    have hf := (number_fit bs ⟨pl, none, none⟩ 8 (by decide)).2
    cases hp1 : pNum 8 bs pl with
    | error x =>
      rw [hp1] at h1
      rw [show pRowG z p bs pl = .error x from pMap_err (pSeq_err hp1)]
      exact h1.err (PS.row_bad he _ _ _ _ _ h1.bad)
    | ok y =>
      obtain ⟨a, k⟩ := y
      rw [hp1] at h1
      have h1' : PS.number bs ⟨pl, none, none⟩ 8 = (a, ⟨k, none, none⟩) := h1
      rw [h1'] at hf ⊢
      dsimp only at hf ⊢
      have h2 := goes_rowM he z a.toNat (by omega) a.toNat 0 [] rfl (by omega) k
      cases hp2 : pMany p a.toNat bs k with
      | error x =>
        rw [pMap_err hp2] at h2
        rw [show pRowG z p bs pl = .error x from pMap_err (pSeq_err2 hp1 hp2)]
        exact h2
      | ok y =>
        obtain ⟨l, k2⟩ := y
        rw [pMap_ok hp2] at h2
        rw [show pRowG z p bs pl = .ok (pad8 z l, k2) from pMap_ok (pSeq_ok hp1 hp2)]
        have hl := pMany_len hp2
        unfold pad8
        rw [hl]
        exact h2
  · intro s hs
    have h1 : (s.number bs 8).2 = s := hn.bad s hs
    unfold PS.rowG
    rw [h1]
    exact PS.row_bad he _ _ _ _ s hs
theorem clk_row (bs : List UInt8) (n : Nat) : ∀ m i c s, PS.clk bs n m i c s = PS.row (PS.entry bs 9223372036854775807) n m i c s
  | 0, _, _, _ => rfl
  | m + 1, i, c, s => by
    unfold PS.clk PS.row
    exact clk_row bs n m _ _ _
theorem goes_clock (bs : List UInt8) : Goes bs (pRow mx63) (PS.clock bs) :=
  (goes_rowG (fun last => goes_entry bs mx63 last) (0 : Int)).congr fun _s => clk_row bs _ _ _ _ _
theorem goes_act (bs : List UInt8) : Goes bs pAct (PS.act bs) :=
  (Goes.seq (Goes.seq (goes_kind bs 3) fun k => Goes.seq (goes_num bs 7) fun _ => Goes.seq (goes_num bs mx63) fun _ => goes_ite (c := k = 1) (goes_num bs 1114111) (goes_pure bs 0)) fun _ => Goes.seq (goes_entry bs mx63 true) fun _ => goes_clock bs).congr fun _ => rfl
theorem acts_bad (bs : List UInt8) : ∀ m s, s.bad = true → PS.acts bs m s = ([], s)
  | 0, _, _ => rfl
  | m + 1, s, hs => by simp [PS.acts, hs]
theorem goes_times (bs : List UInt8) : ∀ m, Goes bs (pTimes pAct m) (PS.acts bs m)
  | 0 => goes_pure bs []
  | m + 1 => by
    have ih := goes_times bs m
    refine ⟨fun pl => ?_, fun s hs => by rw [acts_bad bs _ s hs]⟩
    have h1 := (goes_act bs).good pl
    have hb : PS.bad ⟨pl, none, none⟩ = false := rfl
    unfold PS.acts
    simp only [hb, Bool.false_eq_true, if_false]
    cases hp1 : pAct bs pl with
    | error x =>
      rw [hp1] at h1
      rw [show pTimes pAct (m + 1) bs pl = .error x from pMap_err (pSeq_err hp1)]
      exact h1.err (by simp only [acts_bad bs m _ h1.bad])
    | ok y =>
      obtain ⟨a, k⟩ := y
      rw [hp1] at h1
      have h1' : PS.act bs ⟨pl, none, none⟩ = (a, ⟨k, none, none⟩) := h1
      rw [h1']
      have h2 := ih.good k
      cases hp2 : pTimes pAct m bs k with
      | error x =>
        rw [hp2] at h2
        rw [show pTimes pAct (m + 1) bs pl = .error x from pMap_err (pSeq_err2 hp1 hp2)]
        exact h2.err rfl
      | ok y =>
        obtain ⟨l, k2⟩ := y
        rw [hp2] at h2
        have h2' : PS.acts bs m ⟨k, none, none⟩ = (l, ⟨k2, none, none⟩) := h2
        rw [show pTimes pAct (m + 1) bs pl = .ok (a :: l, k2) from pMap_ok (pSeq_ok hp1 hp2)]
        simp only [h2']
        rfl
def PS.actsC (bs : List UInt8) (s : PS) : List Pac × PS := PS.acts bs (s.count bs 4).1.toNat (s.count bs 4).2
theorem goes_acts (bs : List UInt8) : Goes bs pActs (PS.actsC bs) :=
  ((Goes.seq (goes_cnt bs) fun n => goes_times bs n.toNat).map (fun x => x.2)).congr fun _ => rfl
/-- Votes; one round; all rounds. -/
def PS.votes (bs : List UInt8) (s : PS) : List Int × PS := PS.rowG bs 0 (PS.entry bs 2) s
def PS.rest (bs : List UInt8) (s : PS) : (List Int × List Int × Int) × PS :=
  (((s.clock bs).1, ((s.clock bs).2.votes bs).1, (((s.clock bs).2.votes bs).2.number bs 2).1), (((s.clock bs).2.votes bs).2.number bs 2).2)
def PS.rnd (bs : List UInt8) (last : Bool) (s : PS) : Prn × PS :=
  if (s.entry bs mx63 last).1 = 0 then (zeroR, (s.entry bs mx63 last).2) else (((s.entry bs mx63 last).1, ((s.entry bs mx63 last).2.rest bs).1), ((s.entry bs mx63 last).2.rest bs).2)
def PS.rounds (bs : List UInt8) (s : PS) : List Prn × PS := PS.rowG bs zeroR (PS.rnd bs) s
theorem goes_votes (bs : List UInt8) : Goes bs (pRow 2) (PS.votes bs) := goes_rowG (fun last => goes_entry bs 2 last) (0 : Int)
theorem goes_rnd (bs : List UInt8) (last : Bool) : Goes bs (pRnd last) (PS.rnd bs last) := by
  refine (Goes.seq (goes_entry bs mx63 last) fun n => goes_ite (c := n = 0) (goes_pure bs (zero8, zero8, 0)) ((Goes.seq (goes_clock bs) fun _ => Goes.seq (goes_votes bs) fun _ => goes_num bs 2).congr (R' := PS.rest bs) fun _ => rfl)).congr fun s => ?_
  unfold PS.rnd
  split
  · rename_i h
    rw [h]
    rfl
  · rfl
theorem goes_rounds (bs : List UInt8) : Goes bs pRnds (PS.rounds bs) := goes_rowG (fun last => goes_rnd bs last) zeroR
/-- A message. -/
def PS.body (bs : List UInt8) (k : Int) (s : PS) : (List Int × List Pac × List Prn) × PS :=
  let a : List Pac × PS := if k = 1 ∨ k = 3 then s.actsC bs else ([], s)
  let c : List Int × PS := if k = 2 then a.2.clock bs else (zero8, a.2)
  let r : List Prn × PS := if k = 3 ∨ k = 4 then c.2.rounds bs else (zeroRs, c.2)
  ((c.1, a.1, r.1), r.2)
def PS.msg (bs : List UInt8) (s : PS) : Pms × PS :=
  let k := s.byte bs 1 4
  let f := k.2.number bs 7
  let e := f.2.number bs mx63
  let b := e.2.body bs k.1
  ((k.1, f.1, e.1, b.1), b.2)
theorem goes_body (bs : List UInt8) (k : Int) : Goes bs (pBody k) (PS.body bs k) := by
  refine (Goes.seq (goes_ite (c := k = 2) (goes_clock bs) (goes_pure bs zero8)) fun _ => Goes.seq (goes_ite (c := k = 1 ∨ k = 3) (goes_acts bs) (goes_pure bs [])) fun _ => goes_ite (c := k = 3 ∨ k = 4) (goes_rounds bs) (goes_pure bs zeroRs)).congr fun s => ?_
  unfold PS.body
  by_cases h2 : k = 2
  · subst h2
    simp
  · simp only [if_neg h2]
theorem goes_msg (bs : List UInt8) : Goes bs pMsg (PS.msg bs) :=
  (Goes.seq (goes_kind bs 4) fun k => Goes.seq (goes_num bs 7) fun _ => Goes.seq (goes_num bs mx63) fun _ => goes_body bs k).congr fun _ => rfl
/-- Behind it: nothing is left. -/
def PS.fin (bs : List UInt8) (s : PS) : PS := if s.bad then s else match endR (bs.drop s.pl) with
  | .ok _ => s
  | .error c => { s with st := some (⟨#[69, 110, 100]⟩, s.pl, c) }
def PS.all (bs : List UInt8) : Pms × PS := ((PS.msg bs ⟨0, none, none⟩).1, (PS.msg bs ⟨0, none, none⟩).2.fin bs)
/-- What the document's Read comes to. -/
theorem all_is (bs : List UInt8) : match readM bs with
    | .ok m => (PS.all bs).1 = m ∧ (PS.all bs).2.bad = false
    | .error (.form p) => (PS.all bs).2.wf = some p
    | .error (.wire c p k) => (PS.all bs).2.wf = none ∧ (PS.all bs).2.st = some (c, p, k) ∧ (PS.all bs).2.pl = p := by
  have h1 := (goes_msg bs).good 0
  unfold PS.all
  cases hp1 : pMsg bs 0 with
  | error e =>
    rw [hp1] at h1
    rw [readM_err hp1]
    have hb := h1.bad
    unfold PS.fin
    rw [hb]
    cases e with
    | form x => exact h1.1
    | wire c x k => exact ⟨h1.2.1, h1.1, h1.2.2⟩
  | ok y =>
    obtain ⟨m, q⟩ := y
    rw [hp1] at h1
    have h1' : PS.msg bs ⟨0, none, none⟩ = (m, ⟨q, none, none⟩) := h1
    rw [h1']
    have hb : PS.bad ⟨q, none, none⟩ = false := rfl
    unfold PS.fin
    simp only [hb, Bool.false_eq_true, if_false]
    cases hr : endR (bs.drop q) with
    | error c =>
      rw [readM_end hp1 hr]
      exact ⟨rfl, rfl, rfl⟩
    | ok u =>
      rw [readM_ok hp1 hr]
      exact ⟨rfl, hb⟩
end Go.Proofs.YtpkblfhkblllhaaGreatDoor
