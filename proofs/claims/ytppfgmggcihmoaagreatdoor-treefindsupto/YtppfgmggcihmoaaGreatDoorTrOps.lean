/-
  Calls as they came in, and what changes makes of a pair.
-/
import Derived.Test.YtppfgmggcihmoaaGreatDoorTrChr
namespace Go.Proofs.YtppfgmggcihmoaaGreatDoor
open Go.RowKit
set_option maxRecDepth 100000

/-- A call. -/
structure Opx where
  dv : Int
  iv : Int
  nv : Int
  sl : Value
  l : List El
def ocs (d i n : Int) (s : Value) : Array Value := #[.int .i64 d, .int .i64 i, .int .i64 n, s]
/-- What a call that came in keeps to. -/
def Opx.Ok (w0 : World) (x : Opx) : Prop := (-9223372036854775808 ≤ x.dv ∧ x.dv ≤ 9223372036854775807) ∧ (-9223372036854775808 ≤ x.iv ∧ x.iv ≤ 9223372036854775807) ∧ (-9223372036854775808 ≤ x.nv ∧ x.nv ≤ 9223372036854775807) ∧ SlE w0 x.sl x.l ∧ ∀ a n c, x.sl = .slice a n c → n ≤ c
/-- Calls in memory. -/
def SlO (w0 : World) (v : Value) (os : List Opx) : Prop := (os = [] ∧ ∃ a c, v = .slice a 0 c) ∨ ∃ g o_ c, v = .slice (some ⟨g, o_, none⟩) os.length c ∧ ∀ i x, os[i]? = some x → x.Ok w0 ∧ CsIn g (o_ + i * 4) (ocs x.dv x.iv x.nv x.sl) w0
theorem PrAt.later {w0 : World} {R : Rows} {pb tb ch : Nat} {l : List El} {w w' : World} (h : PrAt w0 R pb tb ch l w) (hb : Below w.heap.size w w') : PrAt w0 R pb tb ch l w' := by
  obtain ⟨ul, h1, h2, h3, h4, h5⟩ := h
  exact ⟨ul, h1.later hb, h2.later hb, h3.later hb, h4.trans (hb.mono h4.size), Nat.le_trans h5 hb.size⟩
/-- What changes answers. -/
def ChgOut (w0 : World) (R : Rows) (pb tb ch : Nat) (r : Ending) (w' : World) : Prop := r = .returned (.bool true) ∧ ∃ l', l'.length ≤ 600 ∧ PrAt w0 R pb tb ch l' w'
theorem chg0 {w0 : World} {R : Rows} {pb tb ch : Nat} {l : List El} {w : World} (C : PrC w0 R pb tb ch) (h : PrAt w0 R pb tb ch l w) (hl : l.length ≤ 600) (ip : Nat) (hip : ip ≤ l.length) (nn : Int) (x : Opx) (hx : x.Ok w0) :
    Calls Tryz.prog 8 #[pv pb, .agg (ocs 0 ip nn x.sl)] w (ChgOut w0 R pb tb ch) := by
  obtain ⟨_, _, _, hs, hcap⟩ := hx
  obtain ⟨a, c, hv⟩ := hs.form
  have hc := hcap _ _ _ hv
  rw [hv] at hs ⊢
  unfold ocs
  by_cases h60 : x.l.length ≤ 60
  · by_cases hsum : l.length + x.l.length ≤ 600
    · refine (chg_ins C h ip hip nn x.l a c hs h60 hsum).mono ?_
      rintro r w' ⟨rfl, h'⟩
      exact ⟨rfl, _, by simp only [List.length_append, List.length_take, List.length_drop]; omega, h'⟩
    · refine (chg_full h ip nn x.l.length a c h60 hl (by omega)).mono ?_
      rintro r w' ⟨rfl, h'⟩
      exact ⟨rfl, _, hl, h'⟩
  · have hne : x.l ≠ [] := fun e => by rw [e] at h60; simp at h60
    rcases hs with ⟨e, _⟩ | ⟨g, o_, c', e, hE⟩
    · exact absurd e hne
    · cases e
      have h6 : (x.l.take 60).length = 60 := by rw [List.length_take]; omega
      by_cases hsum : l.length + 60 ≤ 600
      · refine (chg_big C h ip hip nn (x.l.take 60) g o_ c (.inr ⟨g, o_, c, by rw [h6], hE.take 60⟩) x.l.length (by omega) hc h6 (by omega)).mono ?_
        rintro r w' ⟨rfl, h'⟩
        exact ⟨rfl, _, by simp only [List.length_append, List.length_take, List.length_drop]; omega, h'⟩
      · refine (chg_full2 h ip nn x.l.length g o_ c (by omega) hc hl (by omega)).mono ?_
        rintro r w' ⟨rfl, h'⟩
        exact ⟨rfl, _, hl, h'⟩
theorem chg1 {w0 : World} {R : Rows} {pb tb ch : Nat} {l : List El} {w : World} (C : PrC w0 R pb tb ch) (h : PrAt w0 R pb tb ch l w) (hl : l.length ≤ 600) (ip cn : Nat) (hip : ip + cn ≤ l.length) (x : Opx) (hx : x.Ok w0) :
    Calls Tryz.prog 8 #[pv pb, .agg (ocs 1 ip cn x.sl)] w (ChgOut w0 R pb tb ch) := by
  obtain ⟨_, _, _, hs, _⟩ := hx
  obtain ⟨a, c, hv⟩ := hs.form
  rw [hv]
  unfold ocs
  refine (chg_rem C h ip cn hip hl a x.l.length c).mono ?_
  rintro r w' ⟨rfl, h'⟩
  exact ⟨rfl, _, by simp only [List.length_append, List.length_take, List.length_drop]; omega, h'⟩

theorem o_size (d i n : Int) (s : Value) : (Tryz.prog.info? 28).map (·.size) = some (ocs d i n s).size := (by kernel_rfl : (Tryz.prog.info? 28).map (·.size) = some 4)
section
variable {ops : Array Oper} {rest : List Oper} {o : Oper} {A : Act} {w : World} {Q : Exit → Act → World → Prop}
theorem wpL_loadO (hgd : o.guard = none) (x : Operand) (ho : o.op = .load 28 x) {b off : Nat} (hx : A.eval x = .pointer (some ⟨b, off, none⟩)) {d i n : Int} {s : Value} (h : CsIn b off (ocs d i n s) w)
    (k : wpList Tryz.prog ops Q rest (A.put o.dst (.agg (ocs d i n s))) w) : wpList Tryz.prog ops Q (o :: rest) A w :=
  wpList_plain hgd fun _ hK => by
    unfold Oper.wp execOp
    simp only [ho, hx, Instr.loadAt, Instr.sureAddr, Sem.run_bind, Sem.run_pure, Result.andThen_ok, run_loadVar_in h Tryz.underlying28 rfl (o_size d i n s)]
    exact hK _ _ k
theorem wpL_storeO (hgd : o.guard = none) (x y : Operand) (ho : o.op = .store 28 x y) {g : Nat} (hx : A.eval x = .pointer (some ⟨g, 0, none⟩)) {d i n : Int} {a : Option Addr} {m c : Nat} (hy : A.eval y = .agg (ocs d i n (.slice a m c))) {c0 c1 c2 c3 : Value} (h : RowAt g #[c0, c1, c2, c3] 28 w)
    (k : wpList Tryz.prog ops Q rest (A.put o.dst undef) (w.setRow g (ocs d i n (.slice a m c)))) : wpList Tryz.prog ops Q (o :: rest) A w :=
  wpList_store_row hgd _ x y ho g (ocs d i n (.slice a m c)) hx hy _ _ h (o_size _ _ _ _) rfl (by simp [ocs, Value.oneCell']) k
end
/-- The element at which live ones, or line ends, pass the sum of those ahead of it. -/
theorem idxL_at : ∀ (l : List El) (k : Nat) (e : El), l[k]? = some e → 0 < wLive e → idxL l (liveL (l.take k)) = k
  | [], k, e, h, _ => by simp at h
  | a :: l, 0, e, h, hp => by
    simp at h
    subst h
    simp only [List.take_zero, liveL, idxL]
    rw [if_pos hp]
  | a :: l, k + 1, e, h, hp => by
    simp at h
    have ih := idxL_at l k e h hp
    have := liveL_b (l.take k)
    simp only [List.take_succ_cons, liveL, idxL]
    rw [if_neg (by omega), show wLive a + liveL (l.take k) - wLive a = liveL (l.take k) by omega, ih]
    omega
theorem idxN_at : ∀ (l : List El) (k : Nat) (e : El), l[k]? = some e → 0 < wLine e → idxN l (lineL (l.take k)) = k
  | [], k, e, h, _ => by simp at h
  | a :: l, 0, e, h, hp => by
    simp at h
    subst h
    simp only [List.take_zero, lineL, idxN]
    rw [if_pos hp]
  | a :: l, k + 1, e, h, hp => by
    simp at h
    have ih := idxN_at l k e h hp
    have := lineL_b (l.take k)
    simp only [List.take_succ_cons, lineL, idxN]
    rw [if_neg (by omega), show wLine a + lineL (l.take k) - wLine a = lineL (l.take k) by omega, ih]
    omega
end Go.Proofs.YtppfgmggcihmoaaGreatDoor
