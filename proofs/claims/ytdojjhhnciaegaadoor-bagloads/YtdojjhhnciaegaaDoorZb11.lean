
/-
  fault.goThrough and fault.Code, out of a contract of fault.meet. Lists that are only read; barrowkeep.Ints and barrowkeep.Links of two lists that are alike; fault.Codes.
-/
import Derived.Test.YtdojjhhnciaegaaDoorZb10
import Derived.BigQuiet
namespace Go.Proofs.YtdojjhhnciaegaaDoor
open Go.RowKit Go.Extern.Stop Go.Stop Go.Extern
set_option maxRecDepth 100000

/-- fault.goThrough at an error: the tour that it answers. -/
def ThroughV (v : Value) (f : Option Nat) (cs : List Int) (w : World) : Prop := ∀ again : Bool,
  Calls Tryd.prog 52 #[v, .bool again] w fun ev w' => ev = .returned (.pointer (some ⟨w.heap.size + 1, 0, none⟩)) ∧ Below w.heap.size w w' ∧ ∃ codes, TourAt (w.heap.size + 1) w.heap.size w' again (fp f) codes cs
theorem ThroughV.calls {v : Value} {f : Option Nat} {cs : List Int} {w : World} (h : ThroughV v f cs w) (again : Bool) :
    Calls Tryd.prog 52 #[v, .bool again] w fun ev w' => ev = .returned (.pointer (some ⟨w.heap.size + 1, 0, none⟩)) ∧ Below w.heap.size w w' ∧ ∃ codes, TourAt (w.heap.size + 1) w.heap.size w' again (fp f) codes cs := h again
abbrev Through (ad : Nat → Addr) (e : ErrT) (w : World) : Prop := ThroughV (val ad e) (fst e) (cds e) w

theorem laidB_of {ad : Nat → Addr} {w : World} (L : Laid ad w) : LaidB ad w.heap.size w := ⟨L, L.size, fun k hk => lt_of_cell (L.str k hk)⟩

set_option maxHeartbeats 400000 in
theorem through_of {ad : Nat → Addr} {M : List Nat → Option Obj → Prop} {w : World} (L : Laid ad w) (e : ErrT)
    (hmeet : ∀ (again : Bool) (W : World), Below w.heap.size w W → LaidB ad w.heap.size W → TourAt (w.heap.size + 1) w.heap.size W again (fp none) (.slice none 0 0) [] → W.heap[w.heap.size]? = some (.map #[] 0) →
      Calls Tryd.prog 66 #[.pointer (some ⟨w.heap.size + 1, 0, none⟩), val ad e] W fun ev w' => ev = .returned (.tuple #[]) ∧ Met ad (w.heap.size + 1) w.heap.size again M W (Option.or none (fst e)) ([] ++ cds e) (mns e ++ []) w') : Through ad e w := by
  intro again
  have hmm := @run_makeMap Tryd.prog
  have HMm : Aside (∀ (again : Bool) (W : World), Below w.heap.size w W → LaidB ad w.heap.size W → TourAt (w.heap.size + 1) w.heap.size W again (fp none) (.slice none 0 0) [] → W.heap[w.heap.size]? = some (.map #[] 0) →
      Calls Tryd.prog 66 #[.pointer (some ⟨w.heap.size + 1, 0, none⟩), val ad e] W fun ev w' => ev = .returned (.tuple #[]) ∧ Met ad (w.heap.size + 1) w.heap.size again M W (Option.or none (fst e)) ([] ++ cds e) (mns e ++ []) w') := hmeet
  clear hmeet
  go_enter Tryd.func52, Tryd.ntmps52
  go_wp2_with fail
  have hB : Below w.heap.size w ((w.alloc (.map #[] 0)).alloc (.cells #[.bool again, .pointer none, .slice none 0 0, .map (some w.heap.size)] 96)) := bal (below_oneE _ _) _
  have hsz1 : (w.alloc (.map #[] 0)).heap.size = w.heap.size + 1 := by simp
  have hT : TourAt (w.heap.size + 1) w.heap.size ((w.alloc (.map #[] 0)).alloc (.cells #[.bool again, .pointer none, .slice none 0 0, .map (some w.heap.size)] 96)) again (fp none) (.slice none 0 0) [] :=
    ⟨by rw [← hsz1]; exact heap_alloc_last _ _, World.ownsRow_nil _ _ _ _⟩
  have hmp : ((w.alloc (.map #[] 0)).alloc (.cells #[.bool again, .pointer none, .slice none 0 0, .map (some w.heap.size)] 96)).heap[w.heap.size]? = some (.map #[] 0) := by
    rw [Below.heap_alloc _ _ _ (by rw [hsz1]; omega)]; exact heap_alloc_last _ _
  refine (HMm.out again _ hB ((laidB_of L).below hB) hT hmp).mono ?_
  rintro ev w2 ⟨rfl, hm2⟩
  clear hT hmp hsz1
  go_wp2
  go_ret
  obtain ⟨h1, _, ⟨cc, h3⟩, _⟩ := hm2
  exact ⟨rfl, hB.trans h1, cc, by simpa using h3⟩

/-- P1.4: Code. -/
def codeOf : ErrT → Int
  | .none => 0
  | e => (cds e).headD 99

theorem codeOf_ne {e : ErrT} (h : e ≠ .none) : codeOf e = (cds e).headD 99 := by
  cases e <;> first | exact absurd rfl h | rfl

theorem code_nil (w : World) : Calls Tryd.prog 17 #[.nilIface] w fun ev w' => ev = .returned (.int .i64 0) ∧ w' = w := by
  go_enter Tryd.func17, Tryd.ntmps17
  go_wp2
  go_ret
  exact ⟨rfl, rfl⟩

theorem tour_nil {T m : Nat} {w : World} {again : Bool} {f cc : Value} (h : TourAt T m w again f cc []) : ∃ ca cp, w.cell? ⟨T, 2, none⟩ = some (.slice ca 0 cp) := by
  have t2 : w.cell? ⟨T, 2, none⟩ = some cc := by rw [cell_of_heap h.lies]; rfl
  rcases h.own.2 with ⟨rfl, _⟩ | ⟨g, cap, cur, rfl, _⟩ <;> exact ⟨_, _, t2⟩
theorem tour_cons {T m : Nat} {w : World} {again : Bool} {f cc : Value} {x : Int} {r : List Int} (h : TourAt T m w again f cc (x :: r)) :
    ∃ g cp, w.cell? ⟨T, 2, none⟩ = some (.slice (some ⟨g, 0, none⟩) (r.length + 1) cp) ∧ w.cell? ⟨g, 0, none⟩ = some (.int .i64 x) := by
  have t2 : w.cell? ⟨T, 2, none⟩ = some cc := by rw [cell_of_heap h.lies]; rfl
  rcases h.own.2 with ⟨_, h0⟩ | ⟨g, cap, cur, rfl, _⟩
  · simp at h0
  · refine ⟨g, cap, t2, ?_⟩
    have := h.own.cellAt 0 (by simp)
    simpa using this

set_option maxHeartbeats 400000 in
theorem code_any {ad : Nat → Addr} {w : World} (e : ErrT) (hne : e ≠ .none) (hth : Through ad e w) :
    Calls Tryd.prog 17 #[val ad e] w fun ev w' => ev = .returned (.int .i64 (codeOf e)) ∧ Below w.heap.size w w' := by
  rw [codeOf_ne hne]
  obtain ⟨t, v, hv⟩ := val_iface ad hne
  have HTa : Aside (ThroughV (val ad e) (fst e) (cds e) w) := hth
  rw [hv] at HTa ⊢
  clear hth hv
  match hc : cds e with
  | [] =>
    rw [hc] at HTa
    go_enter Tryd.func17, Tryd.ntmps17
    go_wp2_with (go_at_call 52; refine (HTa.out.calls false).mono ?_; rintro ev w2 ⟨rfl, hb2, cc, hT2⟩; obtain ⟨ca, cp, t2⟩ := tour_nil hT2)
    go_ret
    exact ⟨by simp, hb2⟩
  | x :: r =>
    rw [hc] at HTa
    have hl0 : (((r.length : Int) + 1) == 0) = false := by simp; omega
    go_enter Tryd.func17, Tryd.ntmps17
    go_wp2_with (go_at_call 52; refine (HTa.out.calls false).mono ?_; rintro ev w2 ⟨rfl, hb2, cc, hT2⟩; obtain ⟨g, cp, t2, hx0⟩ := tour_cons hT2)
    go_show
    go_ret
    exact ⟨by simp, hb2⟩

/-- An error without a Many: a row of Faults around a reason, or none. -/
def Plain (e : ErrT) : Prop := ∀ b g cap kids, leaf e ≠ .many b g cap kids

theorem through_plain {ad : Nat → Addr} {w : World} (L : Laid ad w) (e : ErrT) (hp : Plain e) (hS : Spine ad w.heap.size w e) : Through ad e w :=
  through_of (M := fun _ _ => True) L e fun again W hB hL hT _ =>
    tour_meet_any (by omega) e (by simp) hL (hS.below hB) hT trivial fun b g cap kids h => absurd h (hp b g cap kids)
end Go.Proofs.YtdojjhhnciaegaaDoor
namespace Go.Proofs.YtdojjhhnciaegaaDoor
open Go.RowKit Go.Extern.Stop Go.Stop Go.Extern
set_option maxRecDepth 100000

/-- A slice of n elements of 'size' cells each, read off memory; nil where there is none. -/
def SlAt (w : World) (v : Value) (size n : Nat) (cs : List Value) : Prop :=
  cs.length = n * size ∧ ((n = 0 ∧ ∃ a c, v = .slice a 0 c) ∨ ∃ g o c, v = .slice (some ⟨g, o, none⟩) n c ∧ g < w.heap.size ∧ ∀ j u, cs[j]? = some u → w.cell? ⟨g, o + j, none⟩ = some u)

theorem SlAt.below {w w' : World} {v : Value} {size n : Nat} {cs : List Value} (h : SlAt w v size n cs) (hb : Below w.heap.size w w') : SlAt w' v size n cs := by
  obtain ⟨h1, h2⟩ := h
  refine ⟨h1, ?_⟩
  rcases h2 with h2 | ⟨g, o, c, rfl, hg, hc⟩
  · exact .inl h2
  · exact .inr ⟨g, o, c, rfl, by have := hb.size; omega, fun j u hu => by rw [hb.cell (p := ⟨g, o + j, none⟩) hg]; exact hc j u hu⟩

theorem SlAt.of_owns {w : World} {B : Nat} {e : TypeId} {size n : Nat} {v : Value} {cs : List Value} (h : w.ownsRow B e size v n cs) : SlAt w v size n cs := by
  refine ⟨h.1, ?_⟩
  rcases h.2 with ⟨rfl, h0⟩ | ⟨g, cap, cur, rfl, hB, hg, _, _, _, ht⟩
  · exact .inl ⟨h0, _, _, rfl⟩
  · refine .inr ⟨g, 0, cap, rfl, (Array.getElem?_eq_some_iff.1 hg).1, fun j u hu => ?_⟩
    rw [Nat.zero_add, cell_of_heap hg]
    rw [← ht, List.getElem?_take] at hu
    split at hu
    · simpa using hu
    · cases hu

/-- The numbers as cells. -/
def ints (xs : List Int) : List Value := xs.map (Value.int .i64 ·)

set_option maxHeartbeats 1000000 in
theorem ints_eq {w : World} {v u : Value} {xs : List Int} (hv : SlAt w v 1 xs.length (ints xs)) (hu : SlAt w u 1 xs.length (ints xs)) (hn : xs.length ≤ 1000000) :
    Calls Tryd.prog 20 #[v, u] w fun e w' => e = .returned (.bool true) ∧ Below w.heap.size w w' := by
  have zero : ∀ (a b : Option Addr) (c d : Nat), Calls Tryd.prog 20 #[.slice a 0 c, .slice b 0 d] w fun e w' => e = .returned (.bool true) ∧ Below w.heap.size w w' := by
    intro a b c d
    clear hv hu
    go_enter Tryd.func20, Tryd.ntmps20
    go_wp2
    refine wp_loop_rounds 1 ?_
    rw [rounds_succ]
    go_wp2
    go_ret
    exact ⟨rfl, Below.refl _ _⟩
  rcases hv.2 with ⟨h0, a, c, rfl⟩ | ⟨g, o, c, rfl, hg, hc⟩ <;> rcases hu.2 with ⟨h0', a', c', rfl⟩ | ⟨g', o', c', rfl, hg', hc'⟩
  · exact zero _ _ _ _
  · rw [h0] at *; exact zero _ _ _ _
  · rw [h0'] at *; exact zero _ _ _ _
  · have HA : Aside ((∀ j x, (ints xs)[j]? = some x → w.cell? ⟨g, o + j, none⟩ = some x) ∧ ∀ j x, (ints xs)[j]? = some x → w.cell? ⟨g', o' + j, none⟩ = some x) := ⟨hc, hc'⟩
    clear zero hv hu hc hc'
    go_enter Tryd.func20, Tryd.ntmps20
    go_wp2
    go_loopw [5] (fun i wr => ∃ k n : Nat, i = .int .i64 (k : Int) ∧ k ≤ xs.length ∧ wr = w.drewN n) (fun i _ => xs.length - (intOf i).toNat)
    case atStart => exact ⟨0, 0, rfl, Nat.zero_le _, rfl⟩
    case round =>
      obtain ⟨k, n, rfl, hk, rfl⟩ := hrel
      by_cases hlt : k < xs.length
      · have hx : (ints xs)[k]? = some (.int .i64 xs[k]) := by simp [ints, hlt]
        have c1 := HA.out.1 k _ hx
        have c2 := HA.out.2 k _ hx
        have hki : (k : Int) < (xs.length : Int) := by omega
        generalize xs[k] = x at c1 c2
        clear hx
        go_wp2_with fail
        go_quiet (fail)
        go_wp2
        go_roundw
        case rel => exact ⟨k + 1, n + nq, by go_num, by omega, rfl⟩
        case measure => simp [intOf]; omega
      · have hki : ¬ (k : Int) < (xs.length : Int) := by omega
        go_wp2
        go_ret
        exact ⟨rfl, ⟨rfl, rfl, rfl, Nat.le_refl _, fun _ _ => rfl⟩⟩

/-- A link, and a row of links as cells. -/
structure Lnk where
  la : ByteArray
  ca : ByteArray
  at_ : Int
def lcells : List Lnk → List Value
  | [] => []
  | l :: r => .string l.la :: .string l.ca :: .int .i64 l.at_ :: lcells r
theorem lcells_len : ∀ l : List Lnk, (lcells l).length = l.length * 3
  | [] => rfl
  | _ :: r => by simp only [lcells, List.length_cons, lcells_len r]; omega
theorem lcells_at : ∀ (l : List Lnk) (k : Nat) (x : Lnk), l[k]? = some x → (lcells l)[k * 3]? = some (.string x.la) ∧ (lcells l)[k * 3 + 1]? = some (.string x.ca) ∧ (lcells l)[k * 3 + 2]? = some (.int .i64 x.at_)
  | [], k, x, h => by simp at h
  | y :: r, 0, x, h => by simp at h; subst h; exact ⟨rfl, rfl, rfl⟩
  | y :: r, k + 1, x, h => by
    have := lcells_at r k x (by simpa using h)
    have e : (k + 1) * 3 = k * 3 + 1 + 1 + 1 := by omega
    rw [e]
    simpa [lcells, Nat.add_right_comm] using this
theorem lcells_append : ∀ a b : List Lnk, lcells (a ++ b) = lcells a ++ lcells b
  | [], _ => rfl
  | x :: r, b => by simp [lcells, lcells_append r b]

set_option maxHeartbeats 1000000 in
theorem links_eq {w : World} {v u : Value} {xs : List Lnk} (hv : SlAt w v 3 xs.length (lcells xs)) (hu : SlAt w u 3 xs.length (lcells xs)) (hn : xs.length ≤ 1000000) :
    Calls Tryd.prog 18 #[v, u] w fun e w' => e = .returned (.bool true) ∧ Below w.heap.size w w' := by
  have zero : ∀ (a b : Option Addr) (c d : Nat), Calls Tryd.prog 18 #[.slice a 0 c, .slice b 0 d] w fun e w' => e = .returned (.bool true) ∧ Below w.heap.size w w' := by
    intro a b c d
    clear hv hu
    go_enter Tryd.func18, Tryd.ntmps18
    go_wp2
    refine wp_loop_rounds 1 ?_
    rw [rounds_succ]
    go_wp2
    go_ret
    exact ⟨rfl, Below.refl _ _⟩
  rcases hv.2 with ⟨h0, a, c, rfl⟩ | ⟨g, o, c, rfl, hg, hc⟩ <;> rcases hu.2 with ⟨h0', a', c', rfl⟩ | ⟨g', o', c', rfl, hg', hc'⟩
  · exact zero _ _ _ _
  · rw [h0] at *; exact zero _ _ _ _
  · rw [h0'] at *; exact zero _ _ _ _
  · have HA : Aside ((∀ j x, (lcells xs)[j]? = some x → w.cell? ⟨g, o + j, none⟩ = some x) ∧ ∀ j x, (lcells xs)[j]? = some x → w.cell? ⟨g', o' + j, none⟩ = some x) := ⟨hc, hc'⟩
    clear zero hv hu hc hc'
    go_enter Tryd.func18, Tryd.ntmps18
    go_wp2
    go_loopw [5] (fun i wr => ∃ k n : Nat, i = .int .i64 (k : Int) ∧ k ≤ xs.length ∧ wr = w.drewN n) (fun i _ => xs.length - (intOf i).toNat)
    case atStart => exact ⟨0, 0, rfl, Nat.zero_le _, rfl⟩
    case round =>
      obtain ⟨k, n, rfl, hk, rfl⟩ := hrel
      by_cases hlt : k < xs.length
      · obtain ⟨e0, e1, e2⟩ := lcells_at xs k xs[k] (by simp [hlt])
        have hki : (k : Int) < (xs.length : Int) := by omega
        have c10 : w.cell? ⟨g, o + k * 3, none⟩ = some (.string (xs[k]).la) := HA.out.1 _ _ e0
        have c11 : w.cell? ⟨g, o + k * 3 + 1, none⟩ = some (.string (xs[k]).ca) := HA.out.1 _ _ e1
        have c12 : w.cell? ⟨g, o + k * 3 + 2, none⟩ = some (.int .i64 (xs[k]).at_) := HA.out.1 _ _ e2
        have c20 : w.cell? ⟨g', o' + k * 3, none⟩ = some (.string (xs[k]).la) := HA.out.2 _ _ e0
        have c21 : w.cell? ⟨g', o' + k * 3 + 1, none⟩ = some (.string (xs[k]).ca) := HA.out.2 _ _ e1
        have c22 : w.cell? ⟨g', o' + k * 3 + 2, none⟩ = some (.int .i64 (xs[k]).at_) := HA.out.2 _ _ e2
        generalize xs[k] = x at c10 c11 c12 c20 c21 c22
        clear e0 e1 e2
        go_wp2_with fail
        go_quiet (fail)
        go_wp2
        go_roundw
        case rel => exact ⟨k + 1, n + nq, by go_num, by omega, rfl⟩
        case measure => simp [intOf]; omega
      · have hki : ¬ (k : Int) < (xs.length : Int) := by omega
        go_wp2
        go_ret
        exact ⟨rfl, ⟨rfl, rfl, rfl, Nat.le_refl _, fun _ _ => rfl⟩⟩

/-- fault.Codes: a list of the caller's own. -/
theorem codes_any {v : Value} {f : Option Nat} {cs : List Int} {w : World} (hth : ThroughV v f cs w) :
    Calls Tryd.prog 21 #[v] w fun e w' => ∃ r, e = .returned r ∧ w'.ownsRow w.heap.size 3 1 r cs.length (ints cs) ∧ Below w.heap.size w w' := by
  have HT : Aside (ThroughV v f cs w) := hth
  clear hth
  go_enter Tryd.func21, Tryd.ntmps21
  go_wp2_with (go_at_call 52; refine (HT.out.calls true).mono ?_; rintro ev w2 ⟨rfl, hb2, cc, hT2⟩; have t2 : w2.cell? ⟨w.heap.size + 1, 2, none⟩ = some cc := by (rw [cell_of_heap hT2.lies]; rfl))
  go_ret
  refine ⟨_, rfl, ⟨hT2.own.1, ?_⟩, hb2⟩
  rcases hT2.own.2 with h | ⟨g, cap, cur, h1, h2, h3⟩
  · exact .inl h
  · exact .inr ⟨g, cap, cur, h1, by omega, h3⟩
end Go.Proofs.YtdojjhhnciaegaaDoor
