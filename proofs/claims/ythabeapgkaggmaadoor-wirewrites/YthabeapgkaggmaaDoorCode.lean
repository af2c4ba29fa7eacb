
/-
  fault.goThrough and fault.Code, out of a contract of fault.meet.
-/
import Derived.Test.YthabeapgkaggmaaDoorMeet
namespace Go.Proofs.YthabeapgkaggmaaDoor
open Go.RowKit Go.Extern.Stop Go.Stop Go.Extern
set_option maxRecDepth 100000

/-- fault.goThrough at an error: the tour that it answers. -/
def ThroughV (v : Value) (f : Option Nat) (cs : List Int) (w : World) : Prop := ∀ again : Bool,
  Calls Tryd.prog 29 #[v, .bool again] w fun ev w' => ev = .returned (.pointer (some ⟨w.heap.size + 1, 0, none⟩)) ∧ Below w.heap.size w w' ∧ ∃ codes, TourAt (w.heap.size + 1) w.heap.size w' again (fp f) codes cs
theorem ThroughV.calls {v : Value} {f : Option Nat} {cs : List Int} {w : World} (h : ThroughV v f cs w) (again : Bool) :
    Calls Tryd.prog 29 #[v, .bool again] w fun ev w' => ev = .returned (.pointer (some ⟨w.heap.size + 1, 0, none⟩)) ∧ Below w.heap.size w w' ∧ ∃ codes, TourAt (w.heap.size + 1) w.heap.size w' again (fp f) codes cs := h again
abbrev Through (ad : Nat → Addr) (e : ErrT) (w : World) : Prop := ThroughV (val ad e) (fst e) (cds e) w

theorem laidB_of {ad : Nat → Addr} {w : World} (L : Laid ad w) : LaidB ad w.heap.size w := ⟨L, L.size, fun k hk => lt_of_cell (L.str k hk)⟩

set_option maxHeartbeats 400000 in
theorem through_of {ad : Nat → Addr} {M : List Nat → Option Obj → Prop} {w : World} (L : Laid ad w) (e : ErrT)
    (hmeet : ∀ (again : Bool) (W : World), Below w.heap.size w W → LaidB ad w.heap.size W → TourAt (w.heap.size + 1) w.heap.size W again (fp none) (.slice none 0 0) [] → W.heap[w.heap.size]? = some (.map #[] 0) →
      Calls Tryd.prog 36 #[.pointer (some ⟨w.heap.size + 1, 0, none⟩), val ad e] W fun ev w' => ev = .returned (.tuple #[]) ∧ Met ad (w.heap.size + 1) w.heap.size again M W (Option.or none (fst e)) ([] ++ cds e) (mns e ++ []) w') : Through ad e w := by
  intro again
  have hmm := @run_makeMap Tryd.prog
  have HMm : Aside (∀ (again : Bool) (W : World), Below w.heap.size w W → LaidB ad w.heap.size W → TourAt (w.heap.size + 1) w.heap.size W again (fp none) (.slice none 0 0) [] → W.heap[w.heap.size]? = some (.map #[] 0) →
      Calls Tryd.prog 36 #[.pointer (some ⟨w.heap.size + 1, 0, none⟩), val ad e] W fun ev w' => ev = .returned (.tuple #[]) ∧ Met ad (w.heap.size + 1) w.heap.size again M W (Option.or none (fst e)) ([] ++ cds e) (mns e ++ []) w') := hmeet
  clear hmeet
  go_enter Tryd.func29, Tryd.ntmps29
  go_wp2_with fail
  have hB : Below w.heap.size w ((w.alloc (.map #[] 0)).alloc (.cells #[.bool again, .pointer none, .slice none 0 0, .map (some w.heap.size)] 69)) := bal (below_oneE _ _) _
  have hsz1 : (w.alloc (.map #[] 0)).heap.size = w.heap.size + 1 := by simp
  have hT : TourAt (w.heap.size + 1) w.heap.size ((w.alloc (.map #[] 0)).alloc (.cells #[.bool again, .pointer none, .slice none 0 0, .map (some w.heap.size)] 69)) again (fp none) (.slice none 0 0) [] :=
    ⟨by rw [← hsz1]; exact heap_alloc_last _ _, World.ownsRow_nil _ _ _ _⟩
  have hmp : ((w.alloc (.map #[] 0)).alloc (.cells #[.bool again, .pointer none, .slice none 0 0, .map (some w.heap.size)] 69)).heap[w.heap.size]? = some (.map #[] 0) := by
    rw [Below.heap_alloc _ _ _ (by rw [hsz1]; omega)]; exact heap_alloc_last _ _
  refine (HMm.out again _ hB ((laidB_of L).below hB) hT hmp).mono ?_
  rintro ev w2 ⟨rfl, hm2⟩
  clear hT hmp hsz1
  go_wp2
  go_ret
  obtain ⟨h1, _, ⟨cc, h3⟩, _⟩ := hm2
  exact ⟨rfl, hB.trans h1, cc, by simpa using h3⟩

/-- P1.4: Code. -/
def codeOf : ErrT → Int
  | .none => 0
  | e => (cds e).headD 99

theorem codeOf_ne {e : ErrT} (h : e ≠ .none) : codeOf e = (cds e).headD 99 := by
  cases e <;> first | exact absurd rfl h | rfl

theorem code_nil (w : World) : Calls Tryd.prog 20 #[.nilIface] w fun ev w' => ev = .returned (.int .i64 0) ∧ w' = w := by
  go_enter Tryd.func20, Tryd.ntmps20
  go_wp2
  go_ret
  exact ⟨rfl, rfl⟩

theorem tour_nil {T m : Nat} {w : World} {again : Bool} {f cc : Value} (h : TourAt T m w again f cc []) : ∃ ca cp, w.cell? ⟨T, 2, none⟩ = some (.slice ca 0 cp) := by
  have t2 : w.cell? ⟨T, 2, none⟩ = some cc := by rw [cell_of_heap h.lies]; rfl
  rcases h.own.2 with ⟨rfl, _⟩ | ⟨g, cap, cur, rfl, _⟩ <;> exact ⟨_, _, t2⟩
theorem tour_cons {T m : Nat} {w : World} {again : Bool} {f cc : Value} {x : Int} {r : List Int} (h : TourAt T m w again f cc (x :: r)) :
    ∃ g cp, w.cell? ⟨T, 2, none⟩ = some (.slice (some ⟨g, 0, none⟩) (r.length + 1) cp) ∧ w.cell? ⟨g, 0, none⟩ = some (.int .i64 x) := by
  have t2 : w.cell? ⟨T, 2, none⟩ = some cc := by rw [cell_of_heap h.lies]; rfl
  rcases h.own.2 with ⟨_, h0⟩ | ⟨g, cap, cur, rfl, _⟩
  · simp at h0
  · refine ⟨g, cap, t2, ?_⟩
    have := h.own.cellAt 0 (by simp)
    simpa using this

set_option maxHeartbeats 400000 in
theorem code_any {ad : Nat → Addr} {w : World} (e : ErrT) (hne : e ≠ .none) (hth : Through ad e w) :
    Calls Tryd.prog 20 #[val ad e] w fun ev w' => ev = .returned (.int .i64 (codeOf e)) ∧ Below w.heap.size w w' := by
  rw [codeOf_ne hne]
  obtain ⟨t, v, hv⟩ := val_iface ad hne
  have HTa : Aside (ThroughV (val ad e) (fst e) (cds e) w) := hth
  rw [hv] at HTa ⊢
  clear hth hv
  match hc : cds e with
  | [] =>
    rw [hc] at HTa
    go_enter Tryd.func20, Tryd.ntmps20
    go_wp2_with (go_at_call 29; refine (HTa.out.calls false).mono ?_; rintro ev w2 ⟨rfl, hb2, cc, hT2⟩; obtain ⟨ca, cp, t2⟩ := tour_nil hT2)
    go_ret
    exact ⟨by simp, hb2⟩
  | x :: r =>
    rw [hc] at HTa
    have hl0 : (((r.length : Int) + 1) == 0) = false := by simp; omega
    go_enter Tryd.func20, Tryd.ntmps20
    go_wp2_with (go_at_call 29; refine (HTa.out.calls false).mono ?_; rintro ev w2 ⟨rfl, hb2, cc, hT2⟩; obtain ⟨g, cp, t2, hx0⟩ := tour_cons hT2)
    go_show
    go_ret
    exact ⟨by simp, hb2⟩

/-- An error without a Many: a row of Faults around a reason, or none. -/
def Plain (e : ErrT) : Prop := ∀ b g cap kids, leaf e ≠ .many b g cap kids

theorem through_plain {ad : Nat → Addr} {w : World} (L : Laid ad w) (e : ErrT) (hp : Plain e) (hS : Spine ad w.heap.size w e) : Through ad e w :=
  through_of (M := fun _ _ => True) L e fun again W hB hL hT _ =>
    tour_meet_any (by omega) e (by simp) hL (hS.below hB) hT trivial fun b g cap kids h => absurd h (hp b g cap kids)
end Go.Proofs.YthabeapgkaggmaaDoor
