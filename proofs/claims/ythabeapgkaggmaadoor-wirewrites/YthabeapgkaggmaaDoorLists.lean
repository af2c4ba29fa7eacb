
/-
  Lists that are only read; barrowkeep.Ints and barrowkeep.Links of two lists that are alike; fault.Codes.
-/
import Derived.Test.YthabeapgkaggmaaDoorCode
import Derived.BigQuiet
namespace Go.Proofs.YthabeapgkaggmaaDoor
open Go.RowKit Go.Extern.Stop Go.Stop Go.Extern
set_option maxRecDepth 100000

/-- A slice of n elements of 'size' cells each, read off memory; nil where there is none. -/
def SlAt (w : World) (v : Value) (size n : Nat) (cs : List Value) : Prop :=
  cs.length = n * size ∧ ((n = 0 ∧ ∃ a c, v = .slice a 0 c) ∨ ∃ g o c, v = .slice (some ⟨g, o, none⟩) n c ∧ g < w.heap.size ∧ ∀ j u, cs[j]? = some u → w.cell? ⟨g, o + j, none⟩ = some u)

theorem SlAt.below {w w' : World} {v : Value} {size n : Nat} {cs : List Value} (h : SlAt w v size n cs) (hb : Below w.heap.size w w') : SlAt w' v size n cs := by
  obtain ⟨h1, h2⟩ := h
  refine ⟨h1, ?_⟩
  rcases h2 with h2 | ⟨g, o, c, rfl, hg, hc⟩
  · exact .inl h2
  · exact .inr ⟨g, o, c, rfl, by have := hb.size; omega, fun j u hu => by rw [hb.cell (p := ⟨g, o + j, none⟩) hg]; exact hc j u hu⟩

theorem SlAt.of_owns {w : World} {B : Nat} {e : TypeId} {size n : Nat} {v : Value} {cs : List Value} (h : w.ownsRow B e size v n cs) : SlAt w v size n cs := by
  refine ⟨h.1, ?_⟩
  rcases h.2 with ⟨rfl, h0⟩ | ⟨g, cap, cur, rfl, hB, hg, _, _, _, ht⟩
  · exact .inl ⟨h0, _, _, rfl⟩
  · refine .inr ⟨g, 0, cap, rfl, (Array.getElem?_eq_some_iff.1 hg).1, fun j u hu => ?_⟩
    rw [Nat.zero_add, cell_of_heap hg]
    rw [← ht, List.getElem?_take] at hu
    split at hu
    · simpa using hu
    · cases hu

/-- The numbers as cells. -/
def ints (xs : List Int) : List Value := xs.map (Value.int .i64 ·)

set_option maxHeartbeats 1000000 in
theorem ints_eq {w : World} {v u : Value} {xs : List Int} (hv : SlAt w v 1 xs.length (ints xs)) (hu : SlAt w u 1 xs.length (ints xs)) (hn : xs.length ≤ 1000000) :
    Calls Tryd.prog 23 #[v, u] w fun e w' => e = .returned (.bool true) ∧ Below w.heap.size w w' := by
  have zero : ∀ (a b : Option Addr) (c d : Nat), Calls Tryd.prog 23 #[.slice a 0 c, .slice b 0 d] w fun e w' => e = .returned (.bool true) ∧ Below w.heap.size w w' := by
    intro a b c d
    clear hv hu
    go_enter Tryd.func23, Tryd.ntmps23
    go_wp2
    refine wp_loop_rounds 1 ?_
    rw [rounds_succ]
    go_wp2
    go_ret
    exact ⟨rfl, Below.refl _ _⟩
  rcases hv.2 with ⟨h0, a, c, rfl⟩ | ⟨g, o, c, rfl, hg, hc⟩ <;> rcases hu.2 with ⟨h0', a', c', rfl⟩ | ⟨g', o', c', rfl, hg', hc'⟩
  · exact zero _ _ _ _
  · rw [h0] at *; exact zero _ _ _ _
  · rw [h0'] at *; exact zero _ _ _ _
  · have HA : Aside ((∀ j x, (ints xs)[j]? = some x → w.cell? ⟨g, o + j, none⟩ = some x) ∧ ∀ j x, (ints xs)[j]? = some x → w.cell? ⟨g', o' + j, none⟩ = some x) := ⟨hc, hc'⟩
    clear zero hv hu hc hc'
    go_enter Tryd.func23, Tryd.ntmps23
    go_wp2
    go_loopw [5] (fun i wr => ∃ k n : Nat, i = .int .i64 (k : Int) ∧ k ≤ xs.length ∧ wr = w.drewN n) (fun i _ => xs.length - (intOf i).toNat)
    case atStart => exact ⟨0, 0, rfl, Nat.zero_le _, rfl⟩
    case round =>
      obtain ⟨k, n, rfl, hk, rfl⟩ := hrel
      by_cases hlt : k < xs.length
      · have hx : (ints xs)[k]? = some (.int .i64 xs[k]) := by simp [ints, hlt]
        have c1 := HA.out.1 k _ hx
        have c2 := HA.out.2 k _ hx
        have hki : (k : Int) < (xs.length : Int) := by omega
        generalize xs[k] = x at c1 c2
        clear hx
        go_wp2_with fail
        go_quiet (fail)
        go_wp2
        go_roundw
        case rel => exact ⟨k + 1, n + nq, by go_num, by omega, rfl⟩
        case measure => simp [intOf]; omega
      · have hki : ¬ (k : Int) < (xs.length : Int) := by omega
        go_wp2
        go_ret
        exact ⟨rfl, ⟨rfl, rfl, rfl, Nat.le_refl _, fun _ _ => rfl⟩⟩

/-- A link, and a row of links as cells. -/
structure Lnk where
  la : ByteArray
  ca : ByteArray
  at_ : Int
def lcells : List Lnk → List Value
  | [] => []
  | l :: r => .string l.la :: .string l.ca :: .int .i64 l.at_ :: lcells r
theorem lcells_len : ∀ l : List Lnk, (lcells l).length = l.length * 3
  | [] => rfl
  | _ :: r => by simp only [lcells, List.length_cons, lcells_len r]; omega
theorem lcells_at : ∀ (l : List Lnk) (k : Nat) (x : Lnk), l[k]? = some x → (lcells l)[k * 3]? = some (.string x.la) ∧ (lcells l)[k * 3 + 1]? = some (.string x.ca) ∧ (lcells l)[k * 3 + 2]? = some (.int .i64 x.at_)
  | [], k, x, h => by simp at h
  | y :: r, 0, x, h => by simp at h; subst h; exact ⟨rfl, rfl, rfl⟩
  | y :: r, k + 1, x, h => by
    have := lcells_at r k x (by simpa using h)
    have e : (k + 1) * 3 = k * 3 + 1 + 1 + 1 := by omega
    rw [e]
    simpa [lcells, Nat.add_right_comm] using this
theorem lcells_append : ∀ a b : List Lnk, lcells (a ++ b) = lcells a ++ lcells b
  | [], _ => rfl
  | x :: r, b => by simp [lcells, lcells_append r b]

set_option maxHeartbeats 1000000 in
theorem links_eq {w : World} {v u : Value} {xs : List Lnk} (hv : SlAt w v 3 xs.length (lcells xs)) (hu : SlAt w u 3 xs.length (lcells xs)) (hn : xs.length ≤ 1000000) :
    Calls Tryd.prog 21 #[v, u] w fun e w' => e = .returned (.bool true) ∧ Below w.heap.size w w' := by
  have zero : ∀ (a b : Option Addr) (c d : Nat), Calls Tryd.prog 21 #[.slice a 0 c, .slice b 0 d] w fun e w' => e = .returned (.bool true) ∧ Below w.heap.size w w' := by
    intro a b c d
    clear hv hu
    go_enter Tryd.func21, Tryd.ntmps21
    go_wp2
    refine wp_loop_rounds 1 ?_
    rw [rounds_succ]
    go_wp2
    go_ret
    exact ⟨rfl, Below.refl _ _⟩
  rcases hv.2 with ⟨h0, a, c, rfl⟩ | ⟨g, o, c, rfl, hg, hc⟩ <;> rcases hu.2 with ⟨h0', a', c', rfl⟩ | ⟨g', o', c', rfl, hg', hc'⟩
  · exact zero _ _ _ _
  · rw [h0] at *; exact zero _ _ _ _
  · rw [h0'] at *; exact zero _ _ _ _
  · have HA : Aside ((∀ j x, (lcells xs)[j]? = some x → w.cell? ⟨g, o + j, none⟩ = some x) ∧ ∀ j x, (lcells xs)[j]? = some x → w.cell? ⟨g', o' + j, none⟩ = some x) := ⟨hc, hc'⟩
    clear zero hv hu hc hc'
    go_enter Tryd.func21, Tryd.ntmps21
    go_wp2
    go_loopw [5] (fun i wr => ∃ k n : Nat, i = .int .i64 (k : Int) ∧ k ≤ xs.length ∧ wr = w.drewN n) (fun i _ => xs.length - (intOf i).toNat)
    case atStart => exact ⟨0, 0, rfl, Nat.zero_le _, rfl⟩
    case round =>
      obtain ⟨k, n, rfl, hk, rfl⟩ := hrel
      by_cases hlt : k < xs.length
      · obtain ⟨e0, e1, e2⟩ := lcells_at xs k xs[k] (by simp [hlt])
        have hki : (k : Int) < (xs.length : Int) := by omega
        have c10 : w.cell? ⟨g, o + k * 3, none⟩ = some (.string (xs[k]).la) := HA.out.1 _ _ e0
        have c11 : w.cell? ⟨g, o + k * 3 + 1, none⟩ = some (.string (xs[k]).ca) := HA.out.1 _ _ e1
        have c12 : w.cell? ⟨g, o + k * 3 + 2, none⟩ = some (.int .i64 (xs[k]).at_) := HA.out.1 _ _ e2
        have c20 : w.cell? ⟨g', o' + k * 3, none⟩ = some (.string (xs[k]).la) := HA.out.2 _ _ e0
        have c21 : w.cell? ⟨g', o' + k * 3 + 1, none⟩ = some (.string (xs[k]).ca) := HA.out.2 _ _ e1
        have c22 : w.cell? ⟨g', o' + k * 3 + 2, none⟩ = some (.int .i64 (xs[k]).at_) := HA.out.2 _ _ e2
        generalize xs[k] = x at c10 c11 c12 c20 c21 c22
        clear e0 e1 e2
        go_wp2_with fail
        go_quiet (fail)
        go_wp2
        go_roundw
        case rel => exact ⟨k + 1, n + nq, by go_num, by omega, rfl⟩
        case measure => simp [intOf]; omega
      · have hki : ¬ (k : Int) < (xs.length : Int) := by omega
        go_wp2
        go_ret
        exact ⟨rfl, ⟨rfl, rfl, rfl, Nat.le_refl _, fun _ _ => rfl⟩⟩

/-- fault.Codes: a list of the caller's own. -/
theorem codes_any {v : Value} {f : Option Nat} {cs : List Int} {w : World} (hth : ThroughV v f cs w) :
    Calls Tryd.prog 24 #[v] w fun e w' => ∃ r, e = .returned r ∧ w'.ownsRow w.heap.size 3 1 r cs.length (ints cs) ∧ Below w.heap.size w w' := by
  have HT : Aside (ThroughV v f cs w) := hth
  clear hth
  go_enter Tryd.func24, Tryd.ntmps24
  go_wp2_with (go_at_call 29; refine (HT.out.calls true).mono ?_; rintro ev w2 ⟨rfl, hb2, cc, hT2⟩; have t2 : w2.cell? ⟨w.heap.size + 1, 2, none⟩ = some cc := by (rw [cell_of_heap hT2.lies]; rfl))
  go_ret
  refine ⟨_, rfl, ⟨hT2.own.1, ?_⟩, hb2⟩
  rcases hT2.own.2 with h | ⟨g, cap, cur, h1, h2, h3⟩
  · exact .inl h
  · exact .inr ⟨g, cap, cur, h1, by omega, h3⟩
end Go.Proofs.YthabeapgkaggmaaDoor
