
/-
  barrowlaw07.Trio in memory; two operations done on a row in one order.
-/
import Derived.Test.YtdafkakigigdeaaDoorXr2
namespace Go.Proofs.YtdafkakigigdeaaDoor
open Go.RowKit
set_option maxRecDepth 100000

/-- A Trio's cells. -/
def tv (v : Value) (a b c : Xo) (n : Int) : Array Value := #[v, .int .i64 a.k, .int .i64 a.p, .int .i32 a.c, .int .i64 a.r, .int .i64 b.k, .int .i64 b.p, .int .i32 b.c, .int .i64 b.r, .int .i64 c.k, .int .i64 c.p, .int .i32 c.c, .int .i64 c.r, .int .i64 n]
theorem tv_a {v : Value} {a b c : Xo} {n : Int} {g : Nat} {w : World} {t : TypeId} (h : RowAt g (tv v a b c n) t w) : CsIn g 1 (ov a) w := (h.in.sub 1 (fun j u hu => by
  match j, hu with
  | 0, hu => exact hu
  | 1, hu => exact hu
  | 2, hu => exact hu
  | 3, hu => exact hu
  | m + 4, hu => simp [ov] at hu))
theorem tv_b {v : Value} {a b c : Xo} {n : Int} {g : Nat} {w : World} {t : TypeId} (h : RowAt g (tv v a b c n) t w) : CsIn g 5 (ov b) w := (h.in.sub 5 (fun j u hu => by
  match j, hu with
  | 0, hu => exact hu
  | 1, hu => exact hu
  | 2, hu => exact hu
  | 3, hu => exact hu
  | m + 4, hu => simp [ov] at hu))
theorem tv_c {v : Value} {a b c : Xo} {n : Int} {g : Nat} {w : World} {t : TypeId} (h : RowAt g (tv v a b c n) t w) : CsIn g 9 (ov c) w := (h.in.sub 9 (fun j u hu => by
  match j, hu with
  | 0, hu => exact hu
  | 1, hu => exact hu
  | 2, hu => exact hu
  | 3, hu => exact hu
  | m + 4, hu => simp [ov] at hu))
/-- Names of replicas. -/
theorem named_in {l : List Xo} (h : ∀ o ∈ l, 0 ≤ o.r ∧ o.r < 8) : ∀ z ∈ named l, z.2.In := fun z hz => by
  obtain ⟨o, ho, rfl⟩ := List.mem_map.1 hz
  have := h o ho
  exact ⟨show In64 4 from in64_small (by decide) (by decide), ⟨by show _ ≤ o.r; omega, by show o.r ≤ _; omega⟩, show In64 1 from in64_small (by decide) (by decide)⟩
theorem named_new {l : List El} {zs : List Xo} (h : ∀ e ∈ l, e.ep = 3) : ∀ e ∈ l, ∀ z ∈ named zs, z.1.k = 1 → e.id ≠ z.2 := fun e he z hz _ q => by
  obtain ⟨o, _, rfl⟩ := List.mem_map.1 hz
  have h1 := h e he
  have h2 := congrArg Idn.a q
  simp [El.id] at h2
  omega
/-- Two operations of unlike replicas: all that done asks. -/
theorem two_ask {l : List El} {a b : Xo} (ha : validO a l.length = true) (hb : validO b l.length = true) (hl : l.length ≤ 1000) (hr : a.r ≠ b.r) (ra : 0 ≤ a.r ∧ a.r < 8) (rb : 0 ≤ b.r ∧ b.r < 8) (h3 : ∀ e ∈ l, e.ep = 3) :
    okS l (named [a, tO b a]) ∧ frS l (named [a, tO b a]) := by
  refine ⟨⟨ha, valid_t hb ha (by omega), trivial⟩, fr_of _ _ (named_new h3) ?_ (named_in ?_)⟩
  · simp only [named, List.map_cons, List.map_nil, List.pairwise_cons, List.mem_singleton, forall_eq, List.not_mem_nil, false_implies, implies_true, List.Pairwise.nil, and_true, tO_r]
    intro _ _ q
    exact hr (congrArg Idn.b q)
  · intro o ho
    simp only [List.mem_cons, List.not_mem_nil, or_false] at ho
    rcases ho with rfl | rfl
    · exact ra
    · rw [tO_r]; exact rb
theorem two_same {l : List El} {a b : Xo} (ha : validO a l.length = true) (hb : validO b l.length = true) (hl : l.length ≤ 1000) (hr : a.r ≠ b.r) : runs l (named [a, tO b a]) = runs l (named [b, tO a b]) := by
  simp only [named, List.map_cons, List.map_nil, runs, tO_r]
  exact two_way ha hb (by omega) hr
end Go.Proofs.YtdafkakigigdeaaDoor
