/-
  barrowlaw03.ClockTicks of no asks; any asks that came in.
-/
import Derived.Test.YtceahohcmhbkmaaDoorCkTicksOk
import Derived.Deep.Strs
namespace Go.Proofs.YtceahohcmhbkmaaDoor
open Go.ChangeShapes Go.WideShapes Go.ChangeAt Go.RowKit Go.Deep
set_option maxRecDepth 100000

set_option maxHeartbeats 1000000 in
theorem ticksC_nil (a : Option Addr) (c : Nat) (w : World) :
    Calls Tryd.prog 4 #[.slice a 0 c] w fun e w' => e = .returned (.bool true) ∧ Below w.heap.size w w' := by
  go_enter Tryd.func4, Tryd.ntmps4
  go_wp2
  go_loopw [3] (fun i wr => i = .int .i64 0 ∧ Below w.heap.size w wr) (fun _ _ => 0)
  case atStart => exact ⟨rfl, Below.refl _ _⟩
  case round =>
    obtain ⟨rfl, hB⟩ := hrel
    go_wp2_with (go_at_call 17; refine (wakesC_ok _).mono ?_; rintro e w1 ⟨rfl, hb1⟩)
    go_ret
    exact ⟨rfl, bgo hB hb1⟩
/-- A list of Asks, as a value. -/
def SlW (w : World) (v : Value) (l : List Ak) : Prop := (l = [] ∧ ∃ a c, v = .slice a 0 c) ∨ ∃ g o c, v = .slice (some ⟨g, o, none⟩) l.length c ∧ SlQ w g o l
theorem ticksC_all {ad : Nat → Addr} (v : Value) (l : List Ak) (w : World) (L : Laid ad w) (hl : SlW w v l) :
    Calls Tryd.prog 4 #[v] w fun e w' => e = .returned (.bool true) ∧ Below w.heap.size w w' := by
  rcases hl with ⟨_, a, c, rfl⟩ | ⟨g, o, c, rfl, hl⟩
  · exact ticksC_nil a c w
  · exact ticksC_ok l g o c w L hl

section
variable {H : Type} {enc : TypeId × Value → H} {W : World} {base : Nat}
theorem cellsAsk : Tryd.prog.cellsOf 34 = 10 := by kernel_rfl
theorem akv_0 (x : Ak) (h : x.Fit) : (akv x)[0]? = some (.int .i64 (en x.a 0)) := akv_ck x 0 _ (cv_get (by have := h.1; omega))
/-- The cells of an Ask. -/
theorem open_ask {cs : List Value} {fuel bs : Nat} {sp : Nat → Bool} {hd : Bool} {x : DataW H × List MemPlace} (hlen : cs.length = 10) (h : DataW.trod enc Tryd.prog W bs sp hd fuel 34 cs = some x) : ∃ a : Ak, cs.toArray = akv a ∧ a.Fit := by
  obtain ⟨y0, y1, y2, k, _, _, g0, g1, g2⟩ := trod_struct3 Tryd.underlying34 h
  simp only [cellsInt, cellsCk] at g0 g1 g2
  obtain ⟨ck, e0, hck⟩ := open_cells8 g0
  obtain ⟨i1, e1, _, _⟩ := DataW.trod_int Tryd.underlying3 g1
  obtain ⟨i2, e2, _, _⟩ := DataW.trod_int Tryd.underlying3 g2
  match cs, hlen with
  | [x0, x1, x2, x3, x4, x5, x6, x7, x8, x9], _ =>
    refine ⟨⟨ck, i1, i2⟩, ?_, hck⟩
    simp at e0 e1 e2
    subst e1 e2
    simp [akv, cv, ← e0]

/-- Asks that came in. -/
theorem open_asks {v : Value} {d : DataW H} {p : List MemPlace} (hval : Value.okWide Tryd.prog W .any base 28 v) (h : DataW.Trod enc Tryd.prog W 0 (fun _ => true) true 28 v d p) :
    ∃ l : List Ak, SlW W v l := by
  obtain ⟨a1, len, cap, rfl⟩ := okWide_slice Tryd.underlying28 hval
  obtain ⟨fuel, hf⟩ := h
  rcases open_slice Tryd.underlying28 hf with ⟨hcs, hx⟩ | ⟨a, len', cap', m, n, D, Pl, hcs, _, hl, hm, hmm, hx, hcell⟩
  · simp [Value.cells] at hcs
    obtain ⟨rfl, rfl, rfl⟩ := hcs
    exact ⟨[], .inl ⟨rfl, _, _, rfl⟩⟩
  · simp [Value.cells] at hcs
    obtain ⟨rfl, rfl, rfl⟩ := hcs
    simp only [if_true] at hmm
    subst hmm
    have each : ∀ i, i < len → ∃ x : Ak, x.Fit ∧ ∀ j v, (akv x)[j]? = some v → W.cell? (a.add (i * 10 + j)) = some v := by
      intro i hi
      obtain ⟨cs', h1, h2⟩ := hcell i (by omega)
      rw [cellsAsk] at h1
      obtain ⟨_, hlen, hc⟩ := World.cells?_some h1
      obtain ⟨x, ex, hx⟩ := open_ask hlen h2
      refine ⟨x, hx, fun j v hv => ?_⟩
      rw [← ex] at hv
      have hj : j < 10 := by
        have := (Array.getElem?_eq_some_iff.1 hv).1
        simpa [hlen] using this
      have := hc j hj
      rw [add_add] at this
      rw [this]
      simpa using hv
    obtain ⟨f, hf⟩ := choose_lt (α := Ak) each
    refine ⟨(List.range len).map f, ?_⟩
    by_cases h0 : len = 0
    · subst h0
      exact .inl ⟨by simp, _, _, rfl⟩
    · obtain ⟨ab, ao, spot⟩ := a
      have c0 := (hf 0 (by omega)).2 0 _ (akv_0 _ (hf 0 (by omega)).1)
      have hspot : spot = none := by simpa [Addr.add] using World.cell?_spot c0
      subst hspot
      have hblk : ab < W.heap.size := by
        have := World.block_lt_of_cell? _ _ c0
        simpa [Addr.add] using this
      refine .inr ⟨ab, ao, _, by rw [List.length_map, List.length_range], by simpa using (by omega : len ≤ maxLen), fun i x hi => ?_⟩
      have hil : i < len := by have := (List.getElem?_eq_some_iff.1 hi).1; simpa using this
      have hx : f i = x := by
        simp only [List.getElem?_map, List.getElem?_range hil, Option.map_some, Option.some.injEq] at hi
        exact hi
      have := hf i hil
      rw [hx] at this
      refine ⟨this.1, hblk, fun j v hv => ?_⟩
      have h3 := this.2 j v hv
      rw [Addr.add_lit] at h3
      rw [Nat.add_assoc]; exact h3
end
end Go.Proofs.YtceahohcmhbkmaaDoor
