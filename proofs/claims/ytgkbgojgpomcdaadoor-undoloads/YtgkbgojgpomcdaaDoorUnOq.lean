
/-
  Calls that came in.
-/
import Derived.Test.YtgkbgojgpomcdaaDoorUnOp
namespace Go.Proofs.YtgkbgojgpomcdaaDoor
open Go.ChangeShapes Go.WideShapes Go.ChangeAt Go.RowKit Go.Deep
set_option maxRecDepth 100000

/-- A call as it came in. -/
structure Uop where
  dd : Int
  rd : Bool
  v : Value
  l : List Xg
instance : Inhabited Uop := ⟨⟨0, false, .slice none 0 0, []⟩⟩
def uov (o : Uop) : Array Value := #[.int .i64 o.dd, .bool o.rd, o.v]
structure Uop.Ok (W : World) (o : Uop) : Prop where
  sl : SlD W o.v o.l
  cap : ∀ a n c, o.v = .slice a n c → n ≤ c
  dd : -9223372036854775808 ≤ o.dd ∧ o.dd ≤ 9223372036854775807
/-- Calls that are only read. -/
def SlU (w : World) (v : Value) (l : List Uop) : Prop := (l = [] ∧ ∃ a c, v = .slice a 0 c) ∨ ∃ g o_ c, v = .slice (some ⟨g, o_, none⟩) l.length c ∧ ∀ i e, l[i]? = some e → CsIn g (o_ + i * 3) (uov e) w
theorem cellsUo : Tryd.prog.cellsOf 35 = 3 := by kernel_rfl
theorem cellsBo : Tryd.prog.cellsOf 4 = 1 := by kernel_rfl
theorem cellsGs : Tryd.prog.cellsOf 33 = 1 := by kernel_rfl
section
variable {H : Type} {enc : TypeId × Value → H} {W : World} {base : Nat}
/-- A slice of changes within what came in. -/
theorem open_gsC {cs : List Value} {fuel bs : Nat} {hd : Bool} {x : DataW H × List MemPlace} (hf : DataW.trod enc Tryd.prog W bs (fun _ => true) hd fuel 33 cs = some x) :
    ∃ v l, cs = [v] ∧ SlD W v l ∧ ∀ a n c, v = .slice a n c → n ≤ c := by
  have hf0 := hf
  rcases open_slice Tryd.underlying33 hf with ⟨hcs, hx⟩ | ⟨a, len, cap, m, n, D, Pl, hcs, _⟩
  · exact ⟨_, [], hcs, .inl ⟨rfl, _, _, rfl⟩, fun a n c e => by cases e; exact Nat.le_refl _⟩
  · rw [hcs] at hf0
    obtain ⟨l, h1, h2⟩ := open_gsT (a1 := some a) (len1 := len) (cap1 := cap) hf0
    exact ⟨_, l, hcs, h1, fun a n c e => by cases e; exact h2⟩
/-- The cells of a call. -/
theorem open_uop {cs : List Value} {fuel bs : Nat} {hd : Bool} {x : DataW H × List MemPlace} (hlen : cs.length = 3) (h : DataW.trod enc Tryd.prog W bs (fun _ => true) hd fuel 35 cs = some x) : ∃ a : Uop, cs.toArray = uov a ∧ a.Ok W := by
  obtain ⟨y0, y1, y2, k, _, _, g0, g1, g2⟩ := trod_struct3 Tryd.underlying35 h
  simp only [cellsInt, cellsBo, cellsGs] at g0 g1 g2
  obtain ⟨i0, e0, _, w0⟩ := DataW.trod_int Tryd.underlying3 g0
  obtain ⟨i1, e1, _⟩ := DataW.trod_bool Tryd.underlying4 g1
  obtain ⟨v, l, e2, h1, h2⟩ := open_gsC g2
  match cs, hlen with
  | [x0, x1, x2], _ =>
    refine ⟨⟨i0, i1, v, l⟩, ?_, ⟨h1, h2, ?_⟩⟩
    · simp at e0 e1 e2
      subst e0 e1 e2
      rfl
    · have := bounds_i64 w0
      omega
/-- Calls that came in. -/
theorem open_uops {v : Value} {d : DataW H} {p : List MemPlace} (hval : Value.okWide Tryd.prog W .any base 22 v) (h : DataW.Trod enc Tryd.prog W 0 (fun _ => true) true 22 v d p) :
    ∃ l : List Uop, SlU W v l ∧ ∀ x ∈ l, x.Ok W := by
  obtain ⟨a1, len1, cap1, rfl⟩ := okWide_slice Tryd.underlying22 hval
  obtain ⟨fuel, hf⟩ := h
  rcases open_slice Tryd.underlying22 hf with ⟨hcs, hx⟩ | ⟨a, len, cap, m, n, D, Pl, hcs, _, hl, hm, hmm, hx, hcell⟩
  · simp [Value.cells] at hcs
    obtain ⟨rfl, rfl, rfl⟩ := hcs
    exact ⟨[], .inl ⟨rfl, _, _, rfl⟩, fun o ho => by simp at ho⟩
  · simp [Value.cells] at hcs
    obtain ⟨rfl, rfl, rfl⟩ := hcs
    simp only [if_true] at hmm
    subst hmm
    have each : ∀ i, i < len1 → ∃ x : Uop, (∀ j v, (uov x)[j]? = some v → W.cell? (a.add (i * 3 + j)) = some v) ∧ x.Ok W := by
      intro i hi
      obtain ⟨cs', h1, h2⟩ := hcell i (by omega)
      rw [cellsUo] at h1
      obtain ⟨_, hlen, hc⟩ := World.cells?_some h1
      obtain ⟨x, ex, hin⟩ := open_uop hlen h2
      refine ⟨x, fun j v hv => ?_, hin⟩
      rw [← ex] at hv
      have hj : j < 3 := by
        have := (Array.getElem?_eq_some_iff.1 hv).1
        simpa [hlen] using this
      have := hc j hj
      rw [add_add] at this
      rw [this]
      simpa using hv
    obtain ⟨f, hf⟩ := choose_lt (α := Uop) each
    refine ⟨(List.range len1).map f, ?_, fun o ho => ?_⟩
    · by_cases h0 : len1 = 0
      · subst h0
        exact .inl ⟨by simp, _, _, rfl⟩
      · obtain ⟨ab, ao, spot⟩ := a
        have c0 := (hf 0 (by omega)).1 0 _ (show (uov (f 0))[0]? = some (.int .i64 (f 0).dd) from rfl)
        have hspot : spot = none := by simpa [Addr.add] using World.cell?_spot c0
        subst hspot
        have hblk : ab < W.heap.size := by
          have := World.block_lt_of_cell? _ _ c0
          simpa [Addr.add] using this
        refine .inr ⟨ab, ao, _, by rw [List.length_map, List.length_range], fun i x hx => ⟨hblk, fun j v hv => ?_⟩⟩
        have hi : i < len1 := by
          have := (List.getElem?_eq_some_iff.1 hx).1
          simpa using this
        have hfx : f i = x := by
          rw [List.getElem?_map, List.getElem?_range hi] at hx
          simpa using hx
        have := (hf i hi).1 j v (by rw [hfx]; exact hv)
        rw [Addr.add_lit] at this
        rw [Nat.add_assoc]; exact this
    · obtain ⟨i, hi, rfl⟩ := List.mem_map.1 ho
      exact (hf i (List.mem_range.1 hi)).2
end
end Go.Proofs.YtgkbgojgpomcdaaDoor
