
/-
  What came in and holds ints alone: rounds, calls, moves.
-/
import Derived.Test.YtfgcljpiidhfpaaDoorCkOpen
import Derived.Test.YtfgcljpiidhfpaaDoorFl1
import Derived.Deep.Strs
import Derived.Lib.SmallJoins
namespace Go.Proofs.YtfgcljpiidhfpaaDoor
open Go.ChangeShapes Go.WideShapes Go.ChangeAt Go.RowKit Go.Deep
set_option maxRecDepth 100000

/-- Ints alone. -/
def Pw (cs : List Value) : Prop := ∀ v ∈ cs, ∃ z : Int, v = .int .i64 z ∧ fitsI z
theorem Pw.app {a b : List Value} (ha : Pw a) (hb : Pw b) : Pw (a ++ b) := fun v hv => (List.mem_append.1 hv).elim (ha v) (hb v)
theorem Pw.ints : ∀ {cs : List Value}, Pw cs → ∃ x : List Int, cs = x.map (Value.int .i64) ∧ ∀ z ∈ x, fitsI z
  | [], _ => ⟨[], rfl, fun z h => by cases h⟩
  | v :: cs, h => by
    obtain ⟨z, rfl, hz⟩ := h v (by simp)
    obtain ⟨x, rfl, hx⟩ := Pw.ints (cs := cs) fun u hu => h u (by simp [hu])
    exact ⟨z :: x, rfl, fun y hy => (List.mem_cons.1 hy).elim (fun e => e ▸ hz) (hx y)⟩
theorem Pw.at {cs : List Value} {o n : Nat} (h1 : Pw ((cs.drop o).take n)) (h2 : Pw (cs.drop (o + n))) : Pw (cs.drop o) := by
  have e : cs.drop o = (cs.drop o).take n ++ cs.drop (o + n) := by rw [← List.drop_drop, List.take_append_drop]
  rw [e]; exact h1.app h2
theorem Pw.last {cs : List Value} {o n : Nat} (hl : cs.length = o + n) (h1 : Pw ((cs.drop o).take n)) : Pw (cs.drop o) := by
  rwa [List.take_of_length_le (by simp; omega)] at h1
theorem cellsRow8 : Tryd.prog.cellsOf 41 = 8 := by kernel_rfl
theorem cellsRnd : Tryd.prog.cellsOf 44 = 18 := by kernel_rfl
theorem cellsRnds : Tryd.prog.cellsOf 46 = 144 := by kernel_rfl

section
variable {H : Type} {enc : TypeId × Value → H} {W : World} {base : Nat}
theorem pw_int {cs : List Value} {fuel bs : Nat} {sp : Nat → Bool} {hd : Bool} {x : DataW H × List MemPlace} (h : DataW.trod enc Tryd.prog W bs sp hd fuel 3 cs = some x) : Pw cs := by
  obtain ⟨z, e0, _, wf⟩ := DataW.trod_int Tryd.underlying3 h
  subst e0
  exact fun v hv => ⟨z, by simpa using hv, bounds_i64 wf⟩
theorem pw_array {t e : TypeId} {n s : Nat} (ht : Tryd.prog.underlying t = some (.array n e)) (hs : Tryd.prog.cellsOf e = s) (hc : Tryd.prog.cellsOf t = n * s) (hs0 : 0 < s) {cs : List Value} {fuel bs : Nat} {sp : Nat → Bool} {hd : Bool} {x : DataW H × List MemPlace} (h : DataW.trod enc Tryd.prog W bs sp hd fuel t cs = some x)
    (hel : ∀ {ds : List Value} {f : Nat} {y : DataW H × List MemPlace}, ds.length = s → DataW.trod enc Tryd.prog W bs sp hd f e ds = some y → Pw ds) : Pw cs ∧ cs.length = n * s := by
  obtain ⟨xs, m, _, _, hlen, hxl, hi⟩ := DataW.trod_array ht h
  rw [hc] at hlen
  refine ⟨fun v hv => ?_, hlen⟩
  obtain ⟨k, hk⟩ := List.getElem?_of_mem hv
  have hkl : k < n * s := by have := (List.getElem?_eq_some_iff.1 hk).1; omega
  have hin : k / s < n := Nat.div_lt_of_lt_mul (by rw [Nat.mul_comm]; exact hkl)
  have hdm : k / s * s + k % s = k := by rw [Nat.mul_comm]; exact Nat.div_add_mod k s
  have hm : k % s < s := Nat.mod_lt _ hs0
  have h1 := hi (k / s) hin
  rw [hs, List.getElem?_eq_getElem (show k / s < xs.length by omega)] at h1
  have hle : (k / s + 1) * s ≤ n * s := Nat.mul_le_mul_right s (by omega)
  rw [Nat.add_mul, Nat.one_mul] at hle
  refine hel (by simp; omega) h1 v (List.mem_of_getElem? (i := k % s) ?_)
  rw [List.getElem?_take, if_pos hm, List.getElem?_drop, hdm, hk]
theorem pw_ck {cs : List Value} {fuel bs : Nat} {sp : Nat → Bool} {hd : Bool} {x : DataW H × List MemPlace} (h : DataW.trod enc Tryd.prog W bs sp hd fuel 42 cs = some x) : Pw cs :=
  (pw_array (n := 8) (s := 1) Tryd.underlying42 cellsInt cellsCk (by decide) h (fun _ h => pw_int h)).1
theorem pw_row {cs : List Value} {fuel bs : Nat} {sp : Nat → Bool} {hd : Bool} {x : DataW H × List MemPlace} (h : DataW.trod enc Tryd.prog W bs sp hd fuel 41 cs = some x) : Pw cs :=
  (pw_array (n := 8) (s := 1) Tryd.underlying41 cellsInt cellsRow8 (by decide) h (fun _ h => pw_int h)).1
theorem pw_rnd {cs : List Value} {fuel bs : Nat} {sp : Nat → Bool} {hd : Bool} {x : DataW H × List MemPlace} (hl : cs.length = 18) (h : DataW.trod enc Tryd.prog W bs sp hd fuel 44 cs = some x) : Pw cs := by
  obtain ⟨z0, z1, z2, z3, k', _, _, f0, f1, f2, f3⟩ := Go.Joins.trod_struct4 Tryd.underlying44 h
  simp only [cellsInt, cellsCk, cellsRow8] at f0 f1 f2 f3
  have := Pw.at (o := 0) (pw_int f0) (Pw.at (pw_ck f1) (Pw.at (pw_row f2) (Pw.last (by rw [hl]) (pw_int f3))))
  simpa using this
theorem pw_rnds {cs : List Value} {fuel bs : Nat} {sp : Nat → Bool} {hd : Bool} {x : DataW H × List MemPlace} (h : DataW.trod enc Tryd.prog W bs sp hd fuel 46 cs = some x) : Pw cs :=
  (pw_array (n := 8) (s := 18) Tryd.underlying46 cellsRnd cellsRnds (by decide) h (fun hl h => pw_rnd hl h)).1
/-- Rounds whose ints fit. -/
def FtL (l : List Rnd) : Prop := ∀ r ∈ l, fitsI r.num
theorem lOf_fit {x : List Int} (hl : x.length = 144) (h : ∀ z ∈ x, fitsI z) : FtL (lOf x) := fun r hr => by
  simp only [lOf, List.mem_map, List.mem_range] at hr
  obtain ⟨c, hc, rfl⟩ := hr
  show fitsI (en (sub x (c * 18) 18) 0)
  rw [en_sub (by decide)]
  exact h _ (List.mem_of_getElem? (en_at (x := x) (k := c * 18 + 0) (by omega)))
/-- Rounds that came in. -/
theorem open_rnds {v : Value} {d : DataW H} {p : List MemPlace} (hval : Value.okWide Tryd.prog W .any base 46 v) (h : DataW.Trod enc Tryd.prog W 0 (fun _ => true) true 46 v d p) :
    ∃ l : List Rnd, v = .agg (cv (rs l)) ∧ OkL l ∧ FtL l := by
  obtain ⟨cs, rfl, hsz⟩ := okWide_array Tryd.underlying46 hval
  rw [cellsRnds] at hsz
  obtain ⟨fuel, hf⟩ := h
  obtain ⟨x, hx, hfit⟩ := (pw_rnds hf).ints
  simp only [Value.cells] at hx
  have hl : x.length = 144 := by
    have := congrArg List.length hx
    simp at this
    omega
  refine ⟨lOf x, ?_, lOf_ok hl, lOf_fit hl hfit⟩
  rw [rs_lOf hl, cv, ← hx]

/-- Rows of ints in memory, n to each. -/
def SlN (n : Nat) (w : World) (v : Value) (L : List (List Int)) : Prop := (L = [] ∧ ∃ a c, v = .slice a 0 c) ∨ ∃ g o c, v = .slice (some ⟨g, o, none⟩) L.length c ∧ ∀ (k : Nat) (x : List Int), L[k]? = some x → CsIn g (o + k * n) (cv x) w
theorem open_slN {ts te : TypeId} {n : Nat} (hts : Tryd.prog.underlying ts = some (.slice te)) (hce : Tryd.prog.cellsOf te = n) (hn : 0 < n)
    (hel : ∀ {ds : List Value} {f : Nat} {y : DataW H × List MemPlace}, ds.length = n → DataW.trod enc Tryd.prog W 0 (fun _ => true) true f te ds = some y → Pw ds)
    {v : Value} {d : DataW H} {p : List MemPlace} (hval : Value.okWide Tryd.prog W .any base ts v) (h : DataW.Trod enc Tryd.prog W 0 (fun _ => true) true ts v d p) :
    ∃ L : List (List Int), SlN n W v L ∧ (∀ x ∈ L, x.length = n ∧ ∀ z ∈ x, fitsI z) ∧ L.length ≤ 9223372036854775807 := by
  obtain ⟨a1, len, cap, rfl⟩ := okWide_slice hts hval
  obtain ⟨fuel, hf⟩ := h
  rcases open_slice hts hf with ⟨hcs, hx⟩ | ⟨a, len', cap', m, n', D, Pl, hcs, _, hl, hm, hmm, hx, hcell⟩
  · simp [Value.cells] at hcs
    obtain ⟨rfl, rfl, rfl⟩ := hcs
    exact ⟨[], .inl ⟨rfl, _, _, rfl⟩, (fun x h => by cases h), by simp⟩
  · simp [Value.cells] at hcs
    obtain ⟨rfl, rfl, rfl⟩ := hcs
    simp only [if_true] at hmm
    subst hmm
    have each : ∀ i, i < len → ∃ x : List Int, (x.length = n ∧ ∀ z ∈ x, fitsI z) ∧ ∀ j u, (cv x)[j]? = some u → W.cell? (a.add (i * n + j)) = some u := by
      intro i hi
      obtain ⟨cs', h1, h2⟩ := hcell i (by omega)
      rw [hce] at h1
      obtain ⟨_, hlen, hc⟩ := World.cells?_some h1
      obtain ⟨x, ex, hfit⟩ := (hel hlen h2).ints
      have hxl : x.length = n := by rw [← hlen, ex]; simp
      refine ⟨x, ⟨hxl, hfit⟩, fun j u hu => ?_⟩
      have hj : j < n := by
        have := (Array.getElem?_eq_some_iff.1 hu).1
        rw [cv_size, hxl] at this
        exact this
      have := hc j hj
      rw [add_add] at this
      rw [this, ex]
      simpa [cv] using hu
    obtain ⟨f, hf⟩ := choose_lt (α := List Int) each
    refine ⟨(List.range len).map f, ?_, fun x hx => ?_, by simp only [List.length_map, List.length_range]; simp only [maxLen] at hm; omega⟩
    · by_cases h0 : len = 0
      · subst h0
        exact .inl ⟨by simp, _, _, rfl⟩
      · obtain ⟨ab, ao, spot⟩ := a
        have hz := hf 0 (by omega)
        have c0 := hz.2 0 _ (cv_get (by rw [hz.1.1]; exact hn))
        have hspot : spot = none := by simpa [Addr.add] using World.cell?_spot c0
        subst hspot
        have hblk : ab < W.heap.size := by
          have := World.block_lt_of_cell? _ _ c0
          simpa [Addr.add] using this
        refine .inr ⟨ab, ao, _, by rw [List.length_map, List.length_range], fun i x hi => ?_⟩
        have hil : i < len := by have := (List.getElem?_eq_some_iff.1 hi).1; simpa using this
        have hx : f i = x := by
          simp only [List.getElem?_map, List.getElem?_range hil, Option.map_some, Option.some.injEq] at hi
          exact hi
        have := hf i hil
        rw [hx] at this
        refine ⟨hblk, fun j u hu => ?_⟩
        have h3 := this.2 j u hu
        rw [Addr.add_lit] at h3
        rw [Nat.add_assoc]; exact h3
    · obtain ⟨i, hi, rfl⟩ := List.mem_map.1 hx
      exact (hf i (List.mem_range.1 hi)).1
end
end Go.Proofs.YtfgcljpiidhfpaaDoor
