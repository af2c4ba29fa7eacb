
/-
  Calls as they came in; barrowkeep.Within; barrowkeep.Parcel. Calls that came in: from the argument as the form reads it to what the walks use.
-/
import Derived.Test.YtdojjhhnciaegaaDoorZb22
import Derived.Test.YtdojjhhnciaegaaDoorRows
import Derived.ProofKit
import Derived.Deep.Slices
import Derived.Deep.Strs
import Derived.OpenShut
import Derived.Carry
import Derived.LaidHandle
import Derived.Lib.SmallJoins
namespace Go.Proofs.YtdojjhhnciaegaaDoor
open Go.RowKit Go.Extern.Stop Go.Stop Go.Extern
set_option maxRecDepth 100000

/-- An int. -/
def In64 (n : Int) : Prop := -9223372036854775808 ≤ n ∧ n ≤ 9223372036854775807
/-- A call. -/
structure Opb where
  d : Int
  i : Int
  j : Int
  rv : Value
  raw : List UInt8
def ocb (x : Opb) : Array Value := #[.int .i64 x.d, .int .i64 x.i, .int .i64 x.j, x.rv]
/-- What a call that came in keeps to. -/
structure Opb.Ok (w0 : World) (x : Opb) : Prop where
  d : In64 x.d
  i : In64 x.i
  j : In64 x.j
  raw : SlB w0 x.rv x.raw
  cap : ∀ a n c, x.rv = .slice a n c → n ≤ c
/-- Calls in memory. -/
def SlOb (w0 : World) (v : Value) (os : List Opb) : Prop := (os = [] ∧ ∃ a c, v = .slice a 0 c) ∨ ∃ g o_ c, v = .slice (some ⟨g, o_, none⟩) os.length c ∧ ∀ i x, os[i]? = some x → x.Ok w0 ∧ CsIn g (o_ + i * 4) (ocb x) w0
theorem SlOb.form {w0 : World} {v : Value} {os : List Opb} (h : SlOb w0 v os) : ∃ a c, v = .slice a os.length c := by
  rcases h with ⟨rfl, a, c, rfl⟩ | ⟨g, o_, c, rfl, _⟩
  · exact ⟨a, c, rfl⟩
  · exact ⟨_, c, rfl⟩
theorem ob_size (x : Opb) : (Tryd.prog.info? 43).map (·.size) = some (ocb x).size := (by kernel_rfl : (Tryd.prog.info? 43).map (·.size) = some 4)
theorem ocb_one (x : Opb) (hp : x.rv.oneCell' = true) : (ocb x).all (·.oneCell') = true := by
  obtain ⟨d, i, j, b, r⟩ := x
  cases b <;> first | (simp [ocb, Value.oneCell']; done) | (simp [Value.oneCell'] at hp)
section
variable {ops : Array Oper} {rest : List Oper} {o : Oper} {A : Act} {w : World} {Q : Exit → Act → World → Prop}
theorem wpL_loadOb (hgd : o.guard = none) (x : Operand) (ho : o.op = .load 43 x) {b off : Nat} (hx : A.eval x = .pointer (some ⟨b, off, none⟩)) {q : Opb} (h : CsIn b off (ocb q) w)
    (k : wpList Tryd.prog ops Q rest (A.put o.dst (.agg (ocb q))) w) : wpList Tryd.prog ops Q (o :: rest) A w :=
  wpList_plain hgd fun _ hK => by
    unfold Oper.wp execOp
    simp only [ho, hx, Instr.loadAt, Instr.sureAddr, Sem.run_bind, Sem.run_pure, Result.andThen_ok, run_loadVar_in h Tryd.underlying43 rfl (ob_size q)]
    exact hK _ _ k
theorem wpL_stNewOb (hgd : o.guard = none) (x y : Operand) (ho : o.op = .store 43 x y) {w0 : World} {z : Array Value} (hw : w = w0.alloc (.cells z 43)) {g : Nat} (hx : A.eval x = .pointer (some ⟨g, 0, none⟩)) (hg : g = w0.heap.size) {q : Opb} (hy : A.eval y = .agg (ocb q)) (hz : z.size = 4) (hp : q.rv.oneCell' = true)
    (k : wpList Tryd.prog ops Q rest (A.put o.dst undef) (w0.alloc (.cells (ocb q) 43))) : wpList Tryd.prog ops Q (o :: rest) A w := by
  subst hw hg
  refine wpList_store_row hgd _ x y ho _ (ocb q) hx hy _ z (heap_alloc_last _ _) (ob_size q) hz (ocb_one q hp) ?_
  rw [World.setRow_alloc_new]
  exact k
end
/-- n taken into 0 to m - 1. -/
def wiN (n : Int) (m : Nat) : Nat := if n.tmod (m : Int) < 0 then (n.tmod (m : Int) + m).toNat else (n.tmod (m : Int)).toNat
theorem wiN_lt {n : Int} {m : Nat} (hm : 0 < m) : wiN n m < m := by
  have t1 : n.tmod (m : Int) < (m : Int) := Int.tmod_lt_of_pos n (by omega)
  unfold wiN
  split <;> omega
theorem within_is (n : Int) (m : Nat) (w : World) (hm : 0 < m) (hm2 : m ≤ 1073741824) (_h : In64 n) :
    Calls Tryd.prog 24 #[.int .i64 n, .int .i64 (m : Int)] w fun r w' => r = .returned (.int .i64 (wiN n m : Int)) ∧ w' = w := by
  obtain ⟨_h1, _h2⟩ := _h
  have m0 : ((m : Int) == 0) = false := by rw [beq_eq_false_iff_ne]; omega
  have t1 : n.tmod (m : Int) < (m : Int) := Int.tmod_lt_of_pos n (by omega)
  have t2 : -(m : Int) < n.tmod (m : Int) := by
    have := Int.tmod_lt_of_pos (-n) (show (0 : Int) < (m : Int) by omega)
    rw [Int.neg_tmod] at this
    omega
  unfold wiN
  obtain ⟨t, et⟩ : ∃ t, n.tmod (m : Int) = t := ⟨_, rfl⟩
  rw [et] at t1 t2 ⊢
  by_cases ht : t < 0
  · rw [if_pos ht, Int.toNat_of_nonneg (by omega)]
    go_enter Tryd.func24, Tryd.ntmps24
    go_wp2
    go_ret
    exact ⟨rfl, rfl⟩
  · rw [if_neg ht, Int.toNat_of_nonneg (by omega)]
    go_enter Tryd.func24, Tryd.ntmps24
    go_wp2
    go_ret
    exact ⟨rfl, rfl⟩
/-- A parcel that is only read. -/
structure PcR (p : Pc) (q : Pl) (w : World) : Prop where
  s : p.s = q.s
  f : p.f = q.f
  t : p.t = q.t
  b : SlB w p.b q.bs
theorem PcIs.r {K : Nat → Prop} {p : Pc} {q : Pl} {w : World} (h : PcIs K p q w) : PcR p q w := ⟨h.s, h.f, h.t, h.b.sl⟩
theorem PcR.later {p : Pc} {q : Pl} {w w' : World} (h : PcR p q w) (hb : Below w.heap.size w w') : PcR p q w' := ⟨h.s, h.f, h.t, h.b.later hb⟩
theorem PcR.ch {S : Nat → Prop} {p : Pc} {q : Pl} {w w' : World} (h : PcR p q w) (c : Ch S w w') (hn : ∀ k, p.b.ownBlock = some k → ¬ S k) : PcR p q w' := ⟨h.s, h.f, h.t, h.b.ch c hn⟩
set_option maxHeartbeats 2000000 in
/-- Two that say the same. -/
theorem parcel_eq {p p' : Pc} {q : Pl} {w : World} (h : PcR p q w) (h' : PcR p' q w) :
    Calls Tryd.prog 64 #[.agg (pcv p), .agg (pcv p')] w fun e w' => e = .returned (.bool true) ∧ Below w.heap.size w w' := by
  obtain ⟨s, f, t, b⟩ := p
  obtain ⟨s', f', t', b'⟩ := p'
  obtain ⟨h1, h2, h3, h4⟩ := h
  obtain ⟨k1, k2, k3, k4⟩ := h'
  simp only at h1 h2 h3 h4 k1 k2 k3 k4
  subst h1 h2 h3 k1 k2 k3
  obtain ⟨a, c, rfl⟩ := h4.form
  obtain ⟨a', c', rfl⟩ := k4.form
  have hB := below_two w (.cells (pcv ⟨q.s, q.f, q.t, .slice a q.bs.length c⟩) 65) (.cells (pcv ⟨q.s, q.f, q.t, .slice a' q.bs.length c'⟩) 65)
  have r0 := (row_new w (pcv ⟨q.s, q.f, q.t, .slice a q.bs.length c⟩) 65).later (below_one _ (.cells (pcv ⟨q.s, q.f, q.t, .slice a' q.bs.length c'⟩) 65))
  have r1 := row_new2 w (.cells (pcv ⟨q.s, q.f, q.t, .slice a q.bs.length c⟩) 65) (pcv ⟨q.s, q.f, q.t, .slice a' q.bs.length c'⟩) 65
  have s0 := h4.later hB
  have s1 := k4.later hB
  unfold pcv at r0 r1 hB s0 s1
  unfold pcv
  go_enter Tryd.func64, Tryd.ntmps64
  go_upto_region 1 with fail
  generalize ((w.alloc (.cells #[.int .i64 q.s, .int .i64 q.f, .int .i64 q.t, .slice a q.bs.length c] 65)).alloc (.cells #[.int .i64 q.s, .int .i64 q.f, .int .i64 q.t, .slice a' q.bs.length c'] 65)) = w1 at r0 r1 hB s0 s1 ⊢
  have c00 := r0.cls 0 _ rfl
  have c01 := r0.cls 1 _ rfl
  have c02 := r0.cls 2 _ rfl
  have c03 := r0.cls 3 _ rfl
  have c10 := r1.cls 0 _ rfl
  have c11 := r1.cls 1 _ rfl
  have c12 := r1.cls 2 _ rfl
  have c13 := r1.cls 3 _ rfl
  have v0 : ∀ s : Wld w1, (convert 41 9 (.slice a q.bs.length c)).run Tryd.prog (wOf s) = .ok (.string ⟨q.bs.toArray⟩) (wOf s) := fun s => conv_all (s0.later (wOf_below s))
  have v1 : ∀ s : Wld w1, (convert 41 9 (.slice a' q.bs.length c')).run Tryd.prog (wOf s) = .ok (.string ⟨q.bs.toArray⟩) (wOf s) := fun s => conv_all (s1.later (wOf_below s))
  clear r0 r1 s0 s1 h4 k4
  refine wp_region_cls0 ?_
  repeat (first | go_big_quiet_skip | (go_big_quiet_want; first | (go_big_quiet_op; first | go_big_quiet_on | go_big_quiet_call ((fail)))))
  refine wpQuiet_nil ?_
  rintro w1 ⟨s1, e1⟩
  have hb1 := wOf_below s1
  rw [← e1] at hb1
  clear e1 s1
  replace hB := bgo hB hb1
  clear hb1
  go_wp2
  go_ret
  exact ⟨rfl, hB⟩
end Go.Proofs.YtdojjhhnciaegaaDoor
namespace Go.Proofs.YtdojjhhnciaegaaDoor
open Go.ChangeShapes Go.WideShapes Go.ChangeAt Go.RowKit Go.Deep
set_option maxRecDepth 100000

instance : Inhabited Opb := ⟨⟨0, 0, 0, .slice none 0 0, []⟩⟩
theorem cellsObB : Tryd.prog.cellsOf 43 = 4 := by kernel_rfl
theorem cellsIntB : Tryd.prog.cellsOf 3 = 1 := by kernel_rfl
theorem cellsBsB : Tryd.prog.cellsOf 41 = 1 := by kernel_rfl
theorem cellsB : Tryd.prog.cellsOf 5 = 1 := by kernel_rfl
theorem wf_i64 {n : Int} (h : (Lit.int .i64 n).wf = true) : In64 n := by
  simp only [Lit.wf, Bool.and_eq_true, decide_eq_true_eq] at h
  have h1 : IntKind.i64.min = -9223372036854775808 := rfl
  have h2 : IntKind.i64.max = 9223372036854775807 := rfl
  unfold In64
  omega
section
variable {H : Type} {enc : TypeId × Value → H} {W : World} {base : Nat}
/-- An int that came in. -/
theorem open_iB {v : Value} {d : DataW H} {p : List MemPlace} (hval : Value.okWide Tryd.prog W .any base 3 v) (h : DataW.Trod enc Tryd.prog W 0 (fun _ => true) true 3 v d p) : ∃ n : Int, v = .int .i64 n ∧ In64 n := by
  obtain ⟨n, rfl⟩ := okWide_int Tryd.underlying3 hval
  obtain ⟨fuel, hf⟩ := h
  obtain ⟨z, e0, _, wf⟩ := DataW.trod_int Tryd.underlying3 hf
  simp [Value.cells] at e0
  subst e0
  exact ⟨_, rfl, wf_i64 wf⟩
/-- Bytes that came in, by their one cell. -/
theorem open_bsC {cs : List Value} {fuel : Nat} {x : DataW H × List MemPlace} (hf : DataW.trod enc Tryd.prog W 0 (fun _ => true) true fuel 41 cs = some x) :
    ∃ v, ∃ bs : List UInt8, cs = [v] ∧ SlB W v bs ∧ ∀ a n c, v = .slice a n c → n ≤ c := by
  rcases open_ints Tryd.underlying41 Tryd.underlying5 cellsB hf with ⟨hcs, hx⟩ | ⟨a, len, cap, zs, hcs, _, hl, hm, hz, hx, hcell, hwz⟩
  · exact ⟨_, [], hcs, .inl ⟨rfl, _, _, rfl⟩, fun a n c e => by cases e; omega⟩
  · simp only [if_true] at hz
    have hlen : ((zs.take len).map fun n => UInt8.ofNat n.toNat).length = len := by simp; omega
    refine ⟨_, (zs.take len).map fun n => UInt8.ofNat n.toNat, hcs, ?_, fun a n c e => by cases e; omega⟩
    by_cases h0 : len = 0
    · subst h0
      exact .inl ⟨by simp, _, _, rfl⟩
    · obtain ⟨ab, ao, spot⟩ := a
      have hspot : spot = none := by simpa [Addr.add] using World.cell?_spot (hcell 0 (by omega))
      subst hspot
      refine .inr ⟨ab, ao, cap, by rw [hlen], ?_, fun i b hi => ?_⟩
      · have := World.block_lt_of_cell? _ _ (hcell 0 (by omega))
        simpa [Addr.add] using this
      · have hil : i < len := by have := (List.getElem?_eq_some_iff.1 hi).1; omega
        have hci := hcell i (by omega)
        rw [Addr.add_lit] at hci
        rw [hci]
        have hzi : zs[i]? = some (zs[i]'(by omega)) := List.getElem?_eq_getElem _
        have e : zs.getD i 0 = zs[i]'(by omega) := by simp [List.getD, hzi]
        rw [e]
        have hb : 0 ≤ zs[i]'(by omega) ∧ zs[i]'(by omega) ≤ 255 := by
          have := hwz (zs[i]'(by omega)) (List.getElem_mem _)
          simp only [Lit.wf, Bool.and_eq_true, decide_eq_true_eq] at this
          have h1 : IntKind.u8.min = 0 := rfl
          have h2 : IntKind.u8.max = 255 := rfl
          omega
        simp only [List.getElem?_map, List.getElem?_take, if_pos hil, hzi, Option.map_some, Option.some.injEq] at hi
        rw [← hi]
        congr 2
        simp only [UInt8.toNat_ofNat']
        omega
/-- Calls that came in. -/
theorem open_opsB {v : Value} {d : DataW H} {p : List MemPlace} (hval : Value.okWide Tryd.prog W .any base 22 v) (h : DataW.Trod enc Tryd.prog W 0 (fun _ => true) true 22 v d p) :
    ∃ os : List Opb, SlOb W v os := by
  obtain ⟨a1, len, cap, rfl⟩ := okWide_slice Tryd.underlying22 hval
  obtain ⟨fuel, hf⟩ := h
  rcases open_slice Tryd.underlying22 hf with ⟨hcs, hx⟩ | ⟨a, len', cap', m, n, D, Pl, hcs, _, hl, hm, hmm, hx, hcell⟩
  · simp [Value.cells] at hcs
    obtain ⟨rfl, rfl, rfl⟩ := hcs
    exact ⟨[], .inl ⟨rfl, _, _, rfl⟩⟩
  · simp [Value.cells] at hcs
    obtain ⟨rfl, rfl, rfl⟩ := hcs
    simp only [if_true] at hmm
    subst hmm
    have each : ∀ i, i < len → ∃ x : Opb, x.Ok W ∧ ∀ j v, (ocb x)[j]? = some v → W.cell? (a.add (i * 4 + j)) = some v := by
      intro i hi
      obtain ⟨cs', h1, h2⟩ := hcell i (by omega)
      rw [cellsObB] at h1
      obtain ⟨_, hlen, hc⟩ := World.cells?_some h1
      obtain ⟨y0, y1, y2, y3, k, _, _, g0, g1, g2, g3⟩ := Go.Joins.trod_struct4 Tryd.underlying43 h2
      match cs', hlen with
      | [x0, x1, x2, x3], _ =>
        simp only [cellsIntB, cellsBsB] at g0 g1 g2 g3
        obtain ⟨k0, e0, _, wf0⟩ := DataW.trod_int Tryd.underlying3 g0
        obtain ⟨k1, e1, _, wf1⟩ := DataW.trod_int Tryd.underlying3 g1
        obtain ⟨k2, e2, _, wf2⟩ := DataW.trod_int Tryd.underlying3 g2
        obtain ⟨k3, l3, e3, s3, c3⟩ := open_bsC g3
        simp at e0 e1 e2 e3
        subst e0 e1 e2 e3
        refine ⟨⟨k0, k1, k2, x3, l3⟩, ⟨wf_i64 wf0, wf_i64 wf1, wf_i64 wf2, s3, c3⟩, fun j v hv => ?_⟩
        have hj : j < 4 := by
          have := (Array.getElem?_eq_some_iff.1 hv).1
          simpa [ocb] using this
        have := hc j hj
        rw [add_add] at this
        rw [this]
        simpa [ocb] using hv
    obtain ⟨f, hf⟩ := choose_lt (α := Opb) each
    refine ⟨(List.range len).map f, ?_⟩
    by_cases h0 : len = 0
    · subst h0
      exact .inl ⟨by simp, _, _, rfl⟩
    · obtain ⟨ab, ao, spot⟩ := a
      have c0 := (hf 0 (by omega)).2 0 _ (show (ocb (f 0))[0]? = some (.int .i64 (f 0).d) from rfl)
      have hspot : spot = none := by simpa [Addr.add] using World.cell?_spot c0
      subst hspot
      have hblk : ab < W.heap.size := by
        have := World.block_lt_of_cell? _ _ c0
        simpa [Addr.add] using this
      refine .inr ⟨ab, ao, _, by rw [List.length_map, List.length_range], fun i x hi => ?_⟩
      have hil : i < len := by have := (List.getElem?_eq_some_iff.1 hi).1; simpa using this
      have hx : f i = x := by
        simp only [List.getElem?_map, List.getElem?_range hil, Option.map_some, Option.some.injEq] at hi
        exact hi
      have := hf i hil
      rw [hx] at this
      refine ⟨this.1, hblk, fun j v hv => ?_⟩
      have h3 := this.2 j v hv
      rw [Addr.add_lit] at h3
      rw [Nat.add_assoc]; exact h3
end
end Go.Proofs.YtdojjhhnciaegaaDoor
