
/-
  Calls as they came in; barrowkeep.Within; barrowkeep.Parcel.
-/
import Derived.Test.YtbjbihgfkcnmbaaDoorBg9
namespace Go.Proofs.YtbjbihgfkcnmbaaDoor
open Go.RowKit Go.Extern.Stop Go.Stop Go.Extern
set_option maxRecDepth 100000

/-- An int. -/
def In64 (n : Int) : Prop := -9223372036854775808 ≤ n ∧ n ≤ 9223372036854775807
/-- A call. -/
structure Opb where
  d : Int
  i : Int
  j : Int
  rv : Value
  raw : List UInt8
def ocb (x : Opb) : Array Value := #[.int .i64 x.d, .int .i64 x.i, .int .i64 x.j, x.rv]
/-- What a call that came in keeps to. -/
structure Opb.Ok (w0 : World) (x : Opb) : Prop where
  d : In64 x.d
  i : In64 x.i
  j : In64 x.j
  raw : SlB w0 x.rv x.raw
  cap : ∀ a n c, x.rv = .slice a n c → n ≤ c
/-- Calls in memory. -/
def SlOb (w0 : World) (v : Value) (os : List Opb) : Prop := (os = [] ∧ ∃ a c, v = .slice a 0 c) ∨ ∃ g o_ c, v = .slice (some ⟨g, o_, none⟩) os.length c ∧ ∀ i x, os[i]? = some x → x.Ok w0 ∧ CsIn g (o_ + i * 4) (ocb x) w0
theorem SlOb.form {w0 : World} {v : Value} {os : List Opb} (h : SlOb w0 v os) : ∃ a c, v = .slice a os.length c := by
  rcases h with ⟨rfl, a, c, rfl⟩ | ⟨g, o_, c, rfl, _⟩
  · exact ⟨a, c, rfl⟩
  · exact ⟨_, c, rfl⟩
theorem ob_size (x : Opb) : (Tryd.prog.info? 43).map (·.size) = some (ocb x).size := (by kernel_rfl : (Tryd.prog.info? 43).map (·.size) = some 4)
theorem ocb_one (x : Opb) (hp : x.rv.oneCell' = true) : (ocb x).all (·.oneCell') = true := by
  obtain ⟨d, i, j, b, r⟩ := x
  cases b <;> first | (simp [ocb, Value.oneCell']; done) | (simp [Value.oneCell'] at hp)
section
variable {ops : Array Oper} {rest : List Oper} {o : Oper} {A : Act} {w : World} {Q : Exit → Act → World → Prop}
theorem wpL_loadOb (hgd : o.guard = none) (x : Operand) (ho : o.op = .load 43 x) {b off : Nat} (hx : A.eval x = .pointer (some ⟨b, off, none⟩)) {q : Opb} (h : CsIn b off (ocb q) w)
    (k : wpList Tryd.prog ops Q rest (A.put o.dst (.agg (ocb q))) w) : wpList Tryd.prog ops Q (o :: rest) A w :=
  wpList_plain hgd fun _ hK => by
    unfold Oper.wp execOp
    simp only [ho, hx, Instr.loadAt, Instr.sureAddr, Sem.run_bind, Sem.run_pure, Result.andThen_ok, run_loadVar_in h Tryd.underlying43 rfl (ob_size q)]
    exact hK _ _ k
theorem wpL_stNewOb (hgd : o.guard = none) (x y : Operand) (ho : o.op = .store 43 x y) {w0 : World} {z : Array Value} (hw : w = w0.alloc (.cells z 43)) {g : Nat} (hx : A.eval x = .pointer (some ⟨g, 0, none⟩)) (hg : g = w0.heap.size) {q : Opb} (hy : A.eval y = .agg (ocb q)) (hz : z.size = 4) (hp : q.rv.oneCell' = true)
    (k : wpList Tryd.prog ops Q rest (A.put o.dst undef) (w0.alloc (.cells (ocb q) 43))) : wpList Tryd.prog ops Q (o :: rest) A w := by
  subst hw hg
  refine wpList_store_row hgd _ x y ho _ (ocb q) hx hy _ z (heap_alloc_last _ _) (ob_size q) hz (ocb_one q hp) ?_
  rw [World.setRow_alloc_new]
  exact k
end
/-- n taken into 0 to m - 1. -/
def wiN (n : Int) (m : Nat) : Nat := if n.tmod (m : Int) < 0 then (n.tmod (m : Int) + m).toNat else (n.tmod (m : Int)).toNat
theorem wiN_lt {n : Int} {m : Nat} (hm : 0 < m) : wiN n m < m := by
  have t1 : n.tmod (m : Int) < (m : Int) := Int.tmod_lt_of_pos n (by omega)
  unfold wiN
  split <;> omega
theorem within_is (n : Int) (m : Nat) (w : World) (hm : 0 < m) (hm2 : m ≤ 1073741824) (_h : In64 n) :
    Calls Tryd.prog 17 #[.int .i64 n, .int .i64 (m : Int)] w fun r w' => r = .returned (.int .i64 (wiN n m : Int)) ∧ w' = w := by
  obtain ⟨_h1, _h2⟩ := _h
  have m0 : ((m : Int) == 0) = false := by rw [beq_eq_false_iff_ne]; omega
  have t1 : n.tmod (m : Int) < (m : Int) := Int.tmod_lt_of_pos n (by omega)
  have t2 : -(m : Int) < n.tmod (m : Int) := by
    have := Int.tmod_lt_of_pos (-n) (show (0 : Int) < (m : Int) by omega)
    rw [Int.neg_tmod] at this
    omega
  unfold wiN
  obtain ⟨t, et⟩ : ∃ t, n.tmod (m : Int) = t := ⟨_, rfl⟩
  rw [et] at t1 t2 ⊢
  by_cases ht : t < 0
  · rw [if_pos ht, Int.toNat_of_nonneg (by omega)]
    go_enter Tryd.func17, Tryd.ntmps17
    go_wp2
    go_ret
    exact ⟨rfl, rfl⟩
  · rw [if_neg ht, Int.toNat_of_nonneg (by omega)]
    go_enter Tryd.func17, Tryd.ntmps17
    go_wp2
    go_ret
    exact ⟨rfl, rfl⟩
/-- A parcel that is only read. -/
structure PcR (p : Pc) (q : Pl) (w : World) : Prop where
  s : p.s = q.s
  f : p.f = q.f
  t : p.t = q.t
  b : SlB w p.b q.bs
theorem PcIs.r {K : Nat → Prop} {p : Pc} {q : Pl} {w : World} (h : PcIs K p q w) : PcR p q w := ⟨h.s, h.f, h.t, h.b.sl⟩
theorem PcR.later {p : Pc} {q : Pl} {w w' : World} (h : PcR p q w) (hb : Below w.heap.size w w') : PcR p q w' := ⟨h.s, h.f, h.t, h.b.later hb⟩
theorem PcR.ch {S : Nat → Prop} {p : Pc} {q : Pl} {w w' : World} (h : PcR p q w) (c : Ch S w w') (hn : ∀ k, p.b.ownBlock = some k → ¬ S k) : PcR p q w' := ⟨h.s, h.f, h.t, h.b.ch c hn⟩
set_option maxHeartbeats 2000000 in
/-- Two that say the same. -/
theorem parcel_eq {p p' : Pc} {q : Pl} {w : World} (h : PcR p q w) (h' : PcR p' q w) :
    Calls Tryd.prog 20 #[.agg (pcv p), .agg (pcv p')] w fun e w' => e = .returned (.bool true) ∧ Below w.heap.size w w' := by
  obtain ⟨s, f, t, b⟩ := p
  obtain ⟨s', f', t', b'⟩ := p'
  obtain ⟨h1, h2, h3, h4⟩ := h
  obtain ⟨k1, k2, k3, k4⟩ := h'
  simp only at h1 h2 h3 h4 k1 k2 k3 k4
  subst h1 h2 h3 k1 k2 k3
  obtain ⟨a, c, rfl⟩ := h4.form
  obtain ⟨a', c', rfl⟩ := k4.form
  have hB := below_two w (.cells (pcv ⟨q.s, q.f, q.t, .slice a q.bs.length c⟩) 56) (.cells (pcv ⟨q.s, q.f, q.t, .slice a' q.bs.length c'⟩) 56)
  have r0 := (row_new w (pcv ⟨q.s, q.f, q.t, .slice a q.bs.length c⟩) 56).later (below_one _ (.cells (pcv ⟨q.s, q.f, q.t, .slice a' q.bs.length c'⟩) 56))
  have r1 := row_new2 w (.cells (pcv ⟨q.s, q.f, q.t, .slice a q.bs.length c⟩) 56) (pcv ⟨q.s, q.f, q.t, .slice a' q.bs.length c'⟩) 56
  have s0 := h4.later hB
  have s1 := k4.later hB
  unfold pcv at r0 r1 hB s0 s1
  unfold pcv
  go_enter Tryd.func20, Tryd.ntmps20
  go_upto_region 1 with fail
  generalize ((w.alloc (.cells #[.int .i64 q.s, .int .i64 q.f, .int .i64 q.t, .slice a q.bs.length c] 56)).alloc (.cells #[.int .i64 q.s, .int .i64 q.f, .int .i64 q.t, .slice a' q.bs.length c'] 56)) = w1 at r0 r1 hB s0 s1 ⊢
  have c00 := r0.cls 0 _ rfl
  have c01 := r0.cls 1 _ rfl
  have c02 := r0.cls 2 _ rfl
  have c03 := r0.cls 3 _ rfl
  have c10 := r1.cls 0 _ rfl
  have c11 := r1.cls 1 _ rfl
  have c12 := r1.cls 2 _ rfl
  have c13 := r1.cls 3 _ rfl
  have v0 : ∀ s : Wld w1, (convert 41 9 (.slice a q.bs.length c)).run Tryd.prog (wOf s) = .ok (.string ⟨q.bs.toArray⟩) (wOf s) := fun s => conv_all (s0.later (wOf_below s))
  have v1 : ∀ s : Wld w1, (convert 41 9 (.slice a' q.bs.length c')).run Tryd.prog (wOf s) = .ok (.string ⟨q.bs.toArray⟩) (wOf s) := fun s => conv_all (s1.later (wOf_below s))
  clear r0 r1 s0 s1 h4 k4
  refine wp_region_cls0 ?_
  repeat (first | go_big_quiet_skip | (go_big_quiet_want; first | (go_big_quiet_op; first | go_big_quiet_on | go_big_quiet_call ((fail)))))
  refine wpQuiet_nil ?_
  rintro w1 ⟨s1, e1⟩
  have hb1 := wOf_below s1
  rw [← e1] at hb1
  clear e1 s1
  replace hB := bgo hB hb1
  clear hb1
  go_wp2
  go_ret
  exact ⟨rfl, hB⟩
end Go.Proofs.YtbjbihgfkcnmbaaDoor
