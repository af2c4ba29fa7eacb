
/-
  Package script: steps compared; barrowkeep.Steps.
-/
import Derived.Test.YtphdkniplhkkfaaDoorSq4
namespace Go.Proofs.YtphdkniplhkkfaaDoor
open Go.RowKit Go.Extern.Stop Go.Stop Go.Extern
set_option maxRecDepth 100000

/-- Are two steps alike? -/
def seq (x y : Stp) : Bool := (x.k == y.k) && (x.a == y.a) && (x.b == y.b) && (x.c == y.c) && (x.t.toList == y.t.toList)
theorem seq_refl (x : Stp) : seq x x = true := by simp [seq]
theorem seq_eq {x y : Stp} (h : seq x y = true) : x = y := by
  unfold seq at h
  simp only [Bool.and_eq_true, beq_iff_eq] at h
  obtain ⟨⟨⟨⟨h1, h2⟩, h3⟩, h4⟩, h5⟩ := h
  obtain ⟨k, a, b, c, t⟩ := x
  obtain ⟨k', a', b', c', t'⟩ := y
  dsimp only at h1 h2 h3 h4 h5
  subst h1 h2 h3 h4
  rw [ByteArray.toList_eq, ByteArray.toList_eq] at h5
  rw [by_ext h5]
theorem partI {cs : Array Value} {o : Nat} {v : Value} (h : cs[o]? = some v) (w : World) : (part 3 cs o).run Tryd.prog w = .ok v w := by
  simp [part, isAgg, run_underlying Tryd.underlying3, h]
theorem partS {cs : Array Value} {o : Nat} {v : Value} (h : cs[o]? = some v) (w : World) : (part 9 cs o).run Tryd.prog w = .ok v w := by
  simp [part, isAgg, run_underlying Tryd.underlying9, h]
theorem eqIn_st (k a b c : Int) (t : ByteArray) (k' a' b' c' : Int) (t' : ByteArray) (w : World) : (Op.equalIn 10000 30 (.agg (stv k a b c t)) (.agg (stv k' a' b' c' t'))).run Tryd.prog w = .ok (seq ⟨k, a, b, c, t⟩ ⟨k', a', b', c', t'⟩) w := by
  rw [run_equalIn_struct w 9999 30 _ _ (by kernel_rfl) (by kernel_rfl), seq]
  have p1 := fun w => partI (cs := stv k a b c t) (o := 0) (v := .int .i64 k) rfl w
  have p2 := fun w => partI (cs := stv k' a' b' c' t') (o := 0) (v := .int .i64 k') rfl w
  have p3 := fun w => partI (cs := stv k a b c t) (o := 1) (v := .int .i64 a) rfl w
  have p4 := fun w => partI (cs := stv k' a' b' c' t') (o := 1) (v := .int .i64 a') rfl w
  have p5 := fun w => partI (cs := stv k a b c t) (o := 2) (v := .int .i64 b) rfl w
  have p6 := fun w => partI (cs := stv k' a' b' c' t') (o := 2) (v := .int .i64 b') rfl w
  have p7 := fun w => partI (cs := stv k a b c t) (o := 3) (v := .int .i64 c) rfl w
  have p8 := fun w => partI (cs := stv k' a' b' c' t') (o := 3) (v := .int .i64 c') rfl w
  have p9 := fun w => partS (cs := stv k a b c t) (o := 4) (v := .string t) rfl w
  have p0 := fun w => partS (cs := stv k' a' b' c' t') (o := 4) (v := .string t') rfl w
  have q := fun d (x y : Int) w => run_equalIn_int (P := Tryd.prog) w d 3 .i64 .i64 x y Tryd.underlying3
  have qs := fun d (x y : ByteArray) w => run_equalIn_string (P := Tryd.prog) w d 9 x y Tryd.underlying9
  have si : ∀ w, (sizeOf 3).run Tryd.prog w = .ok 1 w := fun _ => by kernel_rfl
  simp only [Program.fieldsOf, Tryd.underlying30, Op.eqFields]
  cases h1 : (k == k') <;> cases h2 : (a == a') <;> cases h3 : (b == b') <;> cases h4 : (c == c') <;> cases h5 : (t.toList == t'.toList) <;> simp [Sem.run_bind, p1, p2, p3, p4, p5, p6, p7, p8, p9, p0, q, qs, h1, h2, h3, h4, h5]
theorem run_eql_st (k a b c : Int) (t : ByteArray) (k' a' b' c' : Int) (t' : ByteArray) (w : World) : (binOp .eql 30 (.agg (stv k a b c t)) (.agg (stv k' a' b' c' t'))).run Tryd.prog w = .ok (.bool (seq ⟨k, a, b, c, t⟩ ⟨k', a', b', c', t'⟩)) w := by
  rw [run_eql_struct, eqIn_st]; rfl
theorem run_neq_st (k a b c : Int) (t : ByteArray) (k' a' b' c' : Int) (t' : ByteArray) (w : World) : (binOp .neq 30 (.agg (stv k a b c t)) (.agg (stv k' a' b' c' t'))).run Tryd.prog w = .ok (.bool (!seq ⟨k, a, b, c, t⟩ ⟨k', a', b', c', t'⟩)) w := by
  rw [run_neq_struct, eqIn_st]; rfl
theorem st_guard : Tryd.prog.eqGuardType Tryd.prog.depth 30 = false := by kernel_rfl
def stE (s : Stp) : Array Value := stv s.k s.a s.b s.c s.t
/-- Steps that only are read. -/
def SlT (w : World) (v : Value) (l : List Stp) : Prop := (l = [] ∧ ∃ a c, v = .slice a 0 c) ∨ ∃ g o_ c, v = .slice (some ⟨g, o_, none⟩) l.length c ∧ ∀ (i : Nat) (e : Stp), l[i]? = some e → CsIn g (o_ + i * 5) (stE e) w
theorem SlT.form {w : World} {v : Value} {l : List Stp} (h : SlT w v l) : ∃ a c, v = .slice a l.length c := by
  rcases h with ⟨rfl, a, c, rfl⟩ | ⟨g, o_, c, rfl, _⟩
  · exact ⟨a, c, rfl⟩
  · exact ⟨_, c, rfl⟩
theorem SlT.at {w : World} {a : Option Addr} {n c : Nat} {l : List Stp} (h : SlT w (.slice a n c) l) {i : Nat} {e : Stp} (he : l[i]? = some e) : ∃ g o_, a = some ⟨g, o_, none⟩ ∧ g < w.heap.size ∧ CsIn g (o_ + i * 5) (stE e) w := by
  rcases h with ⟨rfl, _⟩ | ⟨g, o_, c', hv, hc⟩
  · simp at he
  · simp only [Value.slice.injEq] at hv
    have h1 := hc i e he
    exact ⟨g, o_, hv.1, h1.1, h1⟩
theorem SlT.later {w w' : World} {v : Value} {l : List Stp} (h : SlT w v l) (hb : Below w.heap.size w w') : SlT w' v l := by
  rcases h with h | ⟨g, o_, c, rfl, h⟩
  · exact .inl h
  · exact .inr ⟨g, o_, c, rfl, fun i e he => (h i e he).later hb⟩
theorem RwT.sl {v : Value} {l : List Stp} {w : World} (h : RwT v l w) : SlT w v l := by
  obtain ⟨a, c, rfl, _⟩ := Rw.form h
  by_cases h0 : l = []
  · subst h0
    exact .inl ⟨rfl, a, c, rfl⟩
  · obtain ⟨e, he⟩ : ∃ e, l[0]? = some e := ⟨_, List.getElem?_eq_getElem (List.length_pos_iff.2 h0)⟩
    obtain ⟨g, rfl, _⟩ := h.at he
    refine .inr ⟨g, 0, c, rfl, fun i e he => ?_⟩
    obtain ⟨g', e', _, hc⟩ := h.at he
    cases e'
    rw [Nat.zero_add]
    exact hc
theorem quiet_ldT {o : Oper} {a : Act} {C : World → Prop} {K : Act → Prop} (x : Operand) (ho : o.op = .load 30 x) {b off : Nat} (hx : a.eval x = .pointer (some ⟨b, off, none⟩)) {k p q r : Int} {t : ByteArray} (h : ∀ w, C w → CsIn b off (stv k p q r t) w)
    (K' : K (a.put o.dst (.agg (stv k p q r t)))) : o.quiet Tryd.prog a C K := quiet_load_in _ x ho hx h Tryd.underlying30 rfl (stv_size k p q r t) K'
set_option maxHeartbeats 2000000 in
theorem keepSteps_same {w : World} {u v : Value} {l : List Stp} (hu : SlT w u l) (hv : SlT w v l) (hl : l.length ≤ 1000000) :
    Calls Tryd.prog 8 #[u, v] w fun e w' => e = .returned (.bool true) ∧ Below w.heap.size w w' := by
  obtain ⟨ua, uc, rfl⟩ := hu.form
  obtain ⟨va, vc, rfl⟩ := hv.form
  obtain ⟨n, hn⟩ : ∃ n, n = l.length := ⟨_, rfl⟩
  have HH := hid_of' (And.intro hu (And.intro hv hn))
  rw [← hn] at hl ⊢
  clear hu hv hn
  go_enter Tryd.func8, Tryd.ntmps8
  go_wp2
  go_loopw [5] (fun i wr => ∃ k : Nat, i = .int .i64 (k : Int) ∧ k ≤ n ∧ Below w.heap.size w wr) (fun i _ => n - (intOf i).toNat)
  case atStart => exact ⟨0, rfl, by omega, Below.refl _ _⟩
  case round =>
    obtain ⟨k, rfl, hk, hB⟩ := hrel
    by_cases hkn : k < n
    · have hki : (k : Int) < (n : Int) := by omega
      have hw1 : wrap64 ((k : Int) + 1) = (k : Int) + 1 := by unfold wrap64; omega
      obtain ⟨e, he⟩ : ∃ e, l[k]? = some e := ⟨_, List.getElem?_eq_getElem (by rw [← HH.out.2.2]; exact hkn)⟩
      obtain ⟨g1, o1, rfl, hg1, p1⟩ := (HH.out.1.later hB).at he
      obtain ⟨g2, o2, rfl, hg2, p2⟩ := (HH.out.2.1.later hB).at he
      obtain ⟨sk, sa, sb, sc, st⟩ := e
      unfold stE at p1 p2
      dsimp only at p1 p2
      have q1 := fun w => run_neq_st sk sa sb sc st sk sa sb sc st w
      simp only [seq_refl, Bool.not_true] at q1
      have gd := st_guard
      clear he
      go_upto_region 6 with fail
      refine wp_region_cls (by kernel_rfl) (by kernel_rfl) ?_
      repeat (first | go_big_quiet_skip | (go_big_quiet_want; first | (refine quiet_ldT _ rfl rfl p1.cls ?_; simp only [Act.put, List.setIfInBounds_toArray, List.set_cons_succ, List.set_cons_zero]; go_big_quiet_on) | (refine quiet_ldT _ rfl rfl p2.cls ?_; simp only [Act.put, List.setIfInBounds_toArray, List.set_cons_succ, List.set_cons_zero]; go_big_quiet_on) | (go_big_quiet_op; first | go_big_quiet_on | go_big_quiet_call ((fail)))))
      refine wpQuiet_nil ?_
      rintro w1 ⟨s1, e1⟩
      have hb1 := wOf_below s1
      rw [← e1] at hb1
      clear e1 s1
      replace hB := bgo hB hb1
      clear hb1
      go_wp2
      exact ⟨⟨k + 1, by go_num, by omega, hB⟩, by simp [intOf]; omega⟩
    · have hki : ¬ (k : Int) < (n : Int) := by omega
      go_wp2
      go_ret
      exact ⟨rfl, hB⟩
end Go.Proofs.YtphdkniplhkkfaaDoor
