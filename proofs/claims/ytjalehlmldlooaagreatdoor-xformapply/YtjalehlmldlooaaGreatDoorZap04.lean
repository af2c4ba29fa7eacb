
/-
  tree.sum: the weight of several elements.
-/
import Derived.Test.YtjalehlmldlooaaGreatDoorZap01
import Derived.Test.YtjalehlmldlooaaGreatDoorZap03
namespace Go.Proofs.YtjalehlmldlooaaGreatDoor
open Go.RowKit
set_option maxRecDepth 100000

/-- Weights of a row. -/
def liveL : List El → Int
  | [] => 0
  | e :: l => wLive e + liveL l
def lineL : List El → Int
  | [] => 0
  | e :: l => wLine e + lineL l
theorem wLive_b (e : El) : 0 ≤ wLive e ∧ wLive e ≤ 1 := by unfold wLive; split <;> omega
theorem wLine_b (e : El) : 0 ≤ wLine e ∧ wLine e ≤ 1 := by unfold wLine; split <;> (try split) <;> omega
theorem liveL_b : ∀ l, 0 ≤ liveL l ∧ liveL l ≤ l.length
  | [] => by simp [liveL]
  | e :: l => by have := liveL_b l; have := wLive_b e; simp only [liveL, List.length_cons]; omega
theorem lineL_b : ∀ l, 0 ≤ lineL l ∧ lineL l ≤ l.length
  | [] => by simp [lineL]
  | e :: l => by have := lineL_b l; have := wLine_b e; simp only [lineL, List.length_cons]; omega
theorem liveL_app : ∀ l m, liveL (l ++ m) = liveL l + liveL m
  | [], m => by simp [liveL]
  | e :: l, m => by simp only [List.cons_append, liveL, liveL_app l m]; omega
theorem lineL_app : ∀ l m, lineL (l ++ m) = lineL l + lineL m
  | [], m => by simp [lineL]
  | e :: l, m => by simp only [List.cons_append, lineL, lineL_app l m]; omega
theorem take_next {l : List El} {k : Nat} {e : El} (h : l[k]? = some e) : l.take (k + 1) = l.take k ++ [e] := by
  rw [List.take_add_one, h]; rfl

/-- Elements in memory. -/
def ElsAt (g o_ : Nat) (l : List El) (w : World) : Prop := ∀ (i : Nat) (e : El), l[i]? = some e → CsIn g (o_ + i * 5) (ev e) w
theorem ElsAt.later {g o_ : Nat} {l : List El} {w w' : World} (h : ElsAt g o_ l w) (hb : Below w.heap.size w w') : ElsAt g o_ l w' := fun i e he => (h i e he).later hb
/-- A list of elements, as a value. -/
def SlE (w : World) (v : Value) (l : List El) : Prop := (l = [] ∧ ∃ a c, v = .slice a 0 c) ∨ ∃ g o_ c, v = .slice (some ⟨g, o_, none⟩) l.length c ∧ ElsAt g o_ l w
theorem SlE.later {w w' : World} {v : Value} {l : List El} (h : SlE w v l) (hb : Below w.heap.size w w') : SlE w' v l := by
  rcases h with ⟨h1, h2⟩ | ⟨g, o_, c, h1, h2⟩
  · exact .inl ⟨h1, h2⟩
  · exact .inr ⟨g, o_, c, h1, h2.later hb⟩

theorem e_size (e : El) : (Tryz.prog.info? 49).map (·.size) = some (ev e).size := (by kernel_rfl : (Tryz.prog.info? 49).map (·.size) = some 5)
section
variable {ops : Array Oper} {rest : List Oper} {o : Oper} {A : Act} {w : World} {Q : Exit → Act → World → Prop}
theorem wpL_loadE (hgd : o.guard = none) (x : Operand) (ho : o.op = .load 49 x) {b off : Nat} (hx : A.eval x = .pointer (some ⟨b, off, none⟩)) {e : El} (h : CsIn b off (ev e) w)
    (k : wpList Tryz.prog ops Q rest (A.put o.dst (.agg (ev e))) w) : wpList Tryz.prog ops Q (o :: rest) A w :=
  wpList_plain hgd fun _ hK => by
    unfold Oper.wp execOp
    simp only [ho, hx, Instr.loadAt, Instr.sureAddr, Sem.run_bind, Sem.run_pure, Result.andThen_ok, run_loadVar_in h Tryz.underlying49 rfl (e_size e)]
    exact hK _ _ k
theorem wpL_loadW (hgd : o.guard = none) (x : Operand) (ho : o.op = .load 123 x) {b off : Nat} (hx : A.eval x = .pointer (some ⟨b, off, none⟩)) {p q : Int} (h : CsIn b off #[.int .i64 p, .int .i64 q] w)
    (k : wpList Tryz.prog ops Q rest (A.put o.dst (wv p q)) w) : wpList Tryz.prog ops Q (o :: rest) A w :=
  wpList_plain hgd fun _ hK => by
    unfold Oper.wp execOp
    simp only [ho, hx, Instr.loadAt, Instr.sureAddr, Sem.run_bind, Sem.run_pure, Result.andThen_ok, run_loadVar_in h Tryz.underlying123 rfl w_size]
    exact hK _ _ k
theorem wpL_storeE (hgd : o.guard = none) (x y : Operand) (ho : o.op = .store 49 x y) {g : Nat} (hx : A.eval x = .pointer (some ⟨g, 0, none⟩)) {e : El} (hy : A.eval y = .agg (ev e)) {c0 c1 c2 c3 c4 : Value} (h : RowAt g #[c0, c1, c2, c3, c4] 49 w)
    (k : wpList Tryz.prog ops Q rest (A.put o.dst undef) (w.setRow g (ev e))) : wpList Tryz.prog ops Q (o :: rest) A w :=
  wpList_store_row hgd _ x y ho g (ev e) hx hy _ _ h (e_size e) rfl (by simp [ev, Value.oneCell']) k
theorem opw_loadE {K : Act → World → Prop} (x : Operand) (ho : o.op = .load 49 x) {b off : Nat} (hx : A.eval x = .pointer (some ⟨b, off, none⟩)) {e : El} (h : CsIn b off (ev e) w)
    (k : K (A.put o.dst (.agg (ev e))) w) : o.wp Tryz.prog A w K Q := by
  unfold Oper.wp execOp
  simp only [ho, hx, Instr.loadAt, Instr.sureAddr, Sem.run_bind, Sem.run_pure, Result.andThen_ok, run_loadVar_in h Tryz.underlying49 rfl (e_size e)]
  exact k
theorem opw_loadW {K : Act → World → Prop} (x : Operand) (ho : o.op = .load 123 x) {b off : Nat} (hx : A.eval x = .pointer (some ⟨b, off, none⟩)) {p q : Int} (h : CsIn b off #[.int .i64 p, .int .i64 q] w)
    (k : K (A.put o.dst (wv p q)) w) : o.wp Tryz.prog A w K Q := by
  unfold Oper.wp execOp
  simp only [ho, hx, Instr.loadAt, Instr.sureAddr, Sem.run_bind, Sem.run_pure, Result.andThen_ok, run_loadVar_in h Tryz.underlying123 rfl w_size]
  exact k
end
theorem RowAt.below {b n : Nat} {cs : Array Value} {t : TypeId} {w w' : World} (h : RowAt b cs t w) (hb : Below n w w') (hn : b < n) : RowAt b cs t w' := (hb.block _ hn).trans h
theorem plus_is {x y x' y' p q : Int} (hp : x + x' = p) (hq : y + y' = q) (h1 : 0 ≤ p ∧ p ≤ 1099511627776) (h2 : 0 ≤ q ∧ q ≤ 1099511627776) (w : World) :
    Calls Tryz.prog 81 #[wv x y, wv x' y'] w fun r w' => r = .returned (wv p q) ∧ Below w.heap.size w w' := by
  have := plus_any x y x' y' w
  rw [hp, hq, show wrap64 p = p by unfold wrap64; omega, show wrap64 q = q by unfold wrap64; omega] at this
  exact this

set_option maxHeartbeats 4000000 in
theorem sum_some (l : List El) (g o_ c : Nat) (w : World) (hl : ElsAt g o_ l w) (hn : l.length ≤ 1099511627776) :
    Calls Tryz.prog 79 #[.slice (some ⟨g, o_, none⟩) l.length c] w fun r w' => r = .returned (wv (liveL l) (lineL l)) ∧ Below w.heap.size w w' := by
  go_enter Tryz.func79, Tryz.ntmps79
  go_wp2
  go_loopw [8] (fun i wr => ∃ k : Nat, i = .int .i64 (k : Int) ∧ k ≤ l.length ∧ RowAt w.heap.size #[.int .i64 0, .int .i64 0] 123 wr ∧ RowAt (w.heap.size + 1) #[.int .i64 (liveL (l.take k)), .int .i64 (lineL (l.take k))] 123 wr ∧ Below w.heap.size w wr) (fun i _ => l.length - (intOf i).toNat)
  case atStart =>
    refine ⟨0, rfl, by omega, (row_new w _ _).later (below_one _ _), row_new2 w _ _ _, below_two w _ _⟩
  case round =>
    obtain ⟨k, rfl, hk, h1, h2, hB⟩ := hrel
    by_cases hlt : k < l.length
    · have hki : (k : Int) < (l.length : Int) := by omega
      obtain ⟨e, he⟩ : ∃ e, l[k]? = some e := ⟨_, List.getElem?_eq_getElem hlt⟩
      have hce := (hl.later hB) k e he
      have htk := take_next he
      have hlv := liveL_b (l.take k)
      have hln := lineL_b (l.take k)
      have hwe := wLive_b e
      have hwl := wLine_b e
      have hle : (l.take k).length ≤ k := by simp; omega
      have HQ : Hid (liveL (l.take (k + 1)) = liveL (l.take k) + wLive e ∧ lineL (l.take (k + 1)) = lineL (l.take k) + wLine e) := by
        rw [htk]
        constructor
        · rw [liveL_app]; simp [liveL]
        · rw [lineL_app]; simp [lineL]
      obtain ⟨p0, hx⟩ : ∃ x, liveL (l.take k) = x := ⟨_, rfl⟩
      obtain ⟨q0, hy⟩ : ∃ y, lineL (l.take k) = y := ⟨_, rfl⟩
      rw [hx] at h2 hlv HQ
      rw [hy] at h2 hln HQ
      have HB : Hid (0 ≤ p0 + wLive e ∧ p0 + wLive e ≤ 1099511627776 ∧ 0 ≤ q0 + wLine e ∧ q0 + wLine e ≤ 1099511627776) := by show _ ∧ _; omega
      clear hx hy hlv hln hwe hwl hle htk
      go_upto_region 5 with (first | (refine wpL_loadE rfl _ rfl rfl hce ?_) | (refine wpL_storeE rfl _ _ rfl rfl rfl (row_new wr _ _) ?_))
      -- REGION5
      simp only [Act.put]
      have h5 : RowAt wr.heap.size (ev e) 49 _ := (row_new wr #[.int .i64 0, .int .i64 0, .int .i64 0, .int .i32 0, .int .i64 0] _).put (ev e)
      have kB : Below wr.heap.size wr ((wr.alloc (.cells #[.int .i64 0, .int .i64 0, .int .i64 0, .int .i32 0, .int .i64 0] 49)).setRow wr.heap.size (ev e)) := below_row (below_one _ _) (by omega) _
      replace h1 := h1.later kB
      replace h2 := h2.later kB
      replace hB := bgo hB kB
      generalize (wr.alloc (.cells #[.int .i64 0, .int .i64 0, .int .i64 0, .int .i32 0, .int .i64 0] 49)).setRow wr.heap.size (ev e) = X at *
      refine wp_region_tail 4 (by kernel_rfl) (fun _ => none) (by kernel_rfl) (by kernel_rfl) (by decide) (fun i v x => match i with
        | 0 => v = wv p0 q0
        | 1 => v = .agg (ev e)
        | 2 => v = wv (wLive e) (wLine e)
        | 3 => v = wv (p0 + wLive e) (q0 + wLine e)
        | _ => True) (fun _ => false) (fun _ _ _ _ h => by cases h) ?_ ?_ ?_
      · intro i v x x' hR hb
        match i, hR with
        | 0, h => exact h
        | 1, h => exact h
        | 2, h => exact h
        | 3, h => exact h
        | m + 4, h => exact h
      · intro i o hi ho q x vals hX hdep hoth
        have t3 : q.tmps[3]? = some (.pointer (some ⟨w.heap.size + 1, 0, none⟩)) := by rw [hoth 3 (by kernel_rfl)]; rfl
        have t5 : q.tmps[5]? = some (.pointer (some ⟨wr.heap.size, 0, none⟩)) := by rw [hoth 5 (by kernel_rfl)]; rfl
        match i, hi, ho with
        | 0, _, ho =>
          simp only [List.getElem?_cons_zero, Option.some.injEq] at ho
          subst ho
          exact opw_loadW _ rfl (by simp [Act.eval, t3]) ((h2.later hX).in) (came _ rfl (Below.refl _ _) rfl (fun h => absurd h (by decide)))
        | 1, _, ho =>
          simp only [List.getElem?_cons_succ, List.getElem?_cons_zero, Option.some.injEq] at ho
          subst ho
          exact opw_loadE _ rfl (by simp [Act.eval, t5]) ((h5.later hX).in) (came _ rfl (Below.refl _ _) rfl (fun h => absurd h (by decide)))
        | 2, _, ho =>
          simp only [List.getElem?_cons_succ, List.getElem?_cons_zero, Option.some.injEq] at ho
          subst ho
          obtain ⟨u1, e1⟩ := hdep ⟨1, .data⟩ (by simp) rfl _ 13 rfl rfl
          rw [show vals 1 = .agg (ev e) from e1] at u1
          unfold Oper.wp
          simp [go_sem, u1]
          refine (weigh_any e _).mono ?_
          rintro r x1 ⟨rfl, hb1⟩
          exact came _ rfl hb1 rfl (fun h => absurd h (by decide))
        | 3, _, ho =>
          simp only [List.getElem?_cons_succ, List.getElem?_cons_zero, Option.some.injEq] at ho
          subst ho
          obtain ⟨u0, e0⟩ := hdep ⟨0, .data⟩ (by simp) rfl _ 12 rfl rfl
          rw [show vals 0 = wv p0 q0 from e0] at u0
          obtain ⟨u2, e2⟩ := hdep ⟨2, .data⟩ (by simp) rfl _ 14 rfl rfl
          rw [show vals 2 = wv (wLive e) (wLine e) from e2] at u2
          unfold Oper.wp
          simp [go_sem, u0, u2]
          refine (plus_is rfl rfl ⟨HB.out.1, HB.out.2.1⟩ ⟨HB.out.2.2.1, HB.out.2.2.2⟩ _).mono ?_
          rintro r x1 ⟨rfl, hb1⟩
          exact came _ rfl hb1 rfl (fun h => absurd h (by decide))
        | m + 4, hi, _ => exact absurd hi (by omega)
      · intro vals x' hX hR _
        have r3 : vals 3 = wv (p0 + wLive e) (q0 + wLine e) := hR 3 (by decide)
        simp only [List.take, List.drop, putAll, r3]
        refine wpL_storeW rfl _ _ rfl rfl rfl (h2.later hX) ?_
        go_wp2
        go_roundw
        case rel => exact ⟨k + 1, by go_num, by omega, (h1.later hX).other _ _ (by omega), by rw [HQ.out.1, HQ.out.2]; exact (h2.later hX).put _, below_row (bgo hB hX) (by omega) _⟩
        case measure => simp [intOf]; omega
    · obtain rfl : k = l.length := by omega
      rw [List.take_length] at h2
      have hn1 : ¬ w.heap.size + 1 = w.heap.size := by omega
      go_wp2_with (first | (refine wpL_loadW rfl _ rfl rfl h2.in ?_) | (refine wpL_storeW rfl _ _ rfl rfl rfl h1 ?_))
      exact bodyPost_ret (v := wv (liveL l) (lineL l)) (results_w (fn := Tryz.f79) (p := 2) rfl rfl (h1.put _)) rfl ⟨rfl, below_row hB (by omega) _⟩
end Go.Proofs.YtjalehlmldlooaaGreatDoor
