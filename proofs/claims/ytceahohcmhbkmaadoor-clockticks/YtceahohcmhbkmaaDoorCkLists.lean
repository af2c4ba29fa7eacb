/-
  clock.Most, clock.Least and the document's.
-/
import Derived.Test.YtceahohcmhbkmaaDoorCkAct
import Derived.Test.YtceahohcmhbkmaaDoorCkTwo
import Derived.Test.YtceahohcmhbkmaaDoorCkOpen
namespace Go.Proofs.YtceahohcmhbkmaaDoor
open Go.RowKit
set_option maxRecDepth 100000

theorem wpL_loadIn {ops : Array Oper} {rest : List Oper} {o : Oper} {a : Act} {w : World} {Q : Exit → Act → World → Prop} (hgd : o.guard = none) (x : Operand) (ho : o.op = .load 23 x) {b off : Nat} (hx : a.eval x = .pointer (some ⟨b, off, none⟩)) {y : List Int} (h : CsIn b off (cv y) w) (hy : y.length = 8)
    (k : wpList Tryd.prog ops Q rest (a.put o.dst (.agg (cv y))) w) : wpList Tryd.prog ops Q (o :: rest) a w :=
  wpList_plain hgd fun _ hK => by
    unfold Oper.wp execOp
    simp only [ho, hx, Instr.loadAt, Instr.sureAddr, Sem.run_bind, Sem.run_pure, Result.andThen_ok, run_loadVar_in h Tryd.underlying23 rfl (ck_size hy)]
    exact hK _ _ k

theorem opw_loadIn {o : Oper} {a : Act} {w : World} {K : Act → World → Prop} {Q : Exit → Act → World → Prop} (x : Operand) (ho : o.op = .load 23 x) {b off : Nat} (hx : a.eval x = .pointer (some ⟨b, off, none⟩)) {y : List Int} (h : CsIn b off (cv y) w) (hy : y.length = 8)
    (k : K (a.put o.dst (.agg (cv y))) w) : o.wp Tryd.prog a w K Q := by
  unfold Oper.wp execOp
  simp only [ho, hx, Instr.loadAt, Instr.sureAddr, Sem.run_bind, Sem.run_pure, Result.andThen_ok, run_loadVar_in h Tryd.underlying23 rfl (ck_size hy)]
  exact k

/-- A list of clocks in memory. -/
def SlK (w : World) (g o : Nat) (l : List (List Int)) : Prop := l.length ≤ maxLen ∧ ∀ (i : Nat) x, l[i]? = some x → Ck x ∧ CsIn g (o + i * 8) (cv x) w
theorem SlK.later {w w' : World} {g o : Nat} {l : List (List Int)} (h : SlK w g o l) (hb : Below w.heap.size w w') : SlK w' g o l := ⟨h.1, fun i x hx => ⟨(h.2 i x hx).1, (h.2 i x hx).2.later hb⟩⟩

/-- All joined. -/
def joinK (f : List Int → List Int → List Int) (l : List (List Int)) : List Int := match l with
  | [] => ck0
  | x :: l => l.foldl f x
theorem joinK_take {f : List Int → List Int → List Int} {l : List (List Int)} {k : Nat} (hk : k + 1 < l.length) : joinK f (l.take (k + 2)) = f (joinK f (l.take (k + 1))) (l.getD (k + 1) ck0) := by
  match l, hk with
  | x :: l, hk =>
    simp only [List.length_cons] at hk
    have h1 : k < l.length := by omega
    simp only [List.take_succ_cons, joinK]
    rw [List.take_add_one, List.foldl_append]
    simp [List.getElem?_eq_getElem h1, List.getD]
theorem joinK_all {f : List Int → List Int → List Int} {l : List (List Int)} : joinK f (l.take l.length) = joinK f l := by rw [List.take_length]
theorem joinK_len {f : List Int → List Int → List Int} (hf : ∀ a b, a.length = 8 → b.length = 8 → (f a b).length = 8) : ∀ {l : List (List Int)}, (∀ x ∈ l, x.length = 8) → (joinK f l).length = 8
  | [], _ => rfl
  | x :: l, h => by
    unfold joinK
    have hx := h x (by simp)
    have hl : ∀ y ∈ l, y.length = 8 := fun y hy => h y (by simp [hy])
    clear h
    induction l generalizing x with
    | nil => exact hx
    | cons y l ih =>
      simp only [List.foldl_cons]
      exact ih (f x y) (hf x y hx (hl y (by simp))) fun z hz => hl z (by simp [hz])

set_option maxHeartbeats 1000000 in
theorem joined_any {f : List Int → List Int → List Int} {F : Nat} (hF : ∀ w : World, ∀ args, (callFunc F args).run Tryd.prog w = .ok (.enter F args) w) (hlen : ∀ a b, a.length = 8 → b.length = 8 → (f a b).length = 8)
    (hcall : ∀ (a b : List Int) (w : World), a.length = 8 → b.length = 8 → Calls Tryd.prog F #[.agg (cv a), .agg (cv b)] w fun e w' => e = .returned (.agg (cv (f a b))) ∧ Below w.heap.size w w')
    (l : List (List Int)) (g o c : Nat) (w : World) (hl : SlK w g o l) (h0 : 0 < l.length) (hc : l.length ≤ c) :
    Calls Tryd.prog 41 #[.slice (some ⟨g, o, none⟩) l.length c, .func (.func F) #[] #[]] w fun e w' => e = .returned (.agg (cv (joinK f l))) ∧ Below w.heap.size w w' := by
  have hmx := hl.1
  unfold maxLen at hmx
  obtain ⟨x0, hx0⟩ : ∃ x, l[0]? = some x := ⟨_, List.getElem?_eq_getElem h0⟩
  obtain ⟨hk0, hc0⟩ := hl.2 0 x0 hx0
  rw [Nat.zero_mul, Nat.add_zero] at hc0
  have hnz : ((l.length : Int) == 0) = false := by rw [beq_eq_false_iff_ne]; omega
  have hc0' := hc0.later (below_one w (.cells (cv ck0) 23))
  have hn1 := CkAt.new (w.alloc (.cells (cv ck0) 23)) (x := ck0) rfl
  simp only [World.size_alloc] at hn1
  go_enter Tryd.func41, Tryd.ntmps41
  go_upto_region 4 with (first | (refine wpL_loadIn rfl _ rfl rfl hc0' hk0.1 ?_) | (refine wpL_store rfl _ _ rfl rfl rfl hn1 hk0.1 ?_))
  obtain ⟨i1, i2, iB⟩ : CkAt w.heap.size ck0 (((w.alloc (.cells (cv ck0) 23)).alloc (.cells (cv ck0) 23)).setRow (w.heap.size + 1) (cv x0)) ∧ CkAt (w.heap.size + 1) x0 (((w.alloc (.cells (cv ck0) 23)).alloc (.cells (cv ck0) 23)).setRow (w.heap.size + 1) (cv x0)) ∧ Below w.heap.size w (((w.alloc (.cells (cv ck0) 23)).alloc (.cells (cv ck0) 23)).setRow (w.heap.size + 1) (cv x0)) := by
    obtain ⟨a1, a2, aB⟩ := start2 w (a := ck0) (b := ck0) rfl rfl
    exact ⟨a1.rowOther _ _ (by omega), a2.row hk0.1, below_row aB (by omega) _⟩
  have hj0 : joinK f (l.take 1) = x0 := by
    match l, hx0 with
    | y :: l, e => simp at e; subst e; rfl
  clear hc0' hn1
  by_cases hc1 : c = 1
  · have hl1 : l.length = 1 := by omega
    go_wp2
    go_loopw [7, 18] (fun _ i wr => ∃ (k : Nat) (y : List Int), i = .int .i64 (k : Int) ∧ k + 1 ≤ l.length ∧ joinK f (l.take (k + 1)) = y ∧ CkAt w.heap.size ck0 wr ∧ CkAt (w.heap.size + 1) y wr ∧ Below w.heap.size w wr) (fun _ i _ => l.length - (intOf i).toNat)
    case atStart => exact ⟨0, x0, rfl, by omega, hj0, i1, i2, iB⟩
    case round =>
      clear i1 i2 iB
      obtain ⟨k, y, rfl, hk, hy, h1, h2, hB⟩ := hrel
      have hyl : y.length = 8 := h2.2
      have hki : ¬ (k : Int) < ((l.length - 1 : Nat) : Int) := by omega
      have HJ : Hid (y = joinK f l) := by rw [Hid, ← hy, show k + 1 = l.length by omega, List.take_length]
      go_wp2_with (first | (refine wpL_load rfl _ rfl rfl h2 ?_) | (refine wpL_store rfl _ _ rfl rfl rfl h1 hyl ?_))
      exact bodyPost_ret (v := .agg (cv y)) (results_cell_row rfl _ _ w.heap.size _ _ _ _ rfl (h1.row hyl).1 Tryd.underlying23 rfl (ck_size hyl)) rfl ⟨by rw [HJ.out], below_row hB (Nat.le_refl _) _⟩
  · have hc2 : ¬ c - 1 = 0 := by omega
    go_wp2
    go_loopw [7, 18] (fun _ i wr => ∃ (k : Nat) (y : List Int), i = .int .i64 (k : Int) ∧ k + 1 ≤ l.length ∧ joinK f (l.take (k + 1)) = y ∧ CkAt w.heap.size ck0 wr ∧ CkAt (w.heap.size + 1) y wr ∧ Below w.heap.size w wr) (fun _ i _ => l.length - (intOf i).toNat)
    case atStart => exact ⟨0, x0, rfl, by omega, hj0, i1, i2, iB⟩
    case round =>
      clear i1 i2 iB
      obtain ⟨k, y, rfl, hk, hy, h1, h2, hB⟩ := hrel
      have hyl : y.length = 8 := h2.2
      by_cases hlt : k + 1 < l.length
      · have hki : (k : Int) < ((l.length - 1 : Nat) : Int) := by omega
        obtain ⟨x, hx⟩ : ∃ x, l[k + 1]? = some x := ⟨_, List.getElem?_eq_getElem hlt⟩
        obtain ⟨hkx, hcx⟩ := hl.2 (k + 1) x hx
        have hcx' : CsIn g (o + 8 + k * 8) (cv x) wr := by
          have := hcx.later hB
          rwa [show o + (k + 1) * 8 = o + 8 + k * 8 by omega] at this
        have HY : Hid (f y x = joinK f (l.take (k + 1 + 1))) := by
          have := joinK_take (f := f) hlt
          rw [Hid, this, hy]; simp [List.getD, hx]
        have hne : Hid (¬ w.heap.size + 1 = wr.heap.size) := by have := h2.lt; show ¬ _ = _; omega
        clear hcx hx hy
        go_wp2_with (first | (refine wpL_loadIn rfl _ rfl rfl hcx' hkx.1 ?_) | (refine wpL_store rfl _ _ rfl rfl rfl (CkAt.new wr (x := ck0) rfl) hkx.1 ?_) | (refine wpL_load rfl _ rfl rfl ((h2.alloc _).rowOther wr.heap.size (cv x) hne.out) ?_) | (refine wpL_load rfl _ rfl rfl ((CkAt.new wr (x := ck0) rfl).row hkx.1) ?_))
        have hb6 := below_row (below_one wr (.cells (cv ck0) 23)) (Nat.le_refl wr.heap.size) (cv x)
        refine (hcall y x _ hyl hkx.1).mono ?_
        rintro e w7 ⟨rfl, hb7⟩
        have hb8 := bgo hb6 hb7
        have h2' := h2.later hb8
        go_wp2_with (refine wpL_store rfl _ _ rfl rfl rfl h2' (hlen y x hyl hkx.1) ?_)
        go_roundw
        case rel =>
          have r1 := (h1.later hb8).rowOther (w.heap.size + 1) (cv (f y x)) (by omega)
          have r2 := h2'.row (hlen y x hyl hkx.1)
          have r3 := below_row (bgo hB hb8) (g := w.heap.size + 1) (by omega) (cv (f y x))
          exact ⟨k + 1, f y x, by go_num, hlt, HY.out.symm, r1, r2, r3⟩
        case measure => simp [intOf]; omega
      · have hki : ¬ (k : Int) < ((l.length - 1 : Nat) : Int) := by omega
        have HJ : Hid (y = joinK f l) := by rw [Hid, ← hy, show k + 1 = l.length by omega, List.take_length]
        go_wp2_with (first | (refine wpL_load rfl _ rfl rfl h2 ?_) | (refine wpL_store rfl _ _ rfl rfl rfl h1 hyl ?_))
        exact bodyPost_ret (v := .agg (cv y)) (results_cell_row rfl _ _ w.heap.size _ _ _ _ rfl (h1.row hyl).1 Tryd.underlying23 rfl (ck_size hyl)) rfl ⟨by rw [HJ.out], below_row hB (Nat.le_refl _) _⟩

set_option maxHeartbeats 400000 in
theorem joined_nil (fv : Value) (a : Option Addr) (c : Nat) (w : World) :
    Calls Tryd.prog 41 #[.slice a 0 c, fv] w fun e w' => e = .returned (.agg (cv ck0)) ∧ Below w.heap.size w w' := by
  have hb0 := ck0_cv
  have hn1 := CkAt.new w (x := ck0) rfl
  have hn2 := hn1.row (y := ck0) rfl
  go_enter Tryd.func41, Tryd.ntmps41
  go_wp2_with (refine wpL_store rfl _ _ rfl rfl (v := ck0) rfl hn1 rfl ?_)
  exact bodyPost_ret (v := .agg (cv ck0)) (results_cell_row rfl _ _ w.heap.size _ _ _ _ rfl hn2.1 Tryd.underlying23 rfl hn2.size) rfl ⟨rfl, below_row (below_one w _) (Nat.le_refl _) _⟩

/-- A list of clocks that came in: none, or some in memory. -/
def SlV (w : World) (v : Value) (l : List (List Int)) : Prop := (l = [] ∧ ∃ a c, v = .slice a 0 c) ∨ ∃ g o c, v = .slice (some ⟨g, o, none⟩) l.length c ∧ 0 < l.length ∧ l.length ≤ c ∧ SlK w g o l
theorem SlV.later {w w' : World} {v : Value} {l : List (List Int)} (h : SlV w v l) (hb : Below w.heap.size w w') : SlV w' v l := by
  rcases h with h | ⟨g, o, c, h1, h2, h3, h4⟩
  · exact .inl h
  · exact .inr ⟨g, o, c, h1, h2, h3, h4.later hb⟩
theorem SlV.all8 {w : World} {v : Value} {l : List (List Int)} (h : SlV w v l) : ∀ x ∈ l, x.length = 8 := by
  intro x hx
  rcases h with ⟨h, _⟩ | ⟨g, o, c, _, _, _, h4⟩
  · subst h; cases hx
  · obtain ⟨i, hi⟩ := List.mem_iff_getElem?.1 hx
    exact (h4.2 i x hi).1.1

theorem joined_v {f : List Int → List Int → List Int} {F : Nat} (hF : ∀ w : World, ∀ args, (callFunc F args).run Tryd.prog w = .ok (.enter F args) w) (hlen : ∀ a b, a.length = 8 → b.length = 8 → (f a b).length = 8)
    (hcall : ∀ (a b : List Int) (w : World), a.length = 8 → b.length = 8 → Calls Tryd.prog F #[.agg (cv a), .agg (cv b)] w fun e w' => e = .returned (.agg (cv (f a b))) ∧ Below w.heap.size w w')
    (l : List (List Int)) (v : Value) (w : World) (hl : SlV w v l) :
    Calls Tryd.prog 41 #[v, .func (.func F) #[] #[]] w fun e w' => e = .returned (.agg (cv (joinK f l))) ∧ Below w.heap.size w w' := by
  rcases hl with ⟨rfl, a, c, rfl⟩ | ⟨g, o, c, rfl, h0, hc, hl⟩
  · exact joined_nil _ a c w
  · exact joined_any hF hlen hcall l g o c w hl h0 hc

theorem entersMerge (w : World) (args : Array Value) : (callFunc 13 args).run Tryd.prog w = .ok (.enter 13 args) w := by kernel_rfl
set_option maxHeartbeats 400000 in
theorem most_any (l : List (List Int)) (v : Value) (w : World) (hl : SlV w v l) :
    Calls Tryd.prog 29 #[v] w fun e w' => e = .returned (.agg (cv (joinK mrg l))) ∧ Below w.heap.size w w' := by
  have hl8 := joinK_len (f := mrg) (fun a b => mrg_len) hl.all8
  have hn1 := CkAt.new w (x := ck0) rfl
  have hl1 := hl.later (below_one w (.cells (cv ck0) 23))
  go_enter Tryd.func29, Tryd.ntmps29
  go_wp2_with (first | (go_at_call 41; refine (joined_v entersMerge (fun a b => mrg_len) merge_any l v _ hl1).mono ?_; rintro e w1 ⟨rfl, hb1⟩) | (refine wpL_store rfl _ _ rfl rfl rfl (hn1.later hb1) hl8 ?_))
  exact bodyPost_ret (v := .agg (cv (joinK mrg l))) (results_cell_row rfl _ _ w.heap.size _ _ _ _ rfl ((hn1.later hb1).row hl8).1 Tryd.underlying23 rfl (ck_size hl8)) rfl ⟨rfl, below_row (bgo (below_one w _) hb1) (Nat.le_refl _) _⟩
theorem entersMeet (w : World) (args : Array Value) : (callFunc 15 args).run Tryd.prog w = .ok (.enter 15 args) w := by kernel_rfl
set_option maxHeartbeats 400000 in
theorem least_any (l : List (List Int)) (v : Value) (w : World) (hl : SlV w v l) :
    Calls Tryd.prog 30 #[v] w fun e w' => e = .returned (.agg (cv (joinK mee l))) ∧ Below w.heap.size w w' := by
  have hl8 := joinK_len (f := mee) (fun a b => mee_len) hl.all8
  have hn1 := CkAt.new w (x := ck0) rfl
  have hl1 := hl.later (below_one w (.cells (cv ck0) 23))
  go_enter Tryd.func30, Tryd.ntmps30
  go_wp2_with (first | (go_at_call 41; refine (joined_v entersMeet (fun a b => mee_len) meet_any l v _ hl1).mono ?_; rintro e w1 ⟨rfl, hb1⟩) | (refine wpL_store rfl _ _ rfl rfl rfl (hn1.later hb1) hl8 ?_))
  exact bodyPost_ret (v := .agg (cv (joinK mee l))) (results_cell_row rfl _ _ w.heap.size _ _ _ _ rfl ((hn1.later hb1).row hl8).1 Tryd.underlying23 rfl (ck_size hl8)) rfl ⟨rfl, below_row (bgo (below_one w _) hb1) (Nat.le_refl _) _⟩
theorem lstd_repl (m j : Nat) : lstd (Array.replicate m false) j = false := getD_repl m j
/-- 'a = f(a, l[i])' of clocks: the region's operations. -/
def asgOps (F : Nat) (p : String) : Array Oper := #[⟨some 16, .load 23 (.tmp 3), 23, p, #[], none⟩, ⟨some 17, .move (.tmp 0), 53, p, #[], none⟩, ⟨some 18, .move (.tmp 4), 3, p, #[], none⟩, ⟨some 19, .indexAddr 53 (.tmp 17) (.tmp 18), 0, p, #[⟨1, .data⟩, ⟨2, .data⟩], none⟩, ⟨some 20, .load 23 (.tmp 19), 23, p, #[⟨3, .data⟩], none⟩,
  ⟨some 21, .call { callee := .value (.func F), args := #[.tmp 16, .tmp 20], argTypes := #[23, 23] }, 23, p, #[⟨0, .data⟩, ⟨4, .data⟩], none⟩, ⟨none, .store 23 (.tmp 3) (.tmp 21), 0, p, #[⟨5, .data⟩, ⟨5, .chain⟩, ⟨0, .phase⟩, ⟨1, .phase⟩, ⟨2, .phase⟩, ⟨3, .phase⟩, ⟨4, .phase⟩, ⟨5, .phase⟩], none⟩]

/-- What holds behind so much of it. -/
structure AsgJ (X : World) (b : Nat) (z : List Int) (V : Nat → Value) (l : Nat → Bool) (vals : Nat → Value) (x : World) : Prop where
  no : l 6 = false → Below X.heap.size X x
  yes : l 6 = true → (∃ X', Below X.heap.size X X' ∧ CkAt b z x ∧ x = X'.setRow b (cv z)) ∧ ∀ j, j < 6 → l j = true
  val : ∀ j, j < 6 → l j = true → vals j = V j
theorem AsgJ.open {X : World} {b : Nat} {z : List Int} {V : Nat → Value} {l : Nat → Bool} {vals : Nat → Value} {x : World} (h : AsgJ X b z V l vals x) {i : Nat} (hi : i < 6) (hl : l i = false) : l 6 = false ∧ Below X.heap.size X x := by
  cases e : l 6 with
  | false => exact ⟨rfl, h.no e⟩
  | true => rw [(h.yes e).2 i hi] at hl; cases hl
theorem AsgJ.go {X : World} {b : Nat} {z : List Int} {V : Nat → Value} {l : Nat → Bool} {vals : Nat → Value} {x x' : World} (h : AsgJ X b z V l vals x) {i : Nat} (hi : i < 6) (hl : l i = false) (hb : Below x.heap.size x x') {v : Value} (hv : v = V i) : AsgJ X b z V (updB l i) (upd vals i v) x' := by
  obtain ⟨h6, hB⟩ := h.open hi hl
  have e6 : updB l i 6 = l 6 := updB_ne l (by omega)
  refine ⟨fun _ => bgo hB hb, fun e => absurd (h6.symm.trans (e6.symm.trans e)) (by decide), fun j hj hlj => ?_⟩
  by_cases e : j = i
  · subst e; rw [upd_self]; exact hv
  · rw [updB_ne l e] at hlj; rw [upd_ne _ _ e]; exact h.val j hj hlj

set_option maxHeartbeats 1000000 in
theorem asg_region {f : List Int → List Int → List Int} {F : Nat} (hF : ∀ (w : World) (args : Array Value), (callFunc F args).run Tryd.prog w = .ok (.enter F args) w) (hlen : ∀ a b, a.length = 8 → b.length = 8 → (f a b).length = 8)
    (hcall : ∀ (a b : List Int) (w : World), a.length = 8 → b.length = 8 → Calls Tryd.prog F #[.agg (cv a), .agg (cv b)] w fun e w' => e = .returned (.agg (cv (f a b))) ∧ Below w.heap.size w w')
    {id : Nat} {p : String} {Q : Exit → Act → World → Prop} {a : Act} {X : World} {b g o_ len c k : Nat} {y x : List Int} (hok : regOkB (asgOps F p) a.tmps.size = true)
    (t0 : a.tmps[0]? = some (.slice (some ⟨g, o_, none⟩) len c)) (t3 : a.tmps[3]? = some (.pointer (some ⟨b, 0, none⟩))) (t4 : a.tmps[4]? = some (.int .i64 (k : Int))) (hk : k < len) (hy : CkAt b y X) (hx : CsIn g (o_ + k * 8) (cv x) X) (hxl : x.length = 8)
    (hQ : ∀ (vals : Nat → Value) (X' : World), Below X.heap.size X X' → Q .normal ⟨putAll vals (asgOps F p).toList 0 a.tmps, a.defers⟩ (X'.setRow b (cv (f y x)))) :
    (Code.region id (asgOps F p) true).wp Tryd.prog Q a X := by
  have hki : (k : Int) < (len : Int) := by omega
  have hz : (f y x).length = 8 := hlen y x hy.2 hxl
  refine wp_region_invx' (by kernel_rfl) hok (fun listed vals w => AsgJ X b (f y x) (fun j => match j with
    | 0 => .agg (cv y)
    | 1 => .slice (some ⟨g, o_, none⟩) len c
    | 2 => .int .i64 (k : Int)
    | 3 => .pointer (some ⟨g, o_ + k * 8, none⟩)
    | 4 => .agg (cv x)
    | _ => .agg (cv (f y x))) (lstd listed) vals w) ⟨fun _ => (Below.refl _ _).drew, fun h => absurd ((lstd_repl _ _).symm.trans h) (by decide), fun j _ h => absurd ((lstd_repl _ _).symm.trans h) (by decide)⟩ ?_ ?_
  · intro i o ho listed vals q w hT hsz hun haft hdf hb0 hbo
    have hq0 : q.tmps[0]? = some (.slice (some ⟨g, o_, none⟩) len c) := by rw [hbo 0 (by kernel_rfl)]; exact t0
    have hq3 : q.tmps[3]? = some (.pointer (some ⟨b, 0, none⟩)) := by rw [hbo 3 (by kernel_rfl)]; exact t3
    have hq4 : q.tmps[4]? = some (.int .i64 (k : Int)) := by rw [hbo 4 (by kernel_rfl)]; exact t4
    match i, ho with
    | 0, ho =>
      simp only [asgOps, List.getElem?_toArray, List.getElem?_cons_zero, Option.some.injEq] at ho
      subst ho
      obtain ⟨_, hB⟩ := hT.open (i := 0) (by decide) (getD_not hun)
      refine opw_load _ rfl (by simp [Act.eval, hq3]) (hy.later hB) ⟨_, rfl, ?_⟩
      rw [lstd_set hun]
      exact hT.go (by decide) (getD_not hun) (Below.refl _ _) rfl
    | 1, ho =>
      simp only [asgOps, List.getElem?_toArray, List.getElem?_cons_succ, List.getElem?_cons_zero, Option.some.injEq] at ho
      subst ho
      unfold Oper.wp
      simp [execOp, go_sem, hq0]
      refine ⟨_, rfl, ?_⟩
      rw [lstd_set hun]
      exact hT.go (by decide) (getD_not hun) (Below.refl _ _) rfl
    | 2, ho =>
      simp only [asgOps, List.getElem?_toArray, List.getElem?_cons_succ, List.getElem?_cons_zero, Option.some.injEq] at ho
      subst ho
      unfold Oper.wp
      simp [execOp, go_sem, hq4]
      refine ⟨_, rfl, ?_⟩
      rw [lstd_set hun]
      exact hT.go (by decide) (getD_not hun) (Below.refl _ _) rfl
    | 3, ho =>
      simp only [asgOps, List.getElem?_toArray, List.getElem?_cons_succ, List.getElem?_cons_zero, Option.some.injEq] at ho
      subst ho
      have l1 : listed.getD 1 false = true := haft ⟨1, .data⟩ (by simp) rfl
      have l2 : listed.getD 2 false = true := haft ⟨2, .data⟩ (by simp) rfl
      have u0 : q.tmps[17]? = some (.slice (some ⟨g, o_, none⟩) len c) := by rw [hb0 1 _ 17 rfl rfl l1, hT.val 1 (by decide) l1]; rfl
      have u1 : q.tmps[18]? = some (.int .i64 (k : Int)) := by rw [hb0 2 _ 18 rfl rfl l2, hT.val 2 (by decide) l2]; rfl
      unfold Oper.wp
      simp [execOp, go_sem, u0, u1, hki]
      refine ⟨_, rfl, ?_⟩
      rw [lstd_set hun]
      exact hT.go (by decide) (getD_not hun) (Below.refl _ _) rfl
    | 4, ho =>
      simp only [asgOps, List.getElem?_toArray, List.getElem?_cons_succ, List.getElem?_cons_zero, Option.some.injEq] at ho
      subst ho
      obtain ⟨_, hB⟩ := hT.open (i := 4) (by decide) (getD_not hun)
      have l3 : listed.getD 3 false = true := haft ⟨3, .data⟩ (by simp) rfl
      have u0 : q.tmps[19]? = some (.pointer (some ⟨g, o_ + k * 8, none⟩)) := by rw [hb0 3 _ 19 rfl rfl l3, hT.val 3 (by decide) l3]; rfl
      refine opw_loadIn _ rfl (by simp [Act.eval, u0]) (hx.later hB) hxl ⟨_, rfl, ?_⟩
      rw [lstd_set hun]
      exact hT.go (by decide) (getD_not hun) (Below.refl _ _) rfl
    | 5, ho =>
      simp only [asgOps, List.getElem?_toArray, List.getElem?_cons_succ, List.getElem?_cons_zero, Option.some.injEq] at ho
      subst ho
      have l0 : listed.getD 0 false = true := haft ⟨0, .data⟩ (by simp) rfl
      have l4 : listed.getD 4 false = true := haft ⟨4, .data⟩ (by simp) rfl
      have u0 : q.tmps[16]? = some (.agg (cv y)) := by rw [hb0 0 _ 16 rfl rfl l0, hT.val 0 (by decide) l0]; rfl
      have u1 : q.tmps[20]? = some (.agg (cv x)) := by rw [hb0 4 _ 20 rfl rfl l4, hT.val 4 (by decide) l4]; rfl
      unfold Oper.wp
      simp [go_sem, u0, u1, hF]
      refine (hcall _ _ _ hy.2 hxl).mono ?_
      rintro e x1 ⟨rfl, hb1⟩
      refine ⟨_, rfl, ?_⟩
      rw [lstd_set hun]
      exact hT.go (by decide) (getD_not hun) hb1 rfl
    | 6, ho =>
      simp only [asgOps, List.getElem?_toArray, List.getElem?_cons_succ, List.getElem?_cons_zero, Option.some.injEq] at ho
      subst ho
      have h6 : lstd listed 6 = false := getD_not hun
      have hB := hT.no h6
      have l5 : listed.getD 5 false = true := haft ⟨5, .data⟩ (by simp) rfl
      have u0 : q.tmps[21]? = some (.agg (cv (f y x))) := by rw [hb0 5 _ 21 rfl rfl l5, hT.val 5 (by decide) l5]; rfl
      have hall : ∀ j, j < 6 → lstd listed j = true := fun j hj => by
        match j, hj with
        | 0, _ => exact haft ⟨0, .phase⟩ (by simp) rfl
        | 1, _ => exact haft ⟨1, .phase⟩ (by simp) rfl
        | 2, _ => exact haft ⟨2, .phase⟩ (by simp) rfl
        | 3, _ => exact haft ⟨3, .phase⟩ (by simp) rfl
        | 4, _ => exact haft ⟨4, .phase⟩ (by simp) rfl
        | 5, _ => exact l5
      refine opw_store _ _ rfl (by simp [Act.eval, hq3]) (by simp [Act.eval, u0]) (hy.later hB) hz ⟨undef, rfl, ?_⟩
      rw [lstd_set hun]
      refine ⟨fun e => absurd ((updB_self _ _).symm.trans e) (by decide), fun _ => ⟨⟨_, hB, (hy.later hB).row hz, rfl⟩, fun j hj => by rw [updB_ne _ (by omega)]; exact hall j hj⟩, fun j hj hlj => ?_⟩
      rw [updB_ne _ (by omega)] at hlj
      rw [upd_ne _ _ (by omega)]
      exact hT.val j hj hlj
    | i + 7, ho => simp [asgOps] at ho
  · intro listed vals q w hall hJ hsz hdf hb0 hbo
    obtain ⟨⟨X', hB, _, rfl⟩, _⟩ := hJ.yes (hall 6 (by show 6 < 7; decide))
    obtain rfl := frame_is (l := (asgOps F p).toList) hsz hdf hb0 hbo
    exact hQ vals X' hB

end Go.Proofs.YtceahohcmhbkmaaDoor
