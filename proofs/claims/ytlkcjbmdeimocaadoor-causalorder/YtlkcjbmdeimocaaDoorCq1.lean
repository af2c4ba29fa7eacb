
/-
  Package causal: a queue in memory; lacking, next.
-/
import Derived.Test.YtlkcjbmdeimocaaDoorCg2
import Derived.Test.YtlkcjbmdeimocaaDoorCa11
import Derived.Test.YtlkcjbmdeimocaaDoorCa6
namespace Go.Proofs.YtlkcjbmdeimocaaDoor
open Go.RowKit Go.Maps
set_option maxRecDepth 100000

/-- A queue's cells. -/
def qcv (v : Value) (h : List Int) (kb : Nat) (f : List Nat) : Array Value := (v :: (h.map (Value.int .i64) ++ (Value.map (some kb) :: f.map fun z : Nat => Value.int .i64 (z : Int)))).toArray
def fn (f : List Nat) (r : Nat) : Nat := f.getD r 0
theorem qcv_list (v : Value) (h : List Int) (kb : Nat) (f : List Nat) : (qcv v h kb f)[0]? = some v := rfl
theorem qcv_have {v : Value} {h : List Int} {kb : Nat} {f : List Nat} (hl : h.length = 8) {r : Nat} (hr : r < 8) : (qcv v h kb f)[1 + r]? = some (.int .i64 (en h r)) := by
  unfold qcv
  rw [List.getElem?_toArray, Nat.add_comm, List.getElem?_cons_succ, List.getElem?_append_left (by simpa [hl] using hr), List.getElem?_map, List.getElem?_eq_getElem (by omega)]
  simp [en, List.getD, List.getElem?_eq_getElem (show r < h.length by omega)]
theorem qcv_map {v : Value} {h : List Int} {kb : Nat} {f : List Nat} (hl : h.length = 8) : (qcv v h kb f)[9]? = some (.map (some kb)) := by
  unfold qcv
  rw [List.getElem?_toArray, show 9 = 8 + 1 from rfl, List.getElem?_cons_succ, List.getElem?_append_right (by simp [hl])]
  simp [hl]
theorem qcv_first {v : Value} {h : List Int} {kb : Nat} {f : List Nat} (hl : h.length = 8) (hf : f.length = 8) {r : Nat} (hr : r < 8) : (qcv v h kb f)[10 + r]? = some (.int .i64 (fn f r : Int)) := by
  unfold qcv
  rw [List.getElem?_toArray, show 10 + r = (9 + r) + 1 by omega, List.getElem?_cons_succ, List.getElem?_append_right (by simp [hl]; omega), List.length_map, hl, show 9 + r - 8 = r + 1 by omega, List.getElem?_cons_succ, List.getElem?_map, List.getElem?_eq_getElem (by omega)]
  simp [fn, List.getD, List.getElem?_eq_getElem (show r < f.length by omega)]
theorem qcv_setH {v : Value} {h : List Int} {kb : Nat} {f : List Nat} (hl : h.length = 8) {r : Nat} (hr : r < 8) (x : Int) : (qcv v h kb f).setIfInBounds (1 + r) (.int .i64 x) = qcv v (h.set r x) kb f := by
  unfold qcv
  rw [List.setIfInBounds_toArray, Nat.add_comm, List.set_cons_succ, List.set_append_left _ _ (by simpa [hl] using hr), List.map_set]
theorem qcv_setF {v : Value} {h : List Int} {kb : Nat} {f : List Nat} (hl : h.length = 8) {r : Nat} (x : Nat) : (qcv v h kb f).setIfInBounds (10 + r) (.int .i64 (x : Int)) = qcv v h kb (f.set r x) := by
  unfold qcv
  rw [List.setIfInBounds_toArray, show 10 + r = (9 + r) + 1 by omega, List.set_cons_succ, List.set_append_right _ _ (by simp [hl]; omega), List.length_map, hl, show 9 + r - 8 = r + 1 by omega, List.set_cons_succ, List.map_set]
theorem qcv_size {v : Value} {h : List Int} {kb : Nat} {f : List Nat} (hl : h.length = 8) (hf : f.length = 8) : (qcv v h kb f).size = 18 := by simp [qcv, hl, hf]
theorem qcv_ck {v : Value} {h : List Int} {kb : Nat} {f : List Nat} (hl : h.length = 8) (j : Nat) (u : Value) (hu : (cv h)[j]? = some u) : (qcv v h kb f)[1 + j]? = some u := by
  have hj : j < 8 := by have := (Array.getElem?_eq_some_iff.1 hu).1; rw [cv_size, hl] at this; exact this
  rw [qcv_have hl hj]
  rw [cv_get (by omega)] at hu
  exact hu
/-- A queue in memory. -/
abbrev QAt (q : Nat) (v : Value) (h : List Int) (kb : Nat) (f : List Nat) (w : World) : Prop := RowAt q (qcv v h kb f) 86 w

theorem run_index_ck {c : List Int} (hc : c.length = 8) {k : Nat} (hk : k < 8) (w : World) : (Instr.index 44 (.agg (cv c)) (.int .i64 (k : Int))).run Tryd.prog w = .ok (.int .i64 (en c k)) w := by
  have h1 : (0 : Int) ≤ (k : Int) ∧ (k : Int) < ((8 : Nat) : Int) := by omega
  have hs := szIntC w
  have hp := partI (cs := cv c) (o := k) (cv_get (a := c) (k := k) (by omega)) w
  simp [Instr.index, asIntOf, run_underlying Tryd.underlying44, h1, hs, hp, hk]
theorem wpL_storeNm {ops : Array Oper} {rest : List Oper} {o : Oper} {A : Act} {w : World} {Q : Exit → Act → World → Prop} (hgd : o.guard = none) (x y : Operand) (ho : o.op = .store 92 x y) {g : Nat} (hx : A.eval x = .pointer (some ⟨g, 0, none⟩)) {a b c d : Int} (hy : A.eval y = .agg (nmc a b)) (hg : RowAt g (nmc c d) 92 w)
    (k : wpList Tryd.prog ops Q rest (A.put o.dst undef) (w.setRow g (nmc a b))) : wpList Tryd.prog ops Q (o :: rest) A w :=
  wpList_store_row hgd _ x y ho g (nmc a b) hx hy _ _ hg (nm_size a b) rfl (by simp [nmc, Value.oneCell']) k
theorem results_nmB {fn : Func} {p u : Tmp} {tmps : Array Value} {w : World} {g : Nat} {a b : Int} (h : fn.results = #[.cell p 92, .tmp u]) (hp : tmps.getD p undef = .pointer (some ⟨g, 0, none⟩)) (hg : RowAt g (nmc a b) 92 w) :
    (results fn tmps).run Tryd.prog w = .ok (.tuple #[.agg (nmc a b), tmps.getD u undef]) w := by
  have hp' : tmps[p]?.getD undef = .pointer (some ⟨g, 0, none⟩) := by simpa using hp
  simp [results, h, hp', asAddr, run_loadVar_row w g _ _ _ _ _ hg Tryd.underlying92 rfl (nm_size a b)]
set_option maxHeartbeats 2000000 in
theorem lacking_is {q : Nat} {v : Value} {h : List Int} {kb : Nat} {f : List Nat} {w : World} (hq : QAt q v h kb f w) (hl : h.length = 8) {c : List Int} (hc : Ck c) :
    Calls Tryd.prog 70 #[.pointer (some ⟨q, 0, none⟩), .agg (cv c)] w fun e w' => ((∃ r : Nat, r < 8 ∧ en h r < en c r ∧ e = .returned (.tuple #[.agg (nmc (r : Int) (en c r)), .bool true])) ∨ ((∀ r : Nat, r < 8 → en c r ≤ en h r) ∧ e = .returned (.tuple #[.agg (nmc 0 0), .bool false]))) ∧ Below w.heap.size w w' := by
  have hb2 := below_two w (.cells (cv c) 44) (.cells (nmc 0 0) 92)
  have k1 : CkAt w.heap.size c ((w.alloc (.cells (cv c) 44)).alloc (.cells (nmc 0 0) 92)) := (CkAt.new w hc.1).later (below_one _ _)
  have k2 := row_new2 w (.cells (cv c) 44) (nmc 0 0) 92
  have H := hid_of' (And.intro (hq.later hb2) (And.intro k2 hb2))
  clear hq hb2 k2
  go_enter Tryd.func70, Tryd.ntmps70
  go_upto_region 1 with fail
  rw [show (Obj.cells #[Value.int .i64 0, .int .i64 0] 92) = Obj.cells (nmc 0 0) 92 from rfl]
  generalize (w.alloc (.cells (cv c) 44)).alloc (.cells (nmc 0 0) 92) = W at H k1 ⊢
  go_wp2_with (refine wpL_load rfl _ rfl rfl k1 ?_)
  clear k1
  go_loopw [9] (fun i wr => wr = W ∧ ∃ k : Nat, i = .int .i64 (k : Int) ∧ k ≤ 8 ∧ ∀ r : Nat, r < k → en c r ≤ en h r) (fun i _ => 8 - (intOf i).toNat)
  case atStart => exact ⟨rfl, 0, rfl, by omega, fun r hr => by omega⟩
  case round =>
    obtain ⟨rfl, k, rfl, hk, hle⟩ := hrel
    by_cases hlt : k < 8
    · have hki : (k : Int) < 8 := by omega
      have hcg : (cv c)[k]? = some (.int .i64 (en c k)) := cv_get (by rw [hc.1]; exact hlt)
      have hix := run_index_ck hc.1 hlt
      have c1 := H.out.1.cellIs (1 + k) (qcv_have hl hlt)
      by_cases hgt : en h k < en c k
      · go_wp2_with (refine wpL_storeNm rfl _ _ rfl rfl rfl H.out.2.1 ?_)
        exact bodyPost_ret (v := .tuple #[.agg (nmc (k : Int) (en c k)), .bool true]) (results_nmB (fn := Tryd.f70) (p := 4) (u := 5) rfl rfl (H.out.2.1.put _)) rfl ⟨.inl ⟨k, hlt, hgt, rfl⟩, below_row H.out.2.2 (by omega) _⟩
      · go_wp2
        go_roundw
        case rel => exact ⟨trivial, k + 1, by go_num, by omega, fun r hr => by rcases Nat.lt_succ_iff_lt_or_eq.1 hr with q | q; exact hle r q; rw [q]; omega⟩
        case measure => simp [intOf]; omega
    · have hki : ¬ (k : Int) < 8 := by omega
      go_wp2_with (refine wpL_storeNm (a := 0) (b := 0) rfl _ _ rfl rfl rfl H.out.2.1 ?_)
      exact bodyPost_ret (v := .tuple #[.agg (nmc 0 0), .bool false]) (results_nmB (fn := Tryd.f70) (p := 4) (u := 5) rfl rfl (H.out.2.1.put _)) rfl ⟨.inr ⟨fun r hr => hle r (by omega), rfl⟩, below_row H.out.2.2 (by omega) _⟩
end Go.Proofs.YtlkcjbmdeimocaaDoor
