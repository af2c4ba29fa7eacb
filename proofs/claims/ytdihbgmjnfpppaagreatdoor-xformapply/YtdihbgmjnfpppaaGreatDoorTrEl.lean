
/-
  Elements and their weights: (api.Element).Weight, tree.weigh, tree.plus.
-/
import Derived.Test.YtdihbgmjnfpppaaGreatDoorTrSay
namespace Go.Proofs.YtdihbgmjnfpppaaGreatDoor
open Go.RowKit
set_option maxRecDepth 100000

/-- An Element. -/
structure El where
  ep : Int
  rp : Int
  no : Int
  ch : Int
  hd : Int
/-- Its cells. -/
def ev (e : El) : Array Value := #[.int .i64 e.ep, .int .i64 e.rp, .int .i64 e.no, .int .i32 e.ch, .int .i64 e.hd]
/-- What it weighs. -/
def wLive (e : El) : Int := if e.hd > 0 then 0 else 1
def wLine (e : El) : Int := if e.hd > 0 then 0 else if e.ch = 10 then 1 else 0
/-- A Weight. -/
def wv (x y : Int) : Value := .agg #[.int .i64 x, .int .i64 y]

theorem w_size : (Tryz.prog.info? 123).map (·.size) = some 2 := by kernel_rfl
theorem results_w {fn : Func} {p : Tmp} {tmps : Array Value} {w : World} {g : Nat} {x y : Int} (h : fn.results = #[.cell p 123]) (hp : tmps.getD p undef = .pointer (some ⟨g, 0, none⟩)) (hg : RowAt g #[.int .i64 x, .int .i64 y] 123 w) :
    (results fn tmps).run Tryz.prog w = .ok (wv x y) w := by
  have hp' : tmps[p]?.getD undef = .pointer (some ⟨g, 0, none⟩) := by simpa using hp
  simp [results, h, hp', asAddr, wv, run_loadVar_row w g _ _ _ _ _ hg Tryz.underlying123 rfl w_size]
theorem wpL_storeW {ops : Array Oper} {rest : List Oper} {o : Oper} {A : Act} {w : World} {Q : Exit → Act → World → Prop} (hgd : o.guard = none) (x y : Operand) (ho : o.op = .store 123 x y) {g : Nat} (hx : A.eval x = .pointer (some ⟨g, 0, none⟩)) {p q : Int} (hy : A.eval y = .agg #[.int .i64 p, .int .i64 q]) {c0 c1 : Value} (h : RowAt g #[c0, c1] 123 w)
    (k : wpList Tryz.prog ops Q rest (A.put o.dst undef) (w.setRow g #[.int .i64 p, .int .i64 q])) : wpList Tryz.prog ops Q (o :: rest) A w :=
  wpList_store_row hgd _ x y ho g #[.int .i64 p, .int .i64 q] hx hy _ _ h w_size rfl (by simp [Value.oneCell']) k
theorem row_new (w : World) (cs : Array Value) (t : TypeId) : RowAt w.heap.size cs t (w.alloc (.cells cs t)) := heap_alloc_last w _
theorem row_new2 (w : World) (o : Obj) (cs : Array Value) (t : TypeId) : RowAt (w.heap.size + 1) cs t ((w.alloc o).alloc (.cells cs t)) := by
  have := heap_alloc_last (w.alloc o) (.cells cs t)
  rw [World.size_alloc] at this
  exact this
theorem row_new3 (w : World) (o o' : Obj) (cs : Array Value) (t : TypeId) : RowAt (w.heap.size + 2) cs t (((w.alloc o).alloc o').alloc (.cells cs t)) := by
  have := heap_alloc_last ((w.alloc o).alloc o') (.cells cs t)
  rw [World.size_alloc, World.size_alloc] at this
  exact this
theorem below_two (w : World) (o o' : Obj) : Below w.heap.size w ((w.alloc o).alloc o') := bgo (below_one w o) (below_one _ o')
theorem below_three (w : World) (o o' o'' : Obj) : Below w.heap.size w (((w.alloc o).alloc o').alloc o'') := bgo (below_two w o o') (below_one _ o'')

set_option maxHeartbeats 400000 in
theorem weight_any (e : El) (w : World) :
    Calls Tryz.prog 125 #[.agg (ev e)] w fun r w' => r = .returned (wv (wLive e) (wLine e)) ∧ Below w.heap.size w w' := by
  unfold ev wLive wLine
  by_cases h : e.hd > 0
  · rw [if_pos h, if_pos h]
    go_enter Tryz.func125, Tryz.ntmps125
    go_wp2
    exact bodyPost_ret (v := wv 0 0) (results_w (fn := Tryz.f125) (p := 2) rfl rfl (row_new2 w _ _ _)) rfl ⟨rfl, below_two w _ _⟩
  · rw [if_neg h, if_neg h]
    by_cases h2 : e.ch = 10
    · rw [if_pos h2]
      go_enter Tryz.func125, Tryz.ntmps125
      go_wp2
      exact bodyPost_ret (v := wv 1 1) (results_w (fn := Tryz.f125) (p := 2) rfl rfl (row_new2 w _ _ _)) rfl ⟨rfl, below_two w _ _⟩
    · rw [if_neg h2]
      have h3 : (e.ch == 10) = false := by rw [beq_eq_false_iff_ne]; exact h2
      go_enter Tryz.func125, Tryz.ntmps125
      go_wp2
      exact bodyPost_ret (v := wv 1 0) (results_w (fn := Tryz.f125) (p := 2) rfl rfl (row_new2 w _ _ _)) rfl ⟨rfl, below_two w _ _⟩

theorem methodW (v : Value) (w : World) : (Go.method 331 49 v "Weight").run Tryz.prog w = .ok (125, v) w := by kernel_rfl
theorem hid_of' {p : Prop} (h : p) : Hid p := h
/-- The deferred function of weigh, where nothing panics. -/
theorem catch_idle (p : Addr) (w : World) :
    CallsD Tryz.prog 105 #[.pointer (some p)] .returning w fun e u' w' => e = .returned (.tuple #[]) ∧ u' = .returning ∧ w' = w := by
  refine callsD_of_wpS Tryz.func105 rfl fun c₀ cs hu => ?_
  apply wpS_seq
  apply wpS_region
  simp [wpOpsS, go_sem, recoverD, hu, Tryz.ntmps105, Exit.thenS]
  refine wpS_cond (t := false) (by simp [Act.eval]) ?_
  simp only [Bool.false_eq_true, if_false]
  refine wpS_of_wp (wp_skip ?_)
  cases c₀
  simp_all [bodyPostS, results, Tryz.results105]

set_option maxHeartbeats 400000 in
theorem plus_any (x y x' y' : Int) (w : World) :
    Calls Tryz.prog 81 #[wv x y, wv x' y'] w fun r w' => r = .returned (wv (wrap64 (x + x')) (wrap64 (y + y'))) ∧ Below w.heap.size w w' := by
  unfold wv
  go_enter Tryz.func81, Tryz.ntmps81
  go_wp2
  exact bodyPost_ret (v := wv (wrap64 (x + x')) (wrap64 (y + y'))) (results_w (fn := Tryz.f81) (p := 4) rfl rfl (row_new3 w _ _ _ _)) rfl ⟨rfl, below_three w _ _ _⟩

set_option maxHeartbeats 400000 in
theorem weigh_any (e : El) (w : World) :
    Calls Tryz.prog 94 #[.agg (ev e)] w fun r w' => r = .returned (wv (wLive e) (wLine e)) ∧ Below w.heap.size w w' := by
  have hmf : ∀ (fn : Fn) (first cap : Array Value) (w : World), (Instr.makeFunc fn first cap).run Tryz.prog w = .ok (.func fn first cap) w := fun _ _ _ _ => rfl
  have HW := hid_of' (weight_any e)
  have hm := methodW (.agg #[.int .i64 e.ep, .int .i64 e.rp, .int .i64 e.no, .int .i32 e.ch, .int .i64 e.hd])
  unfold ev wv at HW
  unfold ev
  go_enter_defers Tryz.func94, Tryz.ntmps94
  go_wp2_with (first | (go_at_call 125; refine (HW.out _).mono ?_; rintro r w1 ⟨rfl, hb1⟩) | (refine wpL_storeW rfl _ _ rfl rfl rfl ((row_new2 w _ _ _).later hb1) ?_))
  simp only [Act.put]
  have hr := ((row_new2 w (.cells (ev e) 49) #[.int .i64 0, .int .i64 0] 123).later hb1).put #[.int .i64 (wLive e), .int .i64 (wLine e)]
  have hB := below_row (bgo (below_two w (.cells (ev e) 49) (.cells #[.int .i64 0, .int .i64 0] 123)) hb1) (show w.heap.size ≤ w.heap.size + 1 by omega) #[.int .i64 (wLive e), .int .i64 (wLine e)]
  refine leaves_cons (f := 105) (args := #[.pointer (some ⟨w.heap.size + 1, 0, none⟩)]) (by simp) (by simp [go_sem]) ?_
  refine (catch_idle _ _).mono ?_
  rintro r u' w3 ⟨rfl, rfl, rfl⟩
  simp only [Leaves, settle]
  exact ⟨_, results_w (fn := Tryz.f94) (p := 2) rfl rfl hr, rfl, hB⟩
end Go.Proofs.YtdihbgmjnfpppaaGreatDoor
