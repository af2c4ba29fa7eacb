
/-
  Package bag: own, Look, Counts, Clear.
-/
import Derived.Test.YtbjbihgfkcnmbaaDoorBg1
namespace Go.Proofs.YtbjbihgfkcnmbaaDoor
open Go.RowKit Go.Extern.Stop Go.Stop Go.Extern
set_option maxRecDepth 100000

theorem RowAt.setc {b : Nat} {cs : Array Value} {t : TypeId} {w : World} (h : RowAt b cs t w) (k : Nat) (v : Value) : RowAt b (cs.setIfInBounds k v) t (w.setCell ⟨b, k, none⟩ v) := by
  unfold RowAt at *
  simp [World.setCell, Array.getElem?_modify, h]
theorem RowAt.setn {b : Nat} {cs : Array Value} {t : TypeId} {w : World} (h : RowAt b cs t w) (p : Addr) (v : Value) (hn : ¬ b = p.block) : RowAt b cs t (w.setCell p v) := (Below.heap_setCell _ _ _ _ hn).trans h
theorem SlB.one {w : World} {v : Value} {bs : List UInt8} (h : SlB w v bs) : v.oneCell' = true := by
  rcases h with ⟨_, a, c, rfl⟩ | ⟨g, o, c, rfl, _⟩ <;> rfl
theorem results_p {fn : Func} {p : Tmp} {tmps : Array Value} {w : World} {g : Nat} {e : Pc} (h : fn.results = #[.cell p 56]) (hp : tmps.getD p undef = .pointer (some ⟨g, 0, none⟩)) (hg : RowAt g (pcv e) 56 w) :
    (results fn tmps).run Tryd.prog w = .ok (.agg (pcv e)) w := results_cell_row h tmps w g _ _ _ _ hp hg Tryd.underlying56 rfl (p_size e)
theorem results_pe {fn : Func} {p q : Tmp} {tmps : Array Value} {w : World} {g : Nat} {e : Pc} (h : fn.results = #[.cell p 56, .tmp q]) (hp : tmps.getD p undef = .pointer (some ⟨g, 0, none⟩)) (hg : RowAt g (pcv e) 56 w) :
    (results fn tmps).run Tryd.prog w = .ok (.tuple #[.agg (pcv e), tmps.getD q undef]) w := by
  have hp' : tmps[p]?.getD undef = .pointer (some ⟨g, 0, none⟩) := by simpa using hp
  simp [results, h, hp', asAddr, run_loadVar_row w g _ _ _ _ _ hg Tryd.underlying56 rfl (p_size e)]

theorem wpL_stNewP {ops : Array Oper} {rest : List Oper} {o : Oper} {A : Act} {w : World} {Q : Exit → Act → World → Prop} (hgd : o.guard = none) (x y : Operand) (ho : o.op = .store 56 x y) {w0 : World} {z : Array Value} (hw : w = w0.alloc (.cells z 56)) {g : Nat} (hx : A.eval x = .pointer (some ⟨g, 0, none⟩)) (hg : g = w0.heap.size) {p : Pc} (hy : A.eval y = .agg (pcv p)) (hz : z.size = 4) (hp : p.b.oneCell' = true)
    (k : wpList Tryd.prog ops Q rest (A.put o.dst undef) (w0.alloc (.cells (pcv p) 56))) : wpList Tryd.prog ops Q (o :: rest) A w := by
  subst hw hg
  refine wpList_store_row hgd _ x y ho _ (pcv p) hx hy _ z (heap_alloc_last _ _) (p_size p) hz (pcv_one p hp) ?_
  rw [World.setRow_alloc_new]
  exact k
set_option maxHeartbeats 1000000 in
theorem own_any {p : Pc} {bs : List UInt8} {w : World} (h : SlB w p.b bs) (hl : bs.length ≤ 140737488355328) :
    Calls Tryd.prog 59 #[.agg (pcv p)] w fun e w' => ∃ g, w.heap.size ≤ g ∧ e = .returned (.agg (pcv ⟨p.s, p.f, p.t, .slice (some ⟨g, 0, none⟩) bs.length bs.length⟩)) ∧ w'.heap[g]? = some (.cells (Lib.byteCells bs).toArray 5 (0, 0)) ∧ Below w.heap.size w w' := by
  have r0 : RowAt w.heap.size (pcv p) 56 ((w.alloc (.cells (pcv p) 56)).alloc (.cells (pcv pc0) 56)) := (row_new w _ _).later (below_one _ _)
  have r1 : RowAt (w.heap.size + 1) (pcv pc0) 56 ((w.alloc (.cells (pcv p) 56)).alloc (.cells (pcv pc0) 56)) := row_new2 w _ _ _
  have hB := below_two w (.cells (pcv p) 56) (.cells (pcv pc0) 56)
  have HC := hid_of' (copied_bag (h.grow hB) hl)
  have H := hid_of' (And.intro r0 (And.intro r1 hB))
  have hn : ¬ w.heap.size + 1 = w.heap.size := by omega
  clear r0 r1 hB h
  unfold pcv pc0 at HC
  unfold pcv
  go_enter Tryd.func59, Tryd.ntmps59
  go_wp2_with (first | (go_at_call 57; refine HC.out.mono ?_; rintro e w1 ⟨rfl, hg1, hb1⟩; have q0 := H.out.1.later hb1; have q1 := H.out.2.1.later hb1; have q3 := q0.cellIs 3 rfl; have f3 := q0.froz 3; have q2 := q0.setc 3 (.slice (some ⟨w.heap.size + 2, 0, none⟩) bs.length bs.length); have HQ := hid_of' (And.intro q2 (q1.setn ⟨w.heap.size, 3, none⟩ (.slice (some ⟨w.heap.size + 2, 0, none⟩) bs.length bs.length) hn)); clear q0 q1 q2) | (refine wpL_loadP (p := ⟨p.s, p.f, p.t, .slice (some ⟨w.heap.size + 2, 0, none⟩) bs.length bs.length⟩) rfl _ rfl rfl (RowAt.in HQ.out.1) ?_) | (refine wpL_storePr (p := ⟨p.s, p.f, p.t, .slice (some ⟨w.heap.size + 2, 0, none⟩) bs.length bs.length⟩) (q := pc0) rfl _ _ rfl rfl rfl rfl HQ.out.2 ?_))
  simp only [World.size_alloc] at hg1
  have hs2 : w.heap.size + 2 < w1.heap.size := (Array.getElem?_eq_some_iff.1 hg1).1
  refine bodyPost_ret (v := .agg (pcv ⟨p.s, p.f, p.t, .slice (some ⟨w.heap.size + 2, 0, none⟩) bs.length bs.length⟩)) (results_p (fn := Tryd.f59) (p := 2) (g := w.heap.size + 1) rfl rfl (HQ.out.2.put _)) rfl ⟨w.heap.size + 2, by omega, rfl, ?_, ?_⟩
  · rw [setRow_other _ _ _ _ (by omega), Below.heap_setCell _ _ _ _ (by show ¬ w.heap.size + 2 = w.heap.size; omega)]
    exact hg1
  · exact below_row ((bgo H.out.2.2 hb1).setCell (p := ⟨w.heap.size, 3, none⟩) (Nat.le_refl _) _) (by omega) _
end Go.Proofs.YtbjbihgfkcnmbaaDoor
