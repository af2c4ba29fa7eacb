
/-
  barrowref15.Distance, Edits, Common: what is refused.
-/
import Derived.Test.YtaimmjoekahleaaDoorZa32
namespace Go.Proofs.YtaimmjoekahleaaDoor
open Go.RowKit Go.Extern.Stop Go.Stop Go.Extern
set_option maxRecDepth 100000

theorem NoR.ch {M : Nat} {o : Rf} {v : Value} {S : Nat → Prop} {w w' : World} (h : NoR M o v w) (c : Ch S w w') (hS : ∀ s, M ≤ s → ¬ S s) : NoR M o v w' := by
  match o, h with
  | none, h => exact h
  | some (_, _, _), ⟨g, g', h1, h2, h3, h4, h5⟩ => exact ⟨g, g', h1, h2, h3, h4.ch c (hS g' h3), h5.ch c (hS g h2)⟩
theorem results_tNo {fn : Func} {t u : Tmp} {tmps : Array Value} {w : World} {g' : Nat} {cs : Array Value} (h : fn.results = #[.tmp t, .cell u 34]) (hu : tmps.getD u undef = .pointer (some ⟨g', 0, none⟩)) (hg' : RowAt g' cs 34 w) (hs : cs.size = 3) :
    (results fn tmps).run Tryd.prog w = .ok (.tuple #[tmps.getD t undef, .agg cs]) w := by
  have hu' : tmps[u]?.getD undef = .pointer (some ⟨g', 0, none⟩) := by simpa using hu
  have hi : (Tryd.prog.info? 34).map (·.size) = some cs.size := by rw [hs]; exact no_size
  simp [results, h, hu', asAddr, run_loadVar_row w g' _ _ _ _ _ hg' Tryd.underlying34 rfl hi]
theorem opw_loadNo {K : Act → World → Prop} {o : Oper} {A : Act} {w : World} {Q : Exit → Act → World → Prop} (x : Operand) (ho : o.op = .load 34 x) {b : Nat} (hx : A.eval x = .pointer (some ⟨b, 0, none⟩)) {cs : Array Value} (h : RowAt b cs 34 w) (hs : cs.size = 3) (k : K (A.put o.dst (.agg cs)) w) : o.wp Tryd.prog A w K Q := by
  have hi : (Tryd.prog.info? 34).map (·.size) = some cs.size := by rw [hs]; exact no_size
  unfold Oper.wp execOp
  simp only [ho, hx, Instr.loadAt, Instr.sureAddr, Sem.run_bind, Sem.run_pure, Result.andThen_ok, run_loadVar_in h.in Tryd.underlying34 rfl hi]
  exact k
end Go.Proofs.YtaimmjoekahleaaDoor
