
/-
  barrowlaw11.CausalMissing answers true.
-/
import Derived.Test.YtlgdaaofpjpobaaDoorZca24
namespace Go.Proofs.YtlgdaaofpjpobaaDoor
open Go.RowKit Go.Maps
set_option maxRecDepth 100000

theorem misC_len {h : List Int} {most : Int} : ∀ (l acc : List Ac), (misC h most acc l).length ≤ acc.length + l.length
  | [], acc => by simp [misC]
  | x :: l, acc => by
    unfold misC
    split
    · simp
    · split
      · have := misC_len (h := h) (most := most) l acc
        simp only [List.length_cons]; omega
      · have := misC_len (h := h) (most := most) l (acc ++ [x])
        simp only [List.length_append, List.length_cons, List.length_nil] at this ⊢; omega
theorem SlC.ch0 {S : Nat → Prop} {w w' : World} {v : Value} {l : List Ac} (h : SlC w v l) (c : Ch S w w') (hn : ∀ a n k, v = .slice (some a) n k → 0 < l.length → ¬ S a.block) : SlC w' v l := by
  by_cases h0 : 0 < l.length
  · exact h.ch c (fun a n k e => hn a n k e h0)
  · obtain ⟨a, c, rfl⟩ := h.form
    have e : l = [] := List.eq_nil_of_length_eq_zero (by omega)
    subst e
    exact .inl ⟨rfl, _, _, rfl⟩
theorem opw_loadCk {K : Act → World → Prop} {o : Oper} {A : Act} {w : World} {Q : Exit → Act → World → Prop} (x : Operand) (ho : o.op = .load 44 x) {g : Nat} (hx : A.eval x = .pointer (some ⟨g, 0, none⟩)) {y : List Int} (h : CkAt g y w)
    (k : K (A.put o.dst (.agg (cv y))) w) : o.wp Tryd.prog A w K Q := by
  unfold Oper.wp execOp
  simp only [ho, hx, Instr.loadAt, Instr.sureAddr, Sem.run_bind, Sem.run_pure, Result.andThen_ok, run_loadVar_row w g _ _ _ _ _ h.1 Tryd.underlying44 rfl h.size]
  exact k
end Go.Proofs.YtlgdaaofpjpobaaDoor
