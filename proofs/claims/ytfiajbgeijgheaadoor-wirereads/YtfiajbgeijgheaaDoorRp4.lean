
/-
  barrowlaw02.WireReads: the loop's drawn region.
-/
import Derived.Test.YtfiajbgeijgheaaDoorLnS
import Derived.Test.YtfiajbgeijgheaaDoorClip
import Derived.Test.YtfiajbgeijgheaaDoorStay
import Derived.Test.YtfiajbgeijgheaaDoorInvGU
namespace Go.Proofs.YtfiajbgeijgheaaDoor
open Go.RowKit
set_option maxRecDepth 100000

/-- Both Readers, with whatever they hold as their refusal. -/
def PairS (ad : Nat → Addr) (rb g xb : Nat) (v : Value) (bs : List UInt8) (pl : Nat) (st : StO) (w : World) : Prop := ∃ er n0 n1 n2, PairAt ad rb g xb v bs pl st er n0 n1 n2 w
theorem PairS.later {ad : Nat → Addr} {rb g xb : Nat} {v : Value} {bs : List UInt8} {pl : Nat} {st : StO} {w w' : World} (h : PairS ad rb g xb v bs pl st w) (hb : Below w.heap.size w w') : PairS ad rb g xb v bs pl st w' := by
  obtain ⟨a, b, c, d, h⟩ := h
  exact ⟨a, b, c, d, h.later hb⟩
/-- The loop's region, as it comes up. -/
structure RJ (A B : World → Prop) (W : World) (listed : Array Bool) (x : World) : Prop where
  bel : Below W.heap.size W x
  pre : listed.getD 6 false = false → A x
  post : listed.getD 6 false = true → B x
  dep : ∀ j, 7 ≤ j → listed.getD j false = true → listed.getD 6 false = true
theorem RJ.depSet {A B : World → Prop} {W : World} {listed : Array Bool} {x : World} (h : RJ A B W listed x) (i : Nat) (hi : i ≠ 6) (hd : 7 ≤ i → listed.getD 6 false = true) : ∀ j, 7 ≤ j → (listed.setIfInBounds i true).getD j false = true → (listed.setIfInBounds i true).getD 6 false = true := by
  intro j hj hl
  rw [getD_set_ne false hi]
  by_cases e : i = j
  · exact hd (by omega)
  · rw [getD_set_ne false e] at hl
    exact h.dep j hj hl
theorem RJ.same {A B : World → Prop} {W : World} {listed : Array Bool} {x : World} (h : RJ A B W listed x) (i : Nat) (hi : i ≠ 6) (hd : 7 ≤ i → listed.getD 6 false = true) : RJ A B W (listed.setIfInBounds i true) x :=
  ⟨h.bel, fun k => h.pre (by rw [getD_set_ne false hi] at k; exact k), fun k => h.post (by rw [getD_set_ne false hi] at k; exact k), h.depSet i hi hd⟩
theorem RJ.grow {A B : World → Prop} {W : World} {listed : Array Bool} {x x' : World} (hA : ∀ x x', A x → Below x.heap.size x x' → A x') (hB : ∀ x x', B x → Below x.heap.size x x' → B x') (h : RJ A B W listed x) (i : Nat) (hi : i ≠ 6) (hd : 7 ≤ i → listed.getD 6 false = true) (hb : Below x.heap.size x x') : RJ A B W (listed.setIfInBounds i true) x' :=
  ⟨bgo h.bel hb, fun k => hA _ _ (h.pre (by rw [getD_set_ne false hi] at k; exact k)) hb, fun k => hB _ _ (h.post (by rw [getD_set_ne false hi] at k; exact k)) hb, h.depSet i hi hd⟩
theorem sizeCall : (Tryd.prog.info? 59).map (·.size) = some 3 := by kernel_rfl
theorem opw_ldCall {o : Oper} {a : Act} {w : World} {Q : Exit → Act → World → Prop} {K : Act → World → Prop} (x : Operand) (ho : o.op = .load 59 x) {b off : Nat} (hx : a.eval x = .pointer (some ⟨b, off, none⟩)) {n0 n1 n2 : Value} (h : CsIn b off #[n0, n1, n2] w)
    (k : K (a.put o.dst (.agg #[n0, n1, n2])) w) : o.wp Tryd.prog a w K Q := by
  unfold Oper.wp execOp
  simp only [ho, hx, Instr.loadAt, Instr.sureAddr, Sem.run_bind, Sem.run_pure, Result.andThen_ok, run_loadVar_in h Tryd.underlying59 rfl sizeCall]
  exact k
end Go.Proofs.YtfiajbgeijgheaaDoor
