
/-
  From the row's condition on the listed variables to what the walks use.
-/
import Derived.Test.YtfiajbgeijgheaaDoorRows
import Derived.Test.YtfiajbgeijgheaaDoorBase
import Derived.ProofKit
import Derived.LaidMore
import Derived.LaidHandle
import Derived.Stop.LaidErr
import Derived.Stop.Joined
namespace Go.Proofs.YtfiajbgeijgheaaDoor
open Go.ChangeShapes Go.WideShapes Go.ChangeAt Go.RowKit
set_option maxRecDepth 100000

theorem star : "*" ++ "errors.errorString" = "*errors.errorString" := by decide
theorem rowS (u : TypeId) (h : Tryd.prog.typeName? 3 u = some "*errors.errorString") : u = 158 :=
  typeName_ptr_named (nm := "errors.errorString") (by rw [star]; kernel_rfl) (by kernel_rfl) (by decide) u (by rw [star]; exact h)
theorem cellsS : Tryd.prog.cellsOf 180 = 1 := by kernel_rfl
theorem cells9 : Tryd.prog.cellsOf 9 = 1 := by kernel_rfl

/-- A sentinel's datum. -/
def sent (t : List UInt8) : DataW Unit := .iface "*errors.errorString" (.ptr (.agg [.lit (.string t)]))

theorem sents_of {W : World} : ∀ (l : List (String × List UInt8)) (ps : List MemPlace), DataW.LaidVars Tryd.prog W (l.map fun x => (x.1, sent x.2)) ps →
    (∀ b off, MemPlace.cell b off ∈ ps → (∃ c t, W.heap[b]? = some (.cells c t (0, 0))) ∧ ∀ u v, W.cell? ⟨b, off, none⟩ = some (.iface u v) → Value.okWide Tryd.prog W .any 0 u v) →
    (∀ x ∈ l, ∃ g, Tryd.prog.globalNamed x.1 = some g ∧ (Tryd.prog.globals[g]?).map (·.type) = some 35) →
    ∃ ads : List Addr, ads.length = l.length ∧ (ads.map fun a => MemPlace.cell a.block a.off).Sublist ps ∧
      ∀ (i : Nat) (x : String × List UInt8), l[i]? = some x → ∃ a, ads[i]? = some a ∧ W.var? Tryd.prog x.1 = some #[.iface 158 (.pointer (some a))] ∧ (∃ s, W.cell? a = some (.string s) ∧ s.data.toList = x.2) ∧ ∃ c t, W.heap[a.block]? = some (.cells c t (0, 0))
  | [], ps, _, _, _ => ⟨[], rfl, List.nil_sublist _, fun i x h => by simp at h⟩
  | (n, tx) :: l, ps, h, hrows, hnames => by
    obtain ⟨g0, t0, cs0, f0, p0, q0, hg0, ht0, hv0, hd0, hq, e0⟩ := h
    obtain ⟨g, hg, ht⟩ := hnames (n, tx) (by simp)
    obtain rfl := Option.some.inj (hg.symm.trans hg0)
    obtain rfl := Option.some.inj (ht.symm.trans ht0)
    subst e0
    obtain ⟨l0⟩ := cs0
    have ok0 : ∀ u v, l0 = [.iface u v] → Value.okWide Tryd.prog W .any 0 u v := fun u v e => by
      subst e
      exact (hrows g 0 (by simp [MemPlace.row])).2 u v (by simpa using World.var?_cell hg0 hv0 0)
    obtain ⟨a0, s0, rfl, hc0, hs0, hz0, rfl⟩ := errorString_of_trod Tryd.underlying35 rowS Tryd.underlying158 Tryd.underlying180 rfl rfl Tryd.underlying9 cellsS cells9 hd0 ok0
    obtain ⟨ads, h1, h2, h3⟩ := sents_of l q0 hq (fun b off hm => hrows b off (List.mem_append_right _ hm)) (fun x hx => hnames x (List.mem_cons_of_mem _ hx))
    refine ⟨a0 :: ads, by simp [h1], ?_, ?_⟩
    · have e : MemPlace.row a0 1 = [MemPlace.cell a0.block a0.off] := by simp [MemPlace.row]
      rw [e, List.map_cons, List.append_assoc]
      exact (List.Sublist.cons_cons _ h2).trans (List.sublist_append_right _ _)
    · intro i x hx
      cases i with
      | zero =>
        simp only [List.getElem?_cons_zero, Option.some.injEq] at hx
        subst hx
        exact ⟨a0, rfl, hv0, ⟨s0, hc0, hs0⟩, (hrows a0.block a0.off (by simp [MemPlace.row])).1⟩
      | succ i => exact h3 i x (by simpa using hx)

/-- The four sentinels that package wire names. -/
def names4 : List (String × List UInt8) := [("barrow/api.ErrArg", [98, 97, 100, 32, 97, 114, 103, 117, 109, 101, 110, 116]), ("barrow/api.ErrRange", [111, 117, 116, 32, 111, 102, 32, 114, 97, 110, 103, 101]), ("barrow/api.ErrForm", [98, 97, 100, 32, 102, 111, 114, 109]), ("barrow/api.ErrShort", [99, 117, 116, 32, 115, 104, 111, 114, 116])]
theorem gl0 : Tryd.prog.globalNamed "barrow/api.ErrArg" = some 0 := by kernel_rfl
theorem gl1 : Tryd.prog.globalNamed "barrow/api.ErrRange" = some 2 := by kernel_rfl
theorem gl5 : Tryd.prog.globalNamed "barrow/api.ErrForm" = some 1 := by kernel_rfl
theorem gl6 : Tryd.prog.globalNamed "barrow/api.ErrShort" = some 3 := by kernel_rfl
theorem gt0 : (Tryd.prog.globals[0]?).map (·.type) = some 35 := by kernel_rfl
theorem gt1 : (Tryd.prog.globals[2]?).map (·.type) = some 35 := by kernel_rfl
theorem gt5 : (Tryd.prog.globals[1]?).map (·.type) = some 35 := by kernel_rfl
theorem gt6 : (Tryd.prog.globals[3]?).map (·.type) = some 35 := by kernel_rfl

/-- What the condition gives the walks. -/
theorem lw_of {W : World} (hl : laidMet Tryd.prog (names4.map fun x => (x.1, sent x.2)) W) : ∃ ad, Lw ad W := by
  obtain ⟨ps, hv, _, hrows⟩ := hl
  obtain ⟨ads, hlen, _, hall⟩ := sents_of names4 ps hv hrows (fun x hx => by
    simp only [names4, List.mem_cons, List.not_mem_nil, or_false] at hx
    rcases hx with rfl | rfl | rfl | rfl
    · exact ⟨_, gl0, gt0⟩
    · exact ⟨_, gl1, gt1⟩
    · exact ⟨_, gl5, gt5⟩
    · exact ⟨_, gl6, gt6⟩)
  obtain ⟨a0, _, w0, _⟩ := hall 0 _ rfl
  obtain ⟨a1, _, w1, _⟩ := hall 1 _ rfl
  obtain ⟨a5, _, w5, _⟩ := hall 2 _ rfl
  obtain ⟨a6, _, w6, _⟩ := hall 3 _ rfl
  have c0 : W.cell? ⟨0, 0, none⟩ = some (.iface 158 (.pointer (some a0))) := by simpa using World.var?_cell gl0 w0 0
  have c1 : W.cell? ⟨2, 0, none⟩ = some (.iface 158 (.pointer (some a1))) := by simpa using World.var?_cell gl1 w1 0
  have c5 : W.cell? ⟨1, 0, none⟩ = some (.iface 158 (.pointer (some a5))) := by simpa using World.var?_cell gl5 w5 0
  have c6 : W.cell? ⟨3, 0, none⟩ = some (.iface 158 (.pointer (some a6))) := by simpa using World.var?_cell gl6 w6 0
  refine ⟨fun k => if k = 0 then a0 else if k = 1 then a1 else if k = 5 then a5 else a6, fun k hk => ?_, ?_⟩
  · rcases hk with rfl | rfl | rfl | rfl
    · exact c0
    · exact c1
    · exact c5
    · exact c6
  · have b0 : 0 < W.heap.size := World.block_lt_of_cell? _ _ c0
    have b1 : 2 < W.heap.size := World.block_lt_of_cell? _ _ c1
    have b5 : 1 < W.heap.size := World.block_lt_of_cell? _ _ c5
    have b6 : 3 < W.heap.size := World.block_lt_of_cell? _ _ c6
    show 4 ≤ W.heap.size
    omega

end Go.Proofs.YtfiajbgeijgheaaDoor
