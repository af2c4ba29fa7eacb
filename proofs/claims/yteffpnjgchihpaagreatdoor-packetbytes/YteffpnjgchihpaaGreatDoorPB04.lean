
/-
  From the row's condition on the listed variables to what the walks use; a world that meets it.
-/
import Derived.Test.YteffpnjgchihpaaGreatDoorRows
import Derived.Test.YteffpnjgchihpaaGreatDoorPB03
import Derived.ProofKit
import Derived.LaidMore
import Derived.LaidHandle
import Derived.Stop.LaidErr
import Derived.Stop.Joined
namespace Go.Proofs.YteffpnjgchihpaaGreatDoor
open Go.ChangeShapes Go.WideShapes Go.ChangeAt Go.RowKit
set_option maxRecDepth 100000

theorem star : "*" ++ "errors.errorString" = "*errors.errorString" := by decide
theorem rowS (u : TypeId) (h : Tryz.prog.typeName? 3 u = some "*errors.errorString") : u = 195 :=
  typeName_ptr_named (nm := "errors.errorString") (by rw [star]; kernel_rfl) (by kernel_rfl) (by decide) u (by rw [star]; exact h)
theorem cellsS : Tryz.prog.cellsOf 217 = 1 := by kernel_rfl
theorem cells9 : Tryz.prog.cellsOf 9 = 1 := by kernel_rfl

/-- A sentinel's datum. -/
def sent (t : List UInt8) : DataW Unit := .iface "*errors.errorString" (.ptr (.agg [.lit (.string t)]))

theorem sents_of {W : World} : ∀ (l : List (String × List UInt8)) (ps : List MemPlace), DataW.LaidVars Tryz.prog W (l.map fun x => (x.1, sent x.2)) ps →
    (∀ b off, MemPlace.cell b off ∈ ps → (∃ c t, W.heap[b]? = some (.cells c t (0, 0))) ∧ ∀ u v, W.cell? ⟨b, off, none⟩ = some (.iface u v) → Value.okWide Tryz.prog W .any 0 u v) →
    (∀ x ∈ l, ∃ g, Tryz.prog.globalNamed x.1 = some g ∧ (Tryz.prog.globals[g]?).map (·.type) = some 42) →
    ∃ ads : List Addr, ads.length = l.length ∧ (ads.map fun a => MemPlace.cell a.block a.off).Sublist ps ∧
      ∀ (i : Nat) (x : String × List UInt8), l[i]? = some x → ∃ a, ads[i]? = some a ∧ W.var? Tryz.prog x.1 = some #[.iface 195 (.pointer (some a))] ∧ (∃ s, W.cell? a = some (.string s) ∧ s.data.toList = x.2) ∧ ∃ c t, W.heap[a.block]? = some (.cells c t (0, 0))
  | [], ps, _, _, _ => ⟨[], rfl, List.nil_sublist _, fun i x h => by simp at h⟩
  | (n, tx) :: l, ps, h, hrows, hnames => by
    obtain ⟨g0, t0, cs0, f0, p0, q0, hg0, ht0, hv0, hd0, hq, e0⟩ := h
    obtain ⟨g, hg, ht⟩ := hnames (n, tx) (by simp)
    obtain rfl := Option.some.inj (hg.symm.trans hg0)
    obtain rfl := Option.some.inj (ht.symm.trans ht0)
    subst e0
    obtain ⟨l0⟩ := cs0
    have ok0 : ∀ u v, l0 = [.iface u v] → Value.okWide Tryz.prog W .any 0 u v := fun u v e => by
      subst e
      exact (hrows g 0 (by simp [MemPlace.row])).2 u v (by simpa using World.var?_cell hg0 hv0 0)
    obtain ⟨a0, s0, rfl, hc0, hs0, hz0, rfl⟩ := errorString_of_trod Tryz.underlying42 rowS Tryz.underlying195 Tryz.underlying217 rfl rfl Tryz.underlying9 cellsS cells9 hd0 ok0
    obtain ⟨ads, h1, h2, h3⟩ := sents_of l q0 hq (fun b off hm => hrows b off (List.mem_append_right _ hm)) (fun x hx => hnames x (List.mem_cons_of_mem _ hx))
    refine ⟨a0 :: ads, by simp [h1], ?_, ?_⟩
    · have e : MemPlace.row a0 1 = [MemPlace.cell a0.block a0.off] := by simp [MemPlace.row]
      rw [e, List.map_cons, List.append_assoc]
      exact (List.Sublist.cons_cons _ h2).trans (List.sublist_append_right _ _)
    · intro i x hx
      cases i with
      | zero =>
        simp only [List.getElem?_cons_zero, Option.some.injEq] at hx
        subst hx
        exact ⟨a0, rfl, hv0, ⟨s0, hc0, hs0⟩, (hrows a0.block a0.off (by simp [MemPlace.row])).1⟩
      | succ i => exact h3 i x (by simpa using hx)

/-- The fourteen sentinels, by name, in the list's order. -/
def names : List (String × List UInt8) := [("barrow/api.ErrArg", (txt 0).data.toList), ("barrow/api.ErrRange", (txt 1).data.toList), ("barrow/api.ErrText", (txt 2).data.toList), ("barrow/api.ErrFull", (txt 3).data.toList), ("barrow/api.ErrFrozen", (txt 4).data.toList), ("barrow/api.ErrForm", (txt 5).data.toList), ("barrow/api.ErrShort", (txt 6).data.toList), ("barrow/api.ErrOrder", (txt 7).data.toList), ("barrow/api.ErrTwice", (txt 8).data.toList), ("barrow/api.ErrEpoch", (txt 9).data.toList), ("barrow/api.ErrBusy", (txt 10).data.toList), ("barrow/api.ErrNone", (txt 11).data.toList), ("barrow/api.ErrRoom", (txt 12).data.toList), ("barrow/api.ErrOther", (txt 13).data.toList)]
theorem gl0 : Tryz.prog.globalNamed (names[0]'(by decide)).1 = some 1 := by kernel_rfl
theorem gt0 : (Tryz.prog.globals[1]?).map (·.type) = some 42 := by kernel_rfl
theorem gl1 : Tryz.prog.globalNamed (names[1]'(by decide)).1 = some 3 := by kernel_rfl
theorem gt1 : (Tryz.prog.globals[3]?).map (·.type) = some 42 := by kernel_rfl
theorem gl2 : Tryz.prog.globalNamed (names[2]'(by decide)).1 = some 4 := by kernel_rfl
theorem gt2 : (Tryz.prog.globals[4]?).map (·.type) = some 42 := by kernel_rfl
theorem gl3 : Tryz.prog.globalNamed (names[3]'(by decide)).1 = some 5 := by kernel_rfl
theorem gt3 : (Tryz.prog.globals[5]?).map (·.type) = some 42 := by kernel_rfl
theorem gl4 : Tryz.prog.globalNamed (names[4]'(by decide)).1 = some 6 := by kernel_rfl
theorem gt4 : (Tryz.prog.globals[6]?).map (·.type) = some 42 := by kernel_rfl
theorem gl5 : Tryz.prog.globalNamed (names[5]'(by decide)).1 = some 0 := by kernel_rfl
theorem gt5 : (Tryz.prog.globals[0]?).map (·.type) = some 42 := by kernel_rfl
theorem gl6 : Tryz.prog.globalNamed (names[6]'(by decide)).1 = some 7 := by kernel_rfl
theorem gt6 : (Tryz.prog.globals[7]?).map (·.type) = some 42 := by kernel_rfl
theorem gl7 : Tryz.prog.globalNamed (names[7]'(by decide)).1 = some 8 := by kernel_rfl
theorem gt7 : (Tryz.prog.globals[8]?).map (·.type) = some 42 := by kernel_rfl
theorem gl8 : Tryz.prog.globalNamed (names[8]'(by decide)).1 = some 9 := by kernel_rfl
theorem gt8 : (Tryz.prog.globals[9]?).map (·.type) = some 42 := by kernel_rfl
theorem gl9 : Tryz.prog.globalNamed (names[9]'(by decide)).1 = some 10 := by kernel_rfl
theorem gt9 : (Tryz.prog.globals[10]?).map (·.type) = some 42 := by kernel_rfl
theorem gl10 : Tryz.prog.globalNamed (names[10]'(by decide)).1 = some 11 := by kernel_rfl
theorem gt10 : (Tryz.prog.globals[11]?).map (·.type) = some 42 := by kernel_rfl
theorem gl11 : Tryz.prog.globalNamed (names[11]'(by decide)).1 = some 12 := by kernel_rfl
theorem gt11 : (Tryz.prog.globals[12]?).map (·.type) = some 42 := by kernel_rfl
theorem gl12 : Tryz.prog.globalNamed (names[12]'(by decide)).1 = some 13 := by kernel_rfl
theorem gt12 : (Tryz.prog.globals[13]?).map (·.type) = some 42 := by kernel_rfl
theorem gl13 : Tryz.prog.globalNamed (names[13]'(by decide)).1 = some 14 := by kernel_rfl
theorem gt13 : (Tryz.prog.globals[14]?).map (·.type) = some 42 := by kernel_rfl
theorem glAll (k : Nat) (x : String × List UInt8) (h : names[k]? = some x) : Tryz.prog.globalNamed x.1 = some (gix k) ∧ (Tryz.prog.globals[gix k]?).map (·.type) = some 42 ∧ x.2 = (txt k).data.toList ∧ k < 14 := by
  match k, h with
  | 0, h => simp only [names, List.getElem?_cons_zero, Option.some.injEq] at h; subst h; exact ⟨gl0, gt0, rfl, by decide⟩
  | 1, h => simp only [names, List.getElem?_cons_zero, List.getElem?_cons_succ, Option.some.injEq] at h; subst h; exact ⟨gl1, gt1, rfl, by decide⟩
  | 2, h => simp only [names, List.getElem?_cons_zero, List.getElem?_cons_succ, Option.some.injEq] at h; subst h; exact ⟨gl2, gt2, rfl, by decide⟩
  | 3, h => simp only [names, List.getElem?_cons_zero, List.getElem?_cons_succ, Option.some.injEq] at h; subst h; exact ⟨gl3, gt3, rfl, by decide⟩
  | 4, h => simp only [names, List.getElem?_cons_zero, List.getElem?_cons_succ, Option.some.injEq] at h; subst h; exact ⟨gl4, gt4, rfl, by decide⟩
  | 5, h => simp only [names, List.getElem?_cons_zero, List.getElem?_cons_succ, Option.some.injEq] at h; subst h; exact ⟨gl5, gt5, rfl, by decide⟩
  | 6, h => simp only [names, List.getElem?_cons_zero, List.getElem?_cons_succ, Option.some.injEq] at h; subst h; exact ⟨gl6, gt6, rfl, by decide⟩
  | 7, h => simp only [names, List.getElem?_cons_zero, List.getElem?_cons_succ, Option.some.injEq] at h; subst h; exact ⟨gl7, gt7, rfl, by decide⟩
  | 8, h => simp only [names, List.getElem?_cons_zero, List.getElem?_cons_succ, Option.some.injEq] at h; subst h; exact ⟨gl8, gt8, rfl, by decide⟩
  | 9, h => simp only [names, List.getElem?_cons_zero, List.getElem?_cons_succ, Option.some.injEq] at h; subst h; exact ⟨gl9, gt9, rfl, by decide⟩
  | 10, h => simp only [names, List.getElem?_cons_zero, List.getElem?_cons_succ, Option.some.injEq] at h; subst h; exact ⟨gl10, gt10, rfl, by decide⟩
  | 11, h => simp only [names, List.getElem?_cons_zero, List.getElem?_cons_succ, Option.some.injEq] at h; subst h; exact ⟨gl11, gt11, rfl, by decide⟩
  | 12, h => simp only [names, List.getElem?_cons_zero, List.getElem?_cons_succ, Option.some.injEq] at h; subst h; exact ⟨gl12, gt12, rfl, by decide⟩
  | 13, h => simp only [names, List.getElem?_cons_zero, List.getElem?_cons_succ, Option.some.injEq] at h; subst h; exact ⟨gl13, gt13, rfl, by decide⟩
  | n + 14, h => simp [names] at h
theorem etName : Tryz.prog.globalNamed "errors.errorType" = some 2 := by kernel_rfl
theorem rtOf : (Tryz.prog.cutTypes.find? (·.1 == "internal/reflectlite.rtype")).map (·.2) = some 172 := by kernel_rfl
theorem oneRow : ((List.range 229).filter fun t => Tryz.prog.rowNamed t [101, 114, 114, 111, 114]) = [42] := by kernel_rfl
theorem typesSize : Tryz.prog.types.size = 229 := by kernel_rfl
theorem handleIs : typeHandle Tryz.prog 42 = .pointer (some ⟨15, 42, none⟩) := by kernel_rfl

theorem bytes_of {s : ByteArray} {t : ByteArray} (h : s.data.toList = t.data.toList) : s = t := by
  cases s with
  | mk a => cases t with
    | mk b => simp only [Array.toList_inj] at h; rw [h]

/-- What the condition gives the walks. -/
theorem laid_of {W : World} (hl : laidMet Tryz.prog (names.map fun x => (x.1, sent x.2)) W) (hh : handlesMet Tryz.prog [("errors.errorType", .iface "internal/reflectlite.rtype" (.agg [.ptr (.lit (.string [101, 114, 114, 111, 114]))]))] W) : ∃ ad, Laid ad W := by
  obtain ⟨ps, hv, hnd, hrows⟩ := hl
  obtain ⟨ads, hlen, hsub, hall⟩ := sents_of names ps hv hrows (fun x hx => by
    obtain ⟨k, hk⟩ := List.getElem?_of_mem hx
    obtain ⟨h1, h2, _⟩ := glAll k x hk
    exact ⟨gix k, h1, h2⟩)
  have hnd' : (ads.map fun a => MemPlace.cell a.block a.off).Nodup := hnd.sublist hsub
  have hat : ∀ k, k < 14 → ∃ a x, names[k]? = some x ∧ ads[k]? = some a ∧ W.var? Tryz.prog x.1 = some #[.iface 195 (.pointer (some a))] ∧ (∃ s, W.cell? a = some (.string s) ∧ s.data.toList = x.2) ∧ ∃ c t, W.heap[a.block]? = some (.cells c t (0, 0)) := fun k hk => by
    have hx : names[k]? = some (names[k]'(by simpa [names] using hk)) := List.getElem?_eq_getElem _
    obtain ⟨a, h⟩ := hall k _ hx
    exact ⟨a, _, hx, h⟩
  refine ⟨fun k => ads.getD k ⟨0, 0, none⟩, ?_, ?_, ?_, ?_, ?_⟩
  · intro k hk
    obtain ⟨a, x, hx, ha, hvar, _⟩ := hat k hk
    have e : ads.getD k ⟨0, 0, none⟩ = a := by simp [List.getD, ha]
    show W.cell? ⟨gix k, 0, none⟩ = some (.iface 195 (.pointer (some (ads.getD k ⟨0, 0, none⟩))))
    rw [e]
    simpa using World.var?_cell (glAll k x hx).1 hvar 0
  · intro k hk
    obtain ⟨a, x, hx, ha, _, ⟨s, hs, ht⟩, _⟩ := hat k hk
    have e : ads.getD k ⟨0, 0, none⟩ = a := by simp [List.getD, ha]
    show W.cell? (ads.getD k ⟨0, 0, none⟩) = _
    rw [e, hs, bytes_of (ht.trans (glAll k x hx).2.2.1)]
  · intro j k hj hk hne heq
    obtain ⟨a, x, hx, ha, _⟩ := hat j hj
    obtain ⟨b, y, hy, hb, _⟩ := hat k hk
    have e1 : ads.getD j ⟨0, 0, none⟩ = a := by simp [List.getD, ha]
    have e2 : ads.getD k ⟨0, 0, none⟩ = b := by simp [List.getD, hb]
    have hab : a = b := by rw [← e1, ← e2]; exact heq
    subst hab
    have hi : (ads.map fun a => MemPlace.cell a.block a.off)[j]? = some (MemPlace.cell a.block a.off) := by simp [ha]
    have hk' : (ads.map fun a => MemPlace.cell a.block a.off)[k]? = some (MemPlace.cell a.block a.off) := by simp [hb]
    obtain ⟨l1, g1⟩ := List.getElem?_eq_some_iff.1 hi
    obtain ⟨l2, g2⟩ := List.getElem?_eq_some_iff.1 hk'
    rcases Nat.lt_or_gt_of_ne hne with h | h
    · exact (List.pairwise_iff_getElem.1 hnd' j k l1 l2 h) (g1.trans g2.symm)
    · exact (List.pairwise_iff_getElem.1 hnd' k j l2 l1 h) (g2.trans g1.symm)
  · intro k hk
    obtain ⟨a, x, hx, ha, _, _, hr⟩ := hat k hk
    have e : ads.getD k ⟨0, 0, none⟩ = a := by simp [List.getD, ha]
    show ∃ c t, W.heap[(ads.getD k ⟨0, 0, none⟩).block]? = _
    rw [e]; exact hr
  · obtain ⟨name, u, ty, e1, e2, e3, e4, e5⟩ := hh _ (List.mem_singleton.2 rfl)
    have en : name = [101, 114, 114, 111, 114] := (Option.some.inj e1).symm
    subst en
    obtain rfl := Option.some.inj (rtOf.symm.trans e2)
    have hm : ty ∈ (List.range 229).filter fun t => Tryz.prog.rowNamed t [101, 114, 114, 111, 114] := List.mem_filter.2 ⟨List.mem_range.2 (by rw [← typesSize]; exact e3), e4⟩
    rw [oneRow] at hm
    obtain rfl := List.mem_singleton.1 hm
    rw [handleIs] at e5
    simpa using World.var?_cell etName e5 0
end Go.Proofs.YteffpnjgchihpaaGreatDoor
