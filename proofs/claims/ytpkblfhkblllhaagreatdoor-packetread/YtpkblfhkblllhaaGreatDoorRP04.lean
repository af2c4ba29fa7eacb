
/-
  From the row's condition on the listed variables to what the walks use; a world that meets it. fault.asFault and fault.asMany of each kind of error; fault.number of a reason and of nil. Errors as trees in memory; the tour's state; fault.meet over a row of Faults and what stands at its end.
-/
import Derived.Test.YtpkblfhkblllhaaGreatDoorRows
import Derived.Test.YtpkblfhkblllhaaGreatDoorRP03
import Derived.ProofKit
import Derived.LaidMore
import Derived.LaidHandle
import Derived.Stop.LaidErr
import Derived.Stop.Joined
namespace Go.Proofs.YtpkblfhkblllhaaGreatDoor
open Go.ChangeShapes Go.WideShapes Go.ChangeAt Go.RowKit
set_option maxRecDepth 100000

theorem star : "*" ++ "errors.errorString" = "*errors.errorString" := by decide
theorem rowS (u : TypeId) (h : Tryz.prog.typeName? 3 u = some "*errors.errorString") : u = 205 :=
  typeName_ptr_named (nm := "errors.errorString") (by rw [star]; kernel_rfl) (by kernel_rfl) (by decide) u (by rw [star]; exact h)
theorem cellsS : Tryz.prog.cellsOf 227 = 1 := by kernel_rfl
theorem cells9 : Tryz.prog.cellsOf 9 = 1 := by kernel_rfl

/-- A sentinel's datum. -/
def sent (t : List UInt8) : DataW Unit := .iface "*errors.errorString" (.ptr (.agg [.lit (.string t)]))

theorem sents_of {W : World} : ∀ (l : List (String × List UInt8)) (ps : List MemPlace), DataW.LaidVars Tryz.prog W (l.map fun x => (x.1, sent x.2)) ps →
    (∀ b off, MemPlace.cell b off ∈ ps → (∃ c t, W.heap[b]? = some (.cells c t (0, 0))) ∧ ∀ u v, W.cell? ⟨b, off, none⟩ = some (.iface u v) → Value.okWide Tryz.prog W .any 0 u v) →
    (∀ x ∈ l, ∃ g, Tryz.prog.globalNamed x.1 = some g ∧ (Tryz.prog.globals[g]?).map (·.type) = some 41) →
    ∃ ads : List Addr, ads.length = l.length ∧ (ads.map fun a => MemPlace.cell a.block a.off).Sublist ps ∧
      ∀ (i : Nat) (x : String × List UInt8), l[i]? = some x → ∃ a, ads[i]? = some a ∧ W.var? Tryz.prog x.1 = some #[.iface 205 (.pointer (some a))] ∧ (∃ s, W.cell? a = some (.string s) ∧ s.data.toList = x.2) ∧ ∃ c t, W.heap[a.block]? = some (.cells c t (0, 0))
  | [], ps, _, _, _ => ⟨[], rfl, List.nil_sublist _, fun i x h => by simp at h⟩
  | (n, tx) :: l, ps, h, hrows, hnames => by
    obtain ⟨g0, t0, cs0, f0, p0, q0, hg0, ht0, hv0, hd0, hq, e0⟩ := h
    obtain ⟨g, hg, ht⟩ := hnames (n, tx) (by simp)
    obtain rfl := Option.some.inj (hg.symm.trans hg0)
    obtain rfl := Option.some.inj (ht.symm.trans ht0)
    subst e0
    obtain ⟨l0⟩ := cs0
    have ok0 : ∀ u v, l0 = [.iface u v] → Value.okWide Tryz.prog W .any 0 u v := fun u v e => by
      subst e
      exact (hrows g 0 (by simp [MemPlace.row])).2 u v (by simpa using World.var?_cell hg0 hv0 0)
    obtain ⟨a0, s0, rfl, hc0, hs0, hz0, rfl⟩ := errorString_of_trod Tryz.underlying41 rowS Tryz.underlying205 Tryz.underlying227 rfl rfl Tryz.underlying9 cellsS cells9 hd0 ok0
    obtain ⟨ads, h1, h2, h3⟩ := sents_of l q0 hq (fun b off hm => hrows b off (List.mem_append_right _ hm)) (fun x hx => hnames x (List.mem_cons_of_mem _ hx))
    refine ⟨a0 :: ads, by simp [h1], ?_, ?_⟩
    · have e : MemPlace.row a0 1 = [MemPlace.cell a0.block a0.off] := by simp [MemPlace.row]
      rw [e, List.map_cons, List.append_assoc]
      exact (List.Sublist.cons_cons _ h2).trans (List.sublist_append_right _ _)
    · intro i x hx
      cases i with
      | zero =>
        simp only [List.getElem?_cons_zero, Option.some.injEq] at hx
        subst hx
        exact ⟨a0, rfl, hv0, ⟨s0, hc0, hs0⟩, (hrows a0.block a0.off (by simp [MemPlace.row])).1⟩
      | succ i => exact h3 i x (by simpa using hx)

/-- The fourteen sentinels, by name, in the list's order. -/
def names : List (String × List UInt8) := [("barrow/api.ErrArg", (txt 0).data.toList), ("barrow/api.ErrRange", (txt 1).data.toList), ("barrow/api.ErrText", (txt 2).data.toList), ("barrow/api.ErrFull", (txt 3).data.toList), ("barrow/api.ErrFrozen", (txt 4).data.toList), ("barrow/api.ErrForm", (txt 5).data.toList), ("barrow/api.ErrShort", (txt 6).data.toList), ("barrow/api.ErrOrder", (txt 7).data.toList), ("barrow/api.ErrTwice", (txt 8).data.toList), ("barrow/api.ErrEpoch", (txt 9).data.toList), ("barrow/api.ErrBusy", (txt 10).data.toList), ("barrow/api.ErrNone", (txt 11).data.toList), ("barrow/api.ErrRoom", (txt 12).data.toList), ("barrow/api.ErrOther", (txt 13).data.toList)]
theorem gl0 : Tryz.prog.globalNamed (names[0]'(by decide)).1 = some 2 := by kernel_rfl
theorem gt0 : (Tryz.prog.globals[2]?).map (·.type) = some 41 := by kernel_rfl
theorem gl1 : Tryz.prog.globalNamed (names[1]'(by decide)).1 = some 4 := by kernel_rfl
theorem gt1 : (Tryz.prog.globals[4]?).map (·.type) = some 41 := by kernel_rfl
theorem gl2 : Tryz.prog.globalNamed (names[2]'(by decide)).1 = some 5 := by kernel_rfl
theorem gt2 : (Tryz.prog.globals[5]?).map (·.type) = some 41 := by kernel_rfl
theorem gl3 : Tryz.prog.globalNamed (names[3]'(by decide)).1 = some 6 := by kernel_rfl
theorem gt3 : (Tryz.prog.globals[6]?).map (·.type) = some 41 := by kernel_rfl
theorem gl4 : Tryz.prog.globalNamed (names[4]'(by decide)).1 = some 7 := by kernel_rfl
theorem gt4 : (Tryz.prog.globals[7]?).map (·.type) = some 41 := by kernel_rfl
theorem gl5 : Tryz.prog.globalNamed (names[5]'(by decide)).1 = some 0 := by kernel_rfl
theorem gt5 : (Tryz.prog.globals[0]?).map (·.type) = some 41 := by kernel_rfl
theorem gl6 : Tryz.prog.globalNamed (names[6]'(by decide)).1 = some 3 := by kernel_rfl
theorem gt6 : (Tryz.prog.globals[3]?).map (·.type) = some 41 := by kernel_rfl
theorem gl7 : Tryz.prog.globalNamed (names[7]'(by decide)).1 = some 8 := by kernel_rfl
theorem gt7 : (Tryz.prog.globals[8]?).map (·.type) = some 41 := by kernel_rfl
theorem gl8 : Tryz.prog.globalNamed (names[8]'(by decide)).1 = some 9 := by kernel_rfl
theorem gt8 : (Tryz.prog.globals[9]?).map (·.type) = some 41 := by kernel_rfl
theorem gl9 : Tryz.prog.globalNamed (names[9]'(by decide)).1 = some 10 := by kernel_rfl
theorem gt9 : (Tryz.prog.globals[10]?).map (·.type) = some 41 := by kernel_rfl
theorem gl10 : Tryz.prog.globalNamed (names[10]'(by decide)).1 = some 11 := by kernel_rfl
theorem gt10 : (Tryz.prog.globals[11]?).map (·.type) = some 41 := by kernel_rfl
theorem gl11 : Tryz.prog.globalNamed (names[11]'(by decide)).1 = some 12 := by kernel_rfl
theorem gt11 : (Tryz.prog.globals[12]?).map (·.type) = some 41 := by kernel_rfl
theorem gl12 : Tryz.prog.globalNamed (names[12]'(by decide)).1 = some 13 := by kernel_rfl
theorem gt12 : (Tryz.prog.globals[13]?).map (·.type) = some 41 := by kernel_rfl
theorem gl13 : Tryz.prog.globalNamed (names[13]'(by decide)).1 = some 14 := by kernel_rfl
theorem gt13 : (Tryz.prog.globals[14]?).map (·.type) = some 41 := by kernel_rfl
theorem glAll (k : Nat) (x : String × List UInt8) (h : names[k]? = some x) : Tryz.prog.globalNamed x.1 = some (gix k) ∧ (Tryz.prog.globals[gix k]?).map (·.type) = some 41 ∧ x.2 = (txt k).data.toList ∧ k < 14 := by
  match k, h with
  | 0, h => simp only [names, List.getElem?_cons_zero, Option.some.injEq] at h; subst h; exact ⟨gl0, gt0, rfl, by decide⟩
  | 1, h => simp only [names, List.getElem?_cons_zero, List.getElem?_cons_succ, Option.some.injEq] at h; subst h; exact ⟨gl1, gt1, rfl, by decide⟩
  | 2, h => simp only [names, List.getElem?_cons_zero, List.getElem?_cons_succ, Option.some.injEq] at h; subst h; exact ⟨gl2, gt2, rfl, by decide⟩
  | 3, h => simp only [names, List.getElem?_cons_zero, List.getElem?_cons_succ, Option.some.injEq] at h; subst h; exact ⟨gl3, gt3, rfl, by decide⟩
  | 4, h => simp only [names, List.getElem?_cons_zero, List.getElem?_cons_succ, Option.some.injEq] at h; subst h; exact ⟨gl4, gt4, rfl, by decide⟩
  | 5, h => simp only [names, List.getElem?_cons_zero, List.getElem?_cons_succ, Option.some.injEq] at h; subst h; exact ⟨gl5, gt5, rfl, by decide⟩
  | 6, h => simp only [names, List.getElem?_cons_zero, List.getElem?_cons_succ, Option.some.injEq] at h; subst h; exact ⟨gl6, gt6, rfl, by decide⟩
  | 7, h => simp only [names, List.getElem?_cons_zero, List.getElem?_cons_succ, Option.some.injEq] at h; subst h; exact ⟨gl7, gt7, rfl, by decide⟩
  | 8, h => simp only [names, List.getElem?_cons_zero, List.getElem?_cons_succ, Option.some.injEq] at h; subst h; exact ⟨gl8, gt8, rfl, by decide⟩
  | 9, h => simp only [names, List.getElem?_cons_zero, List.getElem?_cons_succ, Option.some.injEq] at h; subst h; exact ⟨gl9, gt9, rfl, by decide⟩
  | 10, h => simp only [names, List.getElem?_cons_zero, List.getElem?_cons_succ, Option.some.injEq] at h; subst h; exact ⟨gl10, gt10, rfl, by decide⟩
  | 11, h => simp only [names, List.getElem?_cons_zero, List.getElem?_cons_succ, Option.some.injEq] at h; subst h; exact ⟨gl11, gt11, rfl, by decide⟩
  | 12, h => simp only [names, List.getElem?_cons_zero, List.getElem?_cons_succ, Option.some.injEq] at h; subst h; exact ⟨gl12, gt12, rfl, by decide⟩
  | 13, h => simp only [names, List.getElem?_cons_zero, List.getElem?_cons_succ, Option.some.injEq] at h; subst h; exact ⟨gl13, gt13, rfl, by decide⟩
  | n + 14, h => simp [names] at h
theorem etName : Tryz.prog.globalNamed "errors.errorType" = some 1 := by kernel_rfl
theorem rtOf : (Tryz.prog.cutTypes.find? (·.1 == "internal/reflectlite.rtype")).map (·.2) = some 190 := by kernel_rfl
theorem oneRow : ((List.range 239).filter fun t => Tryz.prog.rowNamed t [101, 114, 114, 111, 114]) = [41] := by kernel_rfl
theorem typesSize : Tryz.prog.types.size = 239 := by kernel_rfl
theorem handleIs : typeHandle Tryz.prog 41 = .pointer (some ⟨15, 41, none⟩) := by kernel_rfl

theorem bytes_of {s : ByteArray} {t : ByteArray} (h : s.data.toList = t.data.toList) : s = t := by
  cases s with
  | mk a => cases t with
    | mk b => simp only [Array.toList_inj] at h; rw [h]

/-- What the condition gives the walks. -/
theorem laid_of {W : World} (hl : laidMet Tryz.prog (names.map fun x => (x.1, sent x.2)) W) (hh : handlesMet Tryz.prog [("errors.errorType", .iface "internal/reflectlite.rtype" (.agg [.ptr (.lit (.string [101, 114, 114, 111, 114]))]))] W) : ∃ ad, Laid ad W := by
  obtain ⟨ps, hv, hnd, hrows⟩ := hl
  obtain ⟨ads, hlen, hsub, hall⟩ := sents_of names ps hv hrows (fun x hx => by
    obtain ⟨k, hk⟩ := List.getElem?_of_mem hx
    obtain ⟨h1, h2, _⟩ := glAll k x hk
    exact ⟨gix k, h1, h2⟩)
  have hnd' : (ads.map fun a => MemPlace.cell a.block a.off).Nodup := hnd.sublist hsub
  have hat : ∀ k, k < 14 → ∃ a x, names[k]? = some x ∧ ads[k]? = some a ∧ W.var? Tryz.prog x.1 = some #[.iface 205 (.pointer (some a))] ∧ (∃ s, W.cell? a = some (.string s) ∧ s.data.toList = x.2) ∧ ∃ c t, W.heap[a.block]? = some (.cells c t (0, 0)) := fun k hk => by
    have hx : names[k]? = some (names[k]'(by simpa [names] using hk)) := List.getElem?_eq_getElem _
    obtain ⟨a, h⟩ := hall k _ hx
    exact ⟨a, _, hx, h⟩
  refine ⟨fun k => ads.getD k ⟨0, 0, none⟩, ?_, ?_, ?_, ?_, ?_⟩
  · intro k hk
    obtain ⟨a, x, hx, ha, hvar, _⟩ := hat k hk
    have e : ads.getD k ⟨0, 0, none⟩ = a := by simp [List.getD, ha]
    show W.cell? ⟨gix k, 0, none⟩ = some (.iface 205 (.pointer (some (ads.getD k ⟨0, 0, none⟩))))
    rw [e]
    simpa using World.var?_cell (glAll k x hx).1 hvar 0
  · intro k hk
    obtain ⟨a, x, hx, ha, _, ⟨s, hs, ht⟩, _⟩ := hat k hk
    have e : ads.getD k ⟨0, 0, none⟩ = a := by simp [List.getD, ha]
    show W.cell? (ads.getD k ⟨0, 0, none⟩) = _
    rw [e, hs, bytes_of (ht.trans (glAll k x hx).2.2.1)]
  · intro j k hj hk hne heq
    obtain ⟨a, x, hx, ha, _⟩ := hat j hj
    obtain ⟨b, y, hy, hb, _⟩ := hat k hk
    have e1 : ads.getD j ⟨0, 0, none⟩ = a := by simp [List.getD, ha]
    have e2 : ads.getD k ⟨0, 0, none⟩ = b := by simp [List.getD, hb]
    have hab : a = b := by rw [← e1, ← e2]; exact heq
    subst hab
    have hi : (ads.map fun a => MemPlace.cell a.block a.off)[j]? = some (MemPlace.cell a.block a.off) := by simp [ha]
    have hk' : (ads.map fun a => MemPlace.cell a.block a.off)[k]? = some (MemPlace.cell a.block a.off) := by simp [hb]
    obtain ⟨l1, g1⟩ := List.getElem?_eq_some_iff.1 hi
    obtain ⟨l2, g2⟩ := List.getElem?_eq_some_iff.1 hk'
    rcases Nat.lt_or_gt_of_ne hne with h | h
    · exact (List.pairwise_iff_getElem.1 hnd' j k l1 l2 h) (g1.trans g2.symm)
    · exact (List.pairwise_iff_getElem.1 hnd' k j l2 l1 h) (g2.trans g1.symm)
  · intro k hk
    obtain ⟨a, x, hx, ha, _, _, hr⟩ := hat k hk
    have e : ads.getD k ⟨0, 0, none⟩ = a := by simp [List.getD, ha]
    show ∃ c t, W.heap[(ads.getD k ⟨0, 0, none⟩).block]? = _
    rw [e]; exact hr
  · obtain ⟨name, u, ty, e1, e2, e3, e4, e5⟩ := hh _ (List.mem_singleton.2 rfl)
    have en : name = [101, 114, 114, 111, 114] := (Option.some.inj e1).symm
    subst en
    obtain rfl := Option.some.inj (rtOf.symm.trans e2)
    have hm : ty ∈ (List.range 239).filter fun t => Tryz.prog.rowNamed t [101, 114, 114, 111, 114] := List.mem_filter.2 ⟨List.mem_range.2 (by rw [← typesSize]; exact e3), e4⟩
    rw [oneRow] at hm
    obtain rfl := List.mem_singleton.1 hm
    rw [handleIs] at e5
    simpa using World.var?_cell etName e5 0
end Go.Proofs.YtpkblfhkblllhaaGreatDoor
namespace Go.Proofs.YtpkblfhkblllhaaGreatDoor
open Go.RowKit Go.Extern.Stop Go.Stop Go.Extern
set_option maxRecDepth 100000

theorem bal {w w' : World} (h : Below w.heap.size w w') (o : Obj) : Below w.heap.size w (w'.alloc o) := h.alloc h.size o
theorem bgoE {w w1 w2 : World} (h : Below w.heap.size w w1) (k : Below w1.heap.size w1 w2) : Below w.heap.size w w2 := h.trans (k.mono h.size)

theorem et_alloc {w : World} {o : Obj} {v : Value} (h : w.cell? ⟨1, 0, none⟩ = some v) : (w.alloc o).cell? ⟨1, 0, none⟩ = some v := by
  rw [World.cell?_alloc_lt _ _ ⟨1, 0, none⟩ (lt_of_cell h)]; exact h

theorem asFault_nil (w : World) :
    Calls Tryz.prog 52 #[.nilIface] w fun e w' => e = .returned (.pointer none) ∧ Below w.heap.size w w' := by
  go_enter Tryz.func52, Tryz.ntmps52
  go_wp2_with (go_at_call 77; refine (unwrap_nil _).mono ?_; rintro e w' ⟨rfl, rfl⟩)
  go_ret
  exact ⟨rfl, below_oneE _ _⟩

theorem asFault_s (v : Value) (w : World) :
    Calls Tryz.prog 52 #[.iface 205 v] w fun e w' => e = .returned (.pointer none) ∧ Below w.heap.size w w' := by
  go_enter Tryz.func52, Tryz.ntmps52
  go_wp2_with (go_at_call 77; refine (unwrap_s _ _).mono ?_; rintro e w' ⟨rfl, rfl⟩)
  go_ret
  exact ⟨rfl, below_oneE _ _⟩

theorem asFault_m (v : Value) (w : World) :
    Calls Tryz.prog 52 #[.iface 107 v] w fun e w' => e = .returned (.pointer none) ∧ Below w.heap.size w w' := by
  go_enter Tryz.func52, Tryz.ntmps52
  go_wp2_with (go_at_call 77; refine (unwrap_m _ _).mono ?_; rintro e w' ⟨rfl, rfl⟩)
  go_ret
  exact ⟨rfl, below_oneE _ _⟩

set_option maxHeartbeats 400000 in
theorem asFault_f (b : Nat) (t : TypeId) (v : Value) (w : World) (hv : w.cell? ⟨b, 3, none⟩ = some (.iface t v))
    (hg : w.cell? ⟨1, 0, none⟩ = some (.iface 190 (.agg #[.pointer (some ⟨15, 41, none⟩)]))) :
    Calls Tryz.prog 52 #[.iface 98 (.pointer (some ⟨b, 0, none⟩))] w fun e w' => e = .returned (.pointer (some ⟨b, 0, none⟩)) ∧ Below w.heap.size w w' := by
  have hv2 : (w.alloc (.cells #[.pointer none] 98)).cell? ⟨b, 3, none⟩ = some (.iface t v) := by
    rw [World.cell?_alloc_lt _ _ ⟨b, 3, none⟩ (lt_of_cell hv)]; exact hv
  have hg2 := et_alloc (o := .cells #[.pointer none] 98) hg
  have ht2 : (w.alloc (.cells #[.pointer none] 98)).cell? ⟨w.heap.size, 0, none⟩ = some (.pointer none) := by simp
  have hf2 : (w.alloc (.cells #[.pointer none] 98)).frozen? ⟨w.heap.size, 0, none⟩ = false := by simp
  go_enter Tryz.func52, Tryz.ntmps52
  go_wp2_with (first | (go_at_call 77; refine (unwrap_f b _ _ hv2).mono ?_; rintro e w' ⟨rfl, rfl⟩) | (go_at_call 78; refine (as_hitFault _ _ (.pointer none) _ hg2 ht2 hf2).mono ?_; rintro e w' ⟨rfl, rfl⟩))
  go_ret
  refine ⟨rfl, ?_⟩
  exact bal (bal (bal (bal (below_oneE _ _) _) _) _) _

theorem asMany_nil (w : World) :
    Calls Tryz.prog 53 #[.nilIface] w fun e w' => e = .returned (.pointer none) ∧ Below w.heap.size w w' := by
  go_enter Tryz.func53, Tryz.ntmps53
  go_wp2_with (first | (go_at_call 77; refine (unwrap_nil _).mono ?_; rintro e w' ⟨rfl, rfl⟩) | (go_at_call 78; refine (as_nil _ _).mono ?_; rintro e w' ⟨rfl, rfl⟩))
  go_ret
  exact ⟨rfl, below_oneE _ _⟩

theorem asMany_f (b : Nat) (t : TypeId) (v : Value) (w : World) (hv : w.cell? ⟨b, 3, none⟩ = some (.iface t v)) :
    Calls Tryz.prog 53 #[.iface 98 (.pointer (some ⟨b, 0, none⟩))] w fun e w' => e = .returned (.pointer none) ∧ Below w.heap.size w w' := by
  have hv2 : (w.alloc (.cells #[.pointer none] 107)).cell? ⟨b, 3, none⟩ = some (.iface t v) := by
    rw [World.cell?_alloc_lt _ _ ⟨b, 3, none⟩ (lt_of_cell hv)]; exact hv
  go_enter Tryz.func53, Tryz.ntmps53
  go_wp2_with (go_at_call 77; refine (unwrap_f b _ _ hv2).mono ?_; rintro e w' ⟨rfl, rfl⟩)
  go_ret
  exact ⟨rfl, below_oneE _ _⟩

set_option maxHeartbeats 400000 in
theorem asMany_s (v : Value) (w : World)
    (hg : w.cell? ⟨1, 0, none⟩ = some (.iface 190 (.agg #[.pointer (some ⟨15, 41, none⟩)]))) :
    Calls Tryz.prog 53 #[.iface 205 v] w fun e w' => e = .returned (.pointer none) ∧ Below w.heap.size w w' := by
  have hg2 := et_alloc (o := .cells #[.pointer none] 107) hg
  go_enter Tryz.func53, Tryz.ntmps53
  go_wp2_with (first | (go_at_call 77; refine (unwrap_s _ _).mono ?_; rintro e w' ⟨rfl, rfl⟩) | (go_at_call 78; refine (as_missMany _ _ _ hg2).mono ?_; rintro e w' ⟨rfl, rfl⟩))
  go_ret
  exact ⟨rfl, bal (bal (bal (below_oneE _ _) _) _) _⟩

set_option maxHeartbeats 400000 in
theorem asMany_m (a : Addr) (w : World)
    (hg : w.cell? ⟨1, 0, none⟩ = some (.iface 190 (.agg #[.pointer (some ⟨15, 41, none⟩)]))) :
    Calls Tryz.prog 53 #[.iface 107 (.pointer (some a))] w fun e w' => e = .returned (.pointer (some a)) ∧ Below w.heap.size w w' := by
  have hg2 := et_alloc (o := .cells #[.pointer none] 107) hg
  have ht2 : (w.alloc (.cells #[.pointer none] 107)).cell? ⟨w.heap.size, 0, none⟩ = some (.pointer none) := by simp
  have hf2 : (w.alloc (.cells #[.pointer none] 107)).frozen? ⟨w.heap.size, 0, none⟩ = false := by simp
  go_enter Tryz.func53, Tryz.ntmps53
  go_wp2_with (first | (go_at_call 77; refine (unwrap_m _ _).mono ?_; rintro e w' ⟨rfl, rfl⟩) | (go_at_call 78; refine (as_hitMany _ _ (.pointer none) _ hg2 ht2 hf2).mono ?_; rintro e w' ⟨rfl, rfl⟩))
  go_ret
  exact ⟨rfl, bal (bal (bal (bal (below_oneE _ _) _) _) _) _⟩

/-- errors.Is of two reasons. -/
theorem is_rsn {ad : Nat → Addr} {w : World} (L : Laid ad w) (j k : Nat) (hj : j < 14) (hk : k < 14) :
    Calls Tryz.prog 116 #[.iface 205 (.pointer (some (ad j))), .iface 205 (.pointer (some (ad k)))] w fun e w' => e = .returned (.bool (decide (j = k))) ∧ w' = w := by
  by_cases h : j = k
  · subst h
    simpa using is_same (ad j) w
  · obtain ⟨c1, t1, h1⟩ := L.row j hj
    obtain ⟨c2, t2, h2⟩ := L.row k hk
    simpa [h] using is_other (ad j) (ad k) c1 c2 t1 t2 w (L.ne j k hj hk h) h1 h2

/-- fault.number of a reason: its place and one; of ErrOther 0. -/
def numb (k : Nat) : Int := if k < 13 then (k : Int) + 1 else 0

set_option maxHeartbeats 1000000 in
theorem number_rsn {ad : Nat → Addr} {w : World} (L : Laid ad w) (k : Nat) (hk : k < 14) :
    Calls Tryz.prog 99 #[.iface 205 (.pointer (some (ad k)))] w fun e w' => e = .returned (.int .i64 (numb k)) ∧ Below w.heap.size w w' := by
  go_enter Tryz.func99, Tryz.ntmps99
  go_wp2
  go_loopw [3] (fun i wr => ∃ j : Nat, i = .int .i64 ((j : Int) + 1) ∧ j ≤ k ∧ Below w.heap.size w wr) (fun i _ => 14 - (intOf i).toNat)
  case atStart => exact ⟨0, rfl, Nat.zero_le _, Below.refl _ _⟩
  case round =>
    obtain ⟨j, rfl, hjk, hb⟩ := hrel
    have L1 := L.below hb
    by_cases h13 : j < 13
    · by_cases he : k = j
      · subst he
        go_wp2_with (first | (go_at_call 117; refine (named_ok L1 k h13).mono ?_; rintro e w1 ⟨rfl, hb1⟩) | (go_at_call 116; refine (is_same _ _).mono ?_; rintro e w2 ⟨rfl, rfl⟩))
        go_ret
        exact ⟨by simp [numb, h13], bgoE hb hb1⟩
      · have hkj : decide (k = j) = false := by simpa using he
        go_wp2_with (first | (go_at_call 117; refine (named_ok L1 j h13).mono ?_; rintro e w1 ⟨rfl, hb1⟩) | (go_at_call 116; refine (is_rsn (L1.below hb1) k j hk (by omega)).mono ?_; rintro e w2 ⟨rfl, rfl⟩))
        go_roundw
        case rel => exact ⟨j + 1, by go_num, by omega, bgoE hb hb1⟩
        case measure => simp [intOf]; omega
    · go_wp2
      go_ret
      exact ⟨by simp [numb]; omega, hb⟩

theorem number_yes {ad : Nat → Addr} {w : World} (L : Laid ad w) (k : Nat) (hk : k < 13) :
    Calls Tryz.prog 99 #[.iface 205 (.pointer (some (ad k)))] w fun e w' => e = .returned (.int .i64 ((k : Int) + 1)) ∧ Below w.heap.size w w' := by
  simpa [numb, hk] using number_rsn L k (by omega)

theorem number_other {ad : Nat → Addr} {w : World} (L : Laid ad w) :
    Calls Tryz.prog 99 #[.iface 205 (.pointer (some (ad 13)))] w fun e w' => e = .returned (.int .i64 0) ∧ Below w.heap.size w w' := by
  simpa [numb] using number_rsn L 13 (by omega)

set_option maxHeartbeats 1000000 in
theorem number_nil {ad : Nat → Addr} {w : World} (L : Laid ad w) :
    Calls Tryz.prog 99 #[.nilIface] w fun e w' => e = .returned (.int .i64 0) ∧ Below w.heap.size w w' := by
  go_enter Tryz.func99, Tryz.ntmps99
  go_wp2
  go_loopw [3] (fun i wr => ∃ j : Nat, i = .int .i64 ((j : Int) + 1) ∧ Below w.heap.size w wr) (fun i _ => 14 - (intOf i).toNat)
  case atStart => exact ⟨0, rfl, Below.refl _ _⟩
  case round =>
    obtain ⟨j, rfl, hb⟩ := hrel
    have L1 := L.below hb
    by_cases h13 : j < 13
    · go_wp2_with (first | (go_at_call 117; refine (named_ok L1 j h13).mono ?_; rintro e w1 ⟨rfl, hb1⟩) | (go_at_call 116; refine (is_nil _ _).mono ?_; rintro e w2 ⟨rfl, rfl⟩))
      go_roundw
      case rel => exact ⟨j + 1, by go_num, bgoE hb hb1⟩
      case measure => simp [intOf]; omega
    · go_wp2
      go_ret
      exact ⟨rfl, hb⟩
end Go.Proofs.YtpkblfhkblllhaaGreatDoor
namespace Go.Proofs.YtpkblfhkblllhaaGreatDoor
open Go.RowKit Go.Extern.Stop Go.Stop Go.Extern
set_option maxRecDepth 100000

/-- An error: none, the reason at a place, a Fault in its block, a Many in its block with its list's block. -/
inductive ErrT where
  | none
  | rsn (k : Nat)
  | fault (b : Nat) (la ca : ByteArray) (at_ : Int) (why : ErrT)
  | many (b g cap : Nat) (kids : List ErrT)

/-- The error as a value. -/
def val (ad : Nat → Addr) : ErrT → Value
  | .none => .nilIface
  | .rsn k => .iface 205 (.pointer (some (ad k)))
  | .fault b _ _ _ _ => .iface 98 (.pointer (some ⟨b, 0, none⟩))
  | .many b _ _ _ => .iface 107 (.pointer (some ⟨b, 0, none⟩))

/-- What stands at the end of a row of Faults. -/
def leaf : ErrT → ErrT
  | .fault _ _ _ _ why => leaf why
  | e => e

/-- How many Faults stand ahead of it. -/
def deep : ErrT → Nat
  | .fault _ _ _ _ why => deep why + 1
  | _ => 0

/-- The Faults of the row lie in memory below block m, and none wraps nil. -/
def Spine (ad : Nat → Addr) (m : Nat) (w : World) : ErrT → Prop
  | .fault b la ca at_ why => b < m ∧ w.heap[b]? = some (.cells #[.string la, .string ca, .int .i64 at_, val ad why] 111 (0, 0)) ∧ why ≠ .none ∧ Spine ad m w why
  | .rsn k => k < 14
  | _ => True

theorem Spine.below {ad : Nat → Addr} {m : Nat} {w w' : World} (hb : Below m w w') : ∀ {e : ErrT}, Spine ad m w e → Spine ad m w' e
  | .fault _ _ _ _ _, h => ⟨h.1, by rw [hb.block _ h.1]; exact h.2.1, h.2.2.1, Spine.below hb h.2.2.2⟩
  | .rsn _, h => h
  | .none, _ => trivial
  | .many _ _ _ _, _ => trivial

theorem cell_of_heap {w : World} {b : Nat} {cs : Array Value} {t : TypeId} (h : w.heap[b]? = some (.cells cs t (0, 0))) (i : Nat) : w.cell? ⟨b, i, none⟩ = cs[i]? := cell_of_row w b i cs t (0, 0) h
theorem frozen_of_heap {w : World} {b : Nat} {cs : Array Value} {t : TypeId} (h : w.heap[b]? = some (.cells cs t (0, 0))) (i : Nat) : w.frozen? ⟨b, i, none⟩ = false := by simp [World.frozen?, h]

theorem val_iface (ad : Nat → Addr) {e : ErrT} (h : e ≠ .none) : ∃ t v, val ad e = .iface t v := by
  cases e with
  | none => exact absurd rfl h
  | rsn k => exact ⟨_, _, rfl⟩
  | fault b la ca a y => exact ⟨_, _, rfl⟩
  | many b g c k => exact ⟨_, _, rfl⟩

/-- fault.asFault of a tree. -/
def faultOf : ErrT → Value
  | .fault b _ _ _ _ => .pointer (some ⟨b, 0, none⟩)
  | _ => .pointer none

theorem faultOf_fault (b : Nat) (la ca : ByteArray) (a : Int) (y : ErrT) : faultOf (.fault b la ca a y) = .pointer (some ⟨b, 0, none⟩) := rfl
theorem faultOf_none : faultOf .none = .pointer none := rfl
theorem faultOf_rsn (k : Nat) : faultOf (.rsn k) = .pointer none := rfl
theorem faultOf_many (b g c : Nat) (l : List ErrT) : faultOf (.many b g c l) = .pointer none := rfl
theorem val_none (ad : Nat → Addr) : val ad .none = .nilIface := rfl
theorem val_rsn (ad : Nat → Addr) (k : Nat) : val ad (.rsn k) = .iface 205 (.pointer (some (ad k))) := rfl
theorem val_fault (ad : Nat → Addr) (b : Nat) (la ca : ByteArray) (a : Int) (y : ErrT) : val ad (.fault b la ca a y) = .iface 98 (.pointer (some ⟨b, 0, none⟩)) := rfl
theorem val_many (ad : Nat → Addr) (b g c : Nat) (l : List ErrT) : val ad (.many b g c l) = .iface 107 (.pointer (some ⟨b, 0, none⟩)) := rfl

theorem asFault_any {ad : Nat → Addr} {w : World} {m : Nat} (L : Laid ad w) (e : ErrT) (h : Spine ad m w e) :
    Calls Tryz.prog 52 #[val ad e] w fun ev w' => ev = .returned (faultOf e) ∧ Below w.heap.size w w' := by
  cases e with
  | none => exact asFault_nil w
  | rsn k => exact asFault_s _ w
  | many b g c k => exact asFault_m _ w
  | fault b la ca at_ why =>
    obtain ⟨t, v, hv⟩ := val_iface ad h.2.2.1
    exact asFault_f b t v w (by rw [cell_of_heap h.2.1, hv]; rfl) L.et

/-- The tour in block T, its codes in a row of its own, its map in block m. -/
structure TourAt (T m : Nat) (w : World) (again : Bool) (first codes : Value) (xs : List Int) : Prop where
  lies : w.heap[T]? = some (.cells #[.bool again, first, codes, .map (some m)] 101 (0, 0))
  own : w.ownsRow (T + 1) 3 1 codes xs.length (xs.map (Value.int .i64 ·))

theorem TourAt.lt {T m : Nat} {w : World} {again : Bool} {first codes : Value} {xs : List Int} (h : TourAt T m w again first codes xs) : T < w.heap.size := (Array.getElem?_eq_some_iff.1 h.lies).1

theorem TourAt.below {T m : Nat} {w w' : World} {again : Bool} {first codes : Value} {xs : List Int} (h : TourAt T m w again first codes xs) (hb : Below w.heap.size w w') : TourAt T m w' again first codes xs where
  lies := by rw [hb.block _ h.lt]; exact h.lies
  own := h.own.kept (row := none) ⟨hb.os, hb.tape, hb.output, hb.size, fun k hk _ => hb.block k hk⟩ (by cases hv : codes.ownBlock <;> simp)

/-- t.first = f. -/
theorem TourAt.first {T m : Nat} {w : World} {again : Bool} {first codes : Value} {xs : List Int} (h : TourAt T m w again first codes xs) (p : Value) : TourAt T m (w.setCell ⟨T, 1, none⟩ p) again p codes xs where
  lies := by rw [setCell_eq_setRow w T 1 _ _ _ p h.lies, setRow_heap w T _ _ _ _ h.lies]; rfl
  own := ownsRow_setCell_below h.own (Nat.lt_succ_self T) p

theorem TourAt.codes {T m : Nat} {w w' : World} {again : Bool} {first codes codes' : Value} {xs ys : List Int} (h : TourAt T m w again first codes xs) (hg : w.grownBy w' codes.ownBlock)
    (ho : w'.ownsRow (T + 1) 3 1 codes' ys.length (ys.map (Value.int .i64 ·))) : TourAt T m (w'.setCell ⟨T, 2, none⟩ codes') again first codes' ys where
  lies := by
    have hT : w'.heap[T]? = some (.cells #[.bool again, first, codes, .map (some m)] 101 (0, 0)) := by
      rw [hg.block T h.lt (fun e => by have := (h.own.lt T e.symm).1; omega)]; exact h.lies
    rw [setCell_eq_setRow w' T 2 _ _ _ codes' hT, setRow_heap w' T _ _ _ _ hT]; rfl
  own := ownsRow_setCell_below ho (Nat.lt_succ_self T) codes'

mutual
/-- P1.4: the numbers of the reasons, in order. -/
def cds : ErrT → List Int
  | .none => []
  | .rsn k => if k < 13 then [(k : Int) + 1] else []
  | .fault _ _ _ _ why => cds why
  | .many _ _ _ kids => cdsL kids
def cdsL : List ErrT → List Int
  | [] => []
  | e :: r => cds e ++ cdsL r
end
mutual
/-- P1.5: the block of the first Fault. -/
def fst : ErrT → Option Nat
  | .none => Option.none
  | .rsn _ => Option.none
  | .fault b _ _ _ _ => some b
  | .many _ _ _ kids => fstL kids
def fstL : List ErrT → Option Nat
  | [] => Option.none
  | e :: r => (fst e).or (fstL r)
end
mutual
/-- The blocks of the Manys, the last that is done first. -/
def mns : ErrT → List Nat
  | .none => []
  | .rsn _ => []
  | .fault _ _ _ _ why => mns why
  | .many b _ _ kids => b :: mnsL kids
def mnsL : List ErrT → List Nat
  | [] => []
  | e :: r => mnsL r ++ mns e
end

/-- A block as a pointer. -/
def fp : Option Nat → Value
  | Option.none => .pointer none
  | some b => .pointer (some ⟨b, 0, none⟩)

theorem faultOf_fp (e : ErrT) (h : deep e = 0) : faultOf e = .pointer none := by
  cases e <;> simp_all [faultOf, deep]

/-- All that the listed variables are lies below block m. -/
structure LaidB (ad : Nat → Addr) (m : Nat) (w : World) : Prop where
  laid : Laid ad w
  g : 15 ≤ m
  a : ∀ k, k < 14 → (ad k).block < m

theorem LaidB.below {ad : Nat → Addr} {m : Nat} {w w' : World} (h : LaidB ad m w) (hb : Below m w w') : LaidB ad m w' where
  laid := {
    var := fun k hk => by rw [hb.cell (p := ⟨gix k, 0, Option.none⟩) (by have := h.g; have := gix_lt k hk; show gix k < m; omega)]; exact h.laid.var k hk
    str := fun k hk => by rw [hb.cell (h.a k hk)]; exact h.laid.str k hk
    ne := h.laid.ne
    row := fun k hk => by rw [hb.block _ (h.a k hk)]; exact h.laid.row k hk
    et := by rw [hb.cell (p := ⟨1, 0, Option.none⟩) (Nat.lt_of_lt_of_le (by decide) h.g)]; exact h.laid.et }
  g := h.g
  a := h.a
end Go.Proofs.YtpkblfhkblllhaaGreatDoor
