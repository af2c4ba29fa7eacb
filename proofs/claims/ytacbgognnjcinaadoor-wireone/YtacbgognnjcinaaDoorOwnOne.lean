/-
  Proved: for any bytes and any row of calls, at every start in which the listed variables hold what the program's text lays in them, barrowlaw02.WireOne returns true, and what was there is as it was: a Writer that is told what the calls read holds just the bytes that were read (P2.7). The tie of the listed variables is the given one: it speaks of the pruned copy that the translation was made of.
-/
import Derived.Test.YtacbgognnjcinaaDoorRows
import Derived.Test.YtacbgognnjcinaaDoorTie
import Derived.Test.YtacbgognnjcinaaDoorCards
import Derived.Test.YtacbgognnjcinaaDoorOpenW
import Derived.Test.YtacbgognnjcinaaDoorOpenA
import Derived.Test.YtacbgognnjcinaaDoorOne
import Derived.Carry
import Derived.SevenTiedAt
import Derived.OpenShut
namespace Go.Proofs.YtacbgognnjcinaaDoor
open Go.ChangeShapes Go.WideShapes Go.ChangeAt Go.RowKit
set_option maxRecDepth 100000

theorem one_knob : ownKnob Tryd.prog.godebug = none := by kernel_rfl
theorem one_laidOut : laidOutB Tryd.prog = true := by kernel_rfl

theorem one_laid {W : World} (h : laidMetH Tryd.prog Rows.wireOneRow.laid W) : ∃ ad, Lw ad W := by
  have h' : laidMet Tryd.prog (names4.map fun x => (x.1, sent x.2)) W := h
  exact lw_of h'

theorem one_door (os : Os) (args : Array Value) : laidMetH Tryd.prog Rows.wireOneRow.laid ((World.doorLaid Tryd.prog 282 os).forCall (fun _ _ => 0) ⟨#[], args, []⟩).memory :=
  laidMetH_of_parts3 (fuel := 8) (laidMet_of_run' 8 (by kernel_rfl) (by kernel_rfl)) (by kernel_rfl) (by kernel_rfl)

theorem one_lifted (os : Os) (started : os.Started) (H : Type) (enc : TypeId × Value → H) :
    ReturnsInHanded {} Tryd.checked os 7 .any (fun w args => (Rows.wireOneSpec.pre enc Tryd.prog Tryd.f7 [] false w args ∧ laidMetH Tryd.prog Rows.wireOneRow.laid w) ∧ sizedMet enc Tryd.prog Tryd.f7 (OpenSpec.ofChange Rows.wireOneSpec) false w args)
      (Rows.wireOneSpec.post enc Tryd.prog Tryd.f7 false true false false) := by
  refine returnsInHanded_of_change_and (C := Tryd.checked) (X := fun w _ => laidMetH Tryd.prog Rows.wireOneRow.laid w) (fun _ _ _ hh h => h.of_heap hh) one_knob started (by kernel_rfl) Tryd.func7
    (ChangeSpec.witness_shaped (enc := enc) (C := Tryd.checked) (os := os) (X := fun w _ => laidMetH Tryd.prog Rows.wireOneRow.laid w) false (World.doorLaid Tryd.prog 282 os) #[.slice none 0 0, .slice none 0 0] 8 rfl (World.shaped_of_RefB (by kernel_rfl) (by kernel_rfl)) (by kernel_rfl) (by kernel_rfl) (by kernel_rfl) (one_door os _)) ?_
  intro W base args ds gs before hval0 hW _ _ hL _
  have hval : ∀ (j : Nat) t v, Tryd.f7.params[j]? = some t → args[j]? = some v → Value.okWide Tryd.prog W .any base t v := hval0
  have hW' := hW
  obtain ⟨p, q, hA0, hV, rfl, hfz, hnd⟩ := hW
  have hA : DataW.TrodAll enc Tryd.prog W 0 (fun _ => true) true Tryd.f7.params.toList args.toList ds p := hA0
  rw [Tryd.params7] at hA hval
  obtain ⟨v0, v1, d0, d1, p0, p1, rfl, rfl, rfl, h0, h1⟩ := trodAll_two hA
  obtain ⟨rfl, rfl⟩ := trodVars_none hV
  obtain ⟨bs, hbs, hbc⟩ := open_raw (hval 0 25 v0 rfl rfl) h0
  obtain ⟨cl, hcl⟩ := open_calls (hval 1 49 v1 rfl rfl) h1
  obtain ⟨ad, L⟩ := one_laid hL
  clear hA0 hval0
  simp only [List.append_nil] at hW'
  have hlt0 : ∀ x ∈ p0, x.block < W.heap.size := fun x hx => by simpa using hW'.lt x (List.mem_append_left _ hx)
  have hlt1 : ∀ x ∈ p1, x.block < W.heap.size := fun x hx => by simpa using hW'.lt x (List.mem_append_right _ hx)
  refine (one_ok L v0 v1 bs cl hbs hbc hcl).mono fun e W' ⟨he, hb⟩ => ?_
  subst he
  have e1 : Rows.wireOneSpec.fn H ([d0, d1] ++ []) = { results := [.lit (.bool true)], args := [d0, d1] } := by simp [Rows.wireOneSpec]
  refine ⟨_, rfl, _, _, _, [], p0 ++ p1, [], hW', ?_, ?_, ?_, hb.frame _, fun h => by cases h⟩
  · rw [e1]; exact trodAll_mk1 (shut_bool Tryd.underlying4 true)
  · rw [e1]; exact trodAll_mk2 (Below.trod one_laidOut (by kernel_rfl) (of_decide_eq_true (by kernel_rfl)) h0 hb hlt0) (Below.trod one_laidOut (by kernel_rfl) (of_decide_eq_true (by kernel_rfl)) h1 hb hlt1)
  · rw [e1]; rfl

theorem one_holds : Rows.WireOneSaid :=
  OpenClaim.holds_of_wide 7 Tryd.f7 rfl rfl rfl rfl rfl rfl rfl ⟨rfl, rfl, rfl, rfl, rfl⟩ rfl rfl rfl rfl rfl (by kernel_rfl) Tryd.func7 (by kernel_rfl)
    (of_decide_eq_true (by kernel_rfl)) (by unfold Func.isWrapper; rw [if_neg (of_decide_eq_false (by kernel_rfl))]; exact ⟨rfl, rfl⟩)
    (fun os started H enc _ => one_lifted os started H enc)

theorem one_card : Rows.WireOneCardSaid :=
  Claim7.holds_tied_plain_at .later [] _ _ _ _
    one_holds (fun _ h => by cases h) (by kernel_rfl) (fun _ h => by cases h) wireOne_row_tie rfl ⟨rfl, rfl⟩ (by kernel_rfl) rfl
    (fun f fn hf hfn => by
      obtain rfl : f = 7 := Option.some.inj ((show Tryd.prog.funcNamed "barrow/barrowlaw02.WireOne" = some 7 by kernel_rfl).symm.trans hf) |>.symm
      obtain rfl : fn = Tryd.f7 := (Option.some.inj (Tryd.func7.symm.trans hfn)).symm
      exact ⟨by kernel_rfl, fun j t ht => by
        rw [Tryd.params7] at ht
        have hm : t ∈ [25, 49] := by simpa using Array.mem_of_getElem? ht
        have hall : ([25, 49].all fun u => !Tryd.prog.wantsStandIn u) = true := by kernel_rfl
        exact (show Tryd.prog.wantsStandIn t = false by simpa using List.all_eq_true.1 hall t hm)⟩)
    (by kernel_rfl)
#print axioms one_card
end Go.Proofs.YtacbgognnjcinaaDoor
