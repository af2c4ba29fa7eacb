/-
  Proved: for any list of asks, at every start in which the listed variables hold what the program's text lays in them, barrowlaw03.ClockTicks returns true, and what was there is as it was: Tick is the document's, its refusals too; Has is the document's; a tick comes after, and lags by one (P3.2). The tie of the listed variables is the given one: it speaks of the pruned copy that the translation was made of.
-/
import Derived.Test.YtceahohcmhbkmaaDoorRows
import Derived.Test.YtceahohcmhbkmaaDoorTie
import Derived.Test.YtceahohcmhbkmaaDoorCards
import Derived.Test.YtceahohcmhbkmaaDoorCkTicksNil
import Derived.Test.YtceahohcmhbkmaaDoorOpen
import Derived.Carry
import Derived.SevenTiedAt
import Derived.OpenShut
namespace Go.Proofs.YtceahohcmhbkmaaDoor
open Go.ChangeShapes Go.WideShapes Go.ChangeAt Go.RowKit
set_option maxRecDepth 100000

theorem ticksC_knob : ownKnob Tryd.prog.godebug = none := by kernel_rfl
theorem ticksC_laidOut : laidOutB Tryd.prog = true := by kernel_rfl

theorem ticksC_laid {W : World} (h : laidMetH Tryd.prog Rows.clockTicksRow.laid W) : ∃ ad, Laid ad W := by
  have h' : laidMet Tryd.prog (names.map fun x => (x.1, sent x.2)) W ∧ handlesMet Tryd.prog [("errors.errorType", .iface "internal/reflectlite.rtype" (.agg [.ptr (.lit (.string [101, 114, 114, 111, 114]))]))] W := h
  exact laid_of h'.1 h'.2

theorem ticksC_door (os : Os) (args : Array Value) : laidMetH Tryd.prog Rows.clockTicksRow.laid ((World.doorLaid Tryd.prog 282 os).forCall (fun _ _ => 0) ⟨#[], args, []⟩).memory :=
  laidMetH_of_parts3 (fuel := 8) (laidMet_of_run' 8 (by kernel_rfl) (by kernel_rfl)) (by kernel_rfl) (by kernel_rfl)

theorem ticksC_lifted (os : Os) (started : os.Started) (H : Type) (enc : TypeId × Value → H) :
    ReturnsInHanded {} Tryd.checked os 4 .any (fun w args => (Rows.clockTicksSpec.pre enc Tryd.prog Tryd.f4 [] false w args ∧ laidMetH Tryd.prog Rows.clockTicksRow.laid w) ∧ sizedMet enc Tryd.prog Tryd.f4 (OpenSpec.ofChange Rows.clockTicksSpec) false w args)
      (Rows.clockTicksSpec.post enc Tryd.prog Tryd.f4 false true false false) := by
  refine returnsInHanded_of_change_and (C := Tryd.checked) (X := fun w _ => laidMetH Tryd.prog Rows.clockTicksRow.laid w) (fun _ _ _ hh h => h.of_heap hh) ticksC_knob started (by kernel_rfl) Tryd.func4
    (ChangeSpec.witness_shaped (enc := enc) (C := Tryd.checked) (os := os) (X := fun w _ => laidMetH Tryd.prog Rows.clockTicksRow.laid w) false (World.doorLaid Tryd.prog 282 os) #[.slice none 0 0] 8 rfl (World.shaped_of_RefB (by kernel_rfl) (by kernel_rfl)) (by kernel_rfl) (by kernel_rfl) (by kernel_rfl) (ticksC_door os _)) ?_
  intro W base args ds gs before hval0 hW _ _ hL _
  have hval : ∀ (j : Nat) t v, Tryd.f4.params[j]? = some t → args[j]? = some v → Value.okWide Tryd.prog W .any base t v := hval0
  have hW' := hW
  obtain ⟨p, q, hA0, hV, rfl, hfz, hnd⟩ := hW
  have hA : DataW.TrodAll enc Tryd.prog W 0 (fun _ => true) true Tryd.f4.params.toList args.toList ds p := hA0
  rw [Tryd.params4] at hA hval
  obtain ⟨v1, d1, rfl, rfl, h1⟩ := trodAll_one hA
  obtain ⟨rfl, rfl⟩ := trodVars_none hV
  obtain ⟨l, hsl⟩ := open_asks (hval 0 28 v1 rfl rfl) h1
  obtain ⟨ad, L⟩ := ticksC_laid hL
  clear hA0 hval0
  simp only [List.append_nil] at hW'
  have hlt1 : ∀ x ∈ p, x.block < W.heap.size := fun x hx => by simpa using hW'.lt x hx
  refine (ticksC_all v1 l W L hsl).mono fun e W' ⟨he, hb⟩ => ?_
  subst he
  have e1 : Rows.clockTicksSpec.fn H ([d1] ++ []) = { results := [.lit (.bool true)], args := [d1] } := by simp [Rows.clockTicksSpec]
  refine ⟨_, rfl, _, _, _, [], p, [], hW', ?_, ?_, ?_, hb.frame _, fun h => by cases h⟩
  · rw [e1]; exact trodAll_mk1 (shut_bool Tryd.underlying4 true)
  · rw [e1]; exact trodAll_mk1 (Below.trod ticksC_laidOut (by kernel_rfl) (of_decide_eq_true (by kernel_rfl)) h1 hb hlt1)
  · rw [e1]; rfl

theorem ticksC_holds : Rows.ClockTicksSaid :=
  OpenClaim.holds_of_wide 4 Tryd.f4 rfl rfl rfl rfl rfl rfl rfl ⟨rfl, rfl, rfl, rfl, rfl⟩ rfl rfl rfl rfl rfl (by kernel_rfl) Tryd.func4 (by kernel_rfl)
    (of_decide_eq_true (by kernel_rfl)) (by unfold Func.isWrapper; rw [if_neg (of_decide_eq_false (by kernel_rfl))]; exact ⟨rfl, rfl⟩)
    (fun os started H enc _ => ticksC_lifted os started H enc)

theorem ticksC_card : Rows.ClockTicksCardSaid :=
  Claim7.holds_tied_plain_at .later [] _ _ _ _
    ticksC_holds (fun _ h => by cases h) (by kernel_rfl) (fun _ h => by cases h) clockTicks_row_tie rfl ⟨rfl, rfl⟩ (by kernel_rfl) rfl
    (fun f fn hf hfn => by
      obtain rfl : f = 4 := Option.some.inj ((show Tryd.prog.funcNamed "barrow/barrowlaw03.ClockTicks" = some 4 by kernel_rfl).symm.trans hf) |>.symm
      obtain rfl : fn = Tryd.f4 := (Option.some.inj (Tryd.func4.symm.trans hfn)).symm
      exact ⟨by kernel_rfl, fun j t ht => by
        rw [Tryd.params4] at ht
        have hm : t ∈ [28] := by simpa using Array.mem_of_getElem? ht
        have hall : ([28].all fun u => !Tryd.prog.wantsStandIn u) = true := by kernel_rfl
        exact (show Tryd.prog.wantsStandIn t = false by simpa using List.all_eq_true.1 hall t hm)⟩)
    (by kernel_rfl)
#print axioms ticksC_card
end Go.Proofs.YtceahohcmhbkmaaDoor
