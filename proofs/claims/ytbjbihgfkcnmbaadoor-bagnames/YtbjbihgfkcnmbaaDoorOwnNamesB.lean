
/-
  Proved: barrowlaw10.BagNames returns true, and what was there is as it was: the limit is the document's. Conditions: at every start in which the listed variables hold what the program's text lays in them. The tie of the listed variables is the given one: it speaks of the pruned copy that the translation was made of.
-/
import Derived.Test.YtbjbihgfkcnmbaaDoorRows
import Derived.Test.YtbjbihgfkcnmbaaDoorTie
import Derived.Test.YtbjbihgfkcnmbaaDoorCards
import Derived.Test.YtbjbihgfkcnmbaaDoorOpen
import Derived.Test.YtbjbihgfkcnmbaaDoorBn
import Derived.LaidMore
import Derived.LaidHandle
import Derived.ProofKit
import Derived.Carry
import Derived.OpenShut
import Derived.SevenTiedAt
namespace Go.Proofs.YtbjbihgfkcnmbaaDoor
open Go.ChangeShapes Go.WideShapes Go.ChangeAt Go.RowKit
set_option maxRecDepth 100000

theorem bagNames_own : ownKnob Tryd.prog.godebug = none := by kernel_rfl
theorem bagNames_door (os : Os) (args : Array Value) : laidMetH Tryd.prog Rows.bagNamesRow.laid ((World.doorLaid Tryd.prog 282 os).forCall (fun _ _ => 0) ⟨#[], args, []⟩).memory :=
  laidMetH_of_parts3 (fuel := 8) (laidMet_of_run' 8 (by kernel_rfl) (by kernel_rfl)) (by kernel_rfl) (by kernel_rfl)

theorem bagNames_lifted (os : Os) (started : os.Started) (H : Type) (enc : TypeId × Value → H) :
    ReturnsInHanded {} Tryd.checked os 7 .any (fun w args => (Rows.bagNamesSpec.pre enc Tryd.prog Tryd.f7 [] false w args ∧ laidMetH Tryd.prog Rows.bagNamesRow.laid w) ∧ sizedMet enc Tryd.prog Tryd.f7 (OpenSpec.ofChange Rows.bagNamesSpec) false w args)
      (Rows.bagNamesSpec.post enc Tryd.prog Tryd.f7 false true false false) := by
  refine returnsInHanded_of_change_and (C := Tryd.checked) (X := fun w _ => laidMetH Tryd.prog Rows.bagNamesRow.laid w) (fun _ _ _ hh h => h.of_heap hh) bagNames_own started (by kernel_rfl) Tryd.func7
    (ChangeSpec.witness_shaped (enc := enc) (C := Tryd.checked) (os := os) (X := fun w _ => laidMetH Tryd.prog Rows.bagNamesRow.laid w) false (World.doorLaid Tryd.prog 282 os) #[] 8 rfl (World.shaped_of_RefB (by kernel_rfl) (by kernel_rfl)) (by kernel_rfl) (by kernel_rfl) (by kernel_rfl) (bagNames_door os _)) ?_
  intro W base args ds gs before hval0 hW _ _ hL _
  have hW' := hW
  obtain ⟨p, q, hA0, hV, rfl, hfz, hnd⟩ := hW
  have hA : DataW.TrodAll enc Tryd.prog W 0 (fun _ => true) true Tryd.f7.params.toList args.toList ds p := hA0
  rw [Tryd.params7] at hA
  obtain ⟨rfl, rfl, rfl⟩ := trodAll_none hA
  obtain ⟨rfl, rfl⟩ := trodVars_none hV
  obtain ⟨ad, L⟩ := laid_of (show laidMet Tryd.prog (names.map fun x => (x.1, sent x.2)) W from hL.1) (show handlesMet Tryd.prog [("errors.errorType", .iface "internal/reflectlite.rtype" (.agg [.ptr (.lit (.string [101, 114, 114, 111, 114]))]))] W from hL.2)
  clear hA0 hval0
  simp only [List.append_nil] at hW'
  refine (bagNames_all L).mono fun e W' ⟨he, hb⟩ => ?_
  subst he
  have e1 : Rows.bagNamesSpec.fn H ([] ++ []) = { results := [.lit (.bool true)], args := [] } := by simp [Rows.bagNamesSpec]
  refine ⟨_, rfl, _, _, _, [], [], [], hW', ?_, ?_, ?_, hb.frame _, fun h => by cases h⟩
  · rw [e1]; exact trodAll_mk1 (shut_bool Tryd.underlying4 true)
  · rw [e1]; exact trodAll_mk0 
  · rw [e1]; rfl

theorem bagNames_holds : Rows.BagNamesSaid :=
  OpenClaim.holds_of_wide 7 Tryd.f7 rfl rfl rfl rfl rfl rfl rfl ⟨rfl, rfl, rfl, rfl, rfl⟩ rfl rfl rfl rfl rfl (by kernel_rfl) Tryd.func7 (by kernel_rfl)
    (of_decide_eq_true (by kernel_rfl)) (by unfold Func.isWrapper; rw [if_neg (of_decide_eq_false (by kernel_rfl))]; exact ⟨rfl, rfl⟩)
    (fun os started H enc _ => bagNames_lifted os started H enc)

theorem bagNames_card : Rows.BagNamesCardSaid :=
  Claim7.holds_tied_plain_at .later [] _ _ _ _
    bagNames_holds (fun _ h => by cases h) (by kernel_rfl) (fun _ h => by cases h) bagNames_row_tie rfl ⟨rfl, rfl⟩ (by kernel_rfl) rfl
    (fun f fn hf hfn => by
      obtain rfl : f = 7 := Option.some.inj ((show Tryd.prog.funcNamed "barrow/barrowlaw10.BagNames" = some 7 by kernel_rfl).symm.trans hf) |>.symm
      obtain rfl : fn = Tryd.f7 := (Option.some.inj (Tryd.func7.symm.trans hfn)).symm
      exact ⟨by kernel_rfl, fun j t ht => by
        rw [Tryd.params7] at ht
        simp at ht⟩)
    (by kernel_rfl)
#print axioms bagNames_card
end Go.Proofs.YtbjbihgfkcnmbaaDoor
