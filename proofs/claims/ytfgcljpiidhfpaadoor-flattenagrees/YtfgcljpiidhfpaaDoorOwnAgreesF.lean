
/-
  Proved: for any number and any moves barrowlaw12.FlattenAgrees returns true, and what was there is as it was: of the first 100 moves of a session of one to four desks (up to the first commit), of one round nobody knows another cut, vote or decision than anybody else who knows one, and a commit has every Yes (P12.9). Conditions: at every start in which the listed variables hold what the program's text lays in them. The tie of the listed variables is the given one: it speaks of the pruned copy that the translation was made of.
-/
import Derived.Test.YtfgcljpiidhfpaaDoorRows
import Derived.Test.YtfgcljpiidhfpaaDoorTie
import Derived.Test.YtfgcljpiidhfpaaDoorCards
import Derived.Test.YtfgcljpiidhfpaaDoorFlOz
import Derived.Test.YtfgcljpiidhfpaaDoorFy6
import Derived.Test.YtfgcljpiidhfpaaDoorFlOm
import Derived.LaidMore
import Derived.LaidHandle
import Derived.ProofKit
import Derived.Carry
import Derived.OpenShut
import Derived.SevenTiedAt
namespace Go.Proofs.YtfgcljpiidhfpaaDoor
open Go.ChangeShapes Go.WideShapes Go.ChangeAt Go.RowKit
set_option maxRecDepth 100000

theorem flattenAgrees_own : ownKnob Tryd.prog.godebug = none := by kernel_rfl
theorem flattenAgrees_laidOut : laidOutB Tryd.prog = true := by kernel_rfl
theorem flattenAgrees_door (os : Os) (args : Array Value) : laidMetH Tryd.prog Rows.flattenAgreesRow.laid ((World.doorLaid Tryd.prog 282 os).forCall (fun _ _ => 0) ⟨#[], args, []⟩).memory :=
  laidMetH_of_parts3 (fuel := 8) (laidMet_of_run' 8 (by kernel_rfl) (by kernel_rfl)) (by kernel_rfl) (by kernel_rfl)

theorem flattenAgrees_lifted (os : Os) (started : os.Started) (H : Type) (enc : TypeId × Value → H) :
    ReturnsInHanded {} Tryd.checked os 7 .any (fun w args => (Rows.flattenAgreesSpec.pre enc Tryd.prog Tryd.f7 [] false w args ∧ laidMetH Tryd.prog Rows.flattenAgreesRow.laid w) ∧ sizedMet enc Tryd.prog Tryd.f7 (OpenSpec.ofChange Rows.flattenAgreesSpec) false w args)
      (Rows.flattenAgreesSpec.post enc Tryd.prog Tryd.f7 false true false false) := by
  refine returnsInHanded_of_change_and (C := Tryd.checked) (X := fun w _ => laidMetH Tryd.prog Rows.flattenAgreesRow.laid w) (fun _ _ _ hh h => h.of_heap hh) flattenAgrees_own started (by kernel_rfl) Tryd.func7
    (ChangeSpec.witness_shaped (enc := enc) (C := Tryd.checked) (os := os) (X := fun w _ => laidMetH Tryd.prog Rows.flattenAgreesRow.laid w) false (World.doorLaid Tryd.prog 282 os) #[.int .i64 0, .slice none 0 0] 8 rfl (World.shaped_of_RefB (by kernel_rfl) (by kernel_rfl)) (by kernel_rfl) (by kernel_rfl) (by kernel_rfl) (flattenAgrees_door os _)) ?_
  intro W base args ds gs before hval0 hW _ _ hL _
  have hval : ∀ (j : Nat) t v, Tryd.f7.params[j]? = some t → args[j]? = some v → Value.okWide Tryd.prog W .any base t v := hval0
  have hW' := hW
  obtain ⟨p, q, hA0, hV, rfl, hfz, hnd⟩ := hW
  have hA : DataW.TrodAll enc Tryd.prog W 0 (fun _ => true) true Tryd.f7.params.toList args.toList ds p := hA0
  rw [Tryd.params7] at hA hval
  obtain ⟨v0, v1, d0, d1, p0, p1, rfl, rfl, rfl, h0, h1⟩ := trodAll_two hA
  obtain ⟨rfl, rfl⟩ := trodVars_none hV
  obtain ⟨rep, rfl, hrep⟩ := open_i h0 (hval 0 3 v0 rfl rfl)
  obtain ⟨M, hM, hMf⟩ := open_moves (hval 1 62 v1 rfl rfl) h1
  obtain ⟨ad, L⟩ := lz_of (show laidMet Tryd.prog (names2.map fun x => (x.1, sent x.2)) W from hL)
  clear hA0 hval0
  simp only [List.append_nil] at hW'
  have hlt0 : ∀ x ∈ p0, x.block < W.heap.size := fun x hx => by simpa using hW'.lt x (List.mem_append_left _ hx)
  have hlt1 : ∀ x ∈ p1, x.block < W.heap.size := fun x hx => by simpa using hW'.lt x (List.mem_append_right _ hx)
  refine (agrees_all L hrep hM hMf).mono fun e W' ⟨he, hb⟩ => ?_
  subst he
  have e1 : Rows.flattenAgreesSpec.fn H ([d0, d1] ++ []) = { results := [.lit (.bool true)], args := [d0, d1] } := by simp [Rows.flattenAgreesSpec]
  refine ⟨_, rfl, _, _, _, [], p0 ++ p1, [], hW', ?_, ?_, ?_, hb.frame _, fun h => by cases h⟩
  · rw [e1]; exact trodAll_mk1 (shut_bool Tryd.underlying4 true)
  · rw [e1]; exact trodAll_mk2 (Below.trod flattenAgrees_laidOut (by kernel_rfl) (of_decide_eq_true (by kernel_rfl)) h0 hb hlt0) (Below.trod flattenAgrees_laidOut (by kernel_rfl) (of_decide_eq_true (by kernel_rfl)) h1 hb hlt1)
  · rw [e1]; rfl

theorem flattenAgrees_holds : Rows.FlattenAgreesSaid :=
  OpenClaim.holds_of_wide 7 Tryd.f7 rfl rfl rfl rfl rfl rfl rfl ⟨rfl, rfl, rfl, rfl, rfl⟩ rfl rfl rfl rfl rfl (by kernel_rfl) Tryd.func7 (by kernel_rfl)
    (of_decide_eq_true (by kernel_rfl)) (by unfold Func.isWrapper; rw [if_neg (of_decide_eq_false (by kernel_rfl))]; exact ⟨rfl, rfl⟩)
    (fun os started H enc _ => flattenAgrees_lifted os started H enc)

theorem flattenAgrees_card : Rows.FlattenAgreesCardSaid :=
  Claim7.holds_tied_plain_at .later [] _ _ _ _
    flattenAgrees_holds (fun _ h => by cases h) (by kernel_rfl) (fun _ h => by cases h) flattenAgrees_row_tie rfl ⟨rfl, rfl⟩ (by kernel_rfl) rfl
    (fun f fn hf hfn => by
      obtain rfl : f = 7 := Option.some.inj ((show Tryd.prog.funcNamed "barrow/barrowlaw12.FlattenAgrees" = some 7 by kernel_rfl).symm.trans hf) |>.symm
      obtain rfl : fn = Tryd.f7 := (Option.some.inj (Tryd.func7.symm.trans hfn)).symm
      exact ⟨by kernel_rfl, fun j t ht => by
        rw [Tryd.params7] at ht
        have hm : t ∈ [3, 62] := by simpa using Array.mem_of_getElem? ht
        have hall : ([3, 62].all fun u => !Tryd.prog.wantsStandIn u) = true := by kernel_rfl
        exact (show Tryd.prog.wantsStandIn t = false by simpa using List.all_eq_true.1 hall t hm)⟩)
    (by kernel_rfl)
#print axioms flattenAgrees_card
end Go.Proofs.YtfgcljpiidhfpaaDoor
