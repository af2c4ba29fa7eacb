
/-
  Proved: for any list of elements and any anchors barrowlaw13.AnchorPurge returns true, and what was there is as it was: over those of the elements that a Model takes, 80 at most, the first 30 of the anchors and those of all its elements have, behind Rebase and Purge, the gap that they had (P13.6). Conditions: at every start in which the listed variables hold what the program's text lays in them. The tie of the listed variables is the given one: it speaks of the pruned copy that the translation was made of.
-/
import Derived.Test.YtjopeojnlibagaaGreatDoorRows
import Derived.Test.YtjopeojnlibagaaGreatDoorTie
import Derived.Test.YtjopeojnlibagaaGreatDoorCards
import Derived.Test.YtjopeojnlibagaaGreatDoorAnPuA
import Derived.Test.YtjopeojnlibagaaGreatDoorMboA
import Derived.Carry
import Derived.SevenTiedAt
import Derived.OpenShut
import Derived.Deep.DeepWitnessRowRef
import Derived.LaidMore
import Derived.LaidHandle
import Derived.Stop.LaidErr
import Derived.Lay
namespace Go.Proofs.YtjopeojnlibagaaGreatDoor
open Go.ChangeShapes Go.WideShapes Go.ChangeAt Go.RowKit
set_option maxRecDepth 100000

theorem anchorPurge_knob : ownKnob Tryz.prog.godebug = none := by kernel_rfl
theorem anchorPurge_laidOut : laidOutB Tryz.prog = true := by kernel_rfl
theorem anchorPurge_laid {W : World} (h : laidMetH Tryz.prog Rows.anchorPurgeRow.laid W) : ∃ ad, Laid ad W := by
  have h' : laidMet Tryz.prog (names.map fun x => (x.1, sent x.2)) W ∧ handlesMet Tryz.prog [("errors.errorType", .iface "internal/reflectlite.rtype" (.agg [.ptr (.lit (.string [101, 114, 114, 111, 114]))]))] W := h
  exact laid_of h'.1 h'.2
theorem anchorPurge_os {os : Os} : (World.doorLaid Tryz.prog 282 os).os = os := rfl
theorem anchorPurge_door (os : Os) (args : Array Value) : laidMetH Tryz.prog Rows.anchorPurgeRow.laid ((World.doorLaid Tryz.prog 282 os).forCall (fun _ _ => 0) ⟨#[], args, []⟩).memory :=
  laidMetH_of_parts3 (fuel := 8) (laidMet_of_run' 8 (by kernel_rfl) (by kernel_rfl)) (by kernel_rfl) (by kernel_rfl)
theorem anchorPurge_reads (os : Os) {H : Type} (enc : TypeId × Value → H) : ∃ places, DataW.whole enc Tryz.prog ((World.doorLaid Tryz.prog 282 os).forCall (fun _ _ => 0) ⟨#[], #[.slice none 0 0, .slice none 0 0], []⟩).memory Tryz.f7.params.toList Rows.anchorPurgeSpec.vars false (#[.slice none 0 0, .slice none 0 0] : Array Value).toList 8 = some ([.nil, .nil], [], places) :=
  ⟨[], by kernel_rfl⟩

theorem anchorPurge_contract (H : Type) (enc : TypeId × Value → H) (W : World) (base : Nat) (args : Array Value) (ds gs : List (DataW H)) (before : List MemPlace)
    (hval0 : ∀ (j : Nat) t v, Tryz.f7.params[j]? = some t → args[j]? = some v → Value.okWide Tryz.prog W .any base t v)
    (hW : DataW.Whole enc Tryz.prog Tryz.f7.params.toList Rows.anchorPurgeSpec.vars false W args.toList ds gs before) (hL : laidMetH Tryz.prog Rows.anchorPurgeRow.laid W) :
    Calls Tryz.prog 7 args W fun e W' => ∃ v, e = .returned v ∧ Rows.anchorPurgeSpec.post enc Tryz.prog Tryz.f7 false true false false W args v W' := by
  have hval : ∀ (j : Nat) t v, Tryz.f7.params[j]? = some t → args[j]? = some v → Value.okWide Tryz.prog W .any base t v := hval0
  have hW' := hW
  obtain ⟨p, q, hA0, hV, rfl, hfz, hnd⟩ := hW
  have hA : DataW.TrodAll enc Tryz.prog W 0 (fun _ => true) true Tryz.f7.params.toList args.toList ds p := hA0
  rw [Tryz.params7] at hA hval
  obtain ⟨v0, v1, d0, d1, p0, p1, rfl, rfl, rfl, h0, h1⟩ := trodAll_two hA
  obtain ⟨rfl, rfl⟩ := trodVars_none hV
  obtain ⟨l, hl, hw, hlm, hc⟩ := open_elsN (hval 0 22 v0 rfl rfl) h0
  obtain ⟨zs, hzs, hzi, hzc⟩ := open_ans (hval 1 24 v1 rfl rfl) h1
  obtain ⟨ad, L⟩ := anchorPurge_laid hL
  clear hA0 hval0
  simp only [List.append_nil] at hW'
  have hlt0 : ∀ x ∈ p0, x.block < W.heap.size := fun x hx => by simpa using hW'.lt x (List.mem_append_left _ hx)
  have hlt1 : ∀ x ∈ p1, x.block < W.heap.size := fun x hx => by simpa using hW'.lt x (List.mem_append_right _ hx)
  refine (anchorPurge_all L hl hlm (fun e he => (hw e he).1) hzs hzc hzi).mono fun e W' ⟨he, hb⟩ => ?_
  subst he
  have e1 : Rows.anchorPurgeSpec.fn H ([d0, d1] ++ []) = { results := [.lit (.bool true)], args := [d0, d1] } := by simp [Rows.anchorPurgeSpec]
  refine ⟨_, rfl, _, _, _, [], p0 ++ p1, [], hW', ?_, ?_, ?_, hb.frame _, fun h => by cases h⟩
  · rw [e1]; exact trodAll_mk1 (shut_bool Tryz.underlying4 true)
  · rw [e1]; exact trodAll_mk2 (Below.trod anchorPurge_laidOut (by kernel_rfl) (of_decide_eq_true (by kernel_rfl)) h0 hb hlt0) (Below.trod anchorPurge_laidOut (by kernel_rfl) (of_decide_eq_true (by kernel_rfl)) h1 hb hlt1)
  · rw [e1]; rfl

theorem anchorPurge_lifted (os : Os) (started : os.Started) (H : Type) (enc : TypeId × Value → H) (F : Stop.Interp) :
    ReturnsInHanded {} Tryz.checked os 7 .any ((OpenSpec.ofChange Rows.anchorPurgeSpec).preRow enc Tryz.prog Tryz.f7 Rows.anchorPurgeRow.domain false Rows.anchorPurgeRow.laid) (((OpenSpec.ofChange Rows.anchorPurgeSpec).at F).post enc Tryz.prog Tryz.f7 false true false false) := by
  obtain ⟨places, hx⟩ := anchorPurge_reads os enc
  refine returnsInHanded_of_row (C := Tryz.checked) (s := OpenSpec.ofChange Rows.anchorPurgeSpec) anchorPurge_knob started (by kernel_rfl) Tryz.func7
    (witness_row_atRef (enc := enc) (C := Tryz.checked) false (World.doorLaid Tryz.prog 282 os) #[.slice none 0 0, .slice none 0 0] anchorPurge_os (by kernel_rfl) (by kernel_rfl) (by kernel_rfl)
      (OpenSpec.preRow_of_cond 8 hx (by kernel_rfl) (fun k hk => by cases hk) (by kernel_rfl) (anchorPurge_door os _))) ?_
  intro W base args ds gs before hval hW _ _ _ hL hS _
  exact anchorPurge_contract H enc W base args ds gs before hval hW hL

theorem anchorPurge_said : Rows.AnchorPurgeSaid :=
  OpenClaim.holds_of_cond 7 Tryz.f7 rfl rfl rfl rfl rfl rfl rfl ⟨rfl, rfl, rfl, rfl, rfl⟩ rfl rfl rfl rfl rfl (by kernel_rfl) Tryz.func7 (by kernel_rfl)
    (of_decide_eq_true (by kernel_rfl)) (by unfold Func.isWrapper; rw [if_neg (of_decide_eq_false (by kernel_rfl))]; exact ⟨rfl, rfl⟩)
    (fun os started H enc _ F => by rw [OpenClaim.pre_eq_preRow]; exact anchorPurge_lifted os started H enc F)

theorem anchorPurge_card : Rows.AnchorPurgeCardSaid :=
  Claim7.holds_tied_plain_at .later [] _ _ _ _
    anchorPurge_said (fun _ h => by cases h) (by kernel_rfl) (fun _ h => by cases h) anchorPurge_row_tie rfl ⟨rfl, rfl⟩ (by kernel_rfl) rfl
    (fun f fn hf hfn => by
      obtain rfl : f = 7 := Option.some.inj ((show Tryz.prog.funcNamed "barrow/barrowlaw13.AnchorPurge" = some 7 by kernel_rfl).symm.trans hf) |>.symm
      obtain rfl : fn = Tryz.f7 := (Option.some.inj (Tryz.func7.symm.trans hfn)).symm
      exact ⟨by kernel_rfl, fun j t ht => by
        rw [Tryz.params7] at ht
        have hm : t ∈ [22, 24] := by simpa using Array.mem_of_getElem? ht
        have hall : ([22, 24].all fun u => !Tryz.prog.wantsStandIn u) = true := by kernel_rfl
        exact (show Tryz.prog.wantsStandIn t = false by simpa using List.all_eq_true.1 hall t hm)⟩)
    (by kernel_rfl)
#print axioms anchorPurge_card
end Go.Proofs.YtjopeojnlibagaaGreatDoor
