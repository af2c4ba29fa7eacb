
/-
  Proved: for any list of elements, any operations and any IDs barrowlaw07.XformApply returns true, and what was there is as it was: over a row of the first 60 elements, each of the first 60 operations, with its ID, does to a Model what the document makes of the row, or is refused with the reasons and places that the document tells, and changes nothing.
-/
import Derived.Test.YtjalehlmldlooaaGreatDoorRows
import Derived.Test.YtjalehlmldlooaaGreatDoorTie
import Derived.Test.YtjalehlmldlooaaGreatDoorCards
import Derived.Test.YtjalehlmldlooaaGreatDoorZap52
import Derived.Test.YtjalehlmldlooaaGreatDoorZap53
import Derived.Carry
import Derived.SevenTiedAt
import Derived.OpenShut
import Derived.Deep.DeepWitnessRowRef
import Derived.LaidMore
import Derived.LaidHandle
import Derived.Stop.LaidErr
import Derived.Lay
namespace Go.Proofs.YtjalehlmldlooaaGreatDoor
open Go.ChangeShapes Go.WideShapes Go.ChangeAt Go.RowKit
set_option maxRecDepth 100000

theorem xformApply_knob : ownKnob Tryz.prog.godebug = none := by kernel_rfl
theorem xformApply_laidOut : laidOutB Tryz.prog = true := by kernel_rfl
theorem xformApply_laid {W : World} (h : laidMetH Tryz.prog Rows.xformApplyRow.laid W) : ∃ ad, Laid ad W := by
  have h' : laidMet Tryz.prog (names.map fun x => (x.1, sent x.2)) W ∧ handlesMet Tryz.prog [("errors.errorType", .iface "internal/reflectlite.rtype" (.agg [.ptr (.lit (.string [101, 114, 114, 111, 114]))]))] W := h
  exact laid_of h'.1 h'.2
theorem xformApply_os {os : Os} : (World.doorLaid Tryz.prog 282 os).os = os := rfl
theorem xformApply_door (os : Os) (args : Array Value) : laidMetH Tryz.prog Rows.xformApplyRow.laid ((World.doorLaid Tryz.prog 282 os).forCall (fun _ _ => 0) ⟨#[], args, []⟩).memory :=
  laidMetH_of_parts3 (fuel := 8) (laidMet_of_run' 8 (by kernel_rfl) (by kernel_rfl)) (by kernel_rfl) (by kernel_rfl)
theorem xformApply_reads (os : Os) {H : Type} (enc : TypeId × Value → H) : ∃ places, DataW.whole enc Tryz.prog ((World.doorLaid Tryz.prog 282 os).forCall (fun _ _ => 0) ⟨#[], #[.slice none 0 0, .slice none 0 0, .slice none 0 0], []⟩).memory Tryz.f3.params.toList Rows.xformApplySpec.vars false (#[.slice none 0 0, .slice none 0 0, .slice none 0 0] : Array Value).toList 8 = some ([.nil, .nil, .nil], [], places) :=
  ⟨[], by kernel_rfl⟩

theorem xformApply_contract (H : Type) (enc : TypeId × Value → H) (W : World) (base : Nat) (args : Array Value) (ds gs : List (DataW H)) (before : List MemPlace)
    (hval0 : ∀ (j : Nat) t v, Tryz.f3.params[j]? = some t → args[j]? = some v → Value.okWide Tryz.prog W .any base t v)
    (hW : DataW.Whole enc Tryz.prog Tryz.f3.params.toList Rows.xformApplySpec.vars false W args.toList ds gs before) (hL : laidMetH Tryz.prog Rows.xformApplyRow.laid W) :
    Calls Tryz.prog 3 args W fun e W' => ∃ v, e = .returned v ∧ Rows.xformApplySpec.post enc Tryz.prog Tryz.f3 false true false false W args v W' := by
  have hval : ∀ (j : Nat) t v, Tryz.f3.params[j]? = some t → args[j]? = some v → Value.okWide Tryz.prog W .any base t v := hval0
  have hW' := hW
  obtain ⟨p, q, hA0, hV, rfl, hfz, hnd⟩ := hW
  have hA : DataW.TrodAll enc Tryz.prog W 0 (fun _ => true) true Tryz.f3.params.toList args.toList ds p := hA0
  rw [Tryz.params3] at hA hval
  obtain ⟨v0, v1, v2, d0, d1, d2, p0, p1, p2, rfl, rfl, rfl, h0, h1, h2⟩ := trodAll_three hA
  obtain ⟨rfl, rfl⟩ := trodVars_none hV
  obtain ⟨l, hl, hw, hlm, _⟩ := open_elsN (hval 0 22 v0 rfl rfl) h0
  obtain ⟨ol, ho, _⟩ := open_ops (hval 1 23 v1 rfl rfl) h1
  obtain ⟨il, hi, hii, _⟩ := open_idsJ (hval 2 24 v2 rfl rfl) h2
  obtain ⟨ad, L⟩ := xformApply_laid hL
  clear hA0 hval0
  simp only [List.append_nil] at hW'
  have hlt0 : ∀ x ∈ p0, x.block < W.heap.size := fun x hx => by simpa using hW'.lt x (by simp [hx])
  have hlt1 : ∀ x ∈ p1, x.block < W.heap.size := fun x hx => by simpa using hW'.lt x (by simp [hx])
  have hlt2 : ∀ x ∈ p2, x.block < W.heap.size := fun x hx => by simpa using hW'.lt x (by simp [hx])
  refine (xformApply_all L hl (fun e he => (hw e he).2) hlm ho hi hii).mono fun e W' ⟨he, hb⟩ => ?_
  subst he
  have e1 : Rows.xformApplySpec.fn H ([d0, d1, d2] ++ []) = { results := [.lit (.bool true)], args := [d0, d1, d2] } := by simp [Rows.xformApplySpec]
  refine ⟨_, rfl, _, _, _, [], p0 ++ (p1 ++ p2), [], hW', ?_, ?_, ?_, hb.frame _, fun h => by cases h⟩
  · rw [e1]; exact trodAll_mk1 (shut_bool Tryz.underlying4 true)
  · rw [e1]; exact trodAll_mk3 (Below.trod xformApply_laidOut (by kernel_rfl) (of_decide_eq_true (by kernel_rfl)) h0 hb hlt0) (Below.trod xformApply_laidOut (by kernel_rfl) (of_decide_eq_true (by kernel_rfl)) h1 hb hlt1) (Below.trod xformApply_laidOut (by kernel_rfl) (of_decide_eq_true (by kernel_rfl)) h2 hb hlt2)
  · rw [e1]; rfl

theorem xformApply_lifted (os : Os) (started : os.Started) (H : Type) (enc : TypeId × Value → H) (F : Stop.Interp) :
    ReturnsInHanded {} Tryz.checked os 3 .any ((OpenSpec.ofChange Rows.xformApplySpec).preRow enc Tryz.prog Tryz.f3 Rows.xformApplyRow.domain false Rows.xformApplyRow.laid) (((OpenSpec.ofChange Rows.xformApplySpec).at F).post enc Tryz.prog Tryz.f3 false true false false) := by
  obtain ⟨places, hx⟩ := xformApply_reads os enc
  refine returnsInHanded_of_row (C := Tryz.checked) (s := OpenSpec.ofChange Rows.xformApplySpec) xformApply_knob started (by kernel_rfl) Tryz.func3
    (witness_row_atRef (enc := enc) (C := Tryz.checked) false (World.doorLaid Tryz.prog 282 os) #[.slice none 0 0, .slice none 0 0, .slice none 0 0] xformApply_os (by kernel_rfl) (by kernel_rfl) (by kernel_rfl)
      (OpenSpec.preRow_of_cond 8 hx (by kernel_rfl) (fun k hk => by cases hk) (by kernel_rfl) (xformApply_door os _))) ?_
  intro W base args ds gs before hval hW _ _ _ hL hS _
  exact xformApply_contract H enc W base args ds gs before hval hW hL

theorem xformApply_said : Rows.XformApplySaid :=
  OpenClaim.holds_of_cond 3 Tryz.f3 rfl rfl rfl rfl rfl rfl rfl ⟨rfl, rfl, rfl, rfl, rfl⟩ rfl rfl rfl rfl rfl (by kernel_rfl) Tryz.func3 (by kernel_rfl)
    (of_decide_eq_true (by kernel_rfl)) (by unfold Func.isWrapper; rw [if_neg (of_decide_eq_false (by kernel_rfl))]; exact ⟨rfl, rfl⟩)
    (fun os started H enc _ F => by rw [OpenClaim.pre_eq_preRow]; exact xformApply_lifted os started H enc F)

theorem xformApply_card : Rows.XformApplyCardSaid :=
  Claim7.holds_tied_plain_at .later [] _ _ _ _
    xformApply_said (fun _ h => by cases h) (by kernel_rfl) (fun _ h => by cases h) xformApply_row_tie rfl ⟨rfl, rfl⟩ (by kernel_rfl) rfl
    (fun f fn hf hfn => by
      obtain rfl : f = 3 := Option.some.inj ((show Tryz.prog.funcNamed "barrow/barrowlaw07.XformApply" = some 3 by kernel_rfl).symm.trans hf) |>.symm
      obtain rfl : fn = Tryz.f3 := (Option.some.inj (Tryz.func3.symm.trans hfn)).symm
      exact ⟨by kernel_rfl, fun j t ht => by
        rw [Tryz.params3] at ht
        have hm : t ∈ [22, 23, 24] := by simpa using Array.mem_of_getElem? ht
        have hall : ([22, 23, 24].all fun u => !Tryz.prog.wantsStandIn u) = true := by kernel_rfl
        exact (show Tryz.prog.wantsStandIn t = false by simpa using List.all_eq_true.1 hall t hm)⟩)
    (by kernel_rfl)
#print axioms xformApply_card
end Go.Proofs.YtjalehlmldlooaaGreatDoor
