
/-
  Proved: for any rows of messages barrowlaw09.PacketBytes returns true, and what was there is as it was: of the first 40 messages, with the first 60 acts of each, right or not, Right is the document's, Bytes tells the document's bytes, or none and a refusal of the same reason, layer, call and place (P9.1, P9.3); the message is neither changed nor kept: the acts that were lent, and four marks behind them, are the same behind the call, and what is told once more is the same when the first answer was written over. Conditions: at every start in which the listed variables hold what the program's text lays in them. The tie of the listed variables is the given one: it speaks of the pruned copy that the translation was made of.
-/
import Derived.Test.YteffpnjgchihpaaGreatDoorRows
import Derived.Test.YteffpnjgchihpaaGreatDoorTie
import Derived.Test.YteffpnjgchihpaaGreatDoorCards
import Derived.Test.YteffpnjgchihpaaGreatDoorPB04
import Derived.Test.YteffpnjgchihpaaGreatDoorPB53
import Derived.Test.YteffpnjgchihpaaGreatDoorPB52
import Derived.LaidMore
import Derived.LaidHandle
import Derived.ProofKit
import Derived.Carry
import Derived.OpenShut
import Derived.SevenTiedAt
namespace Go.Proofs.YteffpnjgchihpaaGreatDoor
open Go.ChangeShapes Go.WideShapes Go.ChangeAt Go.RowKit
set_option maxRecDepth 100000

theorem packetBytes_own : ownKnob Tryz.prog.godebug = none := by kernel_rfl
theorem packetBytes_laidOut : laidOutB Tryz.prog = true := by kernel_rfl
theorem packetBytes_door (os : Os) (args : Array Value) : laidMetH Tryz.prog Rows.packetBytesRow.laid ((World.doorLaid Tryz.prog 282 os).forCall (fun _ _ => 0) ⟨#[], args, []⟩).memory :=
  laidMetH_of_parts3 (fuel := 8) (laidMet_of_run' 8 (by kernel_rfl) (by kernel_rfl)) (by kernel_rfl) (by kernel_rfl)

theorem packetBytes_lifted (os : Os) (started : os.Started) (H : Type) (enc : TypeId × Value → H) :
    ReturnsInHanded {} Tryz.checked os 3 .any (fun w args => (Rows.packetBytesSpec.pre enc Tryz.prog Tryz.f3 [] false w args ∧ laidMetH Tryz.prog Rows.packetBytesRow.laid w) ∧ sizedMet enc Tryz.prog Tryz.f3 (OpenSpec.ofChange Rows.packetBytesSpec) false w args)
      (Rows.packetBytesSpec.post enc Tryz.prog Tryz.f3 false true false false) := by
  refine returnsInHanded_of_change_and (C := Tryz.checked) (X := fun w _ => laidMetH Tryz.prog Rows.packetBytesRow.laid w) (fun _ _ _ hh h => h.of_heap hh) packetBytes_own started (by kernel_rfl) Tryz.func3
    (ChangeSpec.witness_shaped (enc := enc) (C := Tryz.checked) (os := os) (X := fun w _ => laidMetH Tryz.prog Rows.packetBytesRow.laid w) false (World.doorLaid Tryz.prog 282 os) #[.slice none 0 0] 8 rfl (World.shaped_of_RefB (by kernel_rfl) (by kernel_rfl)) (by kernel_rfl) (by kernel_rfl) (by kernel_rfl) (packetBytes_door os _)) ?_
  intro W base args ds gs before hval0 hW _ _ hL _
  have hval : ∀ (j : Nat) t v, Tryz.f3.params[j]? = some t → args[j]? = some v → Value.okWide Tryz.prog W .any base t v := hval0
  have hW' := hW
  obtain ⟨p, q, hA0, hV, rfl, hfz, hnd⟩ := hW
  have hA : DataW.TrodAll enc Tryz.prog W 0 (fun _ => true) true Tryz.f3.params.toList args.toList ds p := hA0
  rw [Tryz.params3] at hA hval
  obtain ⟨v0, d0, rfl, rfl, h0⟩ := trodAll_one hA
  obtain ⟨rfl, rfl⟩ := trodVars_none hV
  obtain ⟨ms, hv⟩ := open_msR (hval 0 22 v0 rfl rfl) h0
  obtain ⟨ad, L⟩ := laid_of (show laidMet Tryz.prog (names.map fun x => (x.1, sent x.2)) W from hL.1) (show handlesMet Tryz.prog [("errors.errorType", .iface "internal/reflectlite.rtype" (.agg [.ptr (.lit (.string [101, 114, 114, 111, 114]))]))] W from hL.2)
  clear hA0 hval0
  simp only [List.append_nil] at hW'
  have hlt0 : ∀ x ∈ p, x.block < W.heap.size := fun x hx => by simpa using hW'.lt x hx
  refine (packetBytes_all L hv).mono fun e W' ⟨he, hb⟩ => ?_
  subst he
  have e1 : Rows.packetBytesSpec.fn H ([d0] ++ []) = { results := [.lit (.bool true)], args := [d0] } := by simp [Rows.packetBytesSpec]
  refine ⟨_, rfl, _, _, _, [], p, [], hW', ?_, ?_, ?_, hb.frame _, fun h => by cases h⟩
  · rw [e1]; exact trodAll_mk1 (shut_bool Tryz.underlying4 true)
  · rw [e1]; exact trodAll_mk1 (Below.trod packetBytes_laidOut (by kernel_rfl) (of_decide_eq_true (by kernel_rfl)) h0 hb hlt0)
  · rw [e1]; rfl

theorem packetBytes_holds : Rows.PacketBytesSaid :=
  OpenClaim.holds_of_wide 3 Tryz.f3 rfl rfl rfl rfl rfl rfl rfl ⟨rfl, rfl, rfl, rfl, rfl⟩ rfl rfl rfl rfl rfl (by kernel_rfl) Tryz.func3 (by kernel_rfl)
    (of_decide_eq_true (by kernel_rfl)) (by unfold Func.isWrapper; rw [if_neg (of_decide_eq_false (by kernel_rfl))]; exact ⟨rfl, rfl⟩)
    (fun os started H enc _ => packetBytes_lifted os started H enc)

theorem packetBytes_card : Rows.PacketBytesCardSaid :=
  Claim7.holds_tied_plain_at .later [] _ _ _ _
    packetBytes_holds (fun _ h => by cases h) (by kernel_rfl) (fun _ h => by cases h) packetBytes_row_tie rfl ⟨rfl, rfl⟩ (by kernel_rfl) rfl
    (fun f fn hf hfn => by
      obtain rfl : f = 3 := Option.some.inj ((show Tryz.prog.funcNamed "barrow/barrowlaw09.PacketBytes" = some 3 by kernel_rfl).symm.trans hf) |>.symm
      obtain rfl : fn = Tryz.f3 := (Option.some.inj (Tryz.func3.symm.trans hfn)).symm
      exact ⟨by kernel_rfl, fun j t ht => by
        rw [Tryz.params3] at ht
        have hm : t ∈ [22] := by simpa using Array.mem_of_getElem? ht
        have hall : ([22].all fun u => !Tryz.prog.wantsStandIn u) = true := by kernel_rfl
        exact (show Tryz.prog.wantsStandIn t = false by simpa using List.all_eq_true.1 hall t hm)⟩)
    (by kernel_rfl)
#print axioms packetBytes_card
end Go.Proofs.YteffpnjgchihpaaGreatDoor
