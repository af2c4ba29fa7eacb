/-
  Proved: for any bytes and any two integers, at every start in which the listed variables hold what the program's text lays in them, barrowlaw02.WireRoom returns true, and what was there is as it was: a count that is taken has room for so many things, a text that is taken is as long as its length says (P2.4). The tie of the listed variables is the given one: it speaks of the pruned copy that the translation was made of.
-/
import Derived.Test.YtacbgognnjcinabDoorRows
import Derived.Test.YtacbgognnjcinabDoorTie
import Derived.Test.YtacbgognnjcinabDoorCards
import Derived.Test.YtacbgognnjcinabDoorOpenW
import Derived.Test.YtacbgognnjcinabDoorOpenB
import Derived.Test.YtacbgognnjcinabDoorOpenE
import Derived.Test.YtacbgognnjcinabDoorRoom
import Derived.Carry
import Derived.SevenTiedAt
import Derived.OpenShut
namespace Go.Proofs.YtacbgognnjcinabDoor
open Go.ChangeShapes Go.WideShapes Go.ChangeAt Go.RowKit
set_option maxRecDepth 100000

theorem room_knob : ownKnob Tryd.prog.godebug = none := by kernel_rfl
theorem room_laidOut : laidOutB Tryd.prog = true := by kernel_rfl

theorem room_laid {W : World} (h : laidMetH Tryd.prog Rows.wireRoomRow.laid W) : ∃ ad, Lw ad W ∧ EtAt W := by
  have h' : laidMet Tryd.prog (names4.map fun x => (x.1, sent x.2)) W ∧ handlesMet Tryd.prog [("errors.errorType", .iface "internal/reflectlite.rtype" (.agg [.ptr (.lit (.string [101, 114, 114, 111, 114]))]))] W := h
  obtain ⟨ad, L⟩ := lw_of h'.1
  exact ⟨ad, L, et_of h'.2⟩

theorem room_door (os : Os) (args : Array Value) : laidMetH Tryd.prog Rows.wireRoomRow.laid ((World.doorLaid Tryd.prog 297 os).forCall (fun _ _ => 0) ⟨#[], args, []⟩).memory :=
  laidMetH_of_parts3 (fuel := 8) (laidMet_of_run' 8 (by kernel_rfl) (by kernel_rfl)) (by kernel_rfl) (by kernel_rfl)

theorem room_lifted (os : Os) (started : os.Started) (H : Type) (enc : TypeId × Value → H) :
    ReturnsInHanded {} Tryd.checked os 3 .any (fun w args => (Rows.wireRoomSpec.pre enc Tryd.prog Tryd.f3 [] false w args ∧ laidMetH Tryd.prog Rows.wireRoomRow.laid w) ∧ sizedMet enc Tryd.prog Tryd.f3 (OpenSpec.ofChange Rows.wireRoomSpec) false w args)
      (Rows.wireRoomSpec.post enc Tryd.prog Tryd.f3 false true false false) := by
  refine returnsInHanded_of_change_and (C := Tryd.checked) (X := fun w _ => laidMetH Tryd.prog Rows.wireRoomRow.laid w) (fun _ _ _ hh h => h.of_heap hh) room_knob started (by kernel_rfl) Tryd.func3
    (ChangeSpec.witness_shaped (enc := enc) (C := Tryd.checked) (os := os) (X := fun w _ => laidMetH Tryd.prog Rows.wireRoomRow.laid w) false (World.doorLaid Tryd.prog 297 os) #[.slice none 0 0, .int .i64 0, .int .i64 0] 8 rfl (World.shaped_of_RefB (by kernel_rfl) (by kernel_rfl)) (by kernel_rfl) (by kernel_rfl) (by kernel_rfl) (room_door os _)) ?_
  intro W base args ds gs before hval0 hW _ _ hL _
  have hval : ∀ (j : Nat) t v, Tryd.f3.params[j]? = some t → args[j]? = some v → Value.okWide Tryd.prog W .any base t v := hval0
  have hW' := hW
  obtain ⟨p, q, hA0, hV, rfl, hfz, hnd⟩ := hW
  have hA : DataW.TrodAll enc Tryd.prog W 0 (fun _ => true) true Tryd.f3.params.toList args.toList ds p := hA0
  rw [Tryd.params3] at hA hval
  obtain ⟨v0, v1, v2, d0, d1, d2, p0, p1, p2, rfl, rfl, rfl, h0, h1, h2⟩ := trodAll_three hA
  obtain ⟨rfl, rfl⟩ := trodVars_none hV
  obtain ⟨bs, hbs, hbc⟩ := open_raw (hval 0 22 v0 rfl rfl) h0
  obtain ⟨least, rfl, rfl, rfl, wl⟩ := open_int Tryd.underlying3 (hval 1 3 v1 rfl rfl) h1
  obtain ⟨most, rfl, rfl, rfl, wm⟩ := open_int Tryd.underlying3 (hval 2 3 v2 rfl rfl) h2
  have bl := bounds_i64 wl
  obtain ⟨ad, L⟩ := room_laid hL
  clear hA0 hval0
  simp only [List.append_nil] at hW'
  have hlt0 : ∀ x ∈ p0, x.block < W.heap.size := fun x hx => by simpa using hW'.lt x hx
  refine (room_ok L.1 L.2 v0 bs least most hbs hbc bl.1 bl.2).mono fun e W' ⟨he, hb⟩ => ?_
  subst he
  have e1 : Rows.wireRoomSpec.fn H ([d0, .lit (.int .i64 least), .lit (.int .i64 most)] ++ []) = { results := [.lit (.bool true)], args := [d0, .lit (.int .i64 least), .lit (.int .i64 most)] } := by simp [Rows.wireRoomSpec]
  refine ⟨_, rfl, _, _, _, [], p0 ++ ([] ++ []), [], hW', ?_, ?_, ?_, hb.frame _, fun h => by cases h⟩
  · rw [e1]; exact trodAll_mk1 (shut_bool Tryd.underlying4 true)
  · rw [e1]; exact trodAll_mk3 (Below.trod room_laidOut (by kernel_rfl) (of_decide_eq_true (by kernel_rfl)) h0 hb hlt0) (shut_int Tryd.underlying3 wl) (shut_int Tryd.underlying3 wm)
  · rw [e1]; rfl

theorem room_holds : Rows.WireRoomSaid :=
  OpenClaim.holds_of_wide 3 Tryd.f3 rfl rfl rfl rfl rfl rfl rfl ⟨rfl, rfl, rfl, rfl, rfl⟩ rfl rfl rfl rfl rfl (by kernel_rfl) Tryd.func3 (by kernel_rfl)
    (of_decide_eq_true (by kernel_rfl)) (by unfold Func.isWrapper; rw [if_neg (of_decide_eq_false (by kernel_rfl))]; exact ⟨rfl, rfl⟩)
    (fun os started H enc _ => room_lifted os started H enc)

theorem room_card : Rows.WireRoomCardSaid :=
  Claim7.holds_tied_plain_at .later [] _ _ _ _
    room_holds (fun _ h => by cases h) (by kernel_rfl) (fun _ h => by cases h) wireRoom_row_tie rfl ⟨rfl, rfl⟩ (by kernel_rfl) rfl
    (fun f fn hf hfn => by
      obtain rfl : f = 3 := Option.some.inj ((show Tryd.prog.funcNamed "barrow/barrowlaw02.WireRoom" = some 3 by kernel_rfl).symm.trans hf) |>.symm
      obtain rfl : fn = Tryd.f3 := (Option.some.inj (Tryd.func3.symm.trans hfn)).symm
      exact ⟨by kernel_rfl, fun j t ht => by
        rw [Tryd.params3] at ht
        have hm : t ∈ [22, 3, 3] := by simpa using Array.mem_of_getElem? ht
        have hall : ([22, 3, 3].all fun u => !Tryd.prog.wantsStandIn u) = true := by kernel_rfl
        exact (show Tryd.prog.wantsStandIn t = false by simpa using List.all_eq_true.1 hall t hm)⟩)
    (by kernel_rfl)
#print axioms room_card
end Go.Proofs.YtacbgognnjcinabDoor
