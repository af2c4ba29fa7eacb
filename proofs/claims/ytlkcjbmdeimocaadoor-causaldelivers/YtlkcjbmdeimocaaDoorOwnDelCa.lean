
/-
  Proved: for any number, acts and clock barrowlaw11.CausalDelivers returns true, and what was there is as it was: of the first 40 acts, those that are one made alike, whoever asks Offer of each, and delivers what is Ready and then what Next tells, delivers each act once, its causes ahead of it; if none was Lost, as many as the document's order tells of them all (P11.5, W2). Conditions: at every start in which the listed variables hold what the program's text lays in them. The tie of the listed variables is the given one: it speaks of the pruned copy that the translation was made of.
-/
import Derived.Test.YtlkcjbmdeimocaaDoorRows
import Derived.Test.YtlkcjbmdeimocaaDoorTie
import Derived.Test.YtlkcjbmdeimocaaDoorCards
import Derived.Test.YtlkcjbmdeimocaaDoorCa18
import Derived.Test.YtlkcjbmdeimocaaDoorCaOp
import Derived.LaidMore
import Derived.LaidHandle
import Derived.ProofKit
import Derived.Carry
import Derived.OpenShut
import Derived.SevenTiedAt
namespace Go.Proofs.YtlkcjbmdeimocaaDoor
open Go.ChangeShapes Go.WideShapes Go.ChangeAt Go.RowKit
set_option maxRecDepth 100000

theorem causalDelivers_own : ownKnob Tryd.prog.godebug = none := by kernel_rfl
theorem causalDelivers_laidOut : laidOutB Tryd.prog = true := by kernel_rfl
theorem causalDelivers_door (os : Os) (args : Array Value) : laidMetH Tryd.prog Rows.causalDeliversRow.laid ((World.doorLaid Tryd.prog 282 os).forCall (fun _ _ => 0) ⟨#[], args, []⟩).memory :=
  laidMetH_of_parts3 (fuel := 8) (laidMet_of_run' 8 (by kernel_rfl) (by kernel_rfl)) (by kernel_rfl) (by kernel_rfl)

theorem causalDelivers_lifted (os : Os) (started : os.Started) (H : Type) (enc : TypeId × Value → H) :
    ReturnsInHanded {} Tryd.checked os 6 .any (fun w args => (Rows.causalDeliversSpec.pre enc Tryd.prog Tryd.f6 [] false w args ∧ laidMetH Tryd.prog Rows.causalDeliversRow.laid w) ∧ sizedMet enc Tryd.prog Tryd.f6 (OpenSpec.ofChange Rows.causalDeliversSpec) false w args)
      (Rows.causalDeliversSpec.post enc Tryd.prog Tryd.f6 false true false false) := by
  refine returnsInHanded_of_change_and (C := Tryd.checked) (X := fun w _ => laidMetH Tryd.prog Rows.causalDeliversRow.laid w) (fun _ _ _ hh h => h.of_heap hh) causalDelivers_own started (by kernel_rfl) Tryd.func6
    (ChangeSpec.witness_shaped (enc := enc) (C := Tryd.checked) (os := os) (X := fun w _ => laidMetH Tryd.prog Rows.causalDeliversRow.laid w) false (World.doorLaid Tryd.prog 282 os) #[.int .i64 0, .slice none 0 0, .agg #[.int .i64 0, .int .i64 0, .int .i64 0, .int .i64 0, .int .i64 0, .int .i64 0, .int .i64 0, .int .i64 0]] 8 rfl (World.shaped_of_RefB (by kernel_rfl) (by kernel_rfl)) (by kernel_rfl) (by kernel_rfl) (by kernel_rfl) (causalDelivers_door os _)) ?_
  intro W base args ds gs before hval0 hW _ _ _ _
  have hval : ∀ (j : Nat) t v, Tryd.f6.params[j]? = some t → args[j]? = some v → Value.okWide Tryd.prog W .any base t v := hval0
  have hW' := hW
  obtain ⟨p, q, hA0, hV, rfl, hfz, hnd⟩ := hW
  have hA : DataW.TrodAll enc Tryd.prog W 0 (fun _ => true) true Tryd.f6.params.toList args.toList ds p := hA0
  rw [Tryd.params6] at hA hval
  obtain ⟨v0, v1, v2, d0, d1, d2, p0, p1, p2, rfl, rfl, rfl, h0, h1, h2⟩ := trodAll_three hA
  obtain ⟨rfl, rfl⟩ := trodVars_none hV
  obtain ⟨most, rfl, hmost⟩ := open_i h0 (hval 0 3 v0 rfl rfl)
  obtain ⟨l, hl, hlf, hcap⟩ := open_actsF (hval 1 37 v1 rfl rfl) h1
  obtain ⟨h, rfl, hh⟩ := open_ck (hval 2 44 v2 rfl rfl) h2
  clear hA0 hval0
  simp only [List.append_nil] at hW'
  have hlt0 : ∀ x ∈ p0, x.block < W.heap.size := fun x hx => by simpa using hW'.lt x (by simp [hx])
  have hlt1 : ∀ x ∈ p1, x.block < W.heap.size := fun x hx => by simpa using hW'.lt x (by simp [hx])
  have hlt2 : ∀ x ∈ p2, x.block < W.heap.size := fun x hx => by simpa using hW'.lt x (by simp [hx])
  refine (causalDelivers_all hmost hl hlf hcap hh).mono fun e W' ⟨he, hb⟩ => ?_
  subst he
  have e1 : Rows.causalDeliversSpec.fn H ([d0, d1, d2] ++ []) = { results := [.lit (.bool true)], args := [d0, d1, d2] } := by simp [Rows.causalDeliversSpec]
  refine ⟨_, rfl, _, _, _, [], p0 ++ (p1 ++ p2), [], hW', ?_, ?_, ?_, hb.frame _, fun h => by cases h⟩
  · rw [e1]; exact trodAll_mk1 (shut_bool Tryd.underlying4 true)
  · rw [e1]; exact trodAll_mk3 (Below.trod causalDelivers_laidOut (by kernel_rfl) (of_decide_eq_true (by kernel_rfl)) h0 hb hlt0) (Below.trod causalDelivers_laidOut (by kernel_rfl) (of_decide_eq_true (by kernel_rfl)) h1 hb hlt1) (Below.trod causalDelivers_laidOut (by kernel_rfl) (of_decide_eq_true (by kernel_rfl)) h2 hb hlt2)
  · rw [e1]; rfl

theorem causalDelivers_holds : Rows.CausalDeliversSaid :=
  OpenClaim.holds_of_wide 6 Tryd.f6 rfl rfl rfl rfl rfl rfl rfl ⟨rfl, rfl, rfl, rfl, rfl⟩ rfl rfl rfl rfl rfl (by kernel_rfl) Tryd.func6 (by kernel_rfl)
    (of_decide_eq_true (by kernel_rfl)) (by unfold Func.isWrapper; rw [if_neg (of_decide_eq_false (by kernel_rfl))]; exact ⟨rfl, rfl⟩)
    (fun os started H enc _ => causalDelivers_lifted os started H enc)

theorem causalDelivers_card : Rows.CausalDeliversCardSaid :=
  Claim7.holds_tied_plain_at .later [] _ _ _ _
    causalDelivers_holds (fun _ h => by cases h) (by kernel_rfl) (fun _ h => by cases h) causalDelivers_row_tie rfl ⟨rfl, rfl⟩ (by kernel_rfl) rfl
    (fun f fn hf hfn => by
      obtain rfl : f = 6 := Option.some.inj ((show Tryd.prog.funcNamed "barrow/barrowlaw11.CausalDelivers" = some 6 by kernel_rfl).symm.trans hf) |>.symm
      obtain rfl : fn = Tryd.f6 := (Option.some.inj (Tryd.func6.symm.trans hfn)).symm
      exact ⟨by kernel_rfl, fun j t ht => by
        rw [Tryd.params6] at ht
        have hm : t ∈ [3, 37, 44] := by simpa using Array.mem_of_getElem? ht
        have hall : ([3, 37, 44].all fun u => !Tryd.prog.wantsStandIn u) = true := by kernel_rfl
        exact (show Tryd.prog.wantsStandIn t = false by simpa using List.all_eq_true.1 hall t hm)⟩)
    (by kernel_rfl)
#print axioms causalDelivers_card
end Go.Proofs.YtlkcjbmdeimocaaDoor
