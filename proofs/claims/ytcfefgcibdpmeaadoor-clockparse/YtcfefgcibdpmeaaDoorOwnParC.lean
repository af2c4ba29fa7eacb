/-
  Proved: for any string (no longer than the row's reach lets one be), at every start in which the listed variables hold what the program's text lays in them, barrowlaw03.ClockParse returns true, and what was there is as it was: Parse is the document's, its refusals too; what is read is written so again (P3.5). The tie of the listed variables is the given one: it speaks of the pruned copy that the translation was made of.
-/
import Derived.Test.YtcfefgcibdpmeaaDoorRows
import Derived.Test.YtcfefgcibdpmeaaDoorTie
import Derived.Test.YtcfefgcibdpmeaaDoorCards
import Derived.Test.YtcfefgcibdpmeaaDoorCkParOk
import Derived.Test.YtcfefgcibdpmeaaDoorOpen
import Derived.Carry
import Derived.SevenTiedAt
import Derived.OpenShut
import Derived.Lib.LaidTab
import Derived.ChangeMaps5
import Derived.WalkSmall
namespace Go.Proofs.YtcfefgcibdpmeaaDoor
open Go.ChangeShapes Go.WideShapes Go.ChangeAt Go.RowKit
set_option maxRecDepth 100000

theorem parC_knob : ownKnob Tryd.prog.godebug = none := by kernel_rfl
theorem str_reach {H : Type} {s : ByteArray} (hz : (DataW.weightsEach Tryd.prog ([9] ++ []) (([.lit (.string s.data.toList)] : List (DataW H)) ++ [])).all (· ≤ reachBytes) = true) : s.size ≤ 140737488355328 := by
  have h1 := (List.all_eq_true.1 hz) s.data.toList.length (by simp [DataW.weightsEach, DataW.weights])
  have h2 := of_decide_eq_true h1
  unfold reachBytes at h2
  rw [Array.length_toList] at h2
  have e : s.size = s.data.size := rfl
  omega
theorem parC_laidOut : laidOutB Tryd.prog = true := by kernel_rfl
theorem parC_laid {W : World} (h : laidMetH Tryd.prog Rows.clockParseRow.laid W) : (∃ ad, Laid ad W) ∧ Lib.TabIs Tryd.prog W "internal/strconv.uint64pow10" .u64 Lib.pow10Tab := by
  have h' : laidMet Tryd.prog (("math/bits.deBruijn32tab", Rows.laid_math_bits_deBruijn32tab) :: ("math/bits.deBruijn64tab", Rows.laid_math_bits_deBruijn64tab) :: ("internal/strconv.uint64pow10", Lib.tabData .u64 Lib.pow10Tab) :: (names.map fun x => (x.1, sent x.2))) W ∧ handlesMet Tryd.prog [("errors.errorType", .iface "internal/reflectlite.rtype" (.agg [.ptr (.lit (.string [101, 114, 114, 111, 114]))]))] W := h
  exact ⟨laid_of h'.1.tail.tail.tail h'.2, Lib.tabIs_of_head (k := .u64) (zs := Lib.pow10Tab) (n := 20) (show Tryd.prog.globalNamed "internal/strconv.uint64pow10" = some 4 by kernel_rfl) (t := 176) (by kernel_rfl) Tryd.underlying176 Tryd.underlying153 (by kernel_rfl) (by kernel_rfl) h'.1.tail.tail⟩
theorem parC_tab {W : World} (h : Lib.TabIs Tryd.prog W "internal/strconv.uint64pow10" .u64 Lib.pow10Tab) (x : World) (hb : Below W.heap.size W x) : Lib.TabIs Tryd.prog x "internal/strconv.uint64pow10" .u64 Lib.pow10Tab := by
  have hg : Tryd.prog.globalNamed "internal/strconv.uint64pow10" = some 4 := by kernel_rfl
  have hlt : 4 < W.heap.size := by
    have h2 := h
    unfold Lib.TabIs World.var? at h2
    rw [hg, Option.bind_some] at h2
    apply Classical.byContradiction
    intro hc
    rw [Array.getElem?_eq_none (by omega)] at h2
    simp at h2
  exact var?_below hb hg hlt h

theorem parC_door (os : Os) (args : Array Value) : laidMetH Tryd.prog Rows.clockParseRow.laid ((World.doorLaid Tryd.prog 297 os).forCall (fun _ _ => 0) ⟨#[], args, []⟩).memory :=
  laidMetH_of_parts3 (fuel := 8) (laidMet_of_run' 8 (by kernel_rfl) (by kernel_rfl)) (by kernel_rfl) (by kernel_rfl)

theorem parC_lifted (os : Os) (started : os.Started) (H : Type) (enc : TypeId × Value → H) :
    ReturnsInHanded {} Tryd.checked os 4 .any (fun w args => (Rows.clockParseSpec.pre enc Tryd.prog Tryd.f4 [] false w args ∧ laidMetH Tryd.prog Rows.clockParseRow.laid w) ∧ sizedMet enc Tryd.prog Tryd.f4 (OpenSpec.ofChange Rows.clockParseSpec) false w args)
      (Rows.clockParseSpec.post enc Tryd.prog Tryd.f4 false true false false) := by
  refine returnsInHanded_of_change_and (C := Tryd.checked) (X := fun w _ => laidMetH Tryd.prog Rows.clockParseRow.laid w) (fun _ _ _ hh h => h.of_heap hh) parC_knob started (by kernel_rfl) Tryd.func4
    (ChangeSpec.witness_shaped (enc := enc) (C := Tryd.checked) (os := os) (X := fun w _ => laidMetH Tryd.prog Rows.clockParseRow.laid w) false (World.doorLaid Tryd.prog 297 os) #[.string ⟨#[]⟩] 8 rfl (World.shaped_of_RefB (by kernel_rfl) (by kernel_rfl)) (by kernel_rfl) (by kernel_rfl) (by kernel_rfl) (parC_door os _)) ?_
  intro W base args ds gs before hval0 hW _ hz hL _
  have hval : ∀ (j : Nat) t v, Tryd.f4.params[j]? = some t → args[j]? = some v → Value.okWide Tryd.prog W .any base t v := hval0
  have hW' := hW
  obtain ⟨p, q, hA0, hV, rfl, hfz, hnd⟩ := hW
  have hA : DataW.TrodAll enc Tryd.prog W 0 (fun _ => true) true Tryd.f4.params.toList args.toList ds p := hA0
  rw [Tryd.params4] at hA hval
  obtain ⟨v1, d1, rfl, rfl, h1⟩ := trodAll_one hA
  obtain ⟨rfl, rfl⟩ := trodVars_none hV
  obtain ⟨s, rfl, rfl, rfl, hws⟩ := Go.ChangeMaps.open_string Tryd.underlying9 (hval 0 9 v1 rfl rfl) h1
  have hsz : s.size ≤ 140737488355328 := str_reach hz
  obtain ⟨⟨ad, L⟩, HT⟩ := parC_laid hL
  clear hA0 hval0
  simp only [List.append_nil] at hW'
  have hlt1 : ∀ x ∈ ([] : List MemPlace), x.block < W.heap.size := fun x hx => by cases hx
  refine (parC_all s W L hsz (parC_tab HT)).mono fun e W' ⟨he, hb⟩ => ?_
  subst he
  have e1 : Rows.clockParseSpec.fn H ([.lit (.string s.data.toList)] ++ []) = { results := [.lit (.bool true)], args := [.lit (.string s.data.toList)] } := by simp [Rows.clockParseSpec]
  refine ⟨_, rfl, _, _, _, [], [], [], hW', ?_, ?_, ?_, hb.frame _, fun h => by cases h⟩
  · rw [e1]; exact trodAll_mk1 (shut_bool Tryd.underlying4 true)
  · rw [e1]; exact trodAll_mk1 (Below.trod parC_laidOut (by kernel_rfl) (of_decide_eq_true (by kernel_rfl)) h1 hb hlt1)
  · rw [e1]; rfl

theorem parC_holds : Rows.ClockParseSaid :=
  OpenClaim.holds_of_wide 4 Tryd.f4 rfl rfl rfl rfl rfl rfl rfl ⟨rfl, rfl, rfl, rfl, rfl⟩ rfl rfl rfl rfl rfl (by kernel_rfl) Tryd.func4 (by kernel_rfl)
    (of_decide_eq_true (by kernel_rfl)) (by unfold Func.isWrapper; rw [if_neg (of_decide_eq_false (by kernel_rfl))]; exact ⟨rfl, rfl⟩)
    (fun os started H enc _ => parC_lifted os started H enc)

theorem parC_card : Rows.ClockParseCardSaid :=
  Claim7.holds_tied_plain_at .later [] _ _ _ _
    parC_holds (fun _ h => by cases h) (by kernel_rfl) (fun _ h => by cases h) clockParse_row_tie rfl ⟨rfl, rfl⟩ (by kernel_rfl) rfl
    (fun f fn hf hfn => by
      obtain rfl : f = 4 := Option.some.inj ((show Tryd.prog.funcNamed "barrow/barrowlaw03.ClockParse" = some 4 by kernel_rfl).symm.trans hf) |>.symm
      obtain rfl : fn = Tryd.f4 := (Option.some.inj (Tryd.func4.symm.trans hfn)).symm
      exact ⟨by kernel_rfl, fun j t ht => by
        rw [Tryd.params4] at ht
        have hm : t ∈ [9] := by simpa using Array.mem_of_getElem? ht
        have hall : ([9].all fun u => !Tryd.prog.wantsStandIn u) = true := by kernel_rfl
        exact (show Tryd.prog.wantsStandIn t = false by simpa using List.all_eq_true.1 hall t hm)⟩)
    (by kernel_rfl)
#print axioms parC_card
end Go.Proofs.YtcfefgcibdpmeaaDoor
