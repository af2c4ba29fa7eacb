/-
  Proved: for any clock and any int, at every start in which the listed variables hold what the program's text lays in them, barrowlaw03.ClockText returns true, and what was there is as it was: Text is the document's; what it writes of entries of 0 or more is read again, and nothing else is (P3.5). The tie of the listed variables is the given one: it speaks of the pruned copy that the translation was made of.
-/
import Derived.Test.YtcfefgcibdpmeaaDoorRows
import Derived.Test.YtcfefgcibdpmeaaDoorTie
import Derived.Test.YtcfefgcibdpmeaaDoorCards
import Derived.Test.YtcfefgcibdpmeaaDoorCkTextOk
import Derived.Test.YtcfefgcibdpmeaaDoorOpen
import Derived.Carry
import Derived.Lib.LaidTab
import Derived.WalkSmall
import Derived.SevenTiedAt
import Derived.OpenShut
namespace Go.Proofs.YtcfefgcibdpmeaaDoor
open Go.ChangeShapes Go.WideShapes Go.ChangeAt Go.RowKit
set_option maxRecDepth 100000

theorem textC_knob : ownKnob Tryd.prog.godebug = none := by kernel_rfl
theorem textC_laidOut : laidOutB Tryd.prog = true := by kernel_rfl

/-- The reasons that the row lists. -/
def namesT : List (String × List UInt8) := [("barrow/api.ErrArg", (txt 0).data.toList), ("barrow/api.ErrForm", (txt 5).data.toList)]
theorem textC_laid {W : World} (h : laidMetH Tryd.prog Rows.clockTextRow.laid W) : (∃ a5, W.cell? ⟨0, 0, none⟩ = some (.iface 205 (.pointer (some a5)))) ∧ Lib.TabIs Tryd.prog W "internal/strconv.uint64pow10" .u64 Lib.pow10Tab := by
  have h' : laidMet Tryd.prog (("math/bits.deBruijn32tab", Rows.laid_math_bits_deBruijn32tab) :: ("math/bits.deBruijn64tab", Rows.laid_math_bits_deBruijn64tab) :: ("internal/strconv.uint64pow10", Lib.tabData .u64 Lib.pow10Tab) :: (namesT.map fun x => (x.1, sent x.2))) W := h
  have ht := Lib.tabIs_of_head (k := .u64) (zs := Lib.pow10Tab) (n := 20) (show Tryd.prog.globalNamed "internal/strconv.uint64pow10" = some 4 by kernel_rfl) (t := 176) (by kernel_rfl) Tryd.underlying176 Tryd.underlying153 (by kernel_rfl) (by kernel_rfl) h'.tail.tail
  obtain ⟨ps, hv, _, hrows⟩ := h'.tail.tail.tail
  obtain ⟨ads, _, _, hall⟩ := sents_of namesT ps hv hrows (fun x hx => by
    simp only [namesT, List.mem_cons, List.not_mem_nil, or_false] at hx
    rcases hx with rfl | rfl
    · exact ⟨_, gl0, gt0⟩
    · exact ⟨_, gl5, gt5⟩)
  obtain ⟨a, _, hvar, _⟩ := hall 1 _ rfl
  exact ⟨⟨a, by simpa using World.var?_cell gl5 hvar 0⟩, ht⟩
theorem textC_tab {W : World} (h : Lib.TabIs Tryd.prog W "internal/strconv.uint64pow10" .u64 Lib.pow10Tab) (x : World) (hb : Below W.heap.size W x) : Lib.TabIs Tryd.prog x "internal/strconv.uint64pow10" .u64 Lib.pow10Tab := by
  have hg : Tryd.prog.globalNamed "internal/strconv.uint64pow10" = some 4 := by kernel_rfl
  have hlt : 4 < W.heap.size := by
    have h2 := h
    unfold Lib.TabIs World.var? at h2
    rw [hg, Option.bind_some] at h2
    apply Classical.byContradiction
    intro hc
    rw [Array.getElem?_eq_none (by omega)] at h2
    simp at h2
  exact var?_below hb hg hlt h

theorem textC_door (os : Os) (args : Array Value) : laidMetH Tryd.prog Rows.clockTextRow.laid ((World.doorLaid Tryd.prog 297 os).forCall (fun _ _ => 0) ⟨#[], args, []⟩).memory :=
  laidMetH_of_parts3 (fuel := 8) (laidMet_of_run' 8 (by kernel_rfl) (by kernel_rfl)) (by kernel_rfl) (by kernel_rfl)

theorem textC_lifted (os : Os) (started : os.Started) (H : Type) (enc : TypeId × Value → H) :
    ReturnsInHanded {} Tryd.checked os 3 .any (fun w args => (Rows.clockTextSpec.pre enc Tryd.prog Tryd.f3 [] false w args ∧ laidMetH Tryd.prog Rows.clockTextRow.laid w) ∧ sizedMet enc Tryd.prog Tryd.f3 (OpenSpec.ofChange Rows.clockTextSpec) false w args)
      (Rows.clockTextSpec.post enc Tryd.prog Tryd.f3 false true false false) := by
  refine returnsInHanded_of_change_and (C := Tryd.checked) (X := fun w _ => laidMetH Tryd.prog Rows.clockTextRow.laid w) (fun _ _ _ hh h => h.of_heap hh) textC_knob started (by kernel_rfl) Tryd.func3
    (ChangeSpec.witness_shaped (enc := enc) (C := Tryd.checked) (os := os) (X := fun w _ => laidMetH Tryd.prog Rows.clockTextRow.laid w) false (World.doorLaid Tryd.prog 297 os) #[.agg #[.int .i64 0, .int .i64 0, .int .i64 0, .int .i64 0, .int .i64 0, .int .i64 0, .int .i64 0, .int .i64 0], .int .i64 0] 8 rfl (World.shaped_of_RefB (by kernel_rfl) (by kernel_rfl)) (by kernel_rfl) (by kernel_rfl) (by kernel_rfl) (textC_door os _)) ?_
  intro W base args ds gs before hval0 hW _ _ hL _
  have hval : ∀ (j : Nat) t v, Tryd.f3.params[j]? = some t → args[j]? = some v → Value.okWide Tryd.prog W .any base t v := hval0
  have hW' := hW
  obtain ⟨p, q, hA0, hV, rfl, hfz, hnd⟩ := hW
  have hA : DataW.TrodAll enc Tryd.prog W 0 (fun _ => true) true Tryd.f3.params.toList args.toList ds p := hA0
  rw [Tryd.params3] at hA hval
  obtain ⟨v0, v1, d0, d1, p0, p1, rfl, rfl, rfl, h0, h1⟩ := trodAll_two hA
  obtain ⟨rfl, rfl⟩ := trodVars_none hV
  obtain ⟨a, rfl, hca⟩ := open_ck (hval 0 23 v0 rfl rfl) h0
  obtain ⟨n, rfl, _⟩ := open_i h1 (hval 1 3 v1 rfl rfl)
  obtain ⟨⟨a5, h5⟩, HT⟩ := textC_laid hL
  clear hA0 hval0
  simp only [List.append_nil] at hW'
  have hlt0 : ∀ x ∈ p0, x.block < W.heap.size := fun x hx => by simpa using hW'.lt x (List.mem_append_left _ hx)
  have hlt1 : ∀ x ∈ p1, x.block < W.heap.size := fun x hx => by simpa using hW'.lt x (List.mem_append_right _ hx)
  refine (textC_all a n W hca (textC_tab HT) (fun x hb => by rw [hb.cell (lt_of_cell h5)]; exact h5)).mono fun e W' ⟨he, hb⟩ => ?_
  subst he
  have e1 : Rows.clockTextSpec.fn H ([d0, d1] ++ []) = { results := [.lit (.bool true)], args := [d0, d1] } := by simp [Rows.clockTextSpec]
  refine ⟨_, rfl, _, _, _, [], p0 ++ p1, [], hW', ?_, ?_, ?_, hb.frame _, fun h => by cases h⟩
  · rw [e1]; exact trodAll_mk1 (shut_bool Tryd.underlying4 true)
  · rw [e1]; exact trodAll_mk2 (Below.trod textC_laidOut (by kernel_rfl) (of_decide_eq_true (by kernel_rfl)) h0 hb hlt0) (Below.trod textC_laidOut (by kernel_rfl) (of_decide_eq_true (by kernel_rfl)) h1 hb hlt1)
  · rw [e1]; rfl

theorem textC_holds : Rows.ClockTextSaid :=
  OpenClaim.holds_of_wide 3 Tryd.f3 rfl rfl rfl rfl rfl rfl rfl ⟨rfl, rfl, rfl, rfl, rfl⟩ rfl rfl rfl rfl rfl (by kernel_rfl) Tryd.func3 (by kernel_rfl)
    (of_decide_eq_true (by kernel_rfl)) (by unfold Func.isWrapper; rw [if_neg (of_decide_eq_false (by kernel_rfl))]; exact ⟨rfl, rfl⟩)
    (fun os started H enc _ => textC_lifted os started H enc)

theorem textC_card : Rows.ClockTextCardSaid :=
  Claim7.holds_tied_plain_at .later [] _ _ _ _
    textC_holds (fun _ h => by cases h) (by kernel_rfl) (fun _ h => by cases h) clockText_row_tie rfl ⟨rfl, rfl⟩ (by kernel_rfl) rfl
    (fun f fn hf hfn => by
      obtain rfl : f = 3 := Option.some.inj ((show Tryd.prog.funcNamed "barrow/barrowlaw03.ClockText" = some 3 by kernel_rfl).symm.trans hf) |>.symm
      obtain rfl : fn = Tryd.f3 := (Option.some.inj (Tryd.func3.symm.trans hfn)).symm
      exact ⟨by kernel_rfl, fun j t ht => by
        rw [Tryd.params3] at ht
        have hm : t ∈ [23, 3] := by simpa using Array.mem_of_getElem? ht
        have hall : ([23, 3].all fun u => !Tryd.prog.wantsStandIn u) = true := by kernel_rfl
        exact (show Tryd.prog.wantsStandIn t = false by simpa using List.all_eq_true.1 hall t hm)⟩)
    (by kernel_rfl)
#print axioms textC_card
end Go.Proofs.YtcfefgcibdpmeaaDoor
