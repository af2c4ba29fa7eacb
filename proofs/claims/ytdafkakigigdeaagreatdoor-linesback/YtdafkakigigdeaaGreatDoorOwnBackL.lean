
/-
  Proved: for any list of characters and any list of which are hidden barrowlaw06.LinesBack returns true, and what was there is as it was: Place of Where is the gap, the Texts of all lines are Split of the view, and with line ends between the view (P6.5). The great table utf8.first is listed by the form's own constant; nothing here reads it. Conditions: at every start in which the listed variables hold what the program's text lays in them. The tie of the listed variables is the given one: it speaks of the pruned copy that the translation was made of.
-/
import Derived.Test.YtdafkakigigdeaaGreatDoorRows
import Derived.Test.YtdafkakigigdeaaGreatDoorTie
import Derived.Test.YtdafkakigigdeaaGreatDoorCards
import Derived.Test.YtdafkakigigdeaaGreatDoorLbA
import Derived.Test.YtdafkakigigdeaaGreatDoorVwZ
import Derived.Test.YtdafkakigigdeaaGreatDoorOpen
import Derived.Carry
import Derived.SevenTiedAt
import Derived.OpenShut
import Derived.Deep.DeepWitnessRowRef
import Derived.LaidMore
import Derived.LaidHandle
import Derived.Stop.LaidErr
import Derived.Lay
import Derived.ChangeMaps5
import Derived.Shelf.LaysM
namespace Go.Proofs.YtdafkakigigdeaaGreatDoor
open Go.ChangeShapes Go.WideShapes Go.ChangeAt Go.RowKit
set_option maxRecDepth 100000

theorem linesBack_knob : ownKnob Tryz.prog.godebug = none := by kernel_rfl
theorem linesBack_laidOut : laidOutB Tryz.prog = true := by kernel_rfl
theorem LaidVars_pre {P : Program} {w : World} : ∀ {l r : List (String × DataW Unit)} {ps : List MemPlace}, DataW.LaidVars P w (l ++ r) ps → ∃ p1 p2, DataW.LaidVars P w l p1 ∧ ps = p1 ++ p2
  | [], r, ps, h => ⟨[], ps, rfl, rfl⟩
  | x :: l, r, ps, h => by
    obtain ⟨g, t, cs, f, p, q, h1, h2, h3, h4, hq, e⟩ := h
    obtain ⟨p1, p2, a, b⟩ := LaidVars_pre hq
    exact ⟨_, p2, ⟨g, t, cs, f, p, p1, h1, h2, h3, h4, a, rfl⟩, by rw [e, b]; simp [List.append_assoc]⟩
theorem laidMet_pre {P : Program} {w : World} {l r : List (String × DataW Unit)} (h : laidMet P (l ++ r) w) : laidMet P l w := by
  obtain ⟨ps, h1, h2, h3⟩ := h
  obtain ⟨p1, p2, a, rfl⟩ := LaidVars_pre h1
  exact ⟨p1, a, (List.nodup_append.1 h2).1, fun b off hm => h3 b off (List.mem_append_left _ hm)⟩
theorem linesBack_laid {W : World} (h : laidMetH Tryz.prog Rows.linesBackRow.laid W) : ∃ ad, Laid ad W := by
  have h' : laidMet Tryz.prog (("unicode/utf8.acceptRanges", Rows.laid_unicode_utf8_acceptRanges) :: ((names.map fun x => (x.1, sent x.2)) ++ [("unicode/utf8.first", Rows.laid_unicode_utf8_first)])) W ∧ handlesMet Tryz.prog [("errors.errorType", .iface "internal/reflectlite.rtype" (.agg [.ptr (.lit (.string [101, 114, 114, 111, 114]))]))] W := h
  exact laid_of (laidMet_pre h'.1.tail) h'.2
theorem linesBack_max {W : World} (h : W.ShapedOpen Tryz.prog) : ∃ m, W.cell? ⟨5, 0, none⟩ = some (.int .i64 m) :=
  Go.Proofs.cell_of_shapedOpen_int (zero := #[.int .i64 0]) (t := 3) h (of_decide_eq_true (by kernel_rfl)) (by kernel_rfl) rfl (by kernel_rfl) (by kernel_rfl) Tryz.underlying3
theorem linesBack_os {os : Os} : ((World.doorLaid Tryz.prog 292 os).layVars Tryz.prog [("unicode/utf8.first", Rows.laid_unicode_utf8_first)]).os = os := World.layVars_os _ _ _
theorem linesBack_door (os : Os) (args : Array Value) : laidMetH Tryz.prog Rows.linesBackRow.laid (((World.doorLaid Tryz.prog 292 os).layVars Tryz.prog [("unicode/utf8.first", Rows.laid_unicode_utf8_first)]).forCall (fun _ _ => 0) ⟨#[], args, []⟩).memory :=
  laidMetH_of_parts3 (fuel := 8) (laidMet_of_run' 8 (by kernel_rfl) (by kernel_rfl)) (by kernel_rfl) (by kernel_rfl)
theorem linesBack_reads (os : Os) {H : Type} (enc : TypeId × Value → H) : ∃ places, DataW.whole enc Tryz.prog (((World.doorLaid Tryz.prog 292 os).layVars Tryz.prog [("unicode/utf8.first", Rows.laid_unicode_utf8_first)]).forCall (fun _ _ => 0) ⟨#[], #[.slice none 0 0, .slice none 0 0], []⟩).memory Tryz.f3.params.toList Rows.linesBackSpec.vars false (#[.slice none 0 0, .slice none 0 0] : Array Value).toList 8 = some ([.nil, .nil], [], places) :=
  ⟨[], by kernel_rfl⟩

theorem linesBack_contract (H : Type) (enc : TypeId × Value → H) (W : World) (base : Nat) (args : Array Value) (ds gs : List (DataW H)) (before : List MemPlace)
    (hval0 : ∀ (j : Nat) t v, Tryz.f3.params[j]? = some t → args[j]? = some v → Value.okWide Tryz.prog W .any base t v)
    (hW : DataW.Whole enc Tryz.prog Tryz.f3.params.toList Rows.linesBackSpec.vars false W args.toList ds gs before) (hL : laidMetH Tryz.prog Rows.linesBackRow.laid W) (hS : W.ShapedOpen Tryz.prog) :
    Calls Tryz.prog 3 args W fun e W' => ∃ v, e = .returned v ∧ Rows.linesBackSpec.post enc Tryz.prog Tryz.f3 false true false false W args v W' := by
  have hval : ∀ (j : Nat) t v, Tryz.f3.params[j]? = some t → args[j]? = some v → Value.okWide Tryz.prog W .any base t v := hval0
  have hW' := hW
  obtain ⟨p, q, hA0, hV, rfl, hfz, hnd⟩ := hW
  have hA : DataW.TrodAll enc Tryz.prog W 0 (fun _ => true) true Tryz.f3.params.toList args.toList ds p := hA0
  rw [Tryz.params3] at hA hval
  obtain ⟨v0, v1, d0, d1, p0, p1, rfl, rfl, rfl, h0, h1⟩ := trodAll_two hA
  obtain ⟨rfl, rfl⟩ := trodVars_none hV
  obtain ⟨cs, hs0⟩ := open_runes (hval 0 22 v0 rfl rfl) h0
  obtain ⟨hs, hs1⟩ := open_yns (hval 1 23 v1 rfl rfl) h1
  obtain ⟨m, hm⟩ := linesBack_max hS
  have hmb := World.block_lt_of_cell? _ _ hm
  obtain ⟨ad, L⟩ := linesBack_laid hL
  clear hA0 hval0
  simp only [List.append_nil] at hW'
  have hlt0 : ∀ x ∈ p0, x.block < W.heap.size := fun x hx => by simpa using hW'.lt x (List.mem_append_left _ hx)
  have hlt1 : ∀ x ∈ p1, x.block < W.heap.size := fun x hx => by simpa using hW'.lt x (List.mem_append_right _ hx)
  refine (linesBack_of m hm hmb (fun _ _ _ h hl hc => view_ok h (by omega) hc) L hs0 hs1).mono fun e W' ⟨he, hb⟩ => ?_
  subst he
  have e1 : Rows.linesBackSpec.fn H ([d0, d1] ++ []) = { results := [.lit (.bool true)], args := [d0, d1] } := by simp [Rows.linesBackSpec]
  refine ⟨_, rfl, _, _, _, [], p0 ++ p1, [], hW', ?_, ?_, ?_, hb.frame _, fun h => by cases h⟩
  · rw [e1]; exact trodAll_mk1 (shut_bool Tryz.underlying4 true)
  · rw [e1]; exact trodAll_mk2 (Below.trod linesBack_laidOut (by kernel_rfl) (of_decide_eq_true (by kernel_rfl)) h0 hb hlt0) (Below.trod linesBack_laidOut (by kernel_rfl) (of_decide_eq_true (by kernel_rfl)) h1 hb hlt1)
  · rw [e1]; rfl

theorem linesBack_lifted (os : Os) (started : os.Started) (H : Type) (enc : TypeId × Value → H) (F : Stop.Interp) :
    ReturnsInHanded {} Tryz.checked os 3 .any ((OpenSpec.ofChange Rows.linesBackSpec).preRow enc Tryz.prog Tryz.f3 Rows.linesBackRow.domain false Rows.linesBackRow.laid) (((OpenSpec.ofChange Rows.linesBackSpec).at F).post enc Tryz.prog Tryz.f3 false true false false) := by
  obtain ⟨places, hx⟩ := linesBack_reads os enc
  refine returnsInHanded_of_row (C := Tryz.checked) (s := OpenSpec.ofChange Rows.linesBackSpec) linesBack_knob started (by kernel_rfl) Tryz.func3
    (witness_row_atRef (enc := enc) (C := Tryz.checked) false ((World.doorLaid Tryz.prog 292 os).layVars Tryz.prog [("unicode/utf8.first", Rows.laid_unicode_utf8_first)]) #[.slice none 0 0, .slice none 0 0] linesBack_os (by kernel_rfl) (by kernel_rfl) (by kernel_rfl)
      (OpenSpec.preRow_of_cond 8 hx (by kernel_rfl) (fun k hk => by cases hk) (by kernel_rfl) (linesBack_door os _))) ?_
  intro W base args ds gs before hval hW _ _ _ hL hS _
  exact linesBack_contract H enc W base args ds gs before hval hW hL hS

theorem linesBack_said : Rows.LinesBackSaid :=
  OpenClaim.holds_of_cond 3 Tryz.f3 rfl rfl rfl rfl rfl rfl rfl ⟨rfl, rfl, rfl, rfl, rfl⟩ rfl rfl rfl rfl rfl (by kernel_rfl) Tryz.func3 (by kernel_rfl)
    (of_decide_eq_true (by kernel_rfl)) (by unfold Func.isWrapper; rw [if_neg (of_decide_eq_false (by kernel_rfl))]; exact ⟨rfl, rfl⟩)
    (fun os started H enc _ F => by rw [OpenClaim.pre_eq_preRow]; exact linesBack_lifted os started H enc F)

theorem linesBack_card : Rows.LinesBackCardSaid :=
  Claim7.holds_tied_plain_at .later [] _ _ _ _
    linesBack_said (fun _ h => by cases h) (by kernel_rfl) (fun _ h => by cases h) linesBack_row_tie rfl ⟨rfl, rfl⟩ (by kernel_rfl) rfl
    (fun f fn hf hfn => by
      obtain rfl : f = 3 := Option.some.inj ((show Tryz.prog.funcNamed "barrow/barrowlaw06.LinesBack" = some 3 by kernel_rfl).symm.trans hf) |>.symm
      obtain rfl : fn = Tryz.f3 := (Option.some.inj (Tryz.func3.symm.trans hfn)).symm
      exact ⟨by kernel_rfl, fun j t ht => by
        rw [Tryz.params3] at ht
        have hm : t ∈ [22, 23] := by simpa using Array.mem_of_getElem? ht
        have hall : ([22, 23].all fun u => !Tryz.prog.wantsStandIn u) = true := by kernel_rfl
        exact (show Tryz.prog.wantsStandIn t = false by simpa using List.all_eq_true.1 hall t hm)⟩)
    (by kernel_rfl)
#print axioms linesBack_card
end Go.Proofs.YtdafkakigigdeaaGreatDoor
