
/-
  Package lines: Count, ends, textOf, the refusals, Start, Length, Text. barrowlaw06.begun: a model of some characters.
  barrowlaw06.begun's walk. Package lines: Start, Length, Text; Where of no model; barrowlaw06.wakes. barrowref05.Split and Start: a row of characters cut at its line ends. The lines of a row, by index: plain lists; barrowref05.Start. barrowref05.Start and UTF8. barrowlaw06.no and line. Lists of runes, of yes and no and of numbers that came in; barrowlaw06.LinesExact. Package lines: lineOf (by sort.Search), Where and Place; barrowref05.Where. Words: what a rune's bytes decode to; the word at a gap. A text cut at its line ends: plain lists.
  lines.Split; barrowlaw06.LinesSplit. The lines of a row of characters and the pieces of its bytes; the pieces put together again. barrowlaw06.LinesBack, over what View tells.
-/
import Derived.Test.YtdafkakigigdeaaGreatDoorMd4
import Derived.Test.YtdafkakigigdeaaGreatDoorTrRef0
import Derived.Deep.Slices
import Derived.RowKit
import Derived.ProofKit
import Derived.Lib.MapLaws
import Derived.Lib.TrimUEq
import Derived.Lib.OthersKept
import Derived.Test.YtdafkakigigdeaaGreatDoorShelf
import Derived.Lib.SplitLaws
import Derived.Lib.IndexLaws
import Derived.Laws.Concat
namespace Go.Proofs.YtdafkakigigdeaaGreatDoor
open Go.RowKit Go.Extern.Stop Go.Stop Go.Extern
set_option maxRecDepth 100000

/-- Where a line begins, and where it ends. -/
def stC (v : List Int) (j : Nat) : Nat := match j with
  | 0 => 0
  | k + 1 => endC v k + 1
def enC (v : List Int) (j : Nat) : Nat := if j = nlC v then v.length else endC v j
theorem endC_up : ∀ (v : List Int) (k : Nat), k + 1 < nlC v → endC v k < endC v (k + 1)
  | [], k, h => by simp [nlC] at h
  | c :: v, k, h => by
    rw [nlC_cons] at h
    by_cases hc : c = 10
    · subst hc
      rw [endC_succ]
      cases k with
      | zero => rw [endC_zero]; omega
      | succ k => rw [endC_succ]; have := endC_up v k (by simp at h; omega); omega
    · rw [endC_other _ _ hc, endC_other _ _ hc]
      have := endC_up v k (by rw [if_neg hc] at h; omega)
      omega
theorem st_en (v : List Int) (j : Nat) (h : j ≤ nlC v) : stC v j ≤ enC v j ∧ enC v j ≤ v.length := by
  unfold enC
  by_cases e : j = nlC v
  · rw [if_pos e]
    cases j with
    | zero => exact ⟨Nat.zero_le _, Nat.le_refl _⟩
    | succ k => have := endC_lt v k (by omega); exact ⟨this, Nat.le_refl _⟩
  · rw [if_neg e]
    have h1 := endC_lt v j (by omega)
    cases j with
    | zero => exact ⟨Nat.zero_le _, by omega⟩
    | succ k => have := endC_up v k (by omega); exact ⟨this, by omega⟩
theorem vis_le (l : List El) : (vis l).length ≤ l.length := by have := liveL_vis l; have := liveL_b l; omega

theorem lineEnd_c {mb : Nat} {l : List El} {w : World} (h : MvAt mb l w) (k : Nat) (hn : l.length ≤ 1000000) (hk1 : k < nlC (vis l)) :
    Calls Tryz.prog 62 #[pv mb, .int .i64 (k : Int)] w fun r w' => r = .returned (.tuple #[.int .i64 (endC (vis l) k : Int), .nilIface]) ∧ Below w.heap.size w w' := by
  have h1 : (k : Int) < lineL l := by rw [lineL_vis]; omega
  have := lineEnd_ok h k (by omega) (by omega) h1
  rw [line_end l k h1] at this
  exact this
theorem lines_c {mb : Nat} {l : List El} {w : World} (h : MvAt mb l w) :
    Calls Tryz.prog 32 #[pv mb] w fun r w' => r = .returned (.int .i64 (nlC (vis l) : Int)) ∧ Below w.heap.size w w' := by
  have := lines_any h
  rw [lineL_vis] at this
  exact this
theorem live_c {mb : Nat} {l : List El} {w : World} (h : MvAt mb l w) :
    Calls Tryz.prog 59 #[pv mb] w fun r w' => r = .returned (.int .i64 ((vis l).length : Int)) ∧ Below w.heap.size w w' := by
  have := live_md h
  rw [liveL_vis] at this
  exact this
set_option maxHeartbeats 400000 in
theorem count_nil (w : World) : Calls Tryz.prog 10 #[.pointer none] w fun r w' => r = .returned (.int .i64 0) ∧ w' = w := by
  go_enter Tryz.func10, Tryz.ntmps10
  go_wp2
  go_ret
  exact ⟨rfl, rfl⟩
set_option maxHeartbeats 400000 in
theorem count_any {mb : Nat} {l : List El} {w : World} (h : MvAt mb l w) (hn : l.length ≤ 1000000) :
    Calls Tryz.prog 10 #[pv mb] w fun r w' => r = .returned (.int .i64 ((nlC (vis l) : Int) + 1)) ∧ Below w.heap.size w w' := by
  have HL := hid_of' (lines_c h)
  have h1 := nlC_b (vis l)
  have h2 := vis_le l
  have hK : wrap64 ((nlC (vis l) : Int) + 1) = (nlC (vis l) : Int) + 1 := wrapIs (by omega) (by omega)
  unfold pv at *
  clear h h1 h2 hn
  go_enter Tryz.func10, Tryz.ntmps10
  go_wp2_with (go_at_call 32; refine HL.out.mono ?_; rintro r w1 ⟨rfl, hb1⟩)
  go_ret
  exact ⟨congrArg (fun x => Ending.returned (Value.int .i64 x)) hK, hb1⟩
set_option maxHeartbeats 1000000 in
theorem ends_any {mb : Nat} {l : List El} {w : World} (h : MvAt mb l w) (j : Nat) (hn : l.length ≤ 1000000) (hj : j ≤ nlC (vis l)) :
    Calls Tryz.prog 25 #[pv mb, .int .i64 (j : Int)] w fun r w' => r = .returned (.tuple #[.int .i64 (stC (vis l) j : Int), .int .i64 (enC (vis l) j : Int)]) ∧ Below w.heap.size w w' := by
  have HL : Hid (∀ x, Below w.heap.size w x → _) := fun x hx => lines_c (h.later hx)
  have HV : Hid (∀ x, Below w.heap.size w x → _) := fun x hx => live_c (h.later hx)
  have HE : Hid (∀ x, Below w.heap.size w x → ∀ k : Nat, k < nlC (vis l) → _) := fun x hx k hk => lineEnd_c (h.later hx) k hn hk
  have h1 := nlC_b (vis l)
  have h2 := vis_le l
  have hR := Below.refl w.heap.size w
  unfold pv at *
  cases j with
  | zero =>
    by_cases e : 0 = nlC (vis l)
    · rw [show enC (vis l) 0 = (vis l).length by unfold enC; rw [if_pos e]]
      have e' : ((0 : Int) == (nlC (vis l) : Int)) = true := by rw [beq_iff_eq]; omega
      clear h h1 h2 hn hj e
      go_enter Tryz.func25, Tryz.ntmps25
      go_wp2_with (first | (go_at_call 32; refine (HL.out _ hR).mono ?_; rintro r w1 ⟨rfl, hb1⟩) | (go_at_call 59; refine (HV.out _ hb1).mono ?_; rintro r w2 ⟨rfl, hb2⟩))
      go_ret2
      exact ⟨rfl, bgo hb1 hb2⟩
    · rw [show enC (vis l) 0 = endC (vis l) 0 by unfold enC; rw [if_neg e]]
      have e' : ((0 : Int) == (nlC (vis l) : Int)) = false := by rw [beq_eq_false_iff_ne]; omega
      have HE0 : Hid (∀ x, Below w.heap.size w x → _) := fun x hx => HE.out x hx 0 (by omega)
      clear h h1 h2 hn hj e
      go_enter Tryz.func25, Tryz.ntmps25
      go_wp2_with (first | (go_at_call 32; refine (HL.out _ hR).mono ?_; rintro r w1 ⟨rfl, hb1⟩) | (go_at_call 62; refine (HE0.out _ hb1).mono ?_; rintro r w2 ⟨rfl, hb2⟩))
      go_ret2
      exact ⟨rfl, bgo hb1 hb2⟩
  | succ k =>
    obtain ⟨J, hJ⟩ : ∃ J : Int, J = ((k + 1 : Nat) : Int) := ⟨_, rfl⟩
    rw [← hJ]
    have hkp : 0 < J := by omega
    have hKm : wrap64 (J - 1) = (k : Int) := by rw [wrapIs (by omega) (by omega)]; omega
    have hlt := endC_lt (vis l) k (by omega)
    have hKs : wrap64 ((endC (vis l) k : Int) + 1) = ((stC (vis l) (k + 1) : Nat) : Int) := by rw [wrapIs (by omega) (by omega)]; rfl
    have HEk : Hid (∀ x, Below w.heap.size w x → _) := fun x hx => HE.out x hx k (by omega)
    by_cases e : k + 1 = nlC (vis l)
    · rw [show enC (vis l) (k + 1) = (vis l).length by unfold enC; rw [if_pos e]]
      have e' : (J == (nlC (vis l) : Int)) = true := by rw [beq_iff_eq]; omega
      clear h h1 h2 hn hj e hlt hJ
      go_enter Tryz.func25, Tryz.ntmps25
      go_wp2_with (first | (go_at_call 62; refine (HEk.out _ hR).mono ?_; rintro r w1 ⟨rfl, hb1⟩) | (go_at_call 32; refine (HL.out _ hb1).mono ?_; rintro r w2 ⟨rfl, hb2⟩; have hB2 := bgo hb1 hb2) | (go_at_call 59; refine (HV.out _ hB2).mono ?_; rintro r w3 ⟨rfl, hb3⟩))
      go_ret2
      exact ⟨rfl, bgo hB2 hb3⟩
    · rw [show enC (vis l) (k + 1) = endC (vis l) (k + 1) by unfold enC; rw [if_neg e]]
      have e' : (J == (nlC (vis l) : Int)) = false := by rw [beq_eq_false_iff_ne]; omega
      have HEj : Hid (∀ x, Below w.heap.size w x → _) := fun x hx => HE.out x hx (k + 1) (by omega)
      rw [← hJ] at HEj
      clear h h1 h2 hn hj e hlt hJ
      go_enter Tryz.func25, Tryz.ntmps25
      go_upto_region 4 with (go_at_call 62; refine (HEk.out _ hR).mono ?_; rintro r w1 ⟨rfl, hb1⟩)
      go_wp2_with (first | (go_at_call 32; refine (HL.out _ hb1).mono ?_; rintro r w2 ⟨rfl, hb2⟩; have hB2 := bgo hb1 hb2) | (go_at_call 62; refine (HEj.out _ hB2).mono ?_; rintro r w3 ⟨rfl, hb3⟩))
      go_ret2
      exact ⟨rfl, bgo hB2 hb3⟩
set_option maxHeartbeats 1000000 in
theorem textOf_any {ad : Nat → Addr} {mb : Nat} {l : List El} {w : World} (h : MvAt mb l w) (L : Laid ad w) (j : Nat) (hn : l.length ≤ 1000000) (hj : j ≤ nlC (vis l)) (hc : Ch32 l) :
    Calls Tryz.prog 33 #[pv mb, .int .i64 (j : Int)] w fun r w' => r = .returned (.string ⟨(encL (((vis l).drop (stC (vis l) j)).take (enC (vis l) j - stC (vis l) j))).toArray⟩) ∧ Below w.heap.size w w' := by
  obtain ⟨a1, a2⟩ := st_en (vis l) j hj
  have h2 := vis_le l
  have HE := hid_of' (ends_any h j hn hj)
  have HS : Hid (∀ x, Below w.heap.size w x → _) := fun x hx => slice_ok (h.later hx) (L.below hx) (stC (vis l) j) (enC (vis l) j - stC (vis l) j) hn (by rw [liveL_vis]; omega) hc
  have hK : wrap64 ((enC (vis l) j : Int) - (stC (vis l) j : Int)) = ((enC (vis l) j - stC (vis l) j : Nat) : Int) := by rw [wrapIs (by omega) (by omega)]; omega
  unfold pv at *
  clear h L a1 a2 h2
  go_enter Tryz.func33, Tryz.ntmps33
  go_wp2_with (first | (go_at_call 25; refine HE.out.mono ?_; rintro r w1 ⟨rfl, hb1⟩) | (go_at_call 69; refine (HS.out _ hb1).mono ?_; rintro r w2 ⟨rfl, hb2⟩))
  go_ret
  exact ⟨rfl, bgo hb1 hb2⟩

def bLines : ByteArray := ⟨#[108, 105, 110, 101, 115]⟩
/-- An error that a call of package lines answers: the fault of a reason. -/
def FltV (ad : Nat → Addr) (ca : ByteArray) (at_ : Int) (k : Nat) (v : Value) (w : World) : Prop := ∃ g, v = .iface 137 (.pointer (some ⟨g, 0, none⟩)) ∧ FaultAt ad g bLines ca (place at_) k w
theorem FltV.later {ad : Nat → Addr} {ca : ByteArray} {at_ : Int} {k : Nat} {v : Value} {w w' : World} (h : FltV ad ca at_ k v w) (hb : Below w.heap.size w w') : FltV ad ca at_ k v w' := by
  obtain ⟨g, h1, h2⟩ := h
  exact ⟨g, h1, RowAt.later h2 hb⟩
set_option maxHeartbeats 400000 in
theorem lineRef_nil {ad : Nat → Addr} (ca : ByteArray) (line : Int) {w : World} (L : Laid ad w) :
    Calls Tryz.prog 26 #[.string ca, .pointer none, .int .i64 line] w fun e w' => ∃ g, e = .returned (.iface 137 (.pointer (some ⟨g, 0, none⟩))) ∧ FaultAt ad g bLines ca (-1) 0 w' ∧ Below w.heap.size w w' := by
  have LV : w.cell? ⟨0, 0, none⟩ = some (.iface 249 (.pointer (some (ad 0)))) := L.var 0 (by decide)
  have HF := hid_of' (newT (ad := ad) bLines ca (-1) 0 w)
  clear L
  go_enter Tryz.func26, Tryz.ntmps26
  go_wp2_with (go_at_call 58; refine HF.out.mono ?_; rintro r w1 ⟨rfl, hf, hb1⟩)
  go_ret
  exact ⟨_, rfl, hf, hb1⟩
set_option maxHeartbeats 400000 in
theorem gapRef_nil {ad : Nat → Addr} (ca : ByteArray) (line : Int) {w : World} (L : Laid ad w) :
    Calls Tryz.prog 23 #[.string ca, .pointer none, .int .i64 line] w fun e w' => ∃ g, e = .returned (.iface 137 (.pointer (some ⟨g, 0, none⟩))) ∧ FaultAt ad g bLines ca (-1) 0 w' ∧ Below w.heap.size w w' := by
  have LV : w.cell? ⟨0, 0, none⟩ = some (.iface 249 (.pointer (some (ad 0)))) := L.var 0 (by decide)
  have HF := hid_of' (newT (ad := ad) bLines ca (-1) 0 w)
  clear L
  go_enter Tryz.func23, Tryz.ntmps23
  go_wp2_with (go_at_call 58; refine HF.out.mono ?_; rintro r w1 ⟨rfl, hf, hb1⟩)
  go_ret
  exact ⟨_, rfl, hf, hb1⟩
set_option maxHeartbeats 400000 in
theorem lineRef_out {ad : Nat → Addr} {mb : Nat} {l : List El} (ca : ByteArray) (line : Int) {w : World} (h : MvAt mb l w) (L : Laid ad w) (ho : line < 0 ∨ (nlC (vis l) : Int) < line) :
    Calls Tryz.prog 26 #[.string ca, pv mb, .int .i64 line] w fun e w' => ∃ g, e = .returned (.iface 137 (.pointer (some ⟨g, 0, none⟩))) ∧ FaultAt ad g bLines ca (place line) 1 w' ∧ Below w.heap.size w w' := by
  have LV : ∀ x, Below w.heap.size w x → x.cell? ⟨1, 0, none⟩ = some (.iface 249 (.pointer (some (ad 1)))) := fun x hx => (L.below hx).var 1 (by decide)
  have HL := hid_of' (lines_c h)
  have HF : Hid (∀ x, _) := fun x => newT (ad := ad) bLines ca line 1 x
  have LV0 := LV w (Below.refl _ _)
  unfold pv at *
  clear h L
  by_cases h0 : line < 0
  · go_enter Tryz.func26, Tryz.ntmps26
    go_wp2_with (go_at_call 58; refine (HF.out _).mono ?_; rintro r w1 ⟨rfl, hf, hb1⟩)
    go_ret
    exact ⟨_, rfl, hf, hb1⟩
  · have h1 : (nlC (vis l) : Int) < line := by omega
    clear ho
    go_enter Tryz.func26, Tryz.ntmps26
    go_wp2_with (first | (go_at_call 32; refine HL.out.mono ?_; rintro r w2 ⟨rfl, hb2⟩; have LV1 := LV _ hb2) | (go_at_call 58; refine (HF.out _).mono ?_; rintro r w1 ⟨rfl, hf, hb1⟩))
    go_ret
    exact ⟨_, rfl, hf, bgo hb2 hb1⟩
set_option maxHeartbeats 400000 in
theorem lineRef_ok {mb : Nat} {l : List El} (ca : ByteArray) (j : Nat) {w : World} (h : MvAt mb l w) (hj : j ≤ nlC (vis l)) :
    Calls Tryz.prog 26 #[.string ca, pv mb, .int .i64 (j : Int)] w fun e w' => e = .returned .nilIface ∧ Below w.heap.size w w' := by
  have HL := hid_of' (lines_c h)
  have h0 : ¬ (j : Int) < 0 := by omega
  have h1 : ¬ (nlC (vis l) : Int) < (j : Int) := by omega
  unfold pv at *
  clear h
  go_enter Tryz.func26, Tryz.ntmps26
  go_wp2_with (go_at_call 32; refine HL.out.mono ?_; rintro r w2 ⟨rfl, hb2⟩)
  go_ret
  exact ⟨rfl, hb2⟩
set_option maxHeartbeats 400000 in
theorem gapRef_out {ad : Nat → Addr} {mb : Nat} {l : List El} (ca : ByteArray) (line : Int) {w : World} (h : MvAt mb l w) (L : Laid ad w) (ho : line < 0 ∨ ((vis l).length : Int) < line) :
    Calls Tryz.prog 23 #[.string ca, pv mb, .int .i64 line] w fun e w' => ∃ g, e = .returned (.iface 137 (.pointer (some ⟨g, 0, none⟩))) ∧ FaultAt ad g bLines ca (place line) 1 w' ∧ Below w.heap.size w w' := by
  have LV : ∀ x, Below w.heap.size w x → x.cell? ⟨1, 0, none⟩ = some (.iface 249 (.pointer (some (ad 1)))) := fun x hx => (L.below hx).var 1 (by decide)
  have HL := hid_of' (live_c h)
  have HF : Hid (∀ x, _) := fun x => newT (ad := ad) bLines ca line 1 x
  have LV0 := LV w (Below.refl _ _)
  unfold pv at *
  clear h L
  by_cases h0 : line < 0
  · go_enter Tryz.func23, Tryz.ntmps23
    go_wp2_with (go_at_call 58; refine (HF.out _).mono ?_; rintro r w1 ⟨rfl, hf, hb1⟩)
    go_ret
    exact ⟨_, rfl, hf, hb1⟩
  · have h1 : ((vis l).length : Int) < line := by omega
    clear ho
    go_enter Tryz.func23, Tryz.ntmps23
    go_wp2_with (first | (go_at_call 59; refine HL.out.mono ?_; rintro r w2 ⟨rfl, hb2⟩; have LV1 := LV _ hb2) | (go_at_call 58; refine (HF.out _).mono ?_; rintro r w1 ⟨rfl, hf, hb1⟩))
    go_ret
    exact ⟨_, rfl, hf, bgo hb2 hb1⟩
set_option maxHeartbeats 400000 in
theorem gapRef_ok {mb : Nat} {l : List El} (ca : ByteArray) (j : Nat) {w : World} (h : MvAt mb l w) (hj : j ≤ (vis l).length) :
    Calls Tryz.prog 23 #[.string ca, pv mb, .int .i64 (j : Int)] w fun e w' => e = .returned .nilIface ∧ Below w.heap.size w w' := by
  have HL := hid_of' (live_c h)
  have h0 : ¬ (j : Int) < 0 := by omega
  have h1 : ¬ ((vis l).length : Int) < (j : Int) := by omega
  unfold pv at *
  clear h
  go_enter Tryz.func23, Tryz.ntmps23
  go_wp2_with (go_at_call 59; refine HL.out.mono ?_; rintro r w2 ⟨rfl, hb2⟩)
  go_ret
  exact ⟨rfl, hb2⟩
end Go.Proofs.YtdafkakigigdeaaGreatDoor
namespace Go.Proofs.YtdafkakigigdeaaGreatDoor
open Go.RowKit Go.Extern.Stop Go.Stop Go.Extern
set_option maxRecDepth 100000

/-- A list of characters in memory. -/
def SlR (w : World) (v : Value) (cs : List Int) : Prop := (cs = [] ∧ ∃ a c, v = .slice a 0 c) ∨ ∃ g o_ c, v = .slice (some ⟨g, o_, none⟩) cs.length c ∧ g < w.heap.size ∧ ∀ (i : Nat) (x : Int), cs[i]? = some x → w.cell? ⟨g, o_ + i, none⟩ = some (.int .i32 x)
/-- A list of yes and no. -/
def SlB (w : World) (v : Value) (hs : List Bool) : Prop := (hs = [] ∧ ∃ a c, v = .slice a 0 c) ∨ ∃ g o_ c, v = .slice (some ⟨g, o_, none⟩) hs.length c ∧ g < w.heap.size ∧ ∀ (i : Nat) (x : Bool), hs[i]? = some x → w.cell? ⟨g, o_ + i, none⟩ = some (.bool x)
theorem SlR.form {w : World} {v : Value} {cs : List Int} (h : SlR w v cs) : ∃ a c, v = .slice a cs.length c := by
  rcases h with ⟨h, a, c, e⟩ | ⟨g, o_, c, e, _⟩
  · subst h; exact ⟨a, c, e⟩
  · exact ⟨_, _, e⟩
theorem SlB.form {w : World} {v : Value} {cs : List Bool} (h : SlB w v cs) : ∃ a c, v = .slice a cs.length c := by
  rcases h with ⟨h, a, c, e⟩ | ⟨g, o_, c, e, _⟩
  · subst h; exact ⟨a, c, e⟩
  · exact ⟨_, _, e⟩
theorem SlR.at {w w' : World} {v : Value} {cs : List Int} (h : SlR w v cs) (hb : Below w.heap.size w w') {i : Nat} {x : Int} (hx : cs[i]? = some x) : ∃ g o_ c, v = .slice (some ⟨g, o_, none⟩) cs.length c ∧ w'.cell? ⟨g, o_ + i, none⟩ = some (.int .i32 x) := by
  rcases h with ⟨h, _⟩ | ⟨g, o_, c, e, hg, hc⟩
  · subst h; simp at hx
  · exact ⟨g, o_, c, e, by rw [hb.cell (p := ⟨g, o_ + i, none⟩) hg]; exact hc i x hx⟩
theorem SlB.at {w w' : World} {v : Value} {cs : List Bool} (h : SlB w v cs) (hb : Below w.heap.size w w') {i : Nat} {x : Bool} (hx : cs[i]? = some x) : ∃ g o_ c, v = .slice (some ⟨g, o_, none⟩) cs.length c ∧ w'.cell? ⟨g, o_ + i, none⟩ = some (.bool x) := by
  rcases h with ⟨h, _⟩ | ⟨g, o_, c, e, hg, hc⟩
  · subst h; simp at hx
  · exact ⟨g, o_, c, e, by rw [hb.cell (p := ⟨g, o_ + i, none⟩) hg]; exact hc i x hx⟩
/-- A list of characters of the call's own. -/
def OwnR (base : Nat) (v : Value) (cs : List Int) (w : World) : Prop := w.ownsRow base 21 1 v cs.length (cs.map (Value.int .i32))
theorem OwnR.later {base : Nat} {v : Value} {cs : List Int} {w w' : World} (h : OwnR base v cs w) (hb : Below w.heap.size w w') : OwnR base v cs w' := by
  obtain ⟨e1, e2⟩ := h
  refine ⟨e1, ?_⟩
  rcases e2 with h | ⟨g, cap, cur, q1, q2, q3, q4⟩
  · exact .inl h
  · exact .inr ⟨g, cap, cur, q1, q2, (hb.block _ (Array.getElem?_eq_some_iff.1 q3).1).trans q3, q4⟩
theorem own_nil (base : Nat) (w : World) : OwnR base (.slice none 0 0) [] w := ⟨rfl, .inl ⟨rfl, rfl⟩⟩
theorem ownE_nil (base : Nat) (w : World) : OwnE base (.slice none 0 0) [] w := ⟨rfl, .inl ⟨rfl, rfl⟩⟩
theorem OwnR.sl {base : Nat} {v : Value} {cs : List Int} {w : World} (h : OwnR base v cs w) : SlR w v cs := by
  obtain ⟨e1, e2⟩ := h
  rcases e2 with ⟨h1, h2⟩ | ⟨g, cap, cur, q1, q2, q3, q4, q5, q6, q7⟩
  · exact .inl ⟨List.length_eq_zero_iff.1 h2, none, 0, h1⟩
  · refine .inr ⟨g, 0, cap, q1, (Array.getElem?_eq_some_iff.1 q3).1, fun i x hx => ?_⟩
    have hi := (List.getElem?_eq_some_iff.1 hx).1
    rw [cell_of_row w g (0 + i) cur _ _ q3, Nat.zero_add]
    have : (cur.toList.take (cs.length * 1))[i]? = some (.int .i32 x) := by rw [q7]; simp [hx]
    rw [List.getElem?_take_of_lt (by omega)] at this
    simpa using this
theorem own_ne {w : World} {b1 b2 e1 e2 s1 s2 n1 n2 : Nat} {v1 v2 : Value} {x1 x2 : List Value} (h1 : w.ownsRow b1 e1 s1 v1 n1 x1) (h2 : w.ownsRow b2 e2 s2 v2 n2 x2) (he : e1 ≠ e2) : v1.ownBlock = none ∨ v1.ownBlock ≠ v2.ownBlock := by
  rcases h1.2 with ⟨a1, _⟩ | ⟨g, cap, cur, a1, _, a3, _⟩
  · exact .inl (by rw [a1]; rfl)
  · rcases h2.2 with ⟨c1, _⟩ | ⟨g', cap', cur', c1, _, c3, _⟩
    · refine .inr ?_
      rw [a1, c1]
      simp [Value.ownBlock]
    · refine .inr ?_
      rw [a1, c1]
      simp [Value.ownBlock]
      intro e
      subst e
      rw [a3] at c3
      simp at c3
      exact he c3.2
theorem info_rune : (Tryz.prog.info? 21).map (fun i => (i.zero, i.size, i.bytes)) = some (some (.int .i32 0), 1, 4) := by kernel_rfl
/-- The k-th element. -/
def bgEl (hs : List Bool) (k : Nat) (c : Int) : El := ⟨0, 0, (k : Int) + 1, c, if (hs[k]?).getD false = true then 1 else 0⟩
/-- The elements behind k rounds. -/
def bgE (cs : List Int) (hs : List Bool) : Nat → List El
  | 0 => []
  | k + 1 => match cs[k]? with
    | some c => if rightC c = true then bgE cs hs k ++ [bgEl hs k c] else bgE cs hs k
    | none => bgE cs hs k
theorem bgE_bad {cs : List Int} {hs : List Bool} {k : Nat} {c : Int} (h : cs[k]? = some c) (hr : rightC c = false) : bgE cs hs (k + 1) = bgE cs hs k := by
  show (match cs[k]? with
    | some c => if rightC c = true then bgE cs hs k ++ [bgEl hs k c] else bgE cs hs k
    | none => bgE cs hs k) = _
  rw [h]; simp [hr]
theorem bgE_ok {cs : List Int} {hs : List Bool} {k : Nat} {c : Int} (h : cs[k]? = some c) (hr : rightC c = true) : bgE cs hs (k + 1) = bgE cs hs k ++ [bgEl hs k c] := by
  show (match cs[k]? with
    | some c => if rightC c = true then bgE cs hs k ++ [bgEl hs k c] else bgE cs hs k
    | none => bgE cs hs k) = _
  rw [h]; simp [hr]
theorem bgE_all {cs : List Int} {hs : List Bool} : ∀ (k : Nat), (bgE cs hs k).length ≤ k ∧ ∀ (i : Nat) (e : El), (bgE cs hs k)[i]? = some e → e.ep = 0 ∧ e.rp = 0 ∧ 1 ≤ e.no ∧ e.no ≤ k ∧ rightC e.ch = true ∧ (e.hd = 0 ∨ e.hd = 1)
  | 0 => ⟨Nat.le_refl _, fun i e h => by simp [bgE] at h⟩
  | k + 1 => by
    obtain ⟨a1, a2⟩ := bgE_all (cs := cs) (hs := hs) k
    cases hk : cs[k]? with
    | none =>
      have : bgE cs hs (k + 1) = bgE cs hs k := by
        show (match cs[k]? with
          | some c => if rightC c = true then bgE cs hs k ++ [bgEl hs k c] else bgE cs hs k
          | none => bgE cs hs k) = _
        rw [hk]
      rw [this]
      exact ⟨by omega, fun i e h => by obtain ⟨b1, b2, b3, b4, b5⟩ := a2 i e h; exact ⟨b1, b2, b3, by omega, b5⟩⟩
    | some c =>
      cases hr : rightC c with
      | false =>
        rw [bgE_bad hk hr]
        exact ⟨by omega, fun i e h => by obtain ⟨b1, b2, b3, b4, b5⟩ := a2 i e h; exact ⟨b1, b2, b3, by omega, b5⟩⟩
      | true =>
        rw [bgE_ok hk hr]
        refine ⟨by simp; omega, fun i e h => ?_⟩
        rw [List.getElem?_append] at h
        split at h
        · obtain ⟨b1, b2, b3, b4, b5⟩ := a2 i e h; exact ⟨b1, b2, b3, by omega, b5⟩
        · rename_i hi
          have hi0 : i - (bgE cs hs k).length = 0 := by
            rcases Nat.eq_zero_or_pos (i - (bgE cs hs k).length) with h0 | h0
            · exact h0
            · rw [List.getElem?_eq_none (by simp; omega)] at h; cases h
          rw [hi0] at h
          simp at h
          subst h
          refine ⟨rfl, rfl, by simp [bgEl]; omega, by simp [bgEl], hr, ?_⟩
          show (if (hs[k]?).getD false = true then (1 : Int) else 0) = 0 ∨ (if (hs[k]?).getD false = true then (1 : Int) else 0) = 1
          split
          · exact .inr rfl
          · exact .inl rfl
theorem bgE_rise {cs : List Int} {hs : List Bool} : ∀ (k i j : Nat) (x y : El), i < j → (bgE cs hs k)[i]? = some x → (bgE cs hs k)[j]? = some y → x.no < y.no
  | 0, i, j, x, y, _, h, _ => by simp [bgE] at h
  | k + 1, i, j, x, y, hij, hx, hy => by
    cases hk : cs[k]? with
    | none =>
      have : bgE cs hs (k + 1) = bgE cs hs k := by
        show (match cs[k]? with
          | some c => if rightC c = true then bgE cs hs k ++ [bgEl hs k c] else bgE cs hs k
          | none => bgE cs hs k) = _
        rw [hk]
      rw [this] at hx hy
      exact bgE_rise k i j x y hij hx hy
    | some c =>
      cases hr : rightC c with
      | false =>
        rw [bgE_bad hk hr] at hx hy
        exact bgE_rise k i j x y hij hx hy
      | true =>
        rw [bgE_ok hk hr] at hx hy
        have hj : j < (bgE cs hs k).length + 1 := by have := (List.getElem?_eq_some_iff.1 hy).1; simpa using this
        rw [List.getElem?_append_left (by omega)] at hx
        rw [List.getElem?_append] at hy
        split at hy
        · exact bgE_rise k i j x y hij hx hy
        · have hj0 : j - (bgE cs hs k).length = 0 := by omega
          rw [hj0] at hy
          simp at hy
          subst hy
          have := ((bgE_all (cs := cs) (hs := hs) k).2 i x hx).2.2.2.1
          simp [bgEl]; omega
theorem bgE_good (cs : List Int) (hs : List Bool) (k : Nat) (hk : k ≤ 1000) : (∀ (i : Nat) (e : El), (bgE cs hs k)[i]? = some e → e.Good) ∧ Apart (bgE cs hs k) ∧ Ch32 (bgE cs hs k) := by
  refine ⟨fun i e h => ?_, fun i j x y hij hx hy e => ?_, fun i e h => ?_⟩
  · obtain ⟨b1, b2, b3, b4, b5, b6⟩ := (bgE_all (cs := cs) (hs := hs) k).2 i e h
    refine ⟨⟨?_, ?_, ?_⟩, b5, ?_⟩
    · show In64 e.ep
      rw [b1]; exact ⟨by omega, by omega⟩
    · show In64 e.rp
      rw [b2]; exact ⟨by omega, by omega⟩
    · show In64 e.no
      exact ⟨by omega, by omega⟩
    · unfold fairH
      simp
      omega
  · have h1 := bgE_rise k i j x y hij hx hy
    have h2 : x.no = y.no := congrArg Idn.c e
    omega
  · obtain ⟨_, _, _, _, b5, _⟩ := (bgE_all (cs := cs) (hs := hs) k).2 i e h
    unfold rightC at b5
    simp at b5
    omega
end Go.Proofs.YtdafkakigigdeaaGreatDoor
namespace Go.Proofs.YtdafkakigigdeaaGreatDoor
open Go.RowKit Go.Extern.Stop Go.Stop Go.Extern
set_option maxRecDepth 100000

/-- So many rounds. -/
def bgN (cs : List Int) : Nat := min cs.length 150
theorem vis_snoc (l : List El) (e : El) : vis (l ++ [e]) = if e.hd > 0 then vis l else vis l ++ [e.ch] := by
  rw [vis_app]
  by_cases h : e.hd > 0
  · rw [if_pos h, vis_hid _ h]; simp [vis]
  · rw [if_neg h, vis_live _ h]; simp [vis]
theorem OwnE.lat {base : Nat} {v : Value} {l : List El} {w w' : World} (h : OwnE base v l w) (hb : Below w.heap.size w w') : OwnE base v l w' := by
  obtain ⟨e1, e2⟩ := h
  refine ⟨e1, ?_⟩
  rcases e2 with h | ⟨g, cap, cur, q1, q2, q3, q4⟩
  · exact .inl h
  · exact .inr ⟨g, cap, cur, q1, q2, (hb.block _ (Array.getElem?_eq_some_iff.1 q3).1).trans q3, q4⟩
theorem RowAt.keptO {g b e s n : Nat} {cs : Array Value} {ty : TypeId} {v : Value} {xs : List Value} {w w' : World} (h : RowAt g cs ty w) (h2 : w.ownsRow b e s v n xs) (hne : ty ≠ e) (hg : w.grownBy w' v.ownBlock) : RowAt g cs ty w' := by
  refine (hg.block _ h.lt ?_).trans h
  intro e9
  rcases h2.2 with ⟨a1, _⟩ | ⟨g9, cap, cur, a1, _, a3, _⟩
  · rw [a1] at e9; simp [Value.ownBlock] at e9
  · rw [a1] at e9
    simp only [Value.ownBlock, Option.some.injEq] at e9
    subst e9
    rw [show w.heap[g]? = _ from h] at a3
    cases a3
    exact hne rfl
theorem OwnE.keptR {b1 b2 : Nat} {v1 v2 : Value} {l : List El} {cs : List Int} {w w' : World} (h : OwnE b1 v1 l w) (h2 : OwnR b2 v2 cs w) (hg : w.grownBy w' v2.ownBlock) : OwnE b1 v1 l w' := World.ownsRow.kept h hg (own_ne h h2 (by decide))
theorem OwnR.keptE {b1 b2 : Nat} {v1 v2 : Value} {l : List El} {cs : List Int} {w w' : World} (h : OwnR b1 v1 cs w) (h2 : OwnE b2 v2 l w) (hg : w.grownBy w' v2.ownBlock) : OwnR b1 v1 cs w' := World.ownsRow.kept h hg (own_ne h h2 (by decide))

set_option maxHeartbeats 4000000 in
theorem begun_ok {w : World} {u uh : Value} {cs : List Int} {hs : List Bool} (hu : SlR w u cs) (hh : SlB w uh hs) :
    Calls Tryz.prog 5 #[u, uh] w fun r w' => ∃ mb vs, r = .returned (.tuple #[pv mb, vs]) ∧ MvAt mb (bgE cs hs (bgN cs)) w' ∧ SlR w' vs (vis (bgE cs hs (bgN cs))) ∧ Below w.heap.size w w' := by
  obtain ⟨a1, c1, rfl⟩ := hu.form
  obtain ⟨a2, c2, rfl⟩ := hh.form
  go_enter Tryz.func5, Tryz.ntmps5
  go_wp2
  go_loopw [6, 7, 8] (fun mv sv i wr => ∃ k : Nat, i = .int .i64 (k : Int) ∧ k ≤ bgN cs ∧ OwnE w.heap.size mv (bgE cs hs k) wr ∧ OwnR w.heap.size sv (vis (bgE cs hs k)) wr ∧ Below w.heap.size w wr) (fun _ _ i _ => 150 - (intOf i).toNat)
  case atStart => exact ⟨0, rfl, Nat.zero_le _, ownE_nil _ _, own_nil _ _, Below.refl _ _⟩
  case round =>
    obtain ⟨k, rfl, hk, hE, hR, hB⟩ := hrel
    have hk1 : k ≤ cs.length ∧ k ≤ 150 := by unfold bgN at hk; omega
    by_cases hlt : k < bgN cs
    · have q1 : (k : Int) < (cs.length : Int) := by unfold bgN at hlt; omega
      have q2 : (k : Int) < 150 := by unfold bgN at hlt; omega
      obtain ⟨c, hc⟩ : ∃ c, cs[k]? = some c := ⟨_, List.getElem?_eq_getElem (by omega)⟩
      obtain ⟨g, o_, cc, hv, hcell⟩ := hu.at hB hc
      simp only [Value.slice.injEq] at hv
      obtain ⟨rfl, _, rfl⟩ := hv
      have HRt := hid_of' (refRight_any c)
      cases hr : rightC c with
      | false =>
        rw [hr] at HRt
        go_wp2_with (go_at_call 22; refine (HRt.out _).mono ?_; rintro r w2 ⟨rfl, hw⟩; obtain rfl := hw.symm)
        go_roundw
        case rel => exact ⟨k + 1, by go_num, by omega, by rw [bgE_bad hc hr]; exact hE, by rw [bgE_bad hc hr]; exact hR, hB⟩
        case measure => simp [intOf]; omega
      | true =>
        rw [hr] at HRt
        go_upto_region 8 with (first | (go_at_call 22; refine (HRt.out _).mono ?_; rintro r w2 ⟨rfl, hw⟩; obtain rfl := hw.symm))
        obtain ⟨e0, he0⟩ : ∃ e0 : El, e0 = ⟨0, 0, (k : Int) + 1, c, 0⟩ := ⟨_, rfl⟩
        have hr8 : RowAt wr.heap.size (ev e0) 65 (wr.alloc (.cells (ev e0) 65)) := row_new wr _ _
        have hb8 := below_one wr (.cells (ev e0) 65)
        have hev : ev e0 = #[.int .i64 0, .int .i64 0, .int .i64 ((k : Int) + 1), .int .i32 c, .int .i64 0] := by rw [he0]; rfl
        rw [← hev]
        clear hev
        replace he0 := hid_of' he0
        have hE8 := hE.lat hb8
        have hR8 := hR.later hb8
        have hB8 := bgo hB hb8
        have hc8 : (wr.alloc (.cells (ev e0) 65)).cell? ⟨g, o_ + k, none⟩ = some (.int .i32 c) := by
          obtain ⟨g', o', c', hv', hcell'⟩ := hu.at hB8 hc
          simp only [Value.slice.injEq, Option.some.injEq, Addr.mk.injEq] at hv'
          obtain ⟨⟨rfl, rfl, _⟩, _⟩ := hv'
          exact hcell'
        have HH := hid_of' (And.intro hE (And.intro hR hb8))
        clear hE hR hb8 hcell HRt
        cases hhk : hs[k]? with
        | none =>
          have q3 : ¬ (k : Int) < (hs.length : Int) := by have := List.getElem?_eq_none_iff.1 hhk; omega
          generalize wr.alloc (.cells (ev e0) 65) = W8 at hr8 hE8 hR8 hB8 hc8 ⊢
          obtain ⟨i0, hi, hi3⟩ := Option.map_eq_some_iff.1 info_rune
          simp only [Prod.mk.injEq] at hi3
          obtain ⟨hz0, hz1, hz2⟩ := hi3
          have hvl : (vis (bgE cs hs k)).length ≤ 150 := by have := vis_le (bgE cs hs k); have := (bgE_all (cs := cs) (hs := hs) k).1; omega
          have hsz8 := hB8.size
          have HR8 := hid_of' hR8
          obtain ⟨sa, sc, hsf⟩ : ∃ a c, u7 = .slice a (vis (bgE cs hs k)).length c := hR8.sl.form
          subst hsf
          have HC2 : Hid (∀ u ∈ [Value.int .i32 c], u.oneCell' = true) := by intro u hu; simp at hu; subst hu; rfl
          have HC3 : Hid ((vis (bgE cs hs k)).length + 1 ≤ maxLen ∧ ((vis (bgE cs hs k)).length + 1) * 4 ≤ 140737488355328 ∧ w.heap.size ≤ (W8.alloc (.cells #[.int .i32 c] 21)).heap.size) := ⟨by unfold maxLen; omega, by omega, by simp; omega⟩
          clear hR8
          go_upto_region 11 with (first | (at_builtin; refine wpList_append_own _ rfl _ _ 22 rfl w.heap.size 21 i0 (.int .i32 0) 1 4 Tryz.underlying22 hi hz0 hz1 hz2 rfl (by decide) _ _ _ rfl (World.ownsRow.alloc HR8.out _) ⟨W8.heap.size, 0, none⟩ 1 1 [.int .i32 c] rfl rfl (cell_one_new _ _ _) HC2.out HC3.out.1 HC3.out.2.1 HC3.out.2.2 ?_; intro v0 w9 hown9 hg9 _))
          have hR9 : OwnR w.heap.size v0 (vis (bgE cs hs k) ++ [c]) w9 := by
            unfold OwnR
            simpa using hown9
          have hE9 : OwnE w.heap.size u6 (bgE cs hs k) w9 := (hE8.lat (below_one W8 (.cells #[.int .i32 c] 21))).keptR (HR8.out.later (below_one W8 _)) hg9
          have hB9 := (hB8.alloc hsz8 (.cells #[.int .i32 c] 21)).grown hg9 (by simp; omega) (fun j hj => (World.ownsRow.lt HR8.out j hj).1)
          have hr9 : RowAt wr.heap.size (ev e0) 65 w9 := (hr8.later (below_one W8 (.cells #[.int .i32 c] 21))).keptO (World.ownsRow.alloc HR8.out _) (by decide) hg9
          clear hown9 hg9 HR8 hE8 hB8 hr8
          have hbg : bgE cs hs (k + 1) = bgE cs hs k ++ [e0] := by rw [bgE_ok hc hr, he0.out]; unfold bgEl; rw [hhk]; rfl
          have hvs : vis (bgE cs hs k ++ [e0]) = vis (bgE cs hs k) ++ [c] := by rw [vis_snoc, he0.out]; rfl
          have hrA := hr9
          have hEA := hE9
          have hRA := hR9
          have hBA := hB9
          clear hr9 hE9 hR9 hB9
          have HEA := hid_of' hEA
          have HRA := hid_of' hRA
          have hlen : (bgE cs hs k).length + [e0].length ≤ 1099511627776 := by have := (bgE_all (cs := cs) (hs := hs) k).1; simp; omega
          have hszA := hBA.size
          clear hEA hRA
          go_wp2_with (first | (refine wpL_loadE rfl _ rfl rfl hrA.in ?_; unfold ev) | (at_builtin; refine wpL_appE rfl _ _ rfl rfl rfl (HEA.out.lat (below_one w9 _)) (sl_new w9 [e0] 1 1 rfl) hlen (by rw [World.size_alloc]; omega) ?_; intro v2 wz ho3 hg3))
          have hBz := (hBA.alloc hszA (.cells (ecells [e0]).toArray 65)).grown hg3 (by rw [World.size_alloc]; omega) (fun j hj => (HEA.out.lt j hj).1)
          have hRz := (HRA.out.later (below_one w9 (.cells (ecells [e0]).toArray 65))).keptE (HEA.out.lat (below_one w9 _)) hg3
          go_roundw
          case rel => exact ⟨k + 1, by go_num, by omega, by rw [hbg]; exact ho3, by rw [hbg, hvs]; exact hRz, hBz⟩
          case measure => simp [intOf]; omega
        | some b =>
          obtain ⟨gh, oh, ch, hvh, hch⟩ := hh.at hB8 hhk
          simp only [Value.slice.injEq] at hvh
          obtain ⟨rfl, _, rfl⟩ := hvh
          have q3 : (k : Int) < (hs.length : Int) := by have := (List.getElem?_eq_some_iff.1 hhk).1; omega
          generalize wr.alloc (.cells (ev e0) 65) = W8 at hr8 hE8 hR8 hB8 hc8 hch HH ⊢
          cases b with
          | false =>
            obtain ⟨i0, hi, hi3⟩ := Option.map_eq_some_iff.1 info_rune
            simp only [Prod.mk.injEq] at hi3
            obtain ⟨hz0, hz1, hz2⟩ := hi3
            have hvl : (vis (bgE cs hs k)).length ≤ 150 := by have := vis_le (bgE cs hs k); have := (bgE_all (cs := cs) (hs := hs) k).1; omega
            have hsz8 := hB8.size
            have HR8 := hid_of' hR8
            obtain ⟨sa, sc, hsf⟩ : ∃ a c, u7 = .slice a (vis (bgE cs hs k)).length c := hR8.sl.form
            subst hsf
            have HC2 : Hid (∀ u ∈ [Value.int .i32 c], u.oneCell' = true) := by intro u hu; simp at hu; subst hu; rfl
            have HC3 : Hid ((vis (bgE cs hs k)).length + 1 ≤ maxLen ∧ ((vis (bgE cs hs k)).length + 1) * 4 ≤ 140737488355328 ∧ w.heap.size ≤ (W8.alloc (.cells #[.int .i32 c] 21)).heap.size) := ⟨by unfold maxLen; omega, by omega, by simp; omega⟩
            clear hR8
            go_upto_region 11 with (first | (at_builtin; refine wpList_append_own _ rfl _ _ 22 rfl w.heap.size 21 i0 (.int .i32 0) 1 4 Tryz.underlying22 hi hz0 hz1 hz2 rfl (by decide) _ _ _ rfl (World.ownsRow.alloc HR8.out _) ⟨W8.heap.size, 0, none⟩ 1 1 [.int .i32 c] rfl rfl (cell_one_new _ _ _) HC2.out HC3.out.1 HC3.out.2.1 HC3.out.2.2 ?_; intro v0 w9 hown9 hg9 _))
            have hR9 : OwnR w.heap.size v0 (vis (bgE cs hs k) ++ [c]) w9 := by
              unfold OwnR
              simpa using hown9
            have hE9 : OwnE w.heap.size u6 (bgE cs hs k) w9 := (hE8.lat (below_one W8 (.cells #[.int .i32 c] 21))).keptR (HR8.out.later (below_one W8 _)) hg9
            have hB9 := (hB8.alloc hsz8 (.cells #[.int .i32 c] 21)).grown hg9 (by simp; omega) (fun j hj => (World.ownsRow.lt HR8.out j hj).1)
            have hr9 : RowAt wr.heap.size (ev e0) 65 w9 := (hr8.later (below_one W8 (.cells #[.int .i32 c] 21))).keptO (World.ownsRow.alloc HR8.out _) (by decide) hg9
            clear hown9 hg9 HR8 hE8 hB8 hr8
            have hbg : bgE cs hs (k + 1) = bgE cs hs k ++ [e0] := by rw [bgE_ok hc hr, he0.out]; unfold bgEl; rw [hhk]; rfl
            have hvs : vis (bgE cs hs k ++ [e0]) = vis (bgE cs hs k) ++ [c] := by rw [vis_snoc, he0.out]; rfl
            have hrA := hr9
            have hEA := hE9
            have hRA := hR9
            have hBA := hB9
            clear hr9 hE9 hR9 hB9
            have HEA := hid_of' hEA
            have HRA := hid_of' hRA
            have hlen : (bgE cs hs k).length + [e0].length ≤ 1099511627776 := by have := (bgE_all (cs := cs) (hs := hs) k).1; simp; omega
            have hszA := hBA.size
            clear hEA hRA
            go_wp2_with (first | (refine wpL_loadE rfl _ rfl rfl hrA.in ?_; unfold ev) | (at_builtin; refine wpL_appE rfl _ _ rfl rfl rfl (HEA.out.lat (below_one w9 _)) (sl_new w9 [e0] 1 1 rfl) hlen (by rw [World.size_alloc]; omega) ?_; intro v2 wz ho3 hg3))
            have hBz := (hBA.alloc hszA (.cells (ecells [e0]).toArray 65)).grown hg3 (by rw [World.size_alloc]; omega) (fun j hj => (HEA.out.lt j hj).1)
            have hRz := (HRA.out.later (below_one w9 (.cells (ecells [e0]).toArray 65))).keptE (HEA.out.lat (below_one w9 _)) hg3
            go_roundw
            case rel => exact ⟨k + 1, by go_num, by omega, by rw [hbg]; exact ho3, by rw [hbg, hvs]; exact hRz, hBz⟩
            case measure => simp [intOf]; omega
          | true =>
            have c84 : W8.cell? ⟨wr.heap.size, 4, none⟩ = some (.int .i64 e0.hd) := hr8.cell 4
            have f84 : W8.frozen? ⟨wr.heap.size, 4, none⟩ = false := Lib.frozen_of_heap hr8 4
            clear hE8 hR8
            go_upto_region 11 with fail
            obtain ⟨e1, he1⟩ : ∃ e1 : El, e1 = ⟨0, 0, (k : Int) + 1, c, 1⟩ := ⟨_, rfl⟩
            replace he1 := hid_of' he1
            have hrA : RowAt wr.heap.size (ev e1) 65 (W8.setCell ⟨wr.heap.size, 4, none⟩ (.int .i64 1)) := by
              have := heap_setCell_at hr8 4 (.int .i64 1)
              rw [he0.out] at this
              rw [he1.out]
              exact this
            have hbA := HH.out.2.2.setCell (p := ⟨wr.heap.size, 4, none⟩) (Nat.le_refl _) (.int .i64 1)
            generalize W8.setCell ⟨wr.heap.size, 4, none⟩ (.int .i64 1) = WA at hrA hbA ⊢
            have hEA := HH.out.1.lat hbA
            have hRA := HH.out.2.1.later hbA
            have hBA := bgo hB hbA
            have hbg : bgE cs hs (k + 1) = bgE cs hs k ++ [e1] := by rw [bgE_ok hc hr, he1.out]; unfold bgEl; rw [hhk]; rfl
            have hvs : vis (bgE cs hs k ++ [e1]) = vis (bgE cs hs k) := by rw [vis_snoc, he1.out]; rfl
            clear HH hr8 hB8 hc8 hch c84 f84 he0 hbA
            have HEA := hid_of' hEA
            have HRA := hid_of' hRA
            have hlen : (bgE cs hs k).length + [e1].length ≤ 1099511627776 := by have := (bgE_all (cs := cs) (hs := hs) k).1; simp; omega
            have hszA := hBA.size
            clear hEA hRA
            go_wp2_with (first | (refine wpL_loadE rfl _ rfl rfl hrA.in ?_; unfold ev) | (at_builtin; refine wpL_appE rfl _ _ rfl rfl rfl (HEA.out.lat (below_one WA _)) (sl_new WA [e1] 1 1 rfl) hlen (by rw [World.size_alloc]; omega) ?_; intro v2 wz ho3 hg3))
            have hBz := (hBA.alloc hszA (.cells (ecells [e1]).toArray 65)).grown hg3 (by rw [World.size_alloc]; omega) (fun j hj => (HEA.out.lt j hj).1)
            have hRz := (HRA.out.later (below_one WA (.cells (ecells [e1]).toArray 65))).keptE (HEA.out.lat (below_one WA _)) hg3
            go_roundw
            case rel => exact ⟨k + 1, by go_num, by omega, by rw [hbg]; exact ho3, by rw [hbg, hvs]; exact hRz, hBz⟩
            case measure => simp [intOf]; omega
    · obtain rfl : k = bgN cs := by omega
      obtain ⟨g1, g2, g3⟩ := bgE_good cs hs (bgN cs) (by unfold bgN; omega)
      have hbl := (bgE_all (cs := cs) (hs := hs) (bgN cs)).1
      have hbn : bgN cs ≤ 150 := by unfold bgN; omega
      have HO := hid_of' (of_ok hE.sl (by omega) g1 g2)
      have HX := hid_of' (And.intro hR hB)
      have hx : (decide (((bgN cs : Nat) : Int) < (cs.length : Int)) && decide (((bgN cs : Nat) : Int) < 150)) = false := by unfold bgN; simp; omega
      by_cases q1 : ((bgN cs : Nat) : Int) < (cs.length : Int)
      · have q2 : ¬ ((bgN cs : Nat) : Int) < 150 := by unfold bgN at q1 ⊢; omega
        clear hE hR hB hk hk1 hlt g1 g2 g3 hbl hbn hx
        go_wp2_with (go_at_call 14; refine HO.out.mono ?_; rintro r w2 ⟨mb, tb, kb, n, R, rfl, _, _, _, hM, hb2⟩)
        go_ret2
        exact ⟨mb, _, rfl, hM.mv, (HX.out.1.later hb2).sl, bgo HX.out.2 hb2⟩
      · clear hE hR hB hk hk1 hlt g1 g2 g3 hbl hbn hx
        go_wp2_with (go_at_call 14; refine HO.out.mono ?_; rintro r w2 ⟨mb, tb, kb, n, R, rfl, _, _, _, hM, hb2⟩)
        go_ret2
        exact ⟨mb, _, rfl, hM.mv, (HX.out.1.later hb2).sl, bgo HX.out.2 hb2⟩
end Go.Proofs.YtdafkakigigdeaaGreatDoor
namespace Go.Proofs.YtdafkakigigdeaaGreatDoor
open Go.RowKit Go.Extern.Stop Go.Stop Go.Extern
set_option maxRecDepth 100000

def bStart : ByteArray := ⟨#[83, 116, 97, 114, 116]⟩
def bLength : ByteArray := ⟨#[76, 101, 110, 103, 116, 104]⟩
def bText : ByteArray := ⟨#[84, 101, 120, 116]⟩
def bWhere : ByteArray := ⟨#[87, 104, 101, 114, 101]⟩
/-- An error: a Fault of package lines. -/
def fvL (g : Nat) : Value := .iface 137 (.pointer (some ⟨g, 0, none⟩))

set_option maxHeartbeats 400000 in
theorem start_nil {ad : Nat → Addr} (line : Int) {w : World} (L : Laid ad w) :
    Calls Tryz.prog 34 #[.pointer none, .int .i64 line] w fun e w' => ∃ g, e = .returned (.tuple #[.int .i64 0, fvL g]) ∧ FaultAt ad g bLines bStart (-1) 0 w' ∧ Below w.heap.size w w' := by
  have HR := hid_of' (lineRef_nil bStart line L)
  clear L
  go_enter Tryz.func34, Tryz.ntmps34
  go_wp2_with (go_at_call 26; refine HR.out.mono ?_; rintro r w1 ⟨g, rfl, hf, hb1⟩)
  go_ret2
  exact ⟨g, rfl, hf, hb1⟩
set_option maxHeartbeats 400000 in
theorem start_out {ad : Nat → Addr} {mb : Nat} {l : List El} (line : Int) {w : World} (h : MvAt mb l w) (L : Laid ad w) (ho : line < 0 ∨ (nlC (vis l) : Int) < line) :
    Calls Tryz.prog 34 #[pv mb, .int .i64 line] w fun e w' => ∃ g, e = .returned (.tuple #[.int .i64 0, fvL g]) ∧ FaultAt ad g bLines bStart (place line) 1 w' ∧ Below w.heap.size w w' := by
  have HR := hid_of' (lineRef_out bStart line h L ho)
  unfold pv at *
  clear L h ho
  go_enter Tryz.func34, Tryz.ntmps34
  go_wp2_with (go_at_call 26; refine HR.out.mono ?_; rintro r w1 ⟨g, rfl, hf, hb1⟩)
  go_ret2
  exact ⟨g, rfl, hf, hb1⟩
set_option maxHeartbeats 400000 in
theorem start_ok {mb : Nat} {l : List El} (j : Nat) {w : World} (h : MvAt mb l w) (hn : l.length ≤ 1000000) (hj : j ≤ nlC (vis l)) :
    Calls Tryz.prog 34 #[pv mb, .int .i64 (j : Int)] w fun e w' => e = .returned (.tuple #[.int .i64 (stC (vis l) j : Int), .nilIface]) ∧ Below w.heap.size w w' := by
  have HR := hid_of' (lineRef_ok bStart j h hj)
  have HE : Hid (∀ x, Below w.heap.size w x → _) := fun x hx => ends_any (h.later hx) j hn hj
  unfold pv at *
  clear h hj
  go_enter Tryz.func34, Tryz.ntmps34
  go_wp2_with (first | (go_at_call 26; refine HR.out.mono ?_; rintro r w1 ⟨rfl, hb1⟩) | (go_at_call 25; refine (HE.out _ hb1).mono ?_; rintro r w2 ⟨rfl, hb2⟩))
  go_ret2
  exact ⟨rfl, bgo hb1 hb2⟩
set_option maxHeartbeats 400000 in
theorem text_out {ad : Nat → Addr} {mb : Nat} {l : List El} (line : Int) {w : World} (h : MvAt mb l w) (L : Laid ad w) (ho : line < 0 ∨ (nlC (vis l) : Int) < line) :
    Calls Tryz.prog 11 #[pv mb, .int .i64 line] w fun e w' => ∃ g, e = .returned (.tuple #[.string ⟨#[]⟩, fvL g]) ∧ FaultAt ad g bLines bText (place line) 1 w' ∧ Below w.heap.size w w' := by
  have HR := hid_of' (lineRef_out bText line h L ho)
  unfold pv at *
  clear L h ho
  go_enter Tryz.func11, Tryz.ntmps11
  go_wp2_with (go_at_call 26; refine HR.out.mono ?_; rintro r w1 ⟨g, rfl, hf, hb1⟩)
  go_ret2
  exact ⟨g, rfl, hf, hb1⟩
/-- What a line says. -/
def txC (v : List Int) (j : Nat) : List Int := (v.drop (stC v j)).take (enC v j - stC v j)
set_option maxHeartbeats 400000 in
theorem text_ok {ad : Nat → Addr} {mb : Nat} {l : List El} (j : Nat) {w : World} (h : MvAt mb l w) (L : Laid ad w) (hn : l.length ≤ 1000000) (hj : j ≤ nlC (vis l)) (hc : Ch32 l) :
    Calls Tryz.prog 11 #[pv mb, .int .i64 (j : Int)] w fun e w' => e = .returned (.tuple #[.string ⟨(encL (txC (vis l) j)).toArray⟩, .nilIface]) ∧ Below w.heap.size w w' := by
  have HR := hid_of' (lineRef_ok bText j h hj)
  have HE : Hid (∀ x, Below w.heap.size w x → _) := fun x hx => textOf_any (h.later hx) (L.below hx) j hn hj hc
  unfold pv at *
  clear h hj L
  go_enter Tryz.func11, Tryz.ntmps11
  go_wp2_with (first | (go_at_call 26; refine HR.out.mono ?_; rintro r w1 ⟨rfl, hb1⟩) | (go_at_call 33; refine (HE.out _ hb1).mono ?_; rintro r w2 ⟨rfl, hb2⟩))
  go_ret2
  exact ⟨rfl, bgo hb1 hb2⟩
set_option maxHeartbeats 400000 in
theorem where_nil {ad : Nat → Addr} (p : Int) {w : World} (L : Laid ad w) :
    Calls Tryz.prog 6 #[.pointer none, .int .i64 p] w fun e w' => ∃ g, e = .returned (.tuple #[.int .i64 0, .int .i64 0, fvL g]) ∧ FaultAt ad g bLines bWhere (-1) 0 w' ∧ Below w.heap.size w w' := by
  have HR := hid_of' (gapRef_nil bWhere p L)
  clear L
  go_enter Tryz.func6, Tryz.ntmps6
  go_wp2_with (go_at_call 23; refine HR.out.mono ?_; rintro r w1 ⟨g, rfl, hf, hb1⟩)
  go_ret3
  exact ⟨g, rfl, hf, hb1⟩

/-- The model of wakes. -/
def wkL : List El := bgE [97, 10, 98] [] (bgN [97, 10, 98])
theorem wk_vis : vis wkL = [97, 10, 98] := by rfl
theorem wk_len : wkL.length ≤ 1000000 := by show (3 : Nat) ≤ 1000000; omega
theorem wk_txt : encL (txC (vis wkL) 1) = [98] := by rfl
set_option maxHeartbeats 2000000 in
theorem wakes6_ok {ad : Nat → Addr} (w : World) (L : Laid ad w) : Calls Tryz.prog 12 #[] w fun r w' => r = .returned (.bool true) ∧ Below w.heap.size w w' := by
  have hu : SlR (w.alloc (.cells #[.int .i32 97, .int .i32 10, .int .i32 98] 21)) (.slice (some ⟨w.heap.size, 0, none⟩) 3 3) [97, 10, 98] := by
    refine .inr ⟨w.heap.size, 0, 3, rfl, by simp, fun i x hx => ?_⟩
    have hr := row_new w #[.int .i32 97, .int .i32 10, .int .i32 98] 21
    rw [Nat.zero_add, hr.cell]
    match i, hx with
    | 0, hx => cases hx; rfl
    | 1, hx => cases hx; rfl
    | 2, hx => cases hx; rfl
    | n + 3, hx => simp at hx
  have HB := hid_of' (begun_ok (uh := .slice none 0 0) (hs := []) hu (.inl ⟨rfl, none, 0, rfl⟩))
  have hb0 := below_one w (.cells #[.int .i32 97, .int .i32 10, .int .i32 98] 21)
  obtain ⟨_, _, g3⟩ := bgE_good [97, 10, 98] [] (bgN [97, 10, 98]) (by decide)
  have HC : Hid (∀ (mb : Nat) (x : World), MvAt mb wkL x → Calls Tryz.prog 10 #[pv mb] x fun r w' => r = .returned (.int .i64 2) ∧ Below x.heap.size x w') := fun mb x hx => by
    have := count_any hx wk_len
    rw [wk_vis] at this
    exact this
  have HN := hid_of' count_nil
  have HS : Hid (∀ (x : World), Below w.heap.size w x → _) := fun x hx => start_nil 0 (L.below hx)
  have HW : Hid (∀ (x : World), Below w.heap.size w x → _) := fun x hx => where_nil 0 (L.below hx)
  have HT : Hid (∀ (mb : Nat) (x : World), MvAt mb wkL x → Below w.heap.size w x → _) := fun mb x hx hb => text_ok 1 hx (L.below hb) wk_len (by rw [wk_vis]; decide) g3
  rw [wk_txt] at HT
  have hu' := hu
  clear hu hu'
  unfold pv fvL at *
  go_enter Tryz.func12, Tryz.ntmps12
  go_upto_region 2 with (go_at_call 5; refine HB.out.mono ?_; rintro r w1 ⟨mb, vs, rfl, hM, _, hb1⟩)
  have hM1 : MvAt mb wkL w1 := hM
  have hB1 := bgo hb0 hb1
  clear hM HB hb0 hb1
  go_upto_region 4 with (go_at_call 10; first | ((with_reducible refine (HC.out mb _ hM1).mono ?_); rintro r w2 ⟨rfl, hb2⟩) | ((with_reducible refine (HN.out _).mono ?_); rintro r w3 ⟨rfl, hw⟩; obtain rfl := hw.symm))
  have hB2 := bgo hB1 hb2
  have hM2 := hM1.later hb2
  clear hM1 hB1 hb2 HC HN
  go_upto_region 5 with (go_at_call 34; refine (HS.out _ hB2).mono ?_; rintro r w4 ⟨g1, rfl, hf1, hb4⟩)
  have hB4 := bgo hB2 hb4
  have hM4 := hM2.later hb4
  clear hM2 hB2 hb4 HS
  go_upto_region 6 with (go_at_call 6; refine (HW.out _ hB4).mono ?_; rintro r w5 ⟨g2, rfl, hf2, hb5⟩)
  have hB5 := bgo hB4 hb5
  have hM5 := hM4.later hb5
  replace hf1 := RowAt.later hf1 hb5
  clear hM4 hB4 hb5 HW
  go_upto_region 7 with (go_at_call 11; refine (HT.out mb _ hM5 hB5).mono ?_; rintro r w6 ⟨rfl, hb6⟩)
  have hB6 := bgo hB5 hb6
  replace hf1 := RowAt.later hf1 hb6
  replace hf2 := RowAt.later hf2 hb6
  clear hM5 hB5 hb6 HT
  have HY : Hid (∀ (ca : ByteArray) (x : World), Calls Tryz.prog 20 #[.string bLines, .string ca, .int .i64 (-1), .int .i64 1] x fun e w' => ∃ g g', e = .returned (.agg #[.int .i64 1, .slice (some ⟨g', 0, none⟩) 1 1, .slice (some ⟨g, 0, none⟩) 1 1]) ∧ CsIn g' 0 #[.string bLines, .string ca, .int .i64 (-1)] w' ∧ CsIn g 0 #[.int .i64 1] w' ∧ Below x.heap.size x w') := fun ca x => by
    refine (say_any bLines ca (-1) 1 x (by decide)).mono ?_
    rintro e w' ⟨g, g', h1, _, _, h2, h3, h4⟩
    exact ⟨g, g', h1, h2, h3, h4⟩
  have HR : Hid (∀ (ca : ByteArray) (b g g' : Nat) (x : World), Below w.heap.size w x → FaultAt ad b bLines ca (-1) 0 x → CsIn g' 0 #[.string bLines, .string ca, .int .i64 (-1)] x → CsIn g 0 #[.int .i64 1] x → Calls Tryz.prog 17 #[.iface 137 (.pointer (some ⟨b, 0, none⟩)), .agg #[.int .i64 1, .slice (some ⟨g', 0, none⟩) 1 1, .slice (some ⟨g, 0, none⟩) 1 1]] x fun e w' => e = .returned (.bool true) ∧ Below x.heap.size x w') := fun ca b g g' x hb h1 h2 h3 => refused_some (k := 0) (L.below hb) h1 (by decide) h2 h3
  have HY1 := hid_of' (HY.out bStart)
  have HY2 := hid_of' (HY.out bWhere)
  clear L HY
  go_wp2_with (first | (go_at_call 20; first | (refine (HY1.out _).mono ?_; rintro r w7 ⟨x1, x2, rfl, k1, k2, hb7⟩; clear HY1; have hB7 := bgo hB6 hb7; have hf7 : FaultAt ad g1 bLines bStart (-1) 0 _ := RowAt.later hf1 hb7) | (refine (HY2.out _).mono ?_; clear HY2; rintro r w9 ⟨y1, y2, rfl, m1, m2, hb9⟩; have hB9 := bgo hB8 hb9; have hf9 : FaultAt ad g2 bLines bWhere (-1) 0 _ := RowAt.later (RowAt.later (RowAt.later hf2 hb7) hb8) hb9)) | (go_at_call 17; first | ((with_reducible refine (HR.out bStart g1 x1 x2 _ hB7 hf7 k1 k2).mono ?_); rintro r w8 ⟨rfl, hb8⟩; have hB8 := bgo hB7 hb8) | ((with_reducible refine (HR.out bWhere g2 y1 y2 _ hB9 hf9 m1 m2).mono ?_); rintro r w10 ⟨rfl, hb10⟩)))
  go_ret
  exact ⟨rfl, bgo hB9 hb10⟩
end Go.Proofs.YtdafkakigigdeaaGreatDoor
namespace Go.Proofs.YtdafkakigigdeaaGreatDoor
open Go.RowKit Go.Extern.Stop Go.Stop Go.Extern
set_option maxRecDepth 100000

/-- The lines ahead of the last one, and it. -/
def spS (v : List Int) : List (List Int) × List Int := v.foldl (fun s c => if c = 10 then (s.1 ++ [s.2], []) else (s.1, s.2 ++ [c])) ([], [])
theorem spS_end (v : List Int) : spS (v ++ [10]) = ((spS v).1 ++ [(spS v).2], []) := by simp [spS, List.foldl_append]
theorem spS_other (v : List Int) {c : Int} (h : ¬ c = 10) : spS (v ++ [c]) = ((spS v).1, (spS v).2 ++ [c]) := by simp [spS, List.foldl_append, h]
theorem spS_len (v : List Int) : (spS v).1.length + (spS v).2.length ≤ v.length := by
  have key : ∀ (v : List Int) (s : List (List Int) × List Int), (v.foldl (fun s c => if c = 10 then (s.1 ++ [s.2], []) else (s.1, s.2 ++ [c])) s).1.length + (v.foldl (fun s c => if c = 10 then (s.1 ++ [s.2], []) else (s.1, s.2 ++ [c])) s).2.length ≤ s.1.length + s.2.length + v.length := by
    intro v
    induction v with
    | nil => intro s; simp
    | cons c v ih =>
      intro s
      rw [List.foldl_cons]
      refine Nat.le_trans (ih _) ?_
      split
      · simp; omega
      · simp; omega
  have := key v ([], [])
  simpa [spS] using this
/-- The lines. -/
def spl (v : List Int) : List (List Int) := (spS v).1 ++ [(spS v).2]
/-- A line in memory, below a block. -/
def LnB (B : Nat) (w : World) (u : Value) (x : List Int) : Prop := (x = [] ∧ ∃ a c, u = .slice a 0 c) ∨ ∃ g o_ c c1, u = .slice (some ⟨g, o_, none⟩) x.length c ∧ g < B ∧ RowAt g c1 21 w ∧ ∀ (i : Nat) (y : Int), x[i]? = some y → w.cell? ⟨g, o_ + i, none⟩ = some (.int .i32 y)
theorem LnB.block {B B' : Nat} {w w' : World} {u : Value} {x : List Int} (h : LnB B w u x) (hB : B ≤ B') (hb : ∀ g, g < B → w'.heap[g]? = w.heap[g]?) : LnB B' w' u x := by
  rcases h with h | ⟨g, o_, c, c1, h1, h2, h4, h3⟩
  · exact .inl h
  · exact .inr ⟨g, o_, c, c1, h1, by omega, (hb g h2).trans h4, fun i y hy => by rw [World.cell?_of_block (w := w) (a := ⟨g, o_ + i, none⟩) (hb g h2)]; exact h3 i y hy⟩
theorem LnB.sl {B : Nat} {w : World} {u : Value} {x : List Int} (h : LnB B w u x) (hB : B ≤ w.heap.size) : SlR w u x := by
  rcases h with h | ⟨g, o_, c, c1, h1, h2, _, h3⟩
  · exact .inl h
  · exact .inr ⟨g, o_, c, h1, by omega, h3⟩
theorem OwnR.ln {base : Nat} {v : Value} {cs : List Int} {w : World} (h : OwnR base v cs w) : LnB w.heap.size w v cs := by
  have hs := h.sl
  rcases h.2 with ⟨h1, h2⟩ | ⟨g, cap, c1, q1, q2, q3, q4⟩
  · exact .inl ⟨List.length_eq_zero_iff.1 h2, none, 0, h1⟩
  · rcases hs with hs | ⟨g', o_, c, h1, h2, h3⟩
    · exact .inl hs
    · rw [q1] at h1
      cases h1
      exact .inr ⟨g, 0, _, c1, q1, h2, q3, h3⟩
/-- The outer list, while it grows: its own row, the finished lines below B, the last one from B on. -/
structure SpM (base B : Nat) (v : Value) (vs : List Value) (vl : Value) (dn : List (List Int)) (cur : List Int) (w : World) : Prop where
  row : w.ownsRow base 22 1 v (dn.length + 1) (vs ++ [vl])
  len : vs.length = dn.length
  old : ∀ (i : Nat) (x : List Int), dn[i]? = some x → ∃ u, vs[i]? = some u ∧ LnB B w u x
  own : OwnR B vl cur w
  lo : base ≤ B
  hi : B ≤ w.heap.size
theorem SpM.later {base B : Nat} {v : Value} {vs : List Value} {vl : Value} {dn : List (List Int)} {cur : List Int} {w w' : World} (h : SpM base B v vs vl dn cur w) (hb : Below w.heap.size w w') : SpM base B v vs vl dn cur w' where
  row := by
    obtain ⟨e1, e2⟩ := h.row
    refine ⟨e1, ?_⟩
    rcases e2 with h | ⟨g, cap, c0, q1, q2, q3, q4⟩
    · exact .inl h
    · exact .inr ⟨g, cap, c0, q1, q2, (hb.block _ (Array.getElem?_eq_some_iff.1 q3).1).trans q3, q4⟩
  len := h.len
  old := fun i x hx => by
    obtain ⟨u, a1, a2⟩ := h.old i x hx
    exact ⟨u, a1, a2.block (Nat.le_refl _) (fun g hg => hb.block g (Nat.lt_of_lt_of_le hg h.hi))⟩
  own := h.own.later hb
  lo := h.lo
  hi := Nat.le_trans h.hi hb.size
theorem SpM.form {base B : Nat} {v : Value} {vs : List Value} {vl : Value} {dn : List (List Int)} {cur : List Int} {w : World} (h : SpM base B v vs vl dn cur w) : ∃ g c c0, v = .slice (some ⟨g, 0, none⟩) (dn.length + 1) c ∧ base ≤ g ∧ w.heap[g]? = some (.cells c0 22 (0, 0)) ∧ dn.length + 1 ≤ c ∧ c ≤ maxLen ∧ c0.size = c * 1 ∧ c0.toList.take ((dn.length + 1) * 1) = vs ++ [vl] := by
  rcases h.row.2 with ⟨_, h2⟩ | ⟨g, cap, cur0, q1, q2, q3, q4, q5, q6, q7⟩
  · omega
  · exact ⟨g, cap, cur0, q1, q2, q3, q4, q5, q6, q7⟩
theorem SpM.cell {base B : Nat} {v : Value} {vs : List Value} {vl : Value} {dn : List (List Int)} {cur : List Int} {w : World} (h : SpM base B v vs vl dn cur w) {g n c : Nat} (hv : v = .slice (some ⟨g, 0, none⟩) n c) {i : Nat} {u : Value} (hu : (vs ++ [vl])[i]? = some u) : w.cell? ⟨g, i, none⟩ = some u := by
  obtain ⟨g', c', c0, e1, _, e3, _, _, _, e7⟩ := h.form
  rw [hv] at e1
  cases e1
  rw [cell_of_row w g i c0 _ _ e3]
  have hi := (List.getElem?_eq_some_iff.1 hu).1
  rw [← e7] at hu hi
  have hi2 : i < (dn.length + 1) * 1 := by simp at hi; omega
  rw [List.getElem?_take_of_lt hi2] at hu
  simpa using hu
/-- The last line has grown. -/
theorem SpM.grow {base B : Nat} {v : Value} {vs : List Value} {vl vl' : Value} {dn : List (List Int)} {cur cur' : List Int} {w w' : World} (h : SpM base B v vs vl dn cur w) (hg : w.grownBy w' vl.ownBlock) (_ho : OwnR B vl' cur' w') :
    w'.ownsRow base 22 1 v (dn.length + 1) (vs ++ [vl]) ∧ (∀ (i : Nat) (x : List Int), dn[i]? = some x → ∃ u, vs[i]? = some u ∧ LnB B w' u x) ∧ B ≤ w'.heap.size := by
  refine ⟨World.ownsRow.kept h.row hg (own_ne h.row h.own (by decide)), fun i x hx => ?_, Nat.le_trans h.hi hg.size⟩
  obtain ⟨u, a1, a2⟩ := h.old i x hx
  refine ⟨u, a1, a2.block (Nat.le_refl _) (fun g hg' => hg.block g (Nat.lt_of_lt_of_le hg' h.hi) (fun e => ?_))⟩
  have := (World.ownsRow.lt h.own g e.symm).1
  omega
theorem row_set1 {w : World} {base g n c : Nat} {vs : List Value} {vl v : Value} (h : w.ownsRow base 22 1 (.slice (some ⟨g, 0, none⟩) n c) n (vs ++ [vl])) (hn : vs.length + 1 = n) :
    (w.setCell ⟨g, vs.length, none⟩ v).ownsRow base 22 1 (.slice (some ⟨g, 0, none⟩) n c) n (vs ++ [v]) := by
  obtain ⟨e1, e2⟩ := h
  rcases e2 with ⟨h1, _⟩ | ⟨g', cap, c0, q1, q2, q3, q4, q5, q6, q7⟩
  · cases h1
  · cases q1
    refine ⟨by simp; omega, .inr ⟨g, c, c0.setIfInBounds vs.length v, rfl, q2, heap_setCell_at q3 _ _, q4, q5, by simpa using q6, ?_⟩⟩
    rw [Array.toList_setIfInBounds, List.take_set, q7, List.set_append]
    simp

def lsL (listed : Array Bool) (j : Nat) : Bool := listed.getD j false
def upL (l : Nat → Bool) (i : Nat) (j : Nat) : Bool := if j = i then true else l j
theorem upL_self (l : Nat → Bool) (i : Nat) : upL l i i = true := if_pos rfl
theorem upL_ne (l : Nat → Bool) {i j : Nat} (h : j ≠ i) : upL l i j = l j := if_neg h
theorem updL_self (v : Nat → Value) (i : Nat) (x : Value) : upd v i x i = x := if_pos rfl
theorem updL_ne (v : Nat → Value) {i j : Nat} (x : Value) (h : j ≠ i) : upd v i x j = v j := if_neg h
theorem lsL_set {listed : Array Bool} {i : Nat} (h : listed.getD i true = false) : lsL (listed.setIfInBounds i true) = upL (lsL listed) i := by
  funext j
  have hi : i < listed.size := by
    rcases Nat.lt_or_ge i listed.size with h' | h'
    · exact h'
    · simp [Array.getD, Nat.not_lt.2 h'] at h
  unfold lsL upL
  by_cases e : j = i
  · subst e; simp [Array.getD, hi]
  · rw [if_neg e]
    simp only [Array.getD_eq_getD_getElem?]
    rw [Array.getElem?_setIfInBounds_ne (fun h => e h.symm)]
theorem lsL_repl (m j : Nat) : lsL (Array.replicate m false) j = false := by
  unfold lsL
  simp [Array.getD]
theorem lsL_un {listed : Array Bool} {i : Nat} (h : listed.getD i true = false) : lsL listed i = false := by
  unfold lsL
  have hi : i < listed.size := by
    rcases Nat.lt_or_ge i listed.size with h' | h'
    · exact h'
    · simp [Array.getD, Nat.not_lt.2 h'] at h
  simp [Array.getD, hi] at h ⊢
  exact h
/-- What has come up of 'out[k] = append(out[k], x)'. -/
structure SplJ (X : World) (cs : Nat → Value) (P10 P11 : Value → World → Prop) (P13 : World → Prop) (l : Nat → Bool) (vals : Nat → Value) (x : World) : Prop where
  cst : ∀ i, i < 13 → i ≠ 10 → i ≠ 11 → l i = true → vals i = cs i
  pre : l 11 = false → Below X.heap.size X x
  bld : l 10 = true → l 11 = false → P10 (vals 10) x
  post : l 11 = true → l 13 = false → P11 (vals 11) x
  fin : l 13 = true → P13 x
  d5 : l 11 = true → l 5 = true
  d9 : l 10 = true → l 9 = true
  d10 : l 11 = true → l 10 = true
  d13 : l 13 = true → ∀ i, i < 13 → l i = true
section
variable {X : World} {cs : Nat → Value} {P10 P11 : Value → World → Prop} {P13 : World → Prop} {l : Nat → Bool} {vals : Nat → Value} {x : World}
theorem SplJ.plain (h : SplJ X cs P10 P11 P13 l vals x) (i : Nat) (hi : i < 13) (h10 : i ≠ 10) (h11 : i ≠ 11) (hun : l i = false) : SplJ X cs P10 P11 P13 (upL l i) (upd vals i (cs i)) x where
  cst := fun j hj j10 j11 hl => by
    by_cases e : j = i
    · subst e; exact updL_self _ _ _
    · rw [upL_ne l e] at hl; rw [updL_ne _ _ e]; exact h.cst j hj j10 j11 hl
  pre := fun hl => by rw [upL_ne l (fun e => h11 e.symm)] at hl; exact h.pre hl
  bld := fun a b => by rw [upL_ne l (fun e => h10 e.symm)] at a; rw [upL_ne l (fun e => h11 e.symm)] at b; rw [updL_ne _ _ (fun e => h10 e.symm)]; exact h.bld a b
  post := fun a b => by rw [upL_ne l (fun e => h11 e.symm)] at a; rw [upL_ne l (by omega)] at b; rw [updL_ne _ _ (fun e => h11 e.symm)]; exact h.post a b
  fin := fun a => by rw [upL_ne l (by omega)] at a; exact h.fin a
  d5 := fun a => by rw [upL_ne l (fun e => h11 e.symm)] at a; unfold upL; split; · rfl
                    · exact h.d5 a
  d9 := fun a => by rw [upL_ne l (fun e => h10 e.symm)] at a; unfold upL; split; · rfl
                    · exact h.d9 a
  d10 := fun a => by rw [upL_ne l (fun e => h11 e.symm)] at a; rw [upL_ne l (fun e => h10 e.symm)]; exact h.d10 a
  d13 := fun a => by rw [upL_ne l (by omega)] at a; rw [h.d13 a i hi] at hun; cases hun
theorem SplJ.no11 (h : SplJ X cs P10 P11 P13 l vals x) (hun : l 10 = false) : l 11 = false := by
  cases e : l 11 with
  | false => rfl
  | true => rw [h.d10 e] at hun; cases hun
theorem SplJ.no11' (h : SplJ X cs P10 P11 P13 l vals x) (hun : l 5 = false) : l 11 = false := by
  cases e : l 11 with
  | false => rfl
  | true => rw [h.d5 e] at hun; cases hun
theorem SplJ.no10 (h : SplJ X cs P10 P11 P13 l vals x) (hun : l 9 = false) : l 10 = false := by
  cases e : l 10 with
  | false => rfl
  | true => rw [h.d9 e] at hun; cases hun
theorem SplJ.no13 (h : SplJ X cs P10 P11 P13 l vals x) {i : Nat} (hi : i < 13) (hun : l i = false) : l 13 = false := by
  cases e : l 13 with
  | false => rfl
  | true => rw [h.d13 e i hi] at hun; cases hun
theorem SplJ.build (h : SplJ X cs P10 P11 P13 l vals x) (hun : l 10 = false) (h9 : l 9 = true) {v : Value} {x' : World} (hb : Below x.heap.size x x') (hp : P10 v x') : SplJ X cs P10 P11 P13 (upL l 10) (upd vals 10 v) x' where
  cst := fun j hj j10 j11 hl => by rw [upL_ne l j10] at hl; rw [updL_ne _ _ j10]; exact h.cst j hj j10 j11 hl
  pre := fun _ => bgo (h.pre (h.no11 hun)) hb
  bld := fun _ _ => by rw [updL_self]; exact hp
  post := fun a _ => by rw [upL_ne l (by decide), h.no11 hun] at a; cases a
  fin := fun a => by rw [upL_ne l (by decide), h.no13 (by decide) hun] at a; cases a
  d5 := fun a => by rw [upL_ne l (by decide), h.no11 hun] at a; cases a
  d9 := fun _ => by rw [upL_ne l (by decide)]; exact h9
  d10 := fun _ => upL_self _ _
  d13 := fun a => by rw [upL_ne l (by decide), h.no13 (by decide) hun] at a; cases a
theorem SplJ.app (h : SplJ X cs P10 P11 P13 l vals x) (hun : l 11 = false) (h5 : l 5 = true) (h10 : l 10 = true) {v : Value} {x' : World} (hp : P11 v x') : SplJ X cs P10 P11 P13 (upL l 11) (upd vals 11 v) x' where
  cst := fun j hj j10 j11 hl => by rw [upL_ne l j11] at hl; rw [updL_ne _ _ j11]; exact h.cst j hj j10 j11 hl
  pre := fun a => by rw [upL_self] at a; cases a
  bld := fun _ a => by rw [upL_self] at a; cases a
  post := fun _ _ => by rw [updL_self]; exact hp
  fin := fun a => by rw [upL_ne l (by decide), h.no13 (by decide) hun] at a; cases a
  d5 := fun _ => by rw [upL_ne l (by decide)]; exact h5
  d9 := fun _ => by rw [upL_ne l (by decide)]; exact h.d9 h10
  d10 := fun _ => by rw [upL_ne l (by decide)]; exact h10
  d13 := fun a => by rw [upL_ne l (by decide), h.no13 (by decide) hun] at a; cases a
theorem SplJ.store (h : SplJ X cs P10 P11 P13 l vals x) (hall : ∀ i, i < 13 → l i = true) {v : Value} {x' : World} (hp : P13 x') : SplJ X cs P10 P11 P13 (upL l 13) (upd vals 13 v) x' where
  cst := fun j hj j10 j11 _ => by rw [updL_ne _ _ (by omega)]; exact h.cst j hj j10 j11 (hall j hj)
  pre := fun a => by rw [upL_ne l (by decide), hall 11 (by decide)] at a; cases a
  bld := fun _ a => by rw [upL_ne l (by decide), hall 11 (by decide)] at a; cases a
  post := fun _ a => by rw [upL_self] at a; cases a
  fin := fun _ => hp
  d5 := fun _ => by rw [upL_ne l (by decide)]; exact hall 5 (by decide)
  d9 := fun _ => by rw [upL_ne l (by decide)]; exact hall 9 (by decide)
  d10 := fun _ => by rw [upL_ne l (by decide)]; exact hall 10 (by decide)
  d13 := fun _ i hi => by rw [upL_ne l (by omega)]; exact hall i hi
end
def SpP10 (c : Int) (v : Value) (x : World) : Prop := ∃ g, v = .slice (some ⟨g, 0, none⟩) 1 1 ∧ RowAt g #[.int .i32 c] 21 x
def SpP11 (X : World) (B : Nat) (vl : Value) (cur : List Int) (v : Value) (x : World) : Prop := ∃ y, Below X.heap.size X y ∧ y.grownBy x vl.ownBlock ∧ OwnR B v cur x
def SpP13 (w : World) (B : Nat) (V : Value) (vs : List Value) (dn : List (List Int)) (cur : List Int) (x : World) : Prop := ∃ vl', SpM w.heap.size B V vs vl' dn cur x ∧ Below w.heap.size w x
/-- What the operations yield, but for two. -/
def splC (V U vl : Value) (go n gs os i : Nat) (c : Int) : Nat → Value
  | 0 => V
  | 1 => .int .i64 (n : Int)
  | 2 => V
  | 3 => .int .i64 (n : Int)
  | 4 => .pointer (some ⟨go, n, none⟩)
  | 5 => vl
  | 6 => U
  | 7 => .int .i64 (i : Int)
  | 8 => .pointer (some ⟨gs, os + i, none⟩)
  | 9 => .int .i32 c
  | 12 => .pointer (some ⟨go, n, none⟩)
  | _ => undef
theorem run_appR {base : Nat} {v : Value} {cs : List Int} {c : Int} {w : World} {g : Nat} (ty : TypeId) (hown : OwnR base v cs w) (hg : RowAt g #[.int .i32 c] 21 w) (hlen : cs.length ≤ 1000000) (hbase : base ≤ w.heap.size) :
    ∃ v' w', (Builtin.append_ #[22, 22] ty #[v, .slice (some ⟨g, 0, none⟩) 1 1]).run Tryz.prog w = .ok v' w' ∧ OwnR base v' (cs ++ [c]) w' ∧ w.grownBy w' v.ownBlock := by
  obtain ⟨i0, hi, hi3⟩ := Option.map_eq_some_iff.1 info_rune
  simp only [Prod.mk.injEq] at hi3
  obtain ⟨hz0, hz1, hz2⟩ := hi3
  obtain ⟨v', w', h1, h2, h3, _⟩ := run_append_own (P := Tryz.prog) w base 22 ty 21 i0 _ 1 4 Tryz.underlying22 hi hz0 hz1 hz2 rfl (by decide) v cs.length (cs.map (Value.int .i32)) hown ⟨g, 0, none⟩ 1 1 [.int .i32 c] rfl (fun j u hu => by
    match j, hu with
    | 0, hu => cases hu; exact hg.cell 0
    | n + 1, hu => simp at hu) (by intro u hu; simp at hu; subst hu; rfl) (by unfold maxLen; omega) (by omega) hbase
  refine ⟨v', w', h1, ?_, h3⟩
  unfold OwnR
  simpa using h2
theorem cell_own {w : World} {base go co : Nat} {vs : List Value} {vl : Value} {n : Nat} (h : w.ownsRow base 22 1 (.slice (some ⟨go, 0, none⟩) (n + 1) co) (n + 1) (vs ++ [vl])) (hl : vs.length = n) : w.cell? ⟨go, n, none⟩ = some vl := by
  rcases h.2 with ⟨h1, _⟩ | ⟨g', cap, c0, q1, q2, q3, q4, q5, q6, q7⟩
  · cases h1
  · cases q1
    rw [cell_of_row w go n c0 _ _ q3]
    have h1 : (c0.toList.take ((n + 1) * 1))[n]? = some vl := by rw [q7, ← hl]; simp
    rw [List.getElem?_take_of_lt (by omega)] at h1
    simpa using h1
theorem froz_own {w : World} {base go co n : Nat} {xs : List Value} (h : w.ownsRow base 22 1 (.slice (some ⟨go, 0, none⟩) (n + 1) co) (n + 1) xs) (k : Nat) : w.frozen? ⟨go, k, none⟩ = false := by
  rcases h.2 with ⟨h1, _⟩ | ⟨g', cap, c0, q1, q2, q3, _⟩
  · cases h1
  · cases q1
    exact Lib.frozen_of_heap q3 k
/-- The last line, put into its place. -/
theorem SpM.put {base B go co : Nat} {vs : List Value} {vl vl' : Value} {dn : List (List Int)} {cur cur' : List Int} {w x : World} (h : SpM base B (.slice (some ⟨go, 0, none⟩) (dn.length + 1) co) vs vl dn cur w)
    (z1 : x.ownsRow base 22 1 (.slice (some ⟨go, 0, none⟩) (dn.length + 1) co) (dn.length + 1) (vs ++ [vl])) (z2 : ∀ (i : Nat) (y : List Int), dn[i]? = some y → ∃ u, vs[i]? = some u ∧ LnB B x u y) (z3 : B ≤ x.heap.size) (ho : OwnR B vl' cur' x) :
    SpM base B (.slice (some ⟨go, 0, none⟩) (dn.length + 1) co) vs vl' dn cur' (x.setCell ⟨go, dn.length, none⟩ vl') := by
  have hrow : ∃ c0, RowAt go c0 22 x := by
    rcases z1.2 with ⟨h1, _⟩ | ⟨g', cap, c0, q1, q2, q3, _⟩
    · cases h1
    · cases q1; exact ⟨c0, q3⟩
  obtain ⟨c0, hrow⟩ := hrow
  have other : ∀ g c1 ty, RowAt g c1 ty x → ty ≠ 22 → (x.setCell ⟨go, dn.length, none⟩ vl').heap[g]? = x.heap[g]? := fun g c1 ty hg hty => Below.heap_setCell _ _ _ _ (fun e => by
    have e' : g = go := e
    subst e'
    have e2 := Option.some.inj ((show x.heap[g]? = _ from hg).symm.trans hrow)
    injection e2 with _ e3
    exact hty e3)
  refine ⟨?_, h.len, fun i y hy => ?_, ?_, h.lo, by simpa using z3⟩
  · rw [← h.len] at z1 ⊢
    exact row_set1 z1 rfl
  · obtain ⟨u, a1, a2⟩ := z2 i y hy
    refine ⟨u, a1, ?_⟩
    rcases a2 with h' | ⟨g, o_, c, c1, h1, h2, h4, h3⟩
    · exact .inl h'
    · have ho2 := other g c1 _ h4 (by decide)
      refine .inr ⟨g, o_, c, c1, h1, h2, ho2.trans h4, fun j q hq => ?_⟩
      rw [World.cell?_of_block (w := x) (a := ⟨g, o_ + j, none⟩) ho2]
      exact h3 j q hq
  · obtain ⟨e1, e2⟩ := ho
    refine ⟨e1, ?_⟩
    rcases e2 with h' | ⟨g, cap, c1, q1, q2, q3, q4⟩
    · exact .inl h'
    · exact .inr ⟨g, cap, c1, q1, q2, (other g c1 _ q3 (by decide)).trans q3, q4⟩
theorem info_sl : (Tryz.prog.info? 22).map (fun i => (i.zero, i.size, i.bytes)) = some (some (.slice none 0 0), 1, 24) := by kernel_rfl
/-- A new line. -/
theorem SpM.next {base B : Nat} {v v' : Value} {vs : List Value} {vl : Value} {dn : List (List Int)} {cur : List Int} {w w' : World} (h : SpM base B v vs vl dn cur w) (ho : w'.ownsRow base 22 1 v' (dn.length + 1 + 1) (vs ++ [vl] ++ [.slice none 0 0])) (hg : w.grownBy w' v.ownBlock) :
    SpM base w'.heap.size v' (vs ++ [vl]) (.slice none 0 0) (dn ++ [cur]) [] w' := by
  have hkeep : ∀ g c1, RowAt g c1 21 w → w'.heap[g]? = w.heap[g]? := fun g c1 hr => (RowAt.keptO hr h.row (by decide) hg).trans hr.symm
  have hl : ∀ u x, LnB w.heap.size w u x → LnB w'.heap.size w' u x := fun u x hx => by
    rcases hx with hx | ⟨g, o_, c, c1, h1, h2, h4, h3⟩
    · exact .inl hx
    · exact .inr ⟨g, o_, c, c1, h1, Nat.lt_of_lt_of_le h2 hg.size, (hkeep g c1 h4).trans h4, fun i y hy => by rw [World.cell?_of_block (w := w) (a := ⟨g, o_ + i, none⟩) (hkeep g c1 h4)]; exact h3 i y hy⟩
  refine ⟨by simpa using ho, by simp [h.len], fun i x hx => ?_, own_nil _ _, Nat.le_trans h.lo (Nat.le_trans h.hi hg.size), Nat.le_refl _⟩
  rw [List.getElem?_append] at hx
  split at hx
  · rename_i hi
    obtain ⟨u, a1, a2⟩ := h.old i x hx
    exact ⟨u, by rw [List.getElem?_append_left (by rw [h.len]; exact hi)]; exact a1, hl u x (a2.block h.hi (fun _ _ => rfl))⟩
  · rename_i hi
    have e0 : i - dn.length = 0 := by
      rcases Nat.eq_zero_or_pos (i - dn.length) with h0 | h0
      · exact h0
      · rw [List.getElem?_eq_none (by simp; omega)] at hx; cases hx
    rw [e0] at hx
    simp at hx
    subst hx
    refine ⟨vl, ?_, hl vl cur h.own.ln⟩
    rw [List.getElem?_append_right (by rw [h.len]; omega), h.len, e0]
    rfl
end Go.Proofs.YtdafkakigigdeaaGreatDoor
namespace Go.Proofs.YtdafkakigigdeaaGreatDoor
open Go.RowKit Go.Extern.Stop Go.Stop Go.Extern
set_option maxRecDepth 100000

/-- Characters ahead of the first line. -/
def glueI (c : List Int) : List (List Int) → List (List Int)
  | h :: t => (c ++ h) :: t
  | [] => [c]
theorem glueI_glue (a b : List Int) (x : List (List Int)) (h : x ≠ []) : glueI a (glueI b x) = glueI (a ++ b) x := by
  cases x with
  | nil => exact absurd rfl h
  | cons c t => simp [glueI]
theorem spl_ne (v : List Int) : spl v ≠ [] := by simp [spl]
theorem spl_gen : ∀ (v : List Int) (d : List (List Int)) (c0 : List Int), (v.foldl (fun s c => if c = 10 then (s.1 ++ [s.2], []) else (s.1, s.2 ++ [c])) (d, c0)).1 ++ [(v.foldl (fun s c => if c = 10 then (s.1 ++ [s.2], []) else (s.1, s.2 ++ [c])) (d, c0)).2] = d ++ glueI c0 (spl v)
  | [], d, c0 => by simp [spl, spS, glueI]
  | a :: v, d, c0 => by
    have e : spl (a :: v) = (v.foldl (fun s c => if c = 10 then (s.1 ++ [s.2], []) else (s.1, s.2 ++ [c])) (if a = 10 then ([[]], []) else ([], [a]))).1 ++ [(v.foldl (fun s c => if c = 10 then (s.1 ++ [s.2], []) else (s.1, s.2 ++ [c])) (if a = 10 then ([[]], []) else ([], [a]))).2] := by
      unfold spl spS
      rw [List.foldl_cons]
      by_cases h : a = 10
      · simp [h]
      · simp [h]
    rw [List.foldl_cons]
    by_cases h : a = 10
    · rw [if_pos h] at e ⊢
      rw [spl_gen v (d ++ [c0]) [], e, spl_gen v [[]] []]
      cases hs : spl v with
      | nil => exact absurd hs (spl_ne v)
      | cons x t => simp [glueI]
    · rw [if_neg h] at e ⊢
      rw [spl_gen v d (c0 ++ [a]), e, spl_gen v [] [a], List.nil_append, glueI_glue _ _ _ (spl_ne v)]
theorem spl_end (v : List Int) : spl (10 :: v) = [] :: spl v := by
  have := spl_gen v [[]] []
  have e : spl (10 :: v) = [[]] ++ glueI [] (spl v) := by rw [← this]; rfl
  rw [e]
  cases hs : spl v with
  | nil => exact absurd hs (spl_ne v)
  | cons x t => simp [glueI]
theorem spl_other {a : Int} (v : List Int) (h : ¬ a = 10) : spl (a :: v) = glueI [a] (spl v) := by
  have := spl_gen v [] [a]
  have e : spl (a :: v) = [] ++ glueI [a] (spl v) := by rw [← this]; simp [spl, spS, h]
  rw [e]; rfl
theorem spl_len : ∀ v : List Int, (spl v).length = nlC v + 1
  | [] => rfl
  | a :: v => by
    by_cases h : a = 10
    · subst h; rw [spl_end, nlC_cons]; simp [spl_len v]; omega
    · rw [spl_other v h, nlC_cons, if_neg h]
      cases hs : spl v with
      | nil => exact absurd hs (spl_ne v)
      | cons x t => have := spl_len v; rw [hs] at this; simp [glueI] at this ⊢; omega
/-- How far the lines ahead of one reach. -/
def sumS : List (List Int) → Nat → Nat
  | _, 0 => 0
  | [], _ + 1 => 0
  | x :: t, j + 1 => x.length + 1 + sumS t j
theorem st_end (v : List Int) (j : Nat) : stC (10 :: v) (j + 1) = stC v j + 1 := by
  cases j with
  | zero => rfl
  | succ j => show endC (10 :: v) (j + 1) + 1 = endC v j + 1 + 1; rw [endC_succ]
theorem st_other {a : Int} (v : List Int) (h : ¬ a = 10) (j : Nat) : stC (a :: v) (j + 1) = stC v (j + 1) + 1 := by
  show endC (a :: v) j + 1 = endC v j + 1 + 1
  rw [endC_other _ _ h]
theorem en_end0 (v : List Int) : enC (10 :: v) 0 = 0 := by
  unfold enC
  rw [if_neg (by rw [nlC_cons]; simp; omega), endC_zero]
theorem en_end (v : List Int) (j : Nat) : enC (10 :: v) (j + 1) = enC v j + 1 := by
  unfold enC
  rw [nlC_cons]
  by_cases h : j = nlC v
  · rw [if_pos h, if_pos (by simp; omega)]; simp
  · rw [if_neg h, if_neg (by simp; omega), endC_succ]
theorem en_other {a : Int} (v : List Int) (h : ¬ a = 10) (j : Nat) : enC (a :: v) j = enC v j + 1 := by
  unfold enC
  rw [nlC_cons, if_neg h, Nat.zero_add]
  by_cases e : j = nlC v
  · rw [if_pos e, if_pos e]; simp
  · rw [if_neg e, if_neg e, endC_other _ _ h]
theorem sum_st : ∀ (v : List Int) (j : Nat), j ≤ nlC v → sumS (spl v) j = stC v j
  | v, 0, _ => by cases spl v <;> rfl
  | [], j + 1, h => by simp [nlC] at h
  | a :: v, j + 1, h => by
    rw [nlC_cons] at h
    by_cases ha : a = 10
    · subst ha
      rw [spl_end, st_end]
      show ([] : List Int).length + 1 + sumS (spl v) j = _
      rw [sum_st v j (by simp at h; omega)]
      simp; omega
    · rw [if_neg ha] at h
      rw [spl_other v ha, st_other v ha, ← sum_st v (j + 1) (by omega)]
      cases hs : spl v with
      | nil => exact absurd hs (spl_ne v)
      | cons x t => show ([a] ++ x).length + 1 + sumS t j = x.length + 1 + sumS t j + 1; simp; omega
theorem tx_at : ∀ (v : List Int) (j : Nat), j ≤ nlC v → (spl v)[j]? = some (txC v j)
  | [], 0, _ => rfl
  | [], j + 1, h => by simp [nlC] at h
  | a :: v, j, h => by
    rw [nlC_cons] at h
    by_cases ha : a = 10
    · subst ha
      rw [spl_end]
      cases j with
      | zero => unfold txC; rw [en_end0]; rfl
      | succ j =>
        rw [List.getElem?_cons_succ, tx_at v j (by simp at h; omega)]
        unfold txC
        rw [st_end, en_end, List.drop_succ_cons]
        congr 2
        omega
    · rw [if_neg ha] at h
      rw [spl_other v ha]
      have ih := tx_at v j (by omega)
      cases hs : spl v with
      | nil => exact absurd hs (spl_ne v)
      | cons x t =>
        rw [hs] at ih
        cases j with
        | zero =>
          simp only [List.getElem?_cons_zero, Option.some.injEq] at ih
          show some ([a] ++ x) = _
          rw [ih]
          unfold txC
          rw [en_other v ha]
          rfl
        | succ j =>
          rw [List.getElem?_cons_succ] at ih
          show t[j]? = _
          rw [ih]
          unfold txC
          rw [en_other v ha, st_other v ha, List.drop_succ_cons]
          congr 2
          omega
theorem tx_len (v : List Int) (j : Nat) (h : j ≤ nlC v) : (txC v j).length = enC v j - stC v j := by
  have := st_en v j h
  unfold txC
  simp
  omega
/-- Lists of lines in memory. -/
def SlRR (w : World) (v : Value) (ls : List (List Int)) : Prop := ∃ g c, v = .slice (some ⟨g, 0, none⟩) ls.length c ∧ g < w.heap.size ∧ ∀ (i : Nat) (x : List Int), ls[i]? = some x → ∃ a k, w.cell? ⟨g, i, none⟩ = some (.slice a x.length k) ∧ SlR w (.slice a x.length k) x
theorem SlR.later {w w' : World} {v : Value} {cs : List Int} (h : SlR w v cs) (hb : Below w.heap.size w w') : SlR w' v cs := by
  rcases h with h | ⟨g, o_, c, e, hg, hc⟩
  · exact .inl h
  · exact .inr ⟨g, o_, c, e, Nat.lt_of_lt_of_le hg hb.size, fun i x hx => by rw [hb.cell (p := ⟨g, o_ + i, none⟩) hg]; exact hc i x hx⟩
theorem SlRR.later {w w' : World} {v : Value} {ls : List (List Int)} (h : SlRR w v ls) (hb : Below w.heap.size w w') : SlRR w' v ls := by
  obtain ⟨g, c, h1, h2, h3⟩ := h
  refine ⟨g, c, h1, Nat.lt_of_lt_of_le h2 hb.size, fun i x hx => ?_⟩
  obtain ⟨a, k, e1, e2⟩ := h3 i x hx
  exact ⟨a, k, by rw [hb.cell (p := ⟨g, i, none⟩) h2]; exact e1, e2.later hb⟩
theorem SpM.all {base B : Nat} {v : Value} {vs : List Value} {vl : Value} {dn : List (List Int)} {cur : List Int} {w : World} (h : SpM base B v vs vl dn cur w) : SlRR w v (dn ++ [cur]) := by
  obtain ⟨g, c, c0, e1, _, e3, _⟩ := h.form
  refine ⟨g, c, by rw [e1]; simp, (Array.getElem?_eq_some_iff.1 e3).1, fun i x hx => ?_⟩
  have fin : ∀ u, (vs ++ [vl])[i]? = some u → SlR w u x → ∃ a k, w.cell? ⟨g, i, none⟩ = some (.slice a x.length k) ∧ SlR w (.slice a x.length k) x := fun u hu hs => by
    obtain ⟨a, k, rfl⟩ := hs.form
    exact ⟨a, k, h.cell e1 hu, hs⟩
  rw [List.getElem?_append] at hx
  split at hx
  · rename_i hi
    obtain ⟨u, a1, a2⟩ := h.old i x hx
    exact fin u (by rw [List.getElem?_append_left (by rw [h.len]; exact hi)]; exact a1) (a2.sl h.hi)
  · rename_i hi
    have e0 : i - dn.length = 0 := by
      rcases Nat.eq_zero_or_pos (i - dn.length) with h0 | h0
      · exact h0
      · rw [List.getElem?_eq_none (by simp; omega)] at hx; cases hx
    rw [e0] at hx
    simp at hx
    subst hx
    exact fin vl (by rw [List.getElem?_append_right (by rw [h.len]; omega), h.len, e0]; rfl) h.own.sl
end Go.Proofs.YtdafkakigigdeaaGreatDoor
namespace Go.Proofs.YtdafkakigigdeaaGreatDoor
open Go.RowKit Go.Extern.Stop Go.Stop Go.Extern
set_option maxRecDepth 100000

theorem sumS_next : ∀ (ls : List (List Int)) (j : Nat) (x : List Int), ls[j]? = some x → sumS ls (j + 1) = sumS ls j + x.length + 1
  | [], j, x, h => by simp at h
  | y :: t, 0, x, h => by
    simp only [List.getElem?_cons_zero, Option.some.injEq] at h
    subst h
    show y.length + 1 + sumS t 0 = _
    cases t <;> simp [sumS]
  | y :: t, j + 1, x, h => by
    have := sumS_next t j x (by simpa using h)
    show y.length + 1 + sumS t (j + 1) = y.length + 1 + sumS t j + x.length + 1
    omega
theorem sumS_le : ∀ (ls : List (List Int)) (j : Nat), sumS ls j ≤ sumS ls ls.length
  | ls, 0 => by simp [sumS]
  | [], j + 1 => by simp [sumS]
  | y :: t, j + 1 => by have := sumS_le t j; show y.length + 1 + sumS t j ≤ y.length + 1 + sumS t t.length; omega
/-- A list of bytes of the call's own. -/
def OwnY (base : Nat) (v : Value) (bs : List UInt8) (w : World) : Prop := w.ownsRow base 5 1 v bs.length (Lib.byteCells bs)
theorem ownY_nil (base : Nat) (w : World) : OwnY base (.slice none 0 0) [] w := ⟨rfl, .inl ⟨rfl, rfl⟩⟩
theorem enc_take {v : List Int} {j : Nat} {c : Int} (h : v[j]? = some c) : encL (v.take (j + 1)) = encL (v.take j) ++ Lib.encodeRune c := by
  rw [List.take_add_one, h]
  show encL (v.take j ++ [c]) = _
  rw [encL_app, encL_one]
theorem cells_new (w : World) (cs : List Value) (t : TypeId) : ∀ (j : Nat) (u : Value), cs[j]? = some u → (w.alloc (.cells cs.toArray t)).cell? ((⟨w.heap.size, 0, none⟩ : Addr).add j) = some u := fun j u hu => by
  have hr := row_new w cs.toArray t
  have hadd : (⟨w.heap.size, 0, none⟩ : Addr).add j = ⟨w.heap.size, j, none⟩ := by unfold Addr.add; split <;> simp_all
  rw [hadd, hr.cell]
  simpa using hu
theorem one_u8 (l : List Int) : ∀ u ∈ l.map (Value.int .u8), u.oneCell' = true := by
  intro u hu
  obtain ⟨x, _, rfl⟩ := List.mem_map.1 hu
  rfl
theorem ownY_next {base : Nat} {v' : Value} {i n : Nat} {vv : List Int} {c : Int} {w9 : World} {cells : List Value} (hc : vv[i]? = some c) (hcells : Lib.runeCells c = cells) (hn : cells.length = n) (h : w9.ownsRow base 5 1 v' ((encL (vv.take i)).length + n) (Lib.byteCells (encL (vv.take i)) ++ cells)) : OwnY base v' (encL (vv.take (i + 1))) w9 := by
  unfold OwnY
  rw [enc_take hc, List.length_append, Lib.byteCells, List.map_append, ← Lib.runeCells_length, hcells, hn]
  rw [← hcells, ← Lib.byteCells_encodeRune] at h
  exact h
end Go.Proofs.YtdafkakigigdeaaGreatDoor
namespace Go.Proofs.YtdafkakigigdeaaGreatDoor
open Go.RowKit Go.Extern.Stop Go.Stop Go.Extern
set_option maxRecDepth 100000

theorem results_No {fn : Func} {p : Tmp} {tmps : Array Value} {w : World} {g : Nat} {code : Int} {a a' : Option Addr} {n c n' c' : Nat} (h : fn.results = #[.cell p 52]) (hp : tmps.getD p undef = .pointer (some ⟨g, 0, none⟩)) (hg : RowAt g (nov code a n c a' n' c') 52 w) :
    (results fn tmps).run Tryz.prog w = .ok (.agg (nov code a n c a' n' c')) w := by
  have hp' : tmps[p]?.getD undef = .pointer (some ⟨g, 0, none⟩) := by simpa using hp
  simp [results, h, hp', asAddr, run_loadVar_row w g _ _ _ _ _ hg Tryz.underlying52 rfl no_size]
/-- Refused of a refusal that is due. -/
theorem refL_some {ad : Nat → Addr} {b g g' : Nat} {ca : ByteArray} {at_ : Int} {x : World} (L : Laid ad x) (h1 : FaultAt ad b bLines ca at_ 1 x) (h2 : CsIn g' 0 #[.string bLines, .string ca, .int .i64 at_] x) (h3 : CsIn g 0 #[.int .i64 2] x) :
    Calls Tryz.prog 17 #[fvL b, .agg (nov 2 (some ⟨g', 0, none⟩) 1 1 (some ⟨g, 0, none⟩) 1 1)] x fun e w' => e = .returned (.bool true) ∧ Below x.heap.size x w' := refused_some (k := 1) L h1 (by decide) h2 h3

theorem strEq (a : ByteArray) (w : World) : (binOp .eql 9 (.string a) (.string a)).run Tryz.prog w = .ok (.bool true) w := by simp [binOp, Op.stringOp]
end Go.Proofs.YtdafkakigigdeaaGreatDoor
namespace Go.Proofs.YtdafkakigigdeaaGreatDoor
open Go.RowKit Go.Extern.Stop Go.Stop Go.Extern Go.ChangeShapes Go.WideShapes Go.ChangeAt Go.Deep
set_option maxRecDepth 100000

/-- A list of numbers. -/
def SlI (w : World) (v : Value) (cs : List Int) : Prop := (cs = [] ∧ ∃ a c, v = .slice a 0 c) ∨ ∃ g o_ c, v = .slice (some ⟨g, o_, none⟩) cs.length c ∧ g < w.heap.size ∧ ∀ (i : Nat) (x : Int), cs[i]? = some x → w.cell? ⟨g, o_ + i, none⟩ = some (.int .i64 x)
theorem SlI.form {w : World} {v : Value} {cs : List Int} (h : SlI w v cs) : ∃ a c, v = .slice a cs.length c := by
  rcases h with ⟨h, a, c, e⟩ | ⟨g, o_, c, e, _⟩
  · subst h; exact ⟨a, c, e⟩
  · exact ⟨_, _, e⟩
theorem SlI.at {w w' : World} {v : Value} {cs : List Int} (h : SlI w v cs) (hb : Below w.heap.size w w') {i : Nat} {x : Int} (hx : cs[i]? = some x) : ∃ g o_ c, v = .slice (some ⟨g, o_, none⟩) cs.length c ∧ w'.cell? ⟨g, o_ + i, none⟩ = some (.int .i64 x) := by
  rcases h with ⟨h, _⟩ | ⟨g, o_, c, e, hg, hc⟩
  · subst h; simp at hx
  · exact ⟨g, o_, c, e, by rw [hb.cell (p := ⟨g, o_ + i, none⟩) hg]; exact hc i x hx⟩
section
variable {H : Type} {enc : TypeId × Value → H} {W : World} {base : Nat}
/-- A list that came in whose elements are one cell each. -/
theorem open_one {α : Type} [Inhabited α] {t e : TypeId} {mk : α → Value} (ht : Tryz.prog.underlying t = some (.slice e)) (hc1 : Tryz.prog.cellsOf e = 1) (hop : ∀ (n : Nat) (v : Value) (x : DataW H × List MemPlace), DataW.trod enc Tryz.prog W 0 (fun _ => true) true n e [v] = some x → ∃ y, v = mk y)
    {v : Value} {d : DataW H} {p : List MemPlace} (hval : Value.okWide Tryz.prog W .any base t v) (h : DataW.Trod enc Tryz.prog W 0 (fun _ => true) true t v d p) :
    ∃ l : List α, (l = [] ∧ ∃ a c, v = .slice a 0 c) ∨ ∃ g o_ c, v = .slice (some ⟨g, o_, none⟩) l.length c ∧ g < W.heap.size ∧ ∀ (i : Nat) (x : α), l[i]? = some x → W.cell? ⟨g, o_ + i, none⟩ = some (mk x) := by
  obtain ⟨a1, len, cap, rfl⟩ := okWide_slice ht hval
  obtain ⟨fuel, hf⟩ := h
  rcases open_slice1 ht hc1 hf with ⟨hcs, hx⟩ | ⟨a, len', cap', m, n, V, D, Pl, hcs, _, hl, hm, hmm, hx, hcell⟩
  · simp [Value.cells] at hcs
    obtain ⟨rfl, rfl, rfl⟩ := hcs
    exact ⟨[], .inl ⟨rfl, _, _, rfl⟩⟩
  · simp [Value.cells] at hcs
    obtain ⟨rfl, rfl, rfl⟩ := hcs
    simp only [if_true] at hmm
    subst hmm
    have each : ∀ i, i < len → ∃ x : α, W.cell? (a.add i) = some (mk x) := fun i hi => by
      obtain ⟨h1, h2⟩ := hcell i (by omega)
      obtain ⟨y, hy⟩ := hop n _ _ h2
      exact ⟨y, by rw [h1, hy]⟩
    obtain ⟨f, hf⟩ := choose_lt (α := α) each
    refine ⟨(List.range len).map f, ?_⟩
    by_cases h0 : len = 0
    · subst h0
      exact .inl ⟨by simp, _, _, rfl⟩
    · obtain ⟨ab, ao, spot⟩ := a
      have c0 := hf 0 (by omega)
      have hspot : spot = none := by simpa [Addr.add] using World.cell?_spot c0
      subst hspot
      have hblk : ab < W.heap.size := by
        have := World.block_lt_of_cell? _ _ c0
        simpa [Addr.add] using this
      refine .inr ⟨ab, ao, _, by rw [List.length_map, List.length_range], hblk, fun i x hi => ?_⟩
      have hil : i < len := by have := (List.getElem?_eq_some_iff.1 hi).1; simpa using this
      have hx : f i = x := by
        simp only [List.getElem?_map, List.getElem?_range hil, Option.map_some, Option.some.injEq] at hi
        exact hi
      have := hf i hil
      rw [hx, Addr.add_lit] at this
      exact this
theorem open_runes {v : Value} {d : DataW H} {p : List MemPlace} (hval : Value.okWide Tryz.prog W .any base 22 v) (h : DataW.Trod enc Tryz.prog W 0 (fun _ => true) true 22 v d p) : ∃ cs, SlR W v cs :=
  open_one (mk := fun x => .int .i32 x) Tryz.underlying22 (by kernel_rfl) (fun _ _ _ h => by obtain ⟨y, hy, _⟩ := DataW.trod_int Tryz.underlying21 h; simp at hy; exact ⟨y, hy⟩) hval h
theorem open_yns {v : Value} {d : DataW H} {p : List MemPlace} (hval : Value.okWide Tryz.prog W .any base 23 v) (h : DataW.Trod enc Tryz.prog W 0 (fun _ => true) true 23 v d p) : ∃ cs, SlB W v cs :=
  open_one (mk := fun x => .bool x) Tryz.underlying23 (by kernel_rfl) (fun _ _ _ h => by obtain ⟨y, hy, _⟩ := DataW.trod_bool Tryz.underlying4 h; simp at hy; exact ⟨y, hy⟩) hval h
theorem open_nums {v : Value} {d : DataW H} {p : List MemPlace} (hval : Value.okWide Tryz.prog W .any base 50 v) (h : DataW.Trod enc Tryz.prog W 0 (fun _ => true) true 50 v d p) : ∃ cs, SlI W v cs :=
  open_one (mk := fun x => .int .i64 x) Tryz.underlying50 (by kernel_rfl) (fun _ _ _ h => by obtain ⟨y, hy, _⟩ := DataW.trod_int Tryz.underlying3 h; simp at hy; exact ⟨y, hy⟩) hval h
end

theorem vis_right {l : List El} (h : ∀ (i : Nat) (e : El), l[i]? = some e → rightC e.ch = true) : ∀ (i : Nat) (c : Int), (vis l)[i]? = some c → rightC c = true := by
  intro i c hi
  have key : ∀ l : List El, c ∈ vis l → ∃ e, e ∈ l ∧ e.ch = c := fun l => by
    induction l with
    | nil => intro h; cases h
    | cons e l ih =>
      intro h
      by_cases hd : e.hd > 0
      · rw [vis_hid _ hd] at h
        obtain ⟨x, h1, h2⟩ := ih h
        exact ⟨x, List.mem_cons_of_mem _ h1, h2⟩
      · rw [vis_live _ hd] at h
        rcases List.mem_cons.1 h with h | h
        · exact ⟨e, List.mem_cons_self, h.symm⟩
        · obtain ⟨x, h1, h2⟩ := ih h
          exact ⟨x, List.mem_cons_of_mem _ h1, h2⟩
  obtain ⟨e, he, rfl⟩ := key l (List.mem_of_getElem? hi)
  obtain ⟨j, hj⟩ := List.getElem?_of_mem he
  exact h j e hj
end Go.Proofs.YtdafkakigigdeaaGreatDoor
namespace Go.Proofs.YtdafkakigigdeaaGreatDoor
open Go.RowKit Go.Extern.Stop Go.Stop Go.Extern
set_option maxRecDepth 100000

/-- The line of a gap. -/
def InL (v : List Int) (j p : Nat) : Prop := j ≤ nlC v ∧ stC v j ≤ p ∧ p ≤ enC v j
theorem st_next (v : List Int) (j : Nat) (h : j < nlC v) : stC v (j + 1) = enC v j + 1 := by
  unfold enC; rw [if_neg (by omega)]; rfl
theorem st_mono (v : List Int) (i : Nat) : ∀ d : Nat, i + d ≤ nlC v → stC v i ≤ stC v (i + d)
  | 0, _ => Nat.le_refl _
  | d + 1, h => by
    have h1 := st_mono v i d (by omega)
    have h2 := st_next v (i + d) (by omega)
    have h3 := (st_en v (i + d) (by omega)).1
    rw [show i + (d + 1) = i + d + 1 from rfl]; omega
theorem in_lt {v : List Int} {i j p : Nat} (hi : InL v i p) (hj : InL v j p) : ¬ i < j := fun h => by
  obtain ⟨_, _, h1⟩ := hi
  obtain ⟨h2, h3, _⟩ := hj
  have h4 := st_next v i (by omega)
  have h5 := st_mono v (i + 1) (j - (i + 1)) (by omega)
  rw [show i + 1 + (j - (i + 1)) = j by omega] at h5
  omega
theorem in_one {v : List Int} {i j p : Nat} (hi : InL v i p) (hj : InL v j p) : i = j := by
  have := in_lt hi hj; have := in_lt hj hi; omega
/-- What a search between lo and hi knows. -/
def SrA (v : List Int) (p lo hi : Nat) : Prop := (∀ t, t < lo → endC v t < p) ∧ (∀ t, hi ≤ t → t < nlC v → p ≤ endC v t)
theorem endC_mono (v : List Int) (i : Nat) : ∀ d : Nat, i + d < nlC v → endC v i ≤ endC v (i + d)
  | 0, _ => Nat.le_refl _
  | d + 1, h => by
    have h1 := endC_mono v i d (by omega)
    have h2 := endC_up v (i + d) (by omega)
    rw [show i + (d + 1) = i + d + 1 from rfl]; omega
theorem SrA.low {v : List Int} {p lo hi m : Nat} (h : SrA v p lo hi) (hm : m < nlC v) (hp : endC v m < p) : SrA v p (m + 1) hi :=
  ⟨fun t ht => by have := endC_mono v t (m - t) (by omega); rw [show t + (m - t) = m by omega] at this; omega, h.2⟩
theorem SrA.high {v : List Int} {p lo hi m : Nat} (h : SrA v p lo hi) (hp : p ≤ endC v m) : SrA v p lo m :=
  ⟨h.1, fun t ht hl => by have := endC_mono v m (t - m) (by omega); rw [show m + (t - m) = t by omega] at this; omega⟩
theorem SrA.done {v : List Int} {p lo : Nat} (h : SrA v p lo lo) (hl : lo ≤ nlC v) (hp : p ≤ v.length) : InL v lo p := by
  refine ⟨hl, ?_, ?_⟩
  · cases lo with
    | zero => exact Nat.zero_le _
    | succ k => exact h.1 k (Nat.lt_succ_self _)
  · unfold enC
    by_cases e : lo = nlC v
    · rw [if_pos e]; exact hp
    · rw [if_neg e]; exact h.2 lo (Nat.le_refl _) (by omega)

theorem enters_lo (w : World) (args : Array Value) : (callFunc 61 args).run Tryz.prog w = .ok (.enter 61 args) w := by kernel_rfl
theorem lineOfFn_ok {mb b1 b2 : Nat} {l : List El} {w : World} (h : MvAt mb l w) (h1 : w.cell? ⟨b1, 0, none⟩ = some (pv mb)) (p : Nat) (h2 : w.cell? ⟨b2, 0, none⟩ = some (.int .i64 (p : Int))) (hb2 : b2 < w.heap.size) (k : Nat) (hn : l.length ≤ 1000000) (hk : k < nlC (vis l)) :
    Calls Tryz.prog 61 #[.int .i64 (k : Int), .pointer (some ⟨b1, 0, none⟩), .pointer (some ⟨b2, 0, none⟩)] w fun r w' => r = .returned (.bool (decide (p ≤ endC (vis l) k))) ∧ Below w.heap.size w w' := by
  have HE := hid_of' (lineEnd_c h k hn hk)
  have HX : Hid (∀ x, Below w.heap.size w x → x.cell? ⟨b2, 0, none⟩ = some (.int .i64 (p : Int))) := fun x hx => by rw [hx.cell (p := ⟨b2, 0, none⟩) hb2]; exact h2
  unfold pv at *
  go_enter Tryz.func61, Tryz.ntmps61
  go_upto_region 2 with (go_at_call 62; refine HE.out.mono ?_; rintro r w1 ⟨rfl, hb1⟩)
  have hx := HX.out _ hb1
  go_wp2
  go_ret
  exact ⟨rfl, hb1⟩
set_option maxHeartbeats 1000000 in
theorem search_ok {mb b1 b2 : Nat} {l : List El} {w : World} (h : MvAt mb l w) (h1 : w.cell? ⟨b1, 0, none⟩ = some (pv mb)) (p : Nat) (h2 : w.cell? ⟨b2, 0, none⟩ = some (.int .i64 (p : Int))) (hb1 : b1 < w.heap.size) (hb2 : b2 < w.heap.size) (hn : l.length ≤ 1000000) (hp : p ≤ (vis l).length) :
    Calls Tryz.prog 60 #[.int .i64 (nlC (vis l) : Int), .func (.func 61) #[] #[.pointer (some ⟨b1, 0, none⟩), .pointer (some ⟨b2, 0, none⟩)]] w fun r w' => ∃ j : Nat, r = .returned (.int .i64 (j : Int)) ∧ InL (vis l) j p ∧ Below w.heap.size w w' := by
  have HF : Hid (∀ (x : World) (k : Nat), Below w.heap.size w x → k < nlC (vis l) → _) := fun x k hx hk => lineOfFn_ok (h.later hx) (by rw [hx.cell (p := ⟨b1, 0, none⟩) hb1]; exact h1) p (by rw [hx.cell (p := ⟨b2, 0, none⟩) hb2]; exact h2) (Nat.lt_of_lt_of_le hb2 hx.size) k hn hk
  have hN : nlC (vis l) ≤ 1000000 := by have := nlC_b (vis l); have := vis_le l; omega
  have eg := fun (args : Array Value) (w : World) => enters_lo w args
  generalize hNN : nlC (vis l) = N at *
  go_enter Tryz.func60, Tryz.ntmps60
  go_wp2
  go_loopw [5, 6] (fun a b wr => ∃ lo hi : Nat, a = .int .i64 (lo : Int) ∧ b = .int .i64 (hi : Int) ∧ lo ≤ hi ∧ hi ≤ N ∧ SrA (vis l) p lo hi ∧ Below w.heap.size w wr) (fun a b _ => (intOf b - intOf a).toNat)
  case atStart => exact ⟨0, N, rfl, rfl, Nat.zero_le _, Nat.le_refl _, ⟨fun t ht => absurd ht (Nat.not_lt_zero _), fun t h1 h2 => by omega⟩, Below.refl _ _⟩
  case round =>
    obtain ⟨lo, hi, rfl, rfl, hlh, hin, hS, hB⟩ := hrel
    by_cases hlt : lo < hi
    · have q1 : (lo : Int) < (hi : Int) := by omega
      have hm : (lo + hi) / 2 < N := by omega
      have hc := HF.out _ ((lo + hi) / 2) hB hm
      rw [show (((lo + hi) / 2 : Nat) : Int) = ((lo : Int) + (hi : Int)) / 2 by omega] at hc
      have hC := hid_of' hc
      clear hc
      by_cases hq : p ≤ endC (vis l) ((lo + hi) / 2)
      · rw [decide_eq_true hq] at hC
        have HS := hid_of' (hS.high hq)
        clear hS hq
        go_wp2_with (go_at_call 61; refine hC.out.mono ?_; rintro r w2 ⟨rfl, hb⟩)
        go_roundw
        case rel => exact ⟨lo, (lo + hi) / 2, rfl, by rw [show ((lo : Int) + (hi : Int)) / 2 = (((lo + hi) / 2 : Nat) : Int) by omega], by omega, by omega, HS.out, bgo hB hb⟩
        case measure => simp [intOf]; omega
      · rw [decide_eq_false hq] at hC
        have HS := hid_of' (hS.low (m := (lo + hi) / 2) (by omega) (by omega))
        clear hS hq
        go_wp2_with (go_at_call 61; refine hC.out.mono ?_; rintro r w2 ⟨rfl, hb⟩)
        go_roundw
        case rel => exact ⟨(lo + hi) / 2 + 1, hi, by rw [show ((lo : Int) + (hi : Int)) / 2 + 1 = (((lo + hi) / 2 + 1 : Nat) : Int) by omega], rfl, by omega, by omega, HS.out, bgo hB hb⟩
        case measure => simp [intOf]; omega
    · obtain rfl : hi = lo := by omega
      go_wp2
      go_ret
      exact ⟨hi, rfl, hS.done (by omega) hp, hB⟩
set_option maxHeartbeats 400000 in
theorem lineOf_ok {mb : Nat} {l : List El} {w : World} (h : MvAt mb l w) (p : Nat) (hn : l.length ≤ 1000000) (hp : p ≤ (vis l).length) :
    Calls Tryz.prog 24 #[pv mb, .int .i64 (p : Int)] w fun r w' => ∃ j : Nat, r = .returned (.int .i64 (j : Int)) ∧ InL (vis l) j p ∧ Below w.heap.size w w' := by
  have HL : Hid (∀ x, Below w.heap.size w x → _) := fun x hx => lines_c (h.later hx)
  have HS : Hid (∀ (x : World) (b1 b2 : Nat), Below w.heap.size w x → x.cell? ⟨b1, 0, none⟩ = some (pv mb) → x.cell? ⟨b2, 0, none⟩ = some (.int .i64 (p : Int)) → b1 < x.heap.size → b2 < x.heap.size → _) := fun x b1 b2 hx c1 c2 d1 d2 => search_ok (h.later hx) c1 p c2 d1 d2 hn hp
  have hmf : ∀ (fn : Fn) (first cap : Array Value) (w : World), (Instr.makeFunc fn first cap).run Tryz.prog w = .ok (.func fn first cap) w := fun _ _ _ _ => rfl
  have r1 := row_new w #[pv mb] 24
  have r2 := row_new (w.alloc (.cells #[pv mb] 24)) #[.int .i64 (p : Int)] 3
  have b1 := below_one w (.cells #[pv mb] 24)
  have b2 := below_one (w.alloc (.cells #[pv mb] 24)) (.cells #[.int .i64 (p : Int)] 3)
  have r1' := r1.later b2
  have hB := bgo b1 b2
  have hr1 : ((w.alloc (.cells #[pv mb] 24)).alloc (.cells #[.int .i64 (p : Int)] 3)).cell? ⟨w.heap.size, 0, none⟩ = some (pv mb) := r1'.cell 0
  have hr2 : ((w.alloc (.cells #[pv mb] 24)).alloc (.cells #[.int .i64 (p : Int)] 3)).cell? ⟨w.heap.size + 1, 0, none⟩ = some (.int .i64 (p : Int)) := by
    have := r2.cell 0
    rw [show (w.alloc (.cells #[pv mb] 24)).heap.size = w.heap.size + 1 by simp] at this
    exact this
  have hsz : ((w.alloc (.cells #[pv mb] 24)).alloc (.cells #[.int .i64 (p : Int)] 3)).heap.size = w.heap.size + 2 := by simp
  clear r1 r2 b1 b2 r1' h
  unfold pv at *
  go_enter Tryz.func24, Tryz.ntmps24
  go_upto_region 1 with fail
  generalize ((w.alloc (.cells #[.pointer (some ⟨mb, 0, none⟩)] 24)).alloc (.cells #[.int .i64 (p : Int)] 3)) = W2 at *
  have HW : Hid (∀ x, Below W2.heap.size W2 x → x.cell? ⟨w.heap.size, 0, none⟩ = some (.pointer (some ⟨mb, 0, none⟩)) ∧ x.cell? ⟨w.heap.size + 1, 0, none⟩ = some (.int .i64 (p : Int)) ∧ w.heap.size < x.heap.size ∧ w.heap.size + 1 < x.heap.size) := fun x hx => by
    have hz := hx.size
    refine ⟨?_, ?_, by omega, by omega⟩
    · rw [hx.cell (p := ⟨w.heap.size, 0, none⟩) (by show w.heap.size < W2.heap.size; omega)]; exact hr1
    · rw [hx.cell (p := ⟨w.heap.size + 1, 0, none⟩) (by show w.heap.size + 1 < W2.heap.size; omega)]; exact hr2
  go_wp2_with (first | (go_at_call 32; refine (HL.out _ hB).mono ?_; rintro r w3 ⟨rfl, hb3⟩; obtain ⟨x1, x2, x3, x4⟩ := HW.out _ hb3; have hB3 := bgo hB hb3) | (go_at_call 60; refine (HS.out _ _ _ hB3 x1 x2 x3 x4).mono ?_; rintro r w4 ⟨j, rfl, hj, hb4⟩))
  go_ret
  exact ⟨j, rfl, hj, bgo hB3 hb4⟩
set_option maxHeartbeats 400000 in
theorem where_out {ad : Nat → Addr} {mb : Nat} {l : List El} (p : Int) {w : World} (h : MvAt mb l w) (L : Laid ad w) (ho : p < 0 ∨ ((vis l).length : Int) < p) :
    Calls Tryz.prog 6 #[pv mb, .int .i64 p] w fun e w' => ∃ g, e = .returned (.tuple #[.int .i64 0, .int .i64 0, fvL g]) ∧ FaultAt ad g bLines bWhere (place p) 1 w' ∧ Below w.heap.size w w' := by
  have HR := hid_of' (gapRef_out bWhere p h L ho)
  unfold pv at *
  clear L h ho
  go_enter Tryz.func6, Tryz.ntmps6
  go_wp2_with (go_at_call 23; refine HR.out.mono ?_; rintro r w1 ⟨g, rfl, hf, hb1⟩)
  go_ret3
  exact ⟨g, rfl, hf, hb1⟩
set_option maxHeartbeats 400000 in
theorem where_ok {mb : Nat} {l : List El} (p : Nat) {w : World} (h : MvAt mb l w) (hn : l.length ≤ 1000000) (hp : p ≤ (vis l).length) :
    Calls Tryz.prog 6 #[pv mb, .int .i64 (p : Int)] w fun e w' => ∃ j : Nat, e = .returned (.tuple #[.int .i64 (j : Int), .int .i64 ((p - stC (vis l) j : Nat) : Int), .nilIface]) ∧ InL (vis l) j p ∧ Below w.heap.size w w' := by
  have HR := hid_of' (gapRef_ok bWhere p h hp)
  have HO : Hid (∀ x, Below w.heap.size w x → _) := fun x hx => lineOf_ok (h.later hx) p hn hp
  have HE : Hid (∀ (x : World) (j : Nat), Below w.heap.size w x → j ≤ nlC (vis l) → _) := fun x j hx hj => ends_any (h.later hx) j hn hj
  have hvl := vis_le l
  unfold pv at *
  clear h
  go_enter Tryz.func6, Tryz.ntmps6
  go_upto_region 5 with (first | (go_at_call 23; refine HR.out.mono ?_; rintro r w1 ⟨rfl, hb1⟩) | (go_at_call 24; refine (HO.out _ hb1).mono ?_; rintro r w2 ⟨j, rfl, hj, hb2⟩))
  have hB2 := bgo hb1 hb2
  have HE2 := hid_of' (HE.out _ j hB2 hj.1)
  have hw : wrap64 ((p : Int) - (stC (vis l) j : Int)) = ((p - stC (vis l) j : Nat) : Int) := by have := hj.2.1; rw [wrapIs (by omega) (by omega)]; omega
  clear HE HO HR
  go_wp2_with (go_at_call 25; refine HE2.out.mono ?_; rintro r w3 ⟨rfl, hb3⟩)
  go_ret3
  refine ⟨j, ?_, hj, bgo hB2 hb3⟩
  show Ending.returned (.tuple #[.int .i64 (j : Int), .int .i64 (wrap64 ((p : Int) - (stC (vis l) j : Int))), .nilIface]) = _
  rw [hw]
def bPlace : ByteArray := ⟨#[80, 108, 97, 99, 101]⟩
set_option maxHeartbeats 400000 in
theorem place_out {ad : Nat → Addr} {mb : Nat} {l : List El} (line c : Int) {w : World} (h : MvAt mb l w) (L : Laid ad w) (ho : line < 0 ∨ (nlC (vis l) : Int) < line) :
    Calls Tryz.prog 7 #[pv mb, .int .i64 line, .int .i64 c] w fun e w' => ∃ g, e = .returned (.tuple #[.int .i64 0, fvL g]) ∧ FaultAt ad g bLines bPlace (place line) 1 w' ∧ Below w.heap.size w w' := by
  have HR := hid_of' (lineRef_out bPlace line h L ho)
  unfold pv at *
  clear L h ho
  go_enter Tryz.func7, Tryz.ntmps7
  go_wp2_with (go_at_call 26; refine HR.out.mono ?_; rintro r w1 ⟨g, rfl, hf, hb1⟩)
  go_ret2
  exact ⟨g, rfl, hf, hb1⟩
/-- A column cut to a line. -/
def cutC (n : Nat) (c : Int) : Nat := min c.toNat n
set_option maxHeartbeats 400000 in
theorem place_ok {mb : Nat} {l : List El} (j : Nat) (c : Int) {w : World} (h : MvAt mb l w) (hn : l.length ≤ 1000000) (hj : j ≤ nlC (vis l)) :
    Calls Tryz.prog 7 #[pv mb, .int .i64 (j : Int), .int .i64 c] w fun e w' => e = .returned (.tuple #[.int .i64 ((stC (vis l) j + cutC (enC (vis l) j - stC (vis l) j) c : Nat) : Int), .nilIface]) ∧ Below w.heap.size w w' := by
  have HR := hid_of' (lineRef_ok bPlace j h hj)
  have HE : Hid (∀ x, Below w.heap.size w x → _) := fun x hx => ends_any (h.later hx) j hn hj
  obtain ⟨a1, a2⟩ := st_en (vis l) j hj
  have h2 := vis_le l
  unfold pv at *
  clear h hj
  go_enter Tryz.func7, Tryz.ntmps7
  go_upto_region 5 with (first | (go_at_call 26; refine HR.out.mono ?_; rintro r w1 ⟨rfl, hb1⟩) | (go_at_call 25; refine (HE.out _ hb1).mono ?_; rintro r w2 ⟨rfl, hb2⟩))
  go_wp2
  go_ret2
  refine ⟨?_, bgo hb1 hb2⟩
  show Ending.returned (.tuple #[.int .i64 ((stC (vis l) j : Int) + min (max c 0) ((enC (vis l) j : Int) - (stC (vis l) j : Int))), .nilIface]) = _
  rw [show (stC (vis l) j : Int) + min (max c 0) ((enC (vis l) j : Int) - (stC (vis l) j : Int)) = ((stC (vis l) j + cutC (enC (vis l) j - stC (vis l) j) c : Nat) : Int) by unfold cutC; omega]
end Go.Proofs.YtdafkakigigdeaaGreatDoor
namespace Go.Proofs.YtdafkakigigdeaaGreatDoor
open Go.RowKit Go.Extern.Stop Go.Stop Go.Extern
set_option maxRecDepth 100000

theorem u8n (m : Nat) (h : m < 256) : m.toUInt8.toNat = m := by
  rw [Nat.toUInt8_eq, UInt8.toNat_ofNat']
  omega
theorem right_is {c : Int} (h : rightC c = true) : 0 ≤ c ∧ c ≤ 1114111 ∧ (c < 55296 ∨ 57343 < c) := by
  unfold rightC at h
  simp only [Bool.and_eq_true, Bool.or_eq_true, decide_eq_true_eq] at h
  exact ⟨h.1.1, h.1.2, h.2⟩
set_option maxHeartbeats 1000000 in
theorem decode_enc (c : Int) (hr : rightC c = true) (t : List UInt8) : Lib.decodeL (Lib.encodeRune c ++ t) = (c.toNat, (Lib.encodeRune c).length) := by
  obtain ⟨h0, h1, h2⟩ := right_is hr
  obtain ⟨n, rfl⟩ := Int.eq_ofNat_of_zero_le h0
  rw [Lib.decodeL_N]
  unfold Lib.encodeRune
  by_cases k1 : n ≤ 127
  · rw [Lib.encodeRuneZ_one h0 (by omega)]
    have e0 := u8n n (by omega)
    simp only [List.map_cons, List.map_nil, List.cons_append, List.nil_append, List.getD_cons_zero, Int.toNat_natCast, e0, List.length_cons, List.length_nil]
    unfold Lib.decodeN
    rw [if_pos (by omega)]
  · by_cases k2 : n ≤ 2047
    · rw [Lib.encodeRuneZ_two (by omega) (by omega)]
      have f0 : (192 + (n : Int) / 64).toNat = 192 + n / 64 := by omega
      have f1 : (128 + (n : Int) % 64).toNat = 128 + n % 64 := by omega
      have e0 := u8n (192 + n / 64) (by omega)
      have e1 := u8n (128 + n % 64) (by omega)
      simp only [List.map_cons, List.map_nil, List.cons_append, List.nil_append, List.getD_cons_zero, List.getD_cons_succ, Int.toNat_natCast, f0, f1, e0, e1, List.length_cons, List.length_nil]
      unfold Lib.decodeN
      rw [if_neg (by omega), if_pos (by omega), if_pos (by omega)]
      exact Prod.ext (by show _ = n; omega) rfl
    · by_cases k3 : n ≤ 65535
      · rw [Lib.encodeRuneZ_three (by omega)]
        have f0 : (224 + (n : Int) / 4096).toNat = 224 + n / 4096 := by omega
        have f1 : (128 + (n : Int) / 64 % 64).toNat = 128 + n / 64 % 64 := by omega
        have f2 : (128 + (n : Int) % 64).toNat = 128 + n % 64 := by omega
        have e0 := u8n (224 + n / 4096) (by omega)
        have e1 := u8n (128 + n / 64 % 64) (by omega)
        have e2 := u8n (128 + n % 64) (by omega)
        simp only [List.map_cons, List.map_nil, List.cons_append, List.nil_append, List.getD_cons_zero, List.getD_cons_succ, Int.toNat_natCast, f0, f1, f2, e0, e1, e2, List.length_cons, List.length_nil]
        unfold Lib.decodeN
        rw [if_neg (by omega), if_neg (by omega), if_pos (by omega), if_pos (by omega)]
        exact Prod.ext (by show _ = n; omega) rfl
      · rw [Lib.encodeRuneZ_four (by omega) (by omega)]
        have f0 : (240 + (n : Int) / 262144).toNat = 240 + n / 262144 := by omega
        have f1 : (128 + (n : Int) / 4096 % 64).toNat = 128 + n / 4096 % 64 := by omega
        have f2 : (128 + (n : Int) / 64 % 64).toNat = 128 + n / 64 % 64 := by omega
        have f3 : (128 + (n : Int) % 64).toNat = 128 + n % 64 := by omega
        have e0 := u8n (240 + n / 262144) (by omega)
        have e1 := u8n (128 + n / 4096 % 64) (by omega)
        have e2 := u8n (128 + n / 64 % 64) (by omega)
        have e3 := u8n (128 + n % 64) (by omega)
        simp only [List.map_cons, List.map_nil, List.cons_append, List.nil_append, List.getD_cons_zero, List.getD_cons_succ, Int.toNat_natCast, f0, f1, f2, f3, e0, e1, e2, e3, List.length_cons, List.length_nil]
        unfold Lib.decodeN
        rw [if_neg (by omega), if_neg (by omega), if_neg (by omega), if_pos (by omega), if_pos (by omega)]
        exact Prod.ext (by show _ = n; omega) rfl
/-- Is it a letter or a digit? -/
def wrd (c : Int) : Bool := decide (97 ≤ c) && decide (c ≤ 122) || decide (65 ≤ c) && decide (c ≤ 90) || decide (48 ≤ c) && decide (c ≤ 57) || decide (128 ≤ c)
/-- The word at a gap. -/
structure Wd (v : List Int) (p a b : Nat) : Prop where
  lo : a ≤ p
  hi : p ≤ b
  len : b ≤ v.length
  all : ∀ (i : Nat) (c : Int), a ≤ i → i < b → v[i]? = some c → wrd c = true
  left : ∀ (i : Nat) (c : Int), i + 1 = a → v[i]? = some c → wrd c = false
  right : ∀ (c : Int), v[b]? = some c → wrd c = false
theorem Wd.one {v : List Int} {p a b a' b' : Nat} (h : Wd v p a b) (h' : Wd v p a' b') : a = a' ∧ b = b' := by
  have key : ∀ {a b a' b'}, Wd v p a b → Wd v p a' b' → ¬ a < a' ∧ ¬ b < b' := fun {a b a' b'} h h' => by
    have l1 := h.lo; have l2 := h.hi; have l3 := h.len; have m1 := h'.lo; have m2 := h'.hi; have m3 := h'.len
    refine ⟨fun hlt => ?_, fun hlt => ?_⟩
    · obtain ⟨c, hc⟩ : ∃ c, v[a' - 1]? = some c := ⟨_, List.getElem?_eq_getElem (by omega)⟩
      have e1 := h.all (a' - 1) c (by omega) (by omega) hc
      rw [h'.left (a' - 1) c (by omega) hc] at e1
      cases e1
    · obtain ⟨c, hc⟩ : ∃ c, v[b]? = some c := ⟨_, List.getElem?_eq_getElem (by omega)⟩
      have e1 := h'.all b c (by omega) hlt hc
      rw [h.right c hc] at e1
      cases e1
  have k1 := key h h'
  have k2 := key h' h
  exact ⟨by omega, by omega⟩
theorem endC_at : ∀ (v : List Int) (k : Nat), k < nlC v → v[endC v k]? = some 10
  | [], k, h => by simp [nlC] at h
  | c :: v, k, h => by
    rw [nlC_cons] at h
    by_cases hc : c = 10
    · subst hc
      cases k with
      | zero => rw [endC_zero]; rfl
      | succ k => rw [endC_succ, List.getElem?_cons_succ]; exact endC_at v k (by simp at h; omega)
    · rw [endC_other _ _ hc, List.getElem?_cons_succ]
      exact endC_at v k (by simp [hc] at h; omega)
/-- The word in a line is the word in the row. -/
theorem Wd.line {v : List Int} {j p a b : Nat} (hj : InL v j p) (h : Wd (txC v j) (p - stC v j) a b) : Wd v p (stC v j + a) (stC v j + b) := by
  obtain ⟨h1, h2, h3⟩ := hj
  have hl := tx_len v j h1
  have hs := st_en v j h1
  have hat : ∀ (i : Nat) (c : Int), v[stC v j + i]? = some c → i < enC v j - stC v j → (txC v j)[i]? = some c := fun i c hi hlt => by
    unfold txC
    rw [List.getElem?_take, if_pos hlt, List.getElem?_drop]
    exact hi
  have l1 := h.lo; have l2 := h.hi; have l3 := h.len
  refine ⟨by omega, by omega, by omega, fun i c h4 h5 h6 => ?_, fun i c h4 h6 => ?_, fun c h6 => ?_⟩
  · obtain ⟨k, rfl⟩ : ∃ k, i = stC v j + k := ⟨i - stC v j, by omega⟩
    exact h.all k c (by omega) (by omega) (hat k c h6 (by omega))
  · by_cases ha : a = 0
    · subst ha
      cases j with
      | zero => simp [stC] at h4
      | succ k =>
        have e : i = endC v k := by simp only [stC] at h4; omega
        rw [e, endC_at v k (by omega)] at h6
        cases h6
        rfl
    · obtain ⟨k, rfl⟩ : ∃ k, i = stC v j + k := ⟨i - stC v j, by omega⟩
      exact h.left k c (by omega) (hat k c h6 (by omega))
  · by_cases hb : stC v j + b < enC v j
    · exact h.right c (hat b c h6 (by omega))
    · have e : stC v j + b = enC v j := by omega
      rw [e] at h6
      by_cases he : j = nlC v
      · have : enC v j = v.length := by unfold enC; rw [if_pos he]
        rw [this, List.getElem?_eq_none (Nat.le_refl _)] at h6
        cases h6
      · have : enC v j = endC v j := by unfold enC; rw [if_neg he]
        rw [this, endC_at v j (by omega)] at h6
        cases h6
        rfl
end Go.Proofs.YtdafkakigigdeaaGreatDoor
namespace Go.Proofs.YtdafkakigigdeaaGreatDoor
open Go.RowKit
set_option maxRecDepth 100000

/-- The pieces between the bytes 10. -/
def pcs : List UInt8 → List (List UInt8)
  | [] => [[]]
  | b :: l => if b = 10 then [] :: pcs l else match pcs l with
    | h :: t => (b :: h) :: t
    | [] => [[b]]
theorem pcs_ne : ∀ l, pcs l ≠ []
  | [] => by simp [pcs]
  | b :: l => by
    unfold pcs
    split
    · simp
    · split <;> simp
/-- Some bytes ahead of the first piece. -/
def glue (c : List UInt8) : List (List UInt8) → List (List UInt8)
  | h :: t => (c ++ h) :: t
  | [] => [c]
theorem pcs_end (l : List UInt8) : pcs (10 :: l) = [] :: pcs l := rfl
theorem pcs_other {b : UInt8} (l : List UInt8) (h : ¬ b = 10) : pcs (b :: l) = glue [b] (pcs l) := by
  conv => lhs; unfold pcs
  rw [if_neg h]
  cases pcs l <;> rfl
theorem glue_nil (x : List (List UInt8)) (h : x ≠ []) : glue [] x = x := by
  cases x with
  | nil => exact absurd rfl h
  | cons a t => simp [glue]
theorem glue_glue (a b : List UInt8) (x : List (List UInt8)) (h : x ≠ []) : glue a (glue b x) = glue (a ++ b) x := by
  cases x with
  | nil => exact absurd rfl h
  | cons c t => simp [glue]
theorem pcs_le : ∀ S : List UInt8, (pcs S).length ≤ S.length + 1
  | [] => by simp [pcs]
  | b :: l => by
    have h := pcs_le l
    by_cases hb : b = 10
    · subst hb; rw [pcs_end]; simp; omega
    · rw [pcs_other l hb]
      have hn := pcs_ne l
      cases hp : pcs l with
      | nil => exact absurd hp hn
      | cons x t => rw [hp] at h; simp [glue] at h ⊢; omega
theorem ten : (10 : UInt8) == 10 := by decide
theorem split_pcs : ∀ s : List UInt8, Lib.splitK [10] 0 (Lib.count s [10]) s = pcs s
  | [] => by
    have h : Lib.index [] [10] = -1 := by rw [Lib.index_one]; rfl
    rw [Lib.count_miss h]; rfl
  | b :: l => by
    have ih := split_pcs l
    by_cases hb : b = 10
    · subst hb
      have h : Lib.index (10 :: l) [10] = ((0 : Nat) : Int) := by rw [Lib.index_one]; unfold Lib.indexByte; simp
      rw [Lib.count_hit (by simp) h, Nat.add_comm]
      unfold Lib.splitK
      rw [if_neg (by rw [h]; decide), h]
      simp only [Int.toNat_natCast, Nat.zero_add, List.take_zero, List.length_cons, List.length_nil, List.drop_succ_cons, List.drop_zero]
      rw [ih, pcs_end]
    · have hbb : (b == 10) = false := by simpa using hb
      cases hi : Lib.indexByte l 10 with
      | negSucc m =>
        have hm : Lib.indexByte l 10 = -1 := by have := Lib.indexByte_ge l 10; omega
        have h1 : Lib.index l [10] = -1 := by rw [Lib.index_one]; exact hm
        have h2 : Lib.index (b :: l) [10] = -1 := by rw [Lib.index_one]; unfold Lib.indexByte; simp [hbb, hm]
        rw [Lib.count_miss h1] at ih
        rw [Lib.count_miss h2, pcs_other l hb, ← ih]
        rfl
      | ofNat i =>
        have h1 : Lib.index l [10] = ((i : Nat) : Int) := by rw [Lib.index_one]; exact hi
        have h2 : Lib.index (b :: l) [10] = ((i + 1 : Nat) : Int) := by
          rw [Lib.index_one]; unfold Lib.indexByte
          simp [hbb, hi]
        rw [Lib.count_hit (by simp) h1, Nat.add_comm] at ih
        rw [Lib.count_hit (by simp) h2, Nat.add_comm, pcs_other l hb, ← ih]
        unfold Lib.splitK
        rw [if_neg (by rw [h2]; simp; omega), if_neg (by rw [h1]; simp), h1, h2]
        simp only [Int.toNat_natCast, Nat.add_zero, List.length_cons, List.length_nil, Nat.zero_add, List.take_succ_cons, List.drop_succ_cons, glue]
        rfl
end Go.Proofs.YtdafkakigigdeaaGreatDoor
namespace Go.Proofs.YtdafkakigigdeaaGreatDoor
open Go.RowKit Go.Extern.Stop Go.Stop Go.Extern
set_option maxRecDepth 100000

theorem pcs_cells (s : ByteArray) : (Lib.splitB ⟨#[10]⟩ 0 (Lib.countB s ⟨#[10]⟩) s) = (pcs s.data.toList).map (fun x => ⟨x.toArray⟩) := by
  have h := Lib.splitB_data ⟨#[10]⟩ 0 (Lib.countB s ⟨#[10]⟩) s
  rw [show Lib.splitK (ByteArray.mk #[10]).data.toList 0 (Lib.countB s ⟨#[10]⟩) s.data.toList = pcs s.data.toList from split_pcs s.data.toList] at h
  rw [← h, List.map_map]
  conv => lhs; rw [← List.map_id (Lib.splitB ⟨#[10]⟩ 0 (Lib.countB s ⟨#[10]⟩) s)]
  apply List.map_congr_left
  intro x _
  simp
theorem pcs_len (s : ByteArray) : Lib.countB s ⟨#[10]⟩ + 1 = (pcs s.data.toList).length := by
  have h := Lib.splitB_all ⟨#[10]⟩ (by decide) 0 _ s rfl
  rw [pcs_cells, List.length_map] at h
  exact h.symm
set_option maxHeartbeats 400000 in
theorem lsplit_any (s : ByteArray) (m : Int) (w : World) (hs : s.size ≤ 1000000) (hm : w.cell? ⟨5, 0, none⟩ = some (.int .i64 m)) :
    Calls Tryz.prog 8 #[.string s] w fun e w' => e = .returned (.slice (some ⟨w.heap.size, 0, none⟩) (pcs s.data.toList).length (pcs s.data.toList).length) ∧ RowAt w.heap.size ((pcs s.data.toList).map (fun x => Value.string ⟨x.toArray⟩)).toArray 9 w' ∧ Below w.heap.size w w' := by
  have HS := hid_of' (Tryz.strings_Split s ⟨#[10]⟩ m w (by omega) hm (by decide))
  go_enter Tryz.func8, Tryz.ntmps8
  go_wp2_with (go_at_call 27; refine HS.out.mono ?_; rintro r w1 ⟨rfl, rfl⟩)
  go_ret
  refine ⟨by rw [← pcs_len]; rfl, ?_, below_one _ _⟩
  rw [pcs_cells, List.map_map]
  exact row_new w _ _
/-- Where the reading stands. -/
def SpInv (S : List UInt8) (k f i : Nat) : Prop := (i ≤ S.length ∧ f ≤ i ∧ ∃ prev, prev.length = k ∧ pcs S = prev ++ glue ((S.drop f).take (i - f)) (pcs (S.drop i))) ∨ (i = S.length + 1 ∧ k = (pcs S).length)
theorem SpInv.start (S : List UInt8) : SpInv S 0 0 0 := .inl ⟨Nat.zero_le _, Nat.le_refl _, [], rfl, by simp [glue_nil _ (pcs_ne S)]⟩
theorem take_more {S : List UInt8} {f i : Nat} {b : UInt8} (hf : f ≤ i) (hb : S[i]? = some b) : (S.drop f).take (i + 1 - f) = (S.drop f).take (i - f) ++ [b] := by
  have h : (S.drop f)[i - f]? = some b := by rw [List.getElem?_drop]; rw [show f + (i - f) = i by omega]; exact hb
  rw [show i + 1 - f = (i - f) + 1 by omega, List.take_add_one, h]; rfl
theorem drop_at {S : List UInt8} {i : Nat} {b : UInt8} (hb : S[i]? = some b) : S.drop i = b :: S.drop (i + 1) := by
  have hi := (List.getElem?_eq_some_iff.1 hb).1
  rw [List.drop_eq_getElem_cons hi]
  congr 1
  exact (List.getElem?_eq_some_iff.1 hb).2
theorem SpInv.other {S : List UInt8} {k f i : Nat} {b : UInt8} (h : SpInv S k f i) (hb : S[i]? = some b) (h10 : ¬ b = 10) : SpInv S k f (i + 1) := by
  have hi := (List.getElem?_eq_some_iff.1 hb).1
  rcases h with ⟨h1, h2, prev, h3, h4⟩ | ⟨h1, _⟩
  · refine .inl ⟨by omega, by omega, prev, h3, ?_⟩
    rw [h4, drop_at hb, pcs_other _ h10, glue_glue _ _ _ (pcs_ne _), take_more h2 hb]
  · omega
theorem SpInv.hit {S : List UInt8} {k f i : Nat} (h : SpInv S k f i) (hi : i ≤ S.length) (h10 : ∀ b, S[i]? = some b → b = 10) : f ≤ i ∧ (pcs S)[k]? = some ((S.drop f).take (i - f)) ∧ SpInv S (k + 1) (i + 1) (i + 1) := by
  rcases h with ⟨h1, h2, prev, h3, h4⟩ | ⟨h1, _⟩
  · refine ⟨h2, ?_⟩
    by_cases hl : i < S.length
    · obtain ⟨b, hb⟩ : ∃ b, S[i]? = some b := ⟨_, List.getElem?_eq_getElem hl⟩
      have e := h10 b hb
      subst e
      rw [drop_at hb, pcs_end] at h4
      have h5 : pcs S = prev ++ ((S.drop f).take (i - f)) :: pcs (S.drop (i + 1)) := by simpa [glue] using h4
      refine ⟨by rw [h5, ← h3]; simp, .inl ⟨by omega, Nat.le_refl _, prev ++ [(S.drop f).take (i - f)], by simp [h3], ?_⟩⟩
      rw [h5, Nat.sub_self, List.take_zero, glue_nil _ (pcs_ne _)]
      simp
    · have e : i = S.length := by omega
      have h5 : pcs S = prev ++ [(S.drop f).take (i - f)] := by
        rw [h4, e, List.drop_length]; simp [glue, pcs]
      refine ⟨by rw [h5, ← h3]; simp, .inr ⟨by omega, ?_⟩⟩
      rw [h5]; simp [h3]
  · omega
theorem SpInv.last {S : List UInt8} {k f i : Nat} (h : SpInv S k f i) (hi : ¬ i ≤ S.length) : i = S.length + 1 ∧ k = (pcs S).length := by
  rcases h with ⟨h1, _⟩ | h
  · omega
  · exact h
theorem ba_eq {s t : ByteArray} (h : s.data.toList = t.data.toList) : s = t := by
  cases s with
  | mk a => cases t with
    | mk b => simp only [Array.toList_inj] at h; rw [h]
theorem cut_is (s : ByteArray) (f i : Nat) : s.extract f i = ⟨((s.data.toList.drop f).take (i - f)).toArray⟩ := ba_eq (by rw [Lib.extract_data])
theorem len_is (s : ByteArray) : s.data.toList.length = s.size := by rw [Array.length_toList]; rfl
theorem byte_at {s : ByteArray} {i : Nat} {b : UInt8} (h : s.data.toList[i]? = some b) (hi : i < s.size) : s[i] = b := by
  have h1 : s.data[i]? = some b := by simpa using h
  have h2 := (Array.getElem?_eq_some_iff.1 h1).2
  exact h2
theorem ten_of (b : UInt8) : ((b.toNat : Int) != 10) = !decide (b = 10) := by
  by_cases h : b = 10
  · subst h; rfl
  · have h2 : ¬ b.toNat = 10 := fun e => h (UInt8.toNat_inj.1 (by rw [e]; rfl))
    rw [decide_eq_false h]
    simp only [Bool.not_false, bne_iff_ne]
    omega

end Go.Proofs.YtdafkakigigdeaaGreatDoor
namespace Go.Proofs.YtdafkakigigdeaaGreatDoor
open Go.RowKit Go.Extern.Stop Go.Stop Go.Extern
set_option maxRecDepth 100000

theorem enc_ten : Lib.encodeRune 10 = [10] := by rfl
theorem enc_no (c : Int) (hr : rightC c = true) (h : ¬ c = 10) : ∀ b ∈ Lib.encodeRune c, ¬ b = 10 := by
  obtain ⟨h0, h1, h2⟩ := right_is hr
  obtain ⟨n, rfl⟩ := Int.eq_ofNat_of_zero_le h0
  have key : ∀ (z : Int), 0 ≤ z → z < 256 → ¬ z = 10 → ¬ z.toNat.toUInt8 = 10 := fun z a1 a2 a3 e => by
    have e1 := u8n z.toNat (by omega)
    rw [e] at e1
    have e2 : (10 : UInt8).toNat = 10 := rfl
    omega
  intro b hb
  unfold Lib.encodeRune at hb
  rw [List.mem_map] at hb
  obtain ⟨z, hz, rfl⟩ := hb
  by_cases k1 : n ≤ 127
  · rw [Lib.encodeRuneZ_one h0 (by omega)] at hz
    simp only [List.mem_singleton] at hz
    subst hz
    exact key _ (by omega) (by omega) h
  · by_cases k2 : n ≤ 2047
    · rw [Lib.encodeRuneZ_two (by omega) (by omega)] at hz
      simp only [List.mem_cons, List.not_mem_nil, or_false] at hz
      rcases hz with rfl | rfl <;> exact key _ (by omega) (by omega) (by omega)
    · by_cases k3 : n ≤ 65535
      · rw [Lib.encodeRuneZ_three (by omega)] at hz
        simp only [List.mem_cons, List.not_mem_nil, or_false] at hz
        rcases hz with rfl | rfl | rfl <;> exact key _ (by omega) (by omega) (by omega)
      · rw [Lib.encodeRuneZ_four (by omega) (by omega)] at hz
        simp only [List.mem_cons, List.not_mem_nil, or_false] at hz
        rcases hz with rfl | rfl | rfl | rfl <;> exact key _ (by omega) (by omega) (by omega)
theorem glue_app (a b : List UInt8) (x : List (List UInt8)) (h : x ≠ []) : glue a (glue b x) = glue (a ++ b) x := by
  cases x with
  | nil => exact absurd rfl h
  | cons y t => simp [glue]
theorem pcs_pre : ∀ (bs l : List UInt8), (∀ b ∈ bs, ¬ b = 10) → pcs (bs ++ l) = glue bs (pcs l)
  | [], l, _ => (glue_nil _ (pcs_ne l)).symm
  | b :: bs, l, h => by
    rw [List.cons_append, pcs_other _ (h b List.mem_cons_self), pcs_pre bs l (fun x hx => h x (List.mem_cons_of_mem _ hx)), glue_app _ _ _ (pcs_ne l)]
    rfl
theorem pcs_enc : ∀ (v : List Int), (∀ c ∈ v, rightC c = true) → pcs (encL v) = (spl v).map encL
  | [], _ => rfl
  | c :: v, h => by
    have ih := pcs_enc v (fun x hx => h x (List.mem_cons_of_mem _ hx))
    have e : encL (c :: v) = Lib.encodeRune c ++ encL v := by rw [← encL_one, ← encL_app]; rfl
    rw [e]
    by_cases hc : c = 10
    · subst hc
      rw [enc_ten, spl_end]
      show pcs (10 :: encL v) = _
      rw [pcs_end, ih]
      rfl
    · rw [pcs_pre _ _ (enc_no c (h c List.mem_cons_self) hc), ih, spl_other _ hc]
      cases hs : spl v with
      | nil => exact absurd hs (spl_ne v)
      | cons y t =>
        simp only [glueI, glue, List.map_cons]
        rw [encL_app, encL_one]
/-- Pieces put together, a byte 10 between. -/
def jnL : List (List UInt8) → List UInt8
  | [] => []
  | [x] => x
  | x :: y :: t => x ++ 10 :: jnL (y :: t)
theorem jnL_snoc : ∀ (l : List (List UInt8)) (x : List UInt8), l ≠ [] → jnL (l ++ [x]) = jnL l ++ 10 :: x
  | [], _, h => absurd rfl h
  | [a], x, _ => rfl
  | a :: b :: t, x, _ => by
    have ih := jnL_snoc (b :: t) x (by simp)
    show a ++ 10 :: jnL ((b :: t) ++ [x]) = (a ++ 10 :: jnL (b :: t)) ++ 10 :: x
    rw [ih]; simp
theorem jn_pcs : ∀ S : List UInt8, jnL (pcs S) = S
  | [] => rfl
  | b :: S => by
    have ih := jn_pcs S
    by_cases hb : b = 10
    · subst hb
      rw [pcs_end]
      cases hp : pcs S with
      | nil => exact absurd hp (pcs_ne S)
      | cons y t => rw [hp] at ih; show [] ++ 10 :: jnL (y :: t) = _; rw [ih]; rfl
    · rw [pcs_other _ hb]
      cases hp : pcs S with
      | nil => exact absurd hp (pcs_ne S)
      | cons y t =>
        rw [hp] at ih
        cases t with
        | nil => show [b] ++ y = _; rw [← ih]; rfl
        | cons z t => show ([b] ++ y) ++ 10 :: jnL (z :: t) = _; rw [← ih]; simp [jnL]
/-- What is put together behind k rounds. -/
def jk (l : List (List UInt8)) (k : Nat) : List UInt8 := jnL (l.take k)
theorem jk_first {l : List (List UInt8)} {x : List UInt8} (h : l[0]? = some x) : jk l 1 = x := by
  cases l with
  | nil => simp at h
  | cons y t => simp at h; subst h; rfl
theorem jk_next {l : List (List UInt8)} {k : Nat} {x : List UInt8} (h : l[k + 1]? = some x) : jk l (k + 2) = jk l (k + 1) ++ 10 :: x := by
  unfold jk
  rw [List.take_add_one, h]
  have hl := (List.getElem?_eq_some_iff.1 h).1
  exact jnL_snoc _ _ (fun e => by have := congrArg List.length e; rw [List.length_take, List.length_nil] at this; omega)
theorem jk_all (v : List Int) (h : ∀ c ∈ v, rightC c = true) : jk ((spl v).map encL) (spl v).length = encL v := by
  unfold jk
  rw [← pcs_enc v h, List.take_of_length_le (by rw [pcs_enc v h]; simp), jn_pcs]
end Go.Proofs.YtdafkakigigdeaaGreatDoor
namespace Go.Proofs.YtdafkakigigdeaaGreatDoor
open Go.RowKit Go.Extern.Stop Go.Stop Go.Extern
set_option maxRecDepth 100000

theorem enc_four (c : Int) : (Lib.encodeRune c).length ≤ 4 := by
  unfold Lib.encodeRune
  rw [List.length_map]
  unfold Lib.encodeRuneZ
  repeat' split
  all_goals simp
theorem enc_le : ∀ v : List Int, (encL v).length ≤ 4 * v.length
  | [] => by simp [encL]
  | c :: v => by
    have h1 := enc_le v
    have h2 := enc_four c
    rw [show encL (c :: v) = Lib.encodeRune c ++ encL v from by rw [← encL_one, ← encL_app]; rfl, List.length_append, List.length_cons]
    omega
theorem strEqB (a : ByteArray) (w : World) : (binOp .eql 9 (.string a) (.string a)).run Tryz.prog w = .ok (.bool true) w := by simp [binOp, Op.stringOp]
theorem strNeB (a : ByteArray) (w : World) : (binOp .neq 9 (.string a) (.string a)).run Tryz.prog w = .ok (.bool false) w := by simp [binOp, Op.stringOp]
theorem jk_zero {l : List (List UInt8)} {k : Nat} {x : List UInt8} (h : l[k]? = some x) (hk : k = 0) : jk l (k + 1) = jk l k ++ x := by
  subst hk
  rw [jk_first h]
  rfl
theorem jk_more {l : List (List UInt8)} {k : Nat} {x : List UInt8} (h : l[k]? = some x) (hk : 0 < k) : jk l (k + 1) = (jk l k ++ [10]) ++ x := by
  obtain ⟨j, rfl⟩ : ∃ j, k = j + 1 := ⟨k - 1, by omega⟩
  rw [jk_next h]
  simp
theorem addB (x y : List UInt8) (hx : x.length ≤ 1000000) (hy : y.length ≤ 1000000) (w : World) : (Op.stringOp .add ⟨x.toArray⟩ ⟨y.toArray⟩).run Tryz.prog w = .ok (.string ⟨(x ++ y).toArray⟩) w := run_string_add_lists w x y (by omega) (by omega)
set_option maxHeartbeats 4000000 in
theorem linesBack_of {ad : Nat → Addr} {W : World} {v0 v1 : Value} {cs : List Int} {hs : List Bool} (m : Int) (hmx : W.cell? ⟨5, 0, none⟩ = some (.int .i64 m)) (hmb : 5 < W.heap.size)
    (HV : ∀ (mb : Nat) (l : List El) (x : World), MvAt mb l x → l.length ≤ 1000 → (∀ e ∈ l, rightC e.ch = true) → Calls Tryz.prog 9 #[.pointer (some ⟨mb, 0, none⟩)] x fun r w' => r = .returned (.string ⟨(encL (vis l)).toArray⟩) ∧ Below x.heap.size x w')
    (L : Laid ad W) (h0 : SlR W v0 cs) (h1 : SlB W v1 hs) :
    Calls Tryz.prog 3 #[v0, v1] W fun r w' => r = .returned (.bool true) ∧ Below W.heap.size W w' := by
  have HBg := hid_of' (begun_ok h0 h1)
  obtain ⟨a0, c0, rfl⟩ := h0.form
  obtain ⟨a1, c1, rfl⟩ := h1.form
  have hall := bgE_all (cs := cs) (hs := hs) (bgN cs)
  have hN : bgN cs ≤ 150 := by unfold bgN; omega
  have hgd := bgE_good cs hs (bgN cs) (by omega)
  have hvr := vis_right (fun i e h => (hall.2 i e h).2.2.2.2.1)
  have hln : (bgE cs hs (bgN cs)).length ≤ 150 := by omega
  have hch := hgd.2.2
  have hrc : ∀ e ∈ bgE cs hs (bgN cs), rightC e.ch = true := fun e he => by
    obtain ⟨i, hi⟩ := List.getElem?_of_mem he
    exact (hall.2 i e hi).2.2.2.2.1
  clear hall hgd hN
  generalize bgE cs hs (bgN cs) = l at *
  have hvl := vis_le l
  have hvm : ∀ c ∈ vis l, rightC c = true := fun c hc => by obtain ⟨i, hi⟩ := List.getElem?_of_mem hc; exact hvr i c hi
  have HVV : Hid (∀ (mb : Nat) (x : World), MvAt mb l x → _) := fun mb x h => HV mb l x h (by omega) hrc
  have HW : Hid (∀ x : World, Laid ad x → _) := fun x L => wakes6_ok x L
  have LL := hid_of' L
  have MX : Hid (∀ x, Below W.heap.size W x → x.cell? ⟨5, 0, none⟩ = some (.int .i64 m)) := fun x hx => (hx.cell (p := ⟨5, 0, none⟩) hmb).trans hmx
  have HCt : Hid (∀ (x : World) (mb : Nat), MvAt mb l x → _) := fun x mb hm => count_any hm (by omega)
  have HTx : Hid (∀ (x : World) (mb k : Nat), Laid ad x → MvAt mb l x → k ≤ nlC (vis l) → _) := fun x mb k L hm hk => text_ok k hm L (by omega) hk hch
  clear L h0 h1 HV hmx
  unfold pv at HBg HCt HTx
  go_enter Tryz.func3, Tryz.ntmps3
  go_upto_region 2 with (go_at_call 5; refine HBg.out.mono ?_; rintro r w1 ⟨mb, vs, rfl, hM1, hR1, hb1⟩)
  obtain ⟨as_, cs_, hvs⟩ := hR1.form
  subst hvs
  clear hR1 HBg
  go_wp2
  go_loopw [7] (fun i wr => ∃ p : Nat, i = .int .i64 (p : Int) ∧ p ≤ (vis l).length + 1 ∧ Below w1.heap.size w1 wr) (fun i _ => 1000 - (intOf i).toNat)
  case atStart => exact ⟨0, rfl, Nat.zero_le _, Below.refl _ _⟩
  case round =>
    obtain ⟨p, rfl, hp, hBr⟩ := hrel
    have hB := bgo hb1 hBr
    have hM := hM1.later hBr
    by_cases hle : p ≤ (vis l).length
    · have HWh := hid_of' (where_ok p hM (by omega) hle)
      have HP : Hid (∀ (x : World) (j : Nat), Below wr.heap.size wr x → InL (vis l) j p → Calls Tryz.prog 7 #[pv mb, .int .i64 (j : Int), .int .i64 ((p - stC (vis l) j : Nat) : Int)] x fun e w' => e = .returned (.tuple #[.int .i64 (p : Int), .nilIface]) ∧ Below x.heap.size x w') := fun x j hx hj => by
        have := place_ok j ((p - stC (vis l) j : Nat) : Int) (hM.later hx) (by omega) hj.1
        have e1 := hj.2.1
        have e2 := hj.2.2
        rwa [show stC (vis l) j + cutC (enC (vis l) j - stC (vis l) j) ((p - stC (vis l) j : Nat) : Int) = p by unfold cutC; omega] at this
      unfold pv at HWh HP
      go_wp2_with (first | (go_at_call 6; with_reducible refine HWh.out.mono ?_; clear HWh; rintro r w6 ⟨j, rfl, hj, hb6⟩) | (go_at_call 7; with_reducible refine (HP.out _ j hb6 hj).mono ?_; rintro r w7 ⟨rfl, hb7⟩))
      go_roundw
      case rel => exact ⟨p + 1, by go_num, by omega, bgo hBr (bgo hb6 hb7)⟩
      case measure => simp [intOf]; omega
    · have hle2 : ¬ (p : Int) ≤ ((vis l).length : Int) := by omega
      have hlen := spl_len (vis l)
      have hnl := nlC_b (vis l)
      have hS := enc_le (vis l)
      have hq : ((spl (vis l)).length : Int) = (nlC (vis l) : Int) + 1 := by omega
      have HC : Hid (∀ (x : World), MvAt mb l x → Calls Tryz.prog 10 #[.pointer (some ⟨mb, 0, none⟩)] x fun r w' => r = .returned (.int .i64 ((spl (vis l)).length : Int)) ∧ Below x.heap.size x w') := fun x hm => by rw [hq]; exact HCt.out x mb hm
      have HSp : Hid (∀ x, Below W.heap.size W x → Calls Tryz.prog 8 #[.string ⟨(encL (vis l)).toArray⟩] x fun e w' => e = .returned (.slice (some ⟨x.heap.size, 0, none⟩) (spl (vis l)).length (spl (vis l)).length) ∧ RowAt x.heap.size (((spl (vis l)).map encL).map (fun x => Value.string ⟨x.toArray⟩)).toArray 9 w' ∧ Below x.heap.size x w') := fun x hx => by
        have := lsplit_any ⟨(encL (vis l)).toArray⟩ m x (by show (encL (vis l)).toArray.size ≤ 1000000; rw [List.size_toArray]; omega) (MX.out x hx)
        rw [show (ByteArray.mk (encL (vis l)).toArray).data.toList = encL (vis l) from List.toList_toArray, pcs_enc _ hvm, List.length_map] at this
        exact this
      have hNl : (spl (vis l)).length ≤ 151 := by omega
      have hHK := hid_of' (And.intro hlen (And.intro hnl hS))
      clear hlen hnl hq HCt hS hp
      go_upto_region 12 with (first | (go_at_call 9; with_reducible refine (HVV.out _ _ hM).mono ?_; rintro r w2 ⟨rfl, hb2⟩; have hB2 := bgo hB hb2) | (go_at_call 8; with_reducible refine (HSp.out _ hB2).mono ?_; rintro r w3 ⟨rfl, hR3, hb3⟩))
      have hB3 := bgo hB2 hb3
      have hM3 := hM.later (bgo hb2 hb3)
      clear hM1 hM hBr hB hb1 hB2 hle hle2 HSp
      go_upto_region 14 with (go_at_call 10; with_reducible refine (HC.out _ hM3).mono ?_; rintro r w4 ⟨rfl, hb4⟩)
      have hB4 := bgo hB3 hb4
      have hM4 := hM3.later hb4
      have hR4 := hR3.later hb4
      clear hB3 hM3 hR3 HC
      have hw24 : w2.heap.size < w4.heap.size := (Array.getElem?_eq_some_iff.1 hR4).1
      generalize w2.heap.size = gp at *
      go_wp2
      go_loopw [14, 15] (fun jv kv wr => ∃ (J : List UInt8) (k : Nat), jv = .string ⟨J.toArray⟩ ∧ kv = .int .i64 (k : Int) ∧ k ≤ (spl (vis l)).length ∧ J = jk ((spl (vis l)).map encL) k ∧ J.length ≤ 1000 * k ∧ Below w4.heap.size w4 wr) (fun _ kv _ => 152 - (intOf kv).toNat)
      case atStart => exact ⟨[], 0, rfl, rfl, Nat.zero_le _, rfl, Nat.le_refl _, Below.refl _ _⟩
      case round =>
        obtain ⟨J, k, rfl, rfl, hk, hJ, hJl, hBr⟩ := hrel
        have hB5 := bgo hB4 hBr
        have hM5 := hM4.later hBr
        have hR5 := hR4.later hBr
        by_cases hlt : k < (spl (vis l)).length
        · have r1 : (k : Int) < ((spl (vis l)).length : Int) := by omega
          have hkn : k ≤ nlC (vis l) := by have := hHK.out.1; omega
          have HT := hid_of' (HTx.out _ mb k (LL.out.below hB5) hM5 hkn)
          have htx := tx_at (vis l) k hkn
          have hls : ((spl (vis l)).map encL)[k]? = some (encL (txC (vis l) k)) := by rw [List.getElem?_map, htx]; rfl
          have hel := enc_le (txC (vis l) k)
          have htl := tx_len (vis l) k hkn
          have hse := st_en (vis l) k hkn
          have hE6 : (encL (txC (vis l) k)).length ≤ 600 := by omega
          have HCl : Hid (∀ x, Below wr.heap.size wr x → x.cell? ⟨gp, k, none⟩ = some (.string ⟨(encL (txC (vis l) k)).toArray⟩)) := fun x hx => by
            rw [(hR5.later hx).cell]
            simp [htx]
          have hHJ := hid_of' hJ
          have hHL := hid_of' hls
          clear hel htl hse htx hls hJ hkn
          generalize encL (txC (vis l) k) = E at *
          have hne := fun w => strNeB ⟨E.toArray⟩ w
          go_upto_region 19 with (go_at_call 11; with_reducible refine HT.out.mono ?_; rintro r w6 ⟨rfl, hb6⟩)
          have hcl := HCl.out _ hb6
          by_cases hk0 : k = 0
          · have g1 : ¬ 0 < k := by omega
            have ha := fun w => addB J E (by omega) (by omega) w
            have hJ2 := hid_of' (jk_zero hHL.out hk0)
            replace hk0 := hid_of' hk0
            go_wp2
            go_roundw
            case rel => exact ⟨J ++ E, k + 1, rfl, by go_num, by omega, by rw [hJ2.out, ← hHJ.out], by rw [List.length_append]; omega, bgo hBr hb6⟩
            case measure => simp [intOf]; omega
          · have g1 : 0 < k := by omega
            have ha := fun w => addB J [10] (by omega) (by simp) w
            have ha2 := fun w => addB (J ++ [10]) E (by rw [List.length_append]; simp; omega) (by omega) w
            have hJ2 := hid_of' (jk_more hHL.out g1)
            go_wp2
            go_roundw
            case rel => exact ⟨J ++ 10 :: E, k + 1, rfl, by go_num, by omega, by rw [hJ2.out, ← hHJ.out]; simp, by rw [List.length_append, List.length_cons]; omega, bgo hBr hb6⟩
            case measure => simp [intOf]; omega
        · obtain rfl : k = (spl (vis l)).length := by omega
          obtain rfl : J = encL (vis l) := by rw [hJ, jk_all _ hvm]
          have heq := fun w => strEqB ⟨(encL (vis l)).toArray⟩ w
          clear hJ hJl
          go_wp2_with (first | (go_at_call 9; with_reducible refine (HVV.out _ _ hM5).mono ?_; rintro r w6 ⟨rfl, hb6⟩; have hB6 := bgo hB5 hb6; have HW' := hid_of' (HW.out _ (LL.out.below hB6))) | (go_at_call 12; with_reducible refine HW'.out.mono ?_; rintro r w7 ⟨rfl, hb7⟩))
          go_ret
          exact ⟨rfl, bgo hB6 hb7⟩
end Go.Proofs.YtdafkakigigdeaaGreatDoor
