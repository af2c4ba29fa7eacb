/-
  Package lines: Count, ends, textOf, the refusals, Start, Length, Text.
-/
import Derived.Test.YtdmiibihibikdaaGreatDoorMd4
namespace Go.Proofs.YtdmiibihibikdaaGreatDoor
open Go.RowKit Go.Extern.Stop Go.Stop Go.Extern
set_option maxRecDepth 100000

/-- Where a line begins, and where it ends. -/
def stC (v : List Int) (j : Nat) : Nat := match j with
  | 0 => 0
  | k + 1 => endC v k + 1
def enC (v : List Int) (j : Nat) : Nat := if j = nlC v then v.length else endC v j
theorem endC_up : ∀ (v : List Int) (k : Nat), k + 1 < nlC v → endC v k < endC v (k + 1)
  | [], k, h => by simp [nlC] at h
  | c :: v, k, h => by
    rw [nlC_cons] at h
    by_cases hc : c = 10
    · subst hc
      rw [endC_succ]
      cases k with
      | zero => rw [endC_zero]; omega
      | succ k => rw [endC_succ]; have := endC_up v k (by simp at h; omega); omega
    · rw [endC_other _ _ hc, endC_other _ _ hc]
      have := endC_up v k (by rw [if_neg hc] at h; omega)
      omega
theorem st_en (v : List Int) (j : Nat) (h : j ≤ nlC v) : stC v j ≤ enC v j ∧ enC v j ≤ v.length := by
  unfold enC
  by_cases e : j = nlC v
  · rw [if_pos e]
    cases j with
    | zero => exact ⟨Nat.zero_le _, Nat.le_refl _⟩
    | succ k => have := endC_lt v k (by omega); exact ⟨this, Nat.le_refl _⟩
  · rw [if_neg e]
    have h1 := endC_lt v j (by omega)
    cases j with
    | zero => exact ⟨Nat.zero_le _, by omega⟩
    | succ k => have := endC_up v k (by omega); exact ⟨this, by omega⟩
theorem vis_le (l : List El) : (vis l).length ≤ l.length := by have := liveL_vis l; have := liveL_b l; omega

theorem lineEnd_c {mb : Nat} {l : List El} {w : World} (h : MvAt mb l w) (k : Nat) (hn : l.length ≤ 1000000) (hk1 : k < nlC (vis l)) :
    Calls Tryz.prog 56 #[pv mb, .int .i64 (k : Int)] w fun r w' => r = .returned (.tuple #[.int .i64 (endC (vis l) k : Int), .nilIface]) ∧ Below w.heap.size w w' := by
  have h1 : (k : Int) < lineL l := by rw [lineL_vis]; omega
  have := lineEnd_ok h k (by omega) (by omega) h1
  rw [line_end l k h1] at this
  exact this
theorem lines_c {mb : Nat} {l : List El} {w : World} (h : MvAt mb l w) :
    Calls Tryz.prog 26 #[pv mb] w fun r w' => r = .returned (.int .i64 (nlC (vis l) : Int)) ∧ Below w.heap.size w w' := by
  have := lines_any h
  rw [lineL_vis] at this
  exact this
theorem live_c {mb : Nat} {l : List El} {w : World} (h : MvAt mb l w) :
    Calls Tryz.prog 57 #[pv mb] w fun r w' => r = .returned (.int .i64 ((vis l).length : Int)) ∧ Below w.heap.size w w' := by
  have := live_md h
  rw [liveL_vis] at this
  exact this
set_option maxHeartbeats 400000 in
theorem count_nil (w : World) : Calls Tryz.prog 10 #[.pointer none] w fun r w' => r = .returned (.int .i64 0) ∧ w' = w := by
  go_enter Tryz.func10, Tryz.ntmps10
  go_wp2
  go_ret
  exact ⟨rfl, rfl⟩
set_option maxHeartbeats 400000 in
theorem count_any {mb : Nat} {l : List El} {w : World} (h : MvAt mb l w) (hn : l.length ≤ 1000000) :
    Calls Tryz.prog 10 #[pv mb] w fun r w' => r = .returned (.int .i64 ((nlC (vis l) : Int) + 1)) ∧ Below w.heap.size w w' := by
  have HL := hid_of' (lines_c h)
  have h1 := nlC_b (vis l)
  have h2 := vis_le l
  have hK : wrap64 ((nlC (vis l) : Int) + 1) = (nlC (vis l) : Int) + 1 := wrapIs (by omega) (by omega)
  unfold pv at *
  clear h h1 h2 hn
  go_enter Tryz.func10, Tryz.ntmps10
  go_wp2_with (go_at_call 26; refine HL.out.mono ?_; rintro r w1 ⟨rfl, hb1⟩)
  go_ret
  exact ⟨congrArg (fun x => Ending.returned (Value.int .i64 x)) hK, hb1⟩
set_option maxHeartbeats 1000000 in
theorem ends_any {mb : Nat} {l : List El} {w : World} (h : MvAt mb l w) (j : Nat) (hn : l.length ≤ 1000000) (hj : j ≤ nlC (vis l)) :
    Calls Tryz.prog 32 #[pv mb, .int .i64 (j : Int)] w fun r w' => r = .returned (.tuple #[.int .i64 (stC (vis l) j : Int), .int .i64 (enC (vis l) j : Int)]) ∧ Below w.heap.size w w' := by
  have HL : Hid (∀ x, Below w.heap.size w x → _) := fun x hx => lines_c (h.later hx)
  have HV : Hid (∀ x, Below w.heap.size w x → _) := fun x hx => live_c (h.later hx)
  have HE : Hid (∀ x, Below w.heap.size w x → ∀ k : Nat, k < nlC (vis l) → _) := fun x hx k hk => lineEnd_c (h.later hx) k hn hk
  have h1 := nlC_b (vis l)
  have h2 := vis_le l
  have hR := Below.refl w.heap.size w
  unfold pv at *
  cases j with
  | zero =>
    by_cases e : 0 = nlC (vis l)
    · rw [show enC (vis l) 0 = (vis l).length by unfold enC; rw [if_pos e]]
      have e' : ((0 : Int) == (nlC (vis l) : Int)) = true := by rw [beq_iff_eq]; omega
      clear h h1 h2 hn hj e
      go_enter Tryz.func32, Tryz.ntmps32
      go_wp2_with (first | (go_at_call 26; refine (HL.out _ hR).mono ?_; rintro r w1 ⟨rfl, hb1⟩) | (go_at_call 57; refine (HV.out _ hb1).mono ?_; rintro r w2 ⟨rfl, hb2⟩))
      go_ret2
      exact ⟨rfl, bgo hb1 hb2⟩
    · rw [show enC (vis l) 0 = endC (vis l) 0 by unfold enC; rw [if_neg e]]
      have e' : ((0 : Int) == (nlC (vis l) : Int)) = false := by rw [beq_eq_false_iff_ne]; omega
      have HE0 : Hid (∀ x, Below w.heap.size w x → _) := fun x hx => HE.out x hx 0 (by omega)
      clear h h1 h2 hn hj e
      go_enter Tryz.func32, Tryz.ntmps32
      go_wp2_with (first | (go_at_call 26; refine (HL.out _ hR).mono ?_; rintro r w1 ⟨rfl, hb1⟩) | (go_at_call 56; refine (HE0.out _ hb1).mono ?_; rintro r w2 ⟨rfl, hb2⟩))
      go_ret2
      exact ⟨rfl, bgo hb1 hb2⟩
  | succ k =>
    obtain ⟨J, hJ⟩ : ∃ J : Int, J = ((k + 1 : Nat) : Int) := ⟨_, rfl⟩
    rw [← hJ]
    have hkp : 0 < J := by omega
    have hKm : wrap64 (J - 1) = (k : Int) := by rw [wrapIs (by omega) (by omega)]; omega
    have hlt := endC_lt (vis l) k (by omega)
    have hKs : wrap64 ((endC (vis l) k : Int) + 1) = ((stC (vis l) (k + 1) : Nat) : Int) := by rw [wrapIs (by omega) (by omega)]; rfl
    have HEk : Hid (∀ x, Below w.heap.size w x → _) := fun x hx => HE.out x hx k (by omega)
    by_cases e : k + 1 = nlC (vis l)
    · rw [show enC (vis l) (k + 1) = (vis l).length by unfold enC; rw [if_pos e]]
      have e' : (J == (nlC (vis l) : Int)) = true := by rw [beq_iff_eq]; omega
      clear h h1 h2 hn hj e hlt hJ
      go_enter Tryz.func32, Tryz.ntmps32
      go_wp2_with (first | (go_at_call 56; refine (HEk.out _ hR).mono ?_; rintro r w1 ⟨rfl, hb1⟩) | (go_at_call 26; refine (HL.out _ hb1).mono ?_; rintro r w2 ⟨rfl, hb2⟩; have hB2 := bgo hb1 hb2) | (go_at_call 57; refine (HV.out _ hB2).mono ?_; rintro r w3 ⟨rfl, hb3⟩))
      go_ret2
      exact ⟨rfl, bgo hB2 hb3⟩
    · rw [show enC (vis l) (k + 1) = endC (vis l) (k + 1) by unfold enC; rw [if_neg e]]
      have e' : (J == (nlC (vis l) : Int)) = false := by rw [beq_eq_false_iff_ne]; omega
      have HEj : Hid (∀ x, Below w.heap.size w x → _) := fun x hx => HE.out x hx (k + 1) (by omega)
      rw [← hJ] at HEj
      clear h h1 h2 hn hj e hlt hJ
      go_enter Tryz.func32, Tryz.ntmps32
      go_upto_region 4 with (go_at_call 56; refine (HEk.out _ hR).mono ?_; rintro r w1 ⟨rfl, hb1⟩)
      go_wp2_with (first | (go_at_call 26; refine (HL.out _ hb1).mono ?_; rintro r w2 ⟨rfl, hb2⟩; have hB2 := bgo hb1 hb2) | (go_at_call 56; refine (HEj.out _ hB2).mono ?_; rintro r w3 ⟨rfl, hb3⟩))
      go_ret2
      exact ⟨rfl, bgo hB2 hb3⟩
set_option maxHeartbeats 1000000 in
theorem textOf_any {ad : Nat → Addr} {mb : Nat} {l : List El} {w : World} (h : MvAt mb l w) (L : Laid ad w) (j : Nat) (hn : l.length ≤ 1000000) (hj : j ≤ nlC (vis l)) (hc : Ch32 l) :
    Calls Tryz.prog 45 #[pv mb, .int .i64 (j : Int)] w fun r w' => r = .returned (.string ⟨(encL (((vis l).drop (stC (vis l) j)).take (enC (vis l) j - stC (vis l) j))).toArray⟩) ∧ Below w.heap.size w w' := by
  obtain ⟨a1, a2⟩ := st_en (vis l) j hj
  have h2 := vis_le l
  have HE := hid_of' (ends_any h j hn hj)
  have HS : Hid (∀ x, Below w.heap.size w x → _) := fun x hx => slice_ok (h.later hx) (L.below hx) (stC (vis l) j) (enC (vis l) j - stC (vis l) j) hn (by rw [liveL_vis]; omega) hc
  have hK : wrap64 ((enC (vis l) j : Int) - (stC (vis l) j : Int)) = ((enC (vis l) j - stC (vis l) j : Nat) : Int) := by rw [wrapIs (by omega) (by omega)]; omega
  unfold pv at *
  clear h L a1 a2 h2
  go_enter Tryz.func45, Tryz.ntmps45
  go_wp2_with (first | (go_at_call 32; refine HE.out.mono ?_; rintro r w1 ⟨rfl, hb1⟩) | (go_at_call 69; refine (HS.out _ hb1).mono ?_; rintro r w2 ⟨rfl, hb2⟩))
  go_ret
  exact ⟨rfl, bgo hb1 hb2⟩

def bLines : ByteArray := ⟨#[108, 105, 110, 101, 115]⟩
/-- An error that a call of package lines answers: the fault of a reason. -/
def FltV (ad : Nat → Addr) (ca : ByteArray) (at_ : Int) (k : Nat) (v : Value) (w : World) : Prop := ∃ g, v = .iface 107 (.pointer (some ⟨g, 0, none⟩)) ∧ FaultAt ad g bLines ca (place at_) k w
theorem FltV.later {ad : Nat → Addr} {ca : ByteArray} {at_ : Int} {k : Nat} {v : Value} {w w' : World} (h : FltV ad ca at_ k v w) (hb : Below w.heap.size w w') : FltV ad ca at_ k v w' := by
  obtain ⟨g, h1, h2⟩ := h
  exact ⟨g, h1, RowAt.later h2 hb⟩
set_option maxHeartbeats 400000 in
theorem lineRef_nil {ad : Nat → Addr} (ca : ByteArray) (line : Int) {w : World} (L : Laid ad w) :
    Calls Tryz.prog 31 #[.string ca, .pointer none, .int .i64 line] w fun e w' => ∃ g, e = .returned (.iface 107 (.pointer (some ⟨g, 0, none⟩))) ∧ FaultAt ad g bLines ca (-1) 0 w' ∧ Below w.heap.size w w' := by
  have LV : w.cell? ⟨0, 0, none⟩ = some (.iface 235 (.pointer (some (ad 0)))) := L.var 0 (by decide)
  have HF := hid_of' (newT (ad := ad) bLines ca (-1) 0 w)
  clear L
  go_enter Tryz.func31, Tryz.ntmps31
  go_wp2_with (go_at_call 55; refine HF.out.mono ?_; rintro r w1 ⟨rfl, hf, hb1⟩)
  go_ret
  exact ⟨_, rfl, hf, hb1⟩
set_option maxHeartbeats 400000 in
theorem gapRef_nil {ad : Nat → Addr} (ca : ByteArray) (line : Int) {w : World} (L : Laid ad w) :
    Calls Tryz.prog 38 #[.string ca, .pointer none, .int .i64 line] w fun e w' => ∃ g, e = .returned (.iface 107 (.pointer (some ⟨g, 0, none⟩))) ∧ FaultAt ad g bLines ca (-1) 0 w' ∧ Below w.heap.size w w' := by
  have LV : w.cell? ⟨0, 0, none⟩ = some (.iface 235 (.pointer (some (ad 0)))) := L.var 0 (by decide)
  have HF := hid_of' (newT (ad := ad) bLines ca (-1) 0 w)
  clear L
  go_enter Tryz.func38, Tryz.ntmps38
  go_wp2_with (go_at_call 55; refine HF.out.mono ?_; rintro r w1 ⟨rfl, hf, hb1⟩)
  go_ret
  exact ⟨_, rfl, hf, hb1⟩
set_option maxHeartbeats 400000 in
theorem lineRef_out {ad : Nat → Addr} {mb : Nat} {l : List El} (ca : ByteArray) (line : Int) {w : World} (h : MvAt mb l w) (L : Laid ad w) (ho : line < 0 ∨ (nlC (vis l) : Int) < line) :
    Calls Tryz.prog 31 #[.string ca, pv mb, .int .i64 line] w fun e w' => ∃ g, e = .returned (.iface 107 (.pointer (some ⟨g, 0, none⟩))) ∧ FaultAt ad g bLines ca (place line) 1 w' ∧ Below w.heap.size w w' := by
  have LV : ∀ x, Below w.heap.size w x → x.cell? ⟨1, 0, none⟩ = some (.iface 235 (.pointer (some (ad 1)))) := fun x hx => (L.below hx).var 1 (by decide)
  have HL := hid_of' (lines_c h)
  have HF : Hid (∀ x, _) := fun x => newT (ad := ad) bLines ca line 1 x
  have LV0 := LV w (Below.refl _ _)
  unfold pv at *
  clear h L
  by_cases h0 : line < 0
  · go_enter Tryz.func31, Tryz.ntmps31
    go_wp2_with (go_at_call 55; refine (HF.out _).mono ?_; rintro r w1 ⟨rfl, hf, hb1⟩)
    go_ret
    exact ⟨_, rfl, hf, hb1⟩
  · have h1 : (nlC (vis l) : Int) < line := by omega
    clear ho
    go_enter Tryz.func31, Tryz.ntmps31
    go_wp2_with (first | (go_at_call 26; refine HL.out.mono ?_; rintro r w2 ⟨rfl, hb2⟩; have LV1 := LV _ hb2) | (go_at_call 55; refine (HF.out _).mono ?_; rintro r w1 ⟨rfl, hf, hb1⟩))
    go_ret
    exact ⟨_, rfl, hf, bgo hb2 hb1⟩
set_option maxHeartbeats 400000 in
theorem lineRef_ok {mb : Nat} {l : List El} (ca : ByteArray) (j : Nat) {w : World} (h : MvAt mb l w) (hj : j ≤ nlC (vis l)) :
    Calls Tryz.prog 31 #[.string ca, pv mb, .int .i64 (j : Int)] w fun e w' => e = .returned .nilIface ∧ Below w.heap.size w w' := by
  have HL := hid_of' (lines_c h)
  have h0 : ¬ (j : Int) < 0 := by omega
  have h1 : ¬ (nlC (vis l) : Int) < (j : Int) := by omega
  unfold pv at *
  clear h
  go_enter Tryz.func31, Tryz.ntmps31
  go_wp2_with (go_at_call 26; refine HL.out.mono ?_; rintro r w2 ⟨rfl, hb2⟩)
  go_ret
  exact ⟨rfl, hb2⟩
set_option maxHeartbeats 400000 in
theorem gapRef_out {ad : Nat → Addr} {mb : Nat} {l : List El} (ca : ByteArray) (line : Int) {w : World} (h : MvAt mb l w) (L : Laid ad w) (ho : line < 0 ∨ ((vis l).length : Int) < line) :
    Calls Tryz.prog 38 #[.string ca, pv mb, .int .i64 line] w fun e w' => ∃ g, e = .returned (.iface 107 (.pointer (some ⟨g, 0, none⟩))) ∧ FaultAt ad g bLines ca (place line) 1 w' ∧ Below w.heap.size w w' := by
  have LV : ∀ x, Below w.heap.size w x → x.cell? ⟨1, 0, none⟩ = some (.iface 235 (.pointer (some (ad 1)))) := fun x hx => (L.below hx).var 1 (by decide)
  have HL := hid_of' (live_c h)
  have HF : Hid (∀ x, _) := fun x => newT (ad := ad) bLines ca line 1 x
  have LV0 := LV w (Below.refl _ _)
  unfold pv at *
  clear h L
  by_cases h0 : line < 0
  · go_enter Tryz.func38, Tryz.ntmps38
    go_wp2_with (go_at_call 55; refine (HF.out _).mono ?_; rintro r w1 ⟨rfl, hf, hb1⟩)
    go_ret
    exact ⟨_, rfl, hf, hb1⟩
  · have h1 : ((vis l).length : Int) < line := by omega
    clear ho
    go_enter Tryz.func38, Tryz.ntmps38
    go_wp2_with (first | (go_at_call 57; refine HL.out.mono ?_; rintro r w2 ⟨rfl, hb2⟩; have LV1 := LV _ hb2) | (go_at_call 55; refine (HF.out _).mono ?_; rintro r w1 ⟨rfl, hf, hb1⟩))
    go_ret
    exact ⟨_, rfl, hf, bgo hb2 hb1⟩
set_option maxHeartbeats 400000 in
theorem gapRef_ok {mb : Nat} {l : List El} (ca : ByteArray) (j : Nat) {w : World} (h : MvAt mb l w) (hj : j ≤ (vis l).length) :
    Calls Tryz.prog 38 #[.string ca, pv mb, .int .i64 (j : Int)] w fun e w' => e = .returned .nilIface ∧ Below w.heap.size w w' := by
  have HL := hid_of' (live_c h)
  have h0 : ¬ (j : Int) < 0 := by omega
  have h1 : ¬ ((vis l).length : Int) < (j : Int) := by omega
  unfold pv at *
  clear h
  go_enter Tryz.func38, Tryz.ntmps38
  go_wp2_with (go_at_call 57; refine HL.out.mono ?_; rintro r w2 ⟨rfl, hb2⟩)
  go_ret
  exact ⟨rfl, hb2⟩
end Go.Proofs.YtdmiibihibikdaaGreatDoor
