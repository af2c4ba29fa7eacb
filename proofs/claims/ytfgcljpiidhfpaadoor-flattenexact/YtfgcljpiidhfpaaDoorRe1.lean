
/-
  The document's Desk: Done, Frozen, New.
-/
import Derived.Test.YtfgcljpiidhfpaaDoorFl10
namespace Go.Proofs.YtfgcljpiidhfpaaDoor
open Go.RowKit
set_option maxRecDepth 100000

/-- The document's Desk in memory. -/
def RkAt (d : Nat) (n s : Int) (l : List Rnd) (w : World) : Prop := RowAt d (cv (dk n s l)) 78 w ∧ OkL l
theorem RkAt.later {d : Nat} {n s : Int} {l : List Rnd} {w w' : World} (h : RkAt d n s l w) (hb : Below w.heap.size w w') : RkAt d n s l w' := ⟨h.1.later hb, h.2⟩
theorem RkAt.below {d m : Nat} {n s : Int} {l : List Rnd} {w w' : World} (h : RkAt d n s l w) (hb : Below m w w') (hm : d < m) : RkAt d n s l w' := ⟨by
  have e : w'.heap[d]? = w.heap[d]? := hb.block _ hm
  exact e.trans h.1, h.2⟩
theorem RkAt.c0 {d : Nat} {n s : Int} {l : List Rnd} {w : World} (h : RkAt d n s l w) : w.cell? ⟨d, 0, none⟩ = some (.int .i64 n) := h.1.int (k := 0) (by rw [dk_len n s h.2]; decide)
theorem RkAt.c1 {d : Nat} {n s : Int} {l : List Rnd} {w : World} (h : RkAt d n s l w) : w.cell? ⟨d, 1, none⟩ = some (.int .i64 s) := h.1.int (k := 1) (by rw [dk_len n s h.2]; decide)
theorem RkAt.rounds {d : Nat} {n s : Int} {l : List Rnd} {w : World} (h : RkAt d n s l w) : CsIn d 2 (cv (rs l)) w := by
  have := h.1.subI 2 144 (by rw [dk_len n s h.2]; decide)
  rw [sub_dk n s h.2] at this
  exact this
theorem RkAt.rnd {d : Nat} {n s : Int} {l : List Rnd} {w : World} (h : RkAt d n s l w) {c : Nat} {r : Rnd} (hr : l[c]? = some r) : CsIn d (2 + c * 18) (cv (rc r)) w := by
  have hc : c < 8 := by have := (List.getElem?_eq_some_iff.1 hr).1; rw [h.2.1] at this; exact this
  have := h.1.subI (2 + c * 18) 18 (by rw [dk_len n s h.2]; omega)
  rw [sub_dkr n s h.2 hr] at this
  exact this
theorem RkAt.lt {d : Nat} {n s : Int} {l : List Rnd} {w : World} (h : RkAt d n s l w) : d < w.heap.size := h.1.lt
theorem RkAt.ch {d : Nat} {n s : Int} {l : List Rnd} {S : Nat → Prop} {w w' : World} (h : RkAt d n s l w) (c : Ch S w w') (hn : ¬ S d) : RkAt d n s l w' := ⟨h.1.ch c hn, h.2⟩
theorem RkAt.cell {d : Nat} {n s : Int} {l : List Rnd} {w : World} (h : RkAt d n s l w) {c : Nat} {r : Rnd} (hr : l[c]? = some r) {k : Nat} (hk : k < 18) : w.cell? ⟨d, 2 + c * 18 + k, none⟩ = some (.int .i64 (en (rc r) k)) := by
  have hro := h.2.2 r (List.mem_of_getElem? hr)
  exact (h.rnd hr).2 k _ (cv_get (by rw [rc_len hro]; exact hk))
theorem any_take_succ {α : Type} {p : α → Bool} {l : List α} {k : Nat} {x : α} (h : l[k]? = some x) : (l.take (k + 1)).any p = ((l.take k).any p || p x) := by
  rw [List.take_add_one, h, List.any_append]; simp
set_option maxHeartbeats 1000000 in
theorem refDone_any {d : Nat} {n s : Int} {l : List Rnd} {w : World} (h : RkAt d n s l w) :
    Calls Tryd.prog 45 #[.pointer (some ⟨d, 0, none⟩)] w fun e w' => e = .returned (.bool (l.any fun r => doneR r)) ∧ Below w.heap.size w w' := by
  have H := hid_of' h
  clear h
  go_enter Tryd.func45, Tryd.ntmps45
  go_wp2
  go_loopw [3] (fun i wr => wr = w ∧ ∃ k : Nat, i = .int .i64 (k : Int) ∧ k ≤ 8 ∧ ((l.take k).any fun r => doneR r) = false) (fun i _ => 8 - (intOf i).toNat)
  case atStart => exact ⟨rfl, 0, rfl, by omega, rfl⟩
  case round =>
    obtain ⟨rfl, k, rfl, hk, hno⟩ := hrel
    have HNo := hid_of' hno
    clear hno
    by_cases hlt : k < 8
    · have hki : (k : Int) < 8 := by omega
      obtain ⟨r, hr, hro⟩ := H.out.2.at hlt
      have c1 := H.out.cell hr (k := 17) (by decide)
      rw [rc_dec hro] at c1
      by_cases hd : r.dec = 1
      · have hd' : (r.dec == 1) = true := by simpa using hd
        have HV : Hid ((l.any fun r => doneR r) = true) := List.any_eq_true.2 ⟨r, List.mem_of_getElem? hr, hd'⟩
        clear hd hr
        go_wp2
        go_ret
        exact ⟨by rw [HV.out]; rfl, Below.refl _ _⟩
      · have hd' : (r.dec == 1) = false := by simpa using hd
        have HV : Hid (((l.take (k + 1)).any fun r => doneR r) = false) := by unfold Hid; rw [any_take_succ hr, HNo.out]; exact hd'
        clear hd hr
        go_wp2
        go_roundw
        case rel => exact ⟨trivial, k + 1, by go_num, by omega, HV.out⟩
        case measure => simp [intOf]; omega
    · have hki : ¬ (k : Int) < 8 := by omega
      obtain rfl : k = 8 := by omega
      have HV : Hid ((l.any fun r => doneR r) = false) := by
        have := HNo.out
        rwa [List.take_of_length_le (by rw [H.out.2.1]; exact Nat.le_refl _)] at this
      go_wp2
      go_ret
      exact ⟨by rw [HV.out]; rfl, Below.refl _ _⟩
set_option maxHeartbeats 2000000 in
theorem refFrozen_any {d : Nat} {n : Int} {s : Nat} {l : List Rnd} {w : World} (h : RkAt d n s l w) (hs : s < 8) :
    Calls Tryd.prog 44 #[.pointer (some ⟨d, 0, none⟩)] w fun e w' => e = .returned (.bool (l.any fun r => frozR s r)) ∧ Below w.heap.size w w' := by
  have H := hid_of' h
  have ok := h.2
  have hsi : (s : Int) < 8 := by omega
  clear h
  go_enter Tryd.func44, Tryd.ntmps44
  go_wp2
  go_loopw [3] (fun i wr => Below w.heap.size w wr ∧ ∃ k : Nat, i = .int .i64 (k : Int) ∧ k ≤ 8 ∧ ((l.take k).any fun r => frozR s r) = false) (fun i _ => 8 - (intOf i).toNat)
  case atStart => exact ⟨Below.refl _ _, 0, rfl, by omega, rfl⟩
  case round =>
    rename World => wr
    obtain ⟨hB, k, rfl, hk, hno⟩ := hrel
    have HNo := hid_of' hno
    clear hno
    by_cases hlt : k < 8
    · have hki : (k : Int) < 8 := by omega
      obtain ⟨r, hr, hro⟩ := ok.at hlt
      have hd := H.out.later hB
      have hin := hd.rnd hr
      have q1 : ∀ z : Wld wr, (wOf z).cell? ⟨d, 1, none⟩ = some (.int .i64 (s : Int)) := fun z => (hd.later (wOf_below z)).c1
      have q2 : ∀ z : Wld wr, (wOf z).cell? ⟨d, 2 + k * 18 + 9 + s, none⟩ = some (.int .i64 (en r.vot s)) := fun z => by
        have := (hd.later (wOf_below z)).cell hr (k := 9 + s) (by omega)
        rw [rc_vot hro hs] at this
        rw [show 2 + k * 18 + 9 + s = 2 + k * 18 + (9 + s) by omega]
        exact this
      have HO := fun w => hid_of' (refOpen_any r hro w)
      have HT := hid_of' (fun (p : Rnd → Bool) => any_take_succ (p := p) hr)
      have HM := hid_of' (List.mem_of_getElem? hr)
      clear hr hd
      cases ho : openR r
      · rw [ho] at HO
        have hf : frozR s r = false := by unfold frozR; rw [ho]; rfl
        have HV : Hid (((l.take (k + 1)).any fun r => frozR s r) = false) := by unfold Hid; rw [HT.out, HNo.out, hf]; rfl
        clear ho hf
        go_upto_region 4 with fail
        refine wp_region_cls (by kernel_rfl) (by kernel_rfl) ?_
        repeat (first | go_big_quiet_skip | (go_big_quiet_want; first | (refine qRnd hro _ rfl rfl hin.cls ?_; simp only [Act.put, List.setIfInBounds_toArray, List.set_cons_succ, List.set_cons_zero]; go_big_quiet_on) | (go_big_quiet_op; first | go_big_quiet_on | go_big_quiet_call ((go_at_call 65; exact cls_of (HO _).out)))))
        refine wpQuiet_nil ?_
        rintro w1 ⟨s1, e1⟩
        have hb1 := wOf_below s1
        rw [← e1] at hb1
        clear e1 s1
        replace hin := hin.later hb1
        replace hB := bgo hB hb1
        clear hb1
        clear q1 q2
        go_wp2
        go_roundw
        case rel => exact ⟨hB, k + 1, by go_num, by omega, HV.out⟩
        case measure => simp [intOf]; omega
      · rw [ho] at HO
        by_cases hv : en r.vot s = 1
        · have hv' : (en r.vot s == 1) = true := by simpa using hv
          have HV : Hid ((l.any fun r => frozR s r) = true) := List.any_eq_true.2 ⟨r, HM.out, by unfold frozR; rw [ho, hv']; rfl⟩
          clear ho hv
          go_upto_region 4 with fail
          refine wp_region_cls (by kernel_rfl) (by kernel_rfl) ?_
          repeat (first | go_big_quiet_skip | (go_big_quiet_want; first | (refine qRnd hro _ rfl rfl hin.cls ?_; simp only [Act.put, List.setIfInBounds_toArray, List.set_cons_succ, List.set_cons_zero]; go_big_quiet_on) | (go_big_quiet_op; first | go_big_quiet_on | go_big_quiet_call ((go_at_call 65; exact cls_of (HO _).out)))))
          refine wpQuiet_nil ?_
          rintro w1 ⟨s1, e1⟩
          have hb1 := wOf_below s1
          rw [← e1] at hb1
          clear e1 s1
          replace hin := hin.later hb1
          replace hB := bgo hB hb1
          clear hb1
          clear q1 q2
          go_wp2
          go_ret
          exact ⟨by rw [HV.out]; rfl, hB⟩
        · have hv' : (en r.vot s == 1) = false := by simpa using hv
          have HV : Hid (((l.take (k + 1)).any fun r => frozR s r) = false) := by
            have hf : frozR s r = false := by unfold frozR; rw [ho, hv']; rfl
            unfold Hid; rw [HT.out, HNo.out, hf]; rfl
          clear ho hv
          go_upto_region 4 with fail
          refine wp_region_cls (by kernel_rfl) (by kernel_rfl) ?_
          repeat (first | go_big_quiet_skip | (go_big_quiet_want; first | (refine qRnd hro _ rfl rfl hin.cls ?_; simp only [Act.put, List.setIfInBounds_toArray, List.set_cons_succ, List.set_cons_zero]; go_big_quiet_on) | (go_big_quiet_op; first | go_big_quiet_on | go_big_quiet_call ((go_at_call 65; exact cls_of (HO _).out)))))
          refine wpQuiet_nil ?_
          rintro w1 ⟨s1, e1⟩
          have hb1 := wOf_below s1
          rw [← e1] at hb1
          clear e1 s1
          replace hin := hin.later hb1
          replace hB := bgo hB hb1
          clear hb1
          clear q1 q2
          go_wp2
          go_roundw
          case rel => exact ⟨hB, k + 1, by go_num, by omega, HV.out⟩
          case measure => simp [intOf]; omega
    · have hki : ¬ (k : Int) < 8 := by omega
      obtain rfl : k = 8 := by omega
      have HV : Hid ((l.any fun r => frozR s r) = false) := by
        have := HNo.out
        rwa [List.take_of_length_le (by rw [ok.1]; exact Nat.le_refl _)] at this
      go_wp2
      go_ret
      exact ⟨by rw [HV.out]; rfl, hB⟩
end Go.Proofs.YtfgcljpiidhfpaaDoor
