
/-
  Package flatten: a Desk; Done, Frozen, Rounds.
-/
import Derived.Test.YtfgcljpiidhfpaaDoorFl4
namespace Go.Proofs.YtfgcljpiidhfpaaDoor
open Go.RowKit
set_option maxRecDepth 100000

/-- A Desk in memory. -/
def DkAt (d : Nat) (n s : Int) (l : List Rnd) (w : World) : Prop := RowAt d (cv (dk n s l)) 75 w ∧ OkL l
theorem DkAt.later {d : Nat} {n s : Int} {l : List Rnd} {w w' : World} (h : DkAt d n s l w) (hb : Below w.heap.size w w') : DkAt d n s l w' := ⟨h.1.later hb, h.2⟩
theorem DkAt.below {d m : Nat} {n s : Int} {l : List Rnd} {w w' : World} (h : DkAt d n s l w) (hb : Below m w w') (hm : d < m) : DkAt d n s l w' := ⟨by
  have e : w'.heap[d]? = w.heap[d]? := hb.block _ hm
  exact e.trans h.1, h.2⟩
theorem DkAt.c0 {d : Nat} {n s : Int} {l : List Rnd} {w : World} (h : DkAt d n s l w) : w.cell? ⟨d, 0, none⟩ = some (.int .i64 n) := h.1.int (k := 0) (by rw [dk_len n s h.2]; decide)
theorem DkAt.c1 {d : Nat} {n s : Int} {l : List Rnd} {w : World} (h : DkAt d n s l w) : w.cell? ⟨d, 1, none⟩ = some (.int .i64 s) := h.1.int (k := 1) (by rw [dk_len n s h.2]; decide)
theorem DkAt.rounds {d : Nat} {n s : Int} {l : List Rnd} {w : World} (h : DkAt d n s l w) : CsIn d 2 (cv (rs l)) w := by
  have := h.1.subI 2 144 (by rw [dk_len n s h.2]; decide)
  rw [sub_dk n s h.2] at this
  exact this
theorem DkAt.rnd {d : Nat} {n s : Int} {l : List Rnd} {w : World} (h : DkAt d n s l w) {c : Nat} {r : Rnd} (hr : l[c]? = some r) : CsIn d (2 + c * 18) (cv (rc r)) w := by
  have hc : c < 8 := by have := (List.getElem?_eq_some_iff.1 hr).1; rw [h.2.1] at this; exact this
  have := h.1.subI (2 + c * 18) 18 (by rw [dk_len n s h.2]; omega)
  rw [sub_dkr n s h.2 hr] at this
  exact this
theorem DkAt.lt {d : Nat} {n s : Int} {l : List Rnd} {w : World} (h : DkAt d n s l w) : d < w.heap.size := h.1.lt
/-- Rounds in memory from an address on. -/
def RdsAt (g o : Nat) (l : List Rnd) (w : World) : Prop := g < w.heap.size ∧ (∀ r ∈ l, r.Ok) ∧ ∀ k r, l[k]? = some r → CsIn g (o + k * 18) (cv (rc r)) w
theorem RdsAt.later {g o : Nat} {l : List Rnd} {w w' : World} (h : RdsAt g o l w) (hb : Below w.heap.size w w') : RdsAt g o l w' := ⟨Nat.lt_of_lt_of_le h.1 hb.size, h.2.1, fun k r hr => (h.2.2 k r hr).later hb⟩
theorem DkAt.rds {d : Nat} {n s : Int} {l : List Rnd} {w : World} (h : DkAt d n s l w) : RdsAt d 2 l w := ⟨h.lt, h.2.2, fun _ _ hr => h.rnd hr⟩

/-- Was a round decided to commit? -/
def doneR (r : Rnd) : Bool := r.dec == 1
/-- Has s voted Yes in an open round? -/
def frozR (s : Nat) (r : Rnd) : Bool := openR r && en r.vot s == 1
theorem enters_Done (w : World) (args : Array Value) : (callFunc 64 args).run Tryd.prog w = .ok (.enter 64 args) w := by kernel_rfl
theorem enters_Froz (w : World) (args : Array Value) : (callFunc 55 args).run Tryd.prog w = .ok (.enter 55 args) w := by kernel_rfl
theorem fun1_Done (r : Rnd) (h : r.Ok) (w : World) :
    Calls Tryd.prog 64 #[.agg (cv (rc r))] w fun e w' => e = .returned (.bool (doneR r)) ∧ Below w.heap.size w w' := by
  have c1 := rcv_dec h
  go_enter Tryd.func64, Tryd.ntmps64
  go_wp2
  go_ret
  exact ⟨rfl, below_one _ _⟩
/-- A box that holds a pointer to a Desk. -/
def PdAt (b d : Nat) (s : Nat) (w : World) : Prop := s < 8 ∧ b < w.heap.size ∧ w.cell? ⟨b, 0, none⟩ = some (.pointer (some ⟨d, 0, none⟩)) ∧ d < w.heap.size ∧ w.cell? ⟨d, 1, none⟩ = some (.int .i64 (s : Int))
theorem PdAt.later {b d s : Nat} {w w' : World} (h : PdAt b d s w) (hb : Below w.heap.size w w') : PdAt b d s w' :=
  ⟨h.1, Nat.lt_of_lt_of_le h.2.1 hb.size, by rw [hb.cell (p := ⟨b, 0, none⟩) h.2.1]; exact h.2.2.1, Nat.lt_of_lt_of_le h.2.2.2.1 hb.size, by rw [hb.cell (p := ⟨d, 1, none⟩) h.2.2.2.1]; exact h.2.2.2.2⟩
set_option maxHeartbeats 1000000 in
theorem fun1_Froz (r : Rnd) (h : r.Ok) {b d s : Nat} {w : World} (hd : PdAt b d s w) :
    Calls Tryd.prog 55 #[.agg (cv (rc r)), .pointer (some ⟨b, 0, none⟩)] w fun e w' => e = .returned (.bool (frozR s r)) ∧ Below w.heap.size w w' := by
  have r1 := RowAt.news w (cv (rc r)) 44
  have hB := below_one w (.cells (cv (rc r)) 44)
  have hd1 := hd.later hB
  have hs : (s : Int) < 8 := by have := hd.1; omega
  have cv1 := rcv_vot h hd.1
  have HO := fun w => hid_of' (isOpen_any r h w)
  cases ho : openR r
  · have HV : Hid (frozR s r = false) := by unfold Hid frozR; rw [ho]; rfl
    rw [ho] at HO
    clear ho hd hd1
    go_enter Tryd.func55, Tryd.ntmps55
    go_upto_region 1 with fail
    refine wp_region_cls0 ?_
    repeat (first | go_big_quiet_skip | (go_big_quiet_want; first | (refine qRnd h _ rfl rfl r1.in.cls ?_; simp only [Act.put, List.setIfInBounds_toArray, List.set_cons_succ, List.set_cons_zero]; go_big_quiet_on) | (go_big_quiet_op; first | go_big_quiet_on | go_big_quiet_call ((go_at_call 56; exact cls_of (HO _).out)))))
    refine wpQuiet_nil ?_
    rintro w1 ⟨s1, e1⟩
    have hb1 := wOf_below s1
    rw [← e1] at hb1
    clear e1 s1
    replace r1 := r1.later hb1
    replace hB := bgo hB hb1
    clear hb1
    go_wp2
    go_ret
    exact ⟨by rw [HV.out]; rfl, hB⟩
  · have HV : Hid (frozR s r = (en r.vot s == 1)) := by unfold Hid frozR; rw [ho]; rfl
    rw [ho] at HO
    clear ho
    go_enter Tryd.func55, Tryd.ntmps55
    go_upto_region 1 with fail
    have q0 : ∀ z : Wld (w.alloc (.cells (cv (rc r)) 44)), (wOf z).cell? ⟨b, 0, none⟩ = some (.pointer (some ⟨d, 0, none⟩)) := fun z => (hd1.later (wOf_below z)).2.2.1
    have q1 : ∀ z : Wld (w.alloc (.cells (cv (rc r)) 44)), (wOf z).cell? ⟨d, 1, none⟩ = some (.int .i64 (s : Int)) := fun z => (hd1.later (wOf_below z)).2.2.2.2
    have q2 := r1.cls (9 + s) _ cv1
    refine wp_region_cls0 ?_
    repeat (first | go_big_quiet_skip | (go_big_quiet_want; first | (refine qRnd h _ rfl rfl r1.in.cls ?_; simp only [Act.put, List.setIfInBounds_toArray, List.set_cons_succ, List.set_cons_zero]; go_big_quiet_on) | (go_big_quiet_op; first | go_big_quiet_on | go_big_quiet_call ((go_at_call 56; exact cls_of (HO _).out)))))
    refine wpQuiet_nil ?_
    rintro w1 ⟨s1, e1⟩
    have hb1 := wOf_below s1
    rw [← e1] at hb1
    clear e1 s1
    replace r1 := r1.later hb1
    replace hB := bgo hB hb1
    clear hb1
    go_wp2
    go_ret
    exact ⟨by rw [HV.out]; rfl, hB⟩

set_option maxHeartbeats 1000000 in
theorem indexDone {g o c : Nat} {l : List Rnd} {w : World} (h : RdsAt g o l w) (hl : l.length ≤ 1000) :
    Calls Tryd.prog 69 #[.slice (some ⟨g, o, none⟩) l.length c, .func (.func 64) #[] #[]] w fun e w' => (∃ n : Int, e = .returned (.int .i64 n) ∧ decide (0 ≤ n) = l.any (fun r => doneR r)) ∧ Below w.heap.size w w' := by
  obtain ⟨N, hN⟩ : ∃ N, l.length = N := ⟨_, rfl⟩
  have eg := fun (args : Array Value) (w : World) => enters_Done w args
  have H := hid_of' (And.intro h hN)
  rw [hN] at hl ⊢
  clear h hN
  go_enter Tryd.func69, Tryd.ntmps69
  go_wp2
  go_loopw [8] (fun i wr => Below w.heap.size w wr ∧ ∃ k : Nat, i = .int .i64 (k : Int) ∧ k ≤ N ∧ ∀ j r, j < k → l[j]? = some r → (fun r => doneR r) r = false) (fun i _ => N - (intOf i).toNat)
  case atStart => exact ⟨Below.refl _ _, 0, rfl, by omega, fun j r hj => by omega⟩
  case round =>
    rename World => wr
    obtain ⟨hB, k, rfl, hk, hno⟩ := hrel
    have HNo := hid_of' hno
    clear hno
    by_cases hlt : k < N
    · have hki : (k : Int) < (N : Int) := by omega
      obtain ⟨r, hr⟩ : ∃ r, l[k]? = some r := ⟨_, List.getElem?_eq_getElem (by rw [H.out.2]; exact hlt)⟩
      have hok := H.out.1.2.1 r (List.mem_of_getElem? hr)
      have hin := (H.out.1.2.2 k r hr).later hB
      have HR := hid_of' hr
      have HC := hid_of' (fun1_Done r hok wr)
      clear hr
      obtain ⟨y, hy⟩ : ∃ y, (fun r => doneR r) r = y := ⟨_, rfl⟩
      rw [show doneR r = y from hy] at HC
      have HY := hid_of' hy
      clear hy
      cases y
      · go_wp2_with (first | (refine ldRnd hok rfl _ rfl rfl hin ?_) | (go_at_call 64; refine HC.out.mono ?_; rintro e w2 ⟨rfl, hb⟩; clear HC))
        go_roundw
        case rel => exact ⟨bgo hB hb, k + 1, by go_num, by omega, fun j r' hj hr' => by
          by_cases e : j = k
          · rw [e] at hr'; rw [HR.out] at hr'; cases hr'; exact HY.out
          · exact HNo.out j r' (by omega) hr'⟩
        case measure => simp [intOf]; omega
      · go_wp2_with (first | (refine ldRnd hok rfl _ rfl rfl hin ?_) | (go_at_call 64; refine HC.out.mono ?_; rintro e w2 ⟨rfl, hb⟩; clear HC))
        go_ret
        have hx : l.any (fun r => doneR r) = true := List.any_eq_true.2 ⟨r, List.mem_of_getElem? HR.out, HY.out⟩
        exact ⟨⟨k, rfl, by rw [hx]; simp⟩, bgo hB hb⟩
    · have hki : ¬ (k : Int) < (N : Int) := by omega
      go_wp2
      go_ret
      have hx : l.any (fun r => doneR r) = false := by
        rw [List.any_eq_false]
        intro a ha
        obtain ⟨j, hj⟩ := List.getElem?_of_mem ha
        have := (List.getElem?_eq_some_iff.1 hj).1
        rw [H.out.2] at this
        have q := HNo.out j a (by omega) hj
        intro q2
        rw [q2] at q
        cases q
      exact ⟨⟨-1, rfl, by rw [hx]; rfl⟩, hB⟩
theorem containsDone {g o c : Nat} {l : List Rnd} {w : World} (h : RdsAt g o l w) (hl : l.length ≤ 1000) :
    Calls Tryd.prog 54 #[.slice (some ⟨g, o, none⟩) l.length c, .func (.func 64) #[] #[]] w fun e w' => e = .returned (.bool (l.any (fun r => doneR r))) ∧ Below w.heap.size w w' := by
  have H := hid_of' (indexDone (c := c) h hl)
  clear h
  go_enter Tryd.func54, Tryd.ntmps54
  go_wp2_with (go_at_call 69; refine H.out.mono ?_; rintro e w1 ⟨⟨n, rfl, hn⟩, hw⟩; clear H; have HN := hid_of' hn; clear hn)
  go_ret
  exact ⟨by rw [← HN.out]; rfl, hw⟩

set_option maxHeartbeats 1000000 in
theorem indexFroz {g o c : Nat} {l : List Rnd} {w : World} {b d s : Nat} (hd : PdAt b d s w) (h : RdsAt g o l w) (hl : l.length ≤ 1000) :
    Calls Tryd.prog 69 #[.slice (some ⟨g, o, none⟩) l.length c, .func (.func 55) #[] #[.pointer (some ⟨b, 0, none⟩)]] w fun e w' => (∃ n : Int, e = .returned (.int .i64 n) ∧ decide (0 ≤ n) = l.any (fun r => frozR s r)) ∧ Below w.heap.size w w' := by
  obtain ⟨N, hN⟩ : ∃ N, l.length = N := ⟨_, rfl⟩
  have eg := fun (args : Array Value) (w : World) => enters_Froz w args
  have H := hid_of' (And.intro h hN)
  rw [hN] at hl ⊢
  clear h hN
  go_enter Tryd.func69, Tryd.ntmps69
  go_wp2
  go_loopw [8] (fun i wr => Below w.heap.size w wr ∧ ∃ k : Nat, i = .int .i64 (k : Int) ∧ k ≤ N ∧ ∀ j r, j < k → l[j]? = some r → (fun r => frozR s r) r = false) (fun i _ => N - (intOf i).toNat)
  case atStart => exact ⟨Below.refl _ _, 0, rfl, by omega, fun j r hj => by omega⟩
  case round =>
    rename World => wr
    obtain ⟨hB, k, rfl, hk, hno⟩ := hrel
    have HNo := hid_of' hno
    clear hno
    by_cases hlt : k < N
    · have hki : (k : Int) < (N : Int) := by omega
      obtain ⟨r, hr⟩ : ∃ r, l[k]? = some r := ⟨_, List.getElem?_eq_getElem (by rw [H.out.2]; exact hlt)⟩
      have hok := H.out.1.2.1 r (List.mem_of_getElem? hr)
      have hin := (H.out.1.2.2 k r hr).later hB
      have HR := hid_of' hr
      have HC := hid_of' (fun1_Froz r hok (hd.later hB))
      clear hr
      obtain ⟨y, hy⟩ : ∃ y, (fun r => frozR s r) r = y := ⟨_, rfl⟩
      rw [show frozR s r = y from hy] at HC
      have HY := hid_of' hy
      clear hy
      cases y
      · go_wp2_with (first | (refine ldRnd hok rfl _ rfl rfl hin ?_) | (go_at_call 55; refine HC.out.mono ?_; rintro e w2 ⟨rfl, hb⟩; clear HC))
        go_roundw
        case rel => exact ⟨bgo hB hb, k + 1, by go_num, by omega, fun j r' hj hr' => by
          by_cases e : j = k
          · rw [e] at hr'; rw [HR.out] at hr'; cases hr'; exact HY.out
          · exact HNo.out j r' (by omega) hr'⟩
        case measure => simp [intOf]; omega
      · go_wp2_with (first | (refine ldRnd hok rfl _ rfl rfl hin ?_) | (go_at_call 55; refine HC.out.mono ?_; rintro e w2 ⟨rfl, hb⟩; clear HC))
        go_ret
        have hx : l.any (fun r => frozR s r) = true := List.any_eq_true.2 ⟨r, List.mem_of_getElem? HR.out, HY.out⟩
        exact ⟨⟨k, rfl, by rw [hx]; simp⟩, bgo hB hb⟩
    · have hki : ¬ (k : Int) < (N : Int) := by omega
      go_wp2
      go_ret
      have hx : l.any (fun r => frozR s r) = false := by
        rw [List.any_eq_false]
        intro a ha
        obtain ⟨j, hj⟩ := List.getElem?_of_mem ha
        have := (List.getElem?_eq_some_iff.1 hj).1
        rw [H.out.2] at this
        have q := HNo.out j a (by omega) hj
        intro q2
        rw [q2] at q
        cases q
      exact ⟨⟨-1, rfl, by rw [hx]; rfl⟩, hB⟩
theorem containsFroz {g o c : Nat} {l : List Rnd} {w : World} {b d s : Nat} (hd : PdAt b d s w) (h : RdsAt g o l w) (hl : l.length ≤ 1000) :
    Calls Tryd.prog 54 #[.slice (some ⟨g, o, none⟩) l.length c, .func (.func 55) #[] #[.pointer (some ⟨b, 0, none⟩)]] w fun e w' => e = .returned (.bool (l.any (fun r => frozR s r))) ∧ Below w.heap.size w w' := by
  have H := hid_of' (indexFroz (c := c) hd h hl)
  clear h hd
  go_enter Tryd.func54, Tryd.ntmps54
  go_wp2_with (go_at_call 69; refine H.out.mono ?_; rintro e w1 ⟨⟨n, rfl, hn⟩, hw⟩; clear H; have HN := hid_of' hn; clear hn)
  go_ret
  exact ⟨by rw [← HN.out]; rfl, hw⟩

theorem done_any {d : Nat} {n s : Int} {l : List Rnd} {w : World} (h : DkAt d n s l w) :
    Calls Tryd.prog 36 #[.pointer (some ⟨d, 0, none⟩)] w fun e w' => e = .returned (.bool (l.any fun r => doneR r)) ∧ Below w.heap.size w w' := by
  have H := hid_of' (containsDone (c := 8) h.rds (by rw [h.2.1]; decide))
  rw [h.2.1] at H
  have c0 := h.1.int (k := 145) (by rw [dk_len n s h.2]; decide)
  clear h
  go_enter Tryd.func36, Tryd.ntmps36
  go_wp2_with (go_at_call 54; refine H.out.mono ?_; rintro e w1 ⟨rfl, hw⟩; clear H)
  go_ret
  exact ⟨rfl, hw⟩
theorem frozen_any {d : Nat} {n : Int} {s : Nat} {l : List Rnd} {w : World} (h : DkAt d n s l w) (hs : s < 8) :
    Calls Tryd.prog 26 #[.pointer (some ⟨d, 0, none⟩)] w fun e w' => e = .returned (.bool (l.any fun r => frozR s r)) ∧ Below w.heap.size w w' := by
  have hB := below_one w (.cells #[.pointer (some ⟨d, 0, none⟩)] 23)
  have r0 := RowAt.news w #[.pointer (some ⟨d, 0, none⟩)] 23
  have h1 := h.later hB
  have hp : PdAt w.heap.size d s (w.alloc (.cells #[.pointer (some ⟨d, 0, none⟩)] 23)) := ⟨hs, r0.lt, r0.cell 0, h1.lt, h1.c1⟩
  have H := hid_of' (containsFroz (c := 8) hp h1.rds (by rw [h.2.1]; decide))
  rw [h.2.1] at H
  have hmf : ∀ (fn : Fn) (first cap : Array Value) (w : World), (Instr.makeFunc fn first cap).run Tryd.prog w = .ok (.func fn first cap) w := fun _ _ _ _ => rfl
  clear h h1 hp r0
  go_enter Tryd.func26, Tryd.ntmps26
  go_wp2_with (go_at_call 54; refine H.out.mono ?_; rintro e w1 ⟨rfl, hw⟩; clear H)
  go_ret
  exact ⟨rfl, bgo hB hw⟩
end Go.Proofs.YtfgcljpiidhfpaaDoor
