
/-
  Package flatten: Verdict, and the document's.
-/
import Derived.Test.YtfgcljpiidhfpaaDoorFl2
namespace Go.Proofs.YtfgcljpiidhfpaaDoor
open Go.RowKit
set_option maxRecDepth 100000

theorem any_range (p : Int → Bool) {x : List Int} {n : Nat} (h : n ≤ x.length) : (List.range n).any (fun i => p (en x i)) = (x.take n).any p := by
  rw [Bool.eq_iff_iff, List.any_eq_true, List.any_eq_true]
  constructor
  · rintro ⟨i, hi, hp⟩
    have hi' := List.mem_range.1 hi
    exact ⟨en x i, List.mem_of_getElem? (i := i) (by rw [List.getElem?_take, if_pos hi', en_at (by omega)]), hp⟩
  · rintro ⟨a, ha, hp⟩
    obtain ⟨i, hi⟩ := List.getElem?_of_mem ha
    rw [List.getElem?_take] at hi
    split at hi
    · exact ⟨i, List.mem_range.2 (by assumption), by rw [en_of hi]; exact hp⟩
    · cases hi
theorem all_range (p : Int → Bool) {x : List Int} {n : Nat} (h : n ≤ x.length) : (List.range n).all (fun i => p (en x i)) = !(x.take n).any (fun a => !p a) := by
  rw [← any_range (fun a => !p a) h, List.not_any_eq_all_not]
  simp
theorem contains_any {g o c : Nat} {x : List Int} (v : Int) {w : World} (h : IsAt g o x w) (hl : x.length ≤ 1000) :
    Calls Tryd.prog 50 #[.slice (some ⟨g, o, none⟩) x.length c, .int .i64 v] w fun e w' => e = .returned (.bool (x.any (fun a => v == a))) ∧ w' = w := by
  have H := hid_of' (index_any (c := c) v h hl)
  clear h
  go_enter Tryd.func50, Tryd.ntmps50
  go_wp2_with (go_at_call 67; refine H.out.mono ?_; rintro e w1 ⟨⟨n, rfl, hn⟩, hw⟩; obtain rfl := hw.symm; clear H; have HN := hid_of' hn; clear hn hw)
  go_ret
  exact ⟨by rw [← HN.out]; rfl, rfl⟩
theorem enters_v1 (w : World) (args : Array Value) : (callFunc 52 args).run Tryd.prog w = .ok (.enter 52 args) w := by kernel_rfl
theorem verdict1_any (a : Int) (w : World) :
    Calls Tryd.prog 52 #[.int .i64 a] w fun e w' => e = .returned (.bool (a != 1)) ∧ w' = w := by
  go_enter Tryd.func52, Tryd.ntmps52
  go_wp2
  go_ret
  exact ⟨rfl, rfl⟩
set_option maxHeartbeats 1000000 in
theorem indexF_any {g o c : Nat} {x : List Int} {w : World} (h : IsAt g o x w) (hl : x.length ≤ 1000) :
    Calls Tryd.prog 68 #[.slice (some ⟨g, o, none⟩) x.length c, .func (.func 52) #[] #[]] w fun e w' => (∃ n : Int, e = .returned (.int .i64 n) ∧ decide (0 ≤ n) = x.any (fun a => a != 1)) ∧ w' = w := by
  obtain ⟨N, hN⟩ : ∃ N, x.length = N := ⟨_, rfl⟩
  have eg := fun (args : Array Value) (w : World) => enters_v1 w args
  have H := hid_of' (And.intro h hN)
  rw [hN] at hl ⊢
  clear h hN
  go_enter Tryd.func68, Tryd.ntmps68
  go_wp2
  go_loopw [8] (fun i wr => wr = w ∧ ∃ k : Nat, i = .int .i64 (k : Int) ∧ k ≤ N ∧ ∀ j, j < k → (en x j != 1) = false) (fun i _ => N - (intOf i).toNat)
  case atStart => exact ⟨rfl, 0, rfl, by omega, fun j hj => by omega⟩
  case round =>
    obtain ⟨rfl, k, rfl, hk, hno⟩ := hrel
    have HNo := hid_of' hno
    clear hno
    by_cases hlt : k < N
    · have hki : (k : Int) < (N : Int) := by omega
      have c1 := H.out.1.2 k (by rw [H.out.2]; exact hlt)
      have HC := hid_of' (verdict1_any (en x k) wr)
      obtain ⟨y, hy⟩ : ∃ y, (en x k != 1) = y := ⟨_, rfl⟩
      rw [hy] at HC
      have HY := hid_of' hy
      clear hy
      cases y
      · go_wp2_with (go_at_call 52; refine HC.out.mono ?_; rintro e w2 ⟨rfl, hb⟩; obtain rfl := hb.symm; clear HC)
        go_roundw
        case rel => exact ⟨trivial, k + 1, by go_num, by omega, fun j hj => by
          by_cases e : j = k
          · rw [e]; exact HY.out
          · exact HNo.out j (by omega)⟩
        case measure => simp [intOf]; omega
      · go_wp2_with (go_at_call 52; refine HC.out.mono ?_; rintro e w2 ⟨rfl, hb⟩; obtain rfl := hb.symm; clear HC)
        go_ret
        have hx : x.any (fun a => a != 1) = true := List.any_eq_true.2 ⟨en x k, List.mem_of_getElem? (en_at (by rw [H.out.2]; exact hlt)), HY.out⟩
        exact ⟨⟨k, rfl, by rw [hx]; simp⟩, rfl⟩
    · have hki : ¬ (k : Int) < (N : Int) := by omega
      go_wp2
      go_ret
      have hx : x.any (fun a => a != 1) = false := by
        rw [List.any_eq_false]
        intro a ha
        obtain ⟨j, hj⟩ := List.getElem?_of_mem ha
        have := (List.getElem?_eq_some_iff.1 hj).1
        rw [H.out.2] at this
        rw [← en_of hj, HNo.out j (by omega)]
        decide
      exact ⟨⟨-1, rfl, by rw [hx]; rfl⟩, rfl⟩
theorem containsF_any {g o c : Nat} {x : List Int} {w : World} (h : IsAt g o x w) (hl : x.length ≤ 1000) :
    Calls Tryd.prog 51 #[.slice (some ⟨g, o, none⟩) x.length c, .func (.func 52) #[] #[]] w fun e w' => e = .returned (.bool (x.any (fun a => a != 1))) ∧ w' = w := by
  have H := hid_of' (indexF_any (c := c) h hl)
  clear h
  go_enter Tryd.func51, Tryd.ntmps51
  go_wp2_with (go_at_call 68; refine H.out.mono ?_; rintro e w1 ⟨⟨n, rfl, hn⟩, hw⟩; obtain rfl := hw.symm; clear H; have HN := hid_of' hn; clear hn hw)
  go_ret
  exact ⟨by rw [← HN.out]; rfl, rfl⟩

/-- Verdict of any number. -/
def verdI (r : Rnd) (m : Int) : Int := if m < 1 then 0 else verdR r (min m 8).toNat
theorem verdR_is {r : Rnd} (h : r.Ok) {n : Nat} (hn : n ≤ 8) : verdR r n = if (r.vot.take n).any (fun a => (2 : Int) == a) then 2 else if (r.vot.take n).any (fun a => a != 1) then 0 else 1 := by
  unfold verdR
  have e1 := any_range (fun a => a == 2) (x := r.vot) (n := n) (by rw [h.2]; exact hn)
  have e2 := all_range (fun a => a == 1) (x := r.vot) (n := n) (by rw [h.2]; exact hn)
  rw [show (fun i => en r.vot i == 2) = (fun i => (fun a => a == 2) (en r.vot i)) from rfl, e1, show (fun i => en r.vot i == 1) = (fun i => (fun a => a == 1) (en r.vot i)) from rfl, e2]
  have e3 : (fun a : Int => a == 2) = (fun a => (2 : Int) == a) := by funext a; rw [Bool.eq_iff_iff, beq_iff_eq, beq_iff_eq]; exact eq_comm
  have e4 : (fun a : Int => !(a == 1)) = (fun a => a != 1) := rfl
  rw [e3, e4]
  cases (r.vot.take n).any (fun a => (2 : Int) == a) <;> cases (r.vot.take n).any (fun a => a != 1) <;> rfl
set_option maxHeartbeats 1000000 in
theorem verdict_any (r : Rnd) (m : Int) (h : r.Ok) (w : World) :
    Calls Tryd.prog 19 #[.agg (cv (rc r)), .int .i64 m] w fun e w' => e = .returned (.int .i64 (verdI r m)) ∧ Below w.heap.size w w' := by
  by_cases h1 : m < 1
  · have HV : Hid (verdI r m = 0) := if_pos h1
    go_enter Tryd.func19, Tryd.ntmps19
    go_wp2
    go_ret
    exact ⟨by rw [HV.out]; rfl, below_one _ _⟩
  · obtain ⟨n, hn⟩ : ∃ n : Nat, min m 8 = (n : Int) := ⟨(min m 8).toNat, by omega⟩
    have hn8 : n ≤ 8 := by omega
    have hn8i : (n : Int) ≤ 8 := by omega
    have n1 : 1 ≤ n := by omega
    have HV : Hid (verdI r m = if (r.vot.take n).any (fun a => (2 : Int) == a) then 2 else if (r.vot.take n).any (fun a => a != 1) then 0 else 1) := by
      unfold Hid verdI
      rw [if_neg h1, hn, Int.toNat_natCast, verdR_is h hn8]
    have hr := RowAt.news w (cv (rc r)) 44
    have hx : (r.vot.take n).length = n := by rw [List.length_take, h.2]; omega
    have hi : IsAt w.heap.size 9 (r.vot.take n) (w.alloc (.cells (cv (rc r)) 44)) := ⟨hr.lt, fun k hk => by
      rw [hx] at hk
      rw [hr.cell, rcv_vot h (by omega)]
      simp [en, List.getD, hk]⟩
    have h8 : (9 : Nat) + 8 ≤ 18 := by decide
    have HA := hid_of' (contains_any (c := 8) 2 hi (by omega))
    have HF := hid_of' (containsF_any (c := 8) hi (by omega))
    rw [hx] at HA HF
    clear hi hx hr
    have hb := below_one w (.cells (cv (rc r)) 44)
    generalize r.vot.take n = x at *
    cases e1 : x.any (fun a => (2 : Int) == a)
    · cases e2 : x.any (fun a => a != 1)
      · rw [e1] at HA HV
        rw [e2] at HF HV
        clear e1 e2
        go_enter Tryd.func19, Tryd.ntmps19
        go_wp2_with (first | (go_at_call 50; refine HA.out.mono ?_; rintro e w1 ⟨rfl, hw⟩; obtain rfl := hw.symm; clear HA hw) | (go_at_call 51; refine HF.out.mono ?_; rintro e w1 ⟨rfl, hw⟩; obtain rfl := hw.symm; clear HF hw))
        go_ret
        exact ⟨by rw [HV.out]; rfl, hb⟩
      · rw [e1] at HA HV
        rw [e2] at HF HV
        clear e1 e2
        go_enter Tryd.func19, Tryd.ntmps19
        go_wp2_with (first | (go_at_call 50; refine HA.out.mono ?_; rintro e w1 ⟨rfl, hw⟩; obtain rfl := hw.symm; clear HA hw) | (go_at_call 51; refine HF.out.mono ?_; rintro e w1 ⟨rfl, hw⟩; obtain rfl := hw.symm; clear HF hw))
        go_ret
        exact ⟨by rw [HV.out]; rfl, hb⟩
    · rw [e1] at HA HV
      clear e1 HF
      go_enter Tryd.func19, Tryd.ntmps19
      go_wp2_with (go_at_call 50; refine HA.out.mono ?_; rintro e w1 ⟨rfl, hw⟩; obtain rfl := hw.symm; clear HA hw)
      go_ret
      exact ⟨by rw [HV.out]; rfl, hb⟩
end Go.Proofs.YtfgcljpiidhfpaaDoor
