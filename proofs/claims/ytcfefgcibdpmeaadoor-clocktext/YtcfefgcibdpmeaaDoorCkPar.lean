/-
  clock.goesOn, clock.entry: the number with which a text begins.
-/
import Derived.Test.YtcfefgcibdpmeaaDoorCkTick
namespace Go.Proofs.YtcfefgcibdpmeaaDoor
open Go.RowKit
set_option maxRecDepth 100000

/-- May the byte b stand behind the k digits of n? -/
def goOn (n k b : Int) : Bool := decide (48 ≤ b ∧ b ≤ 57) && (decide (n ≠ 0 ∨ k ≤ 0) && decide (n ≤ (9223372036854775807 - (b - 48)) / 10))

set_option maxHeartbeats 400000 in
theorem goesOn_any (n k b : Int) (w : World) (hb : 0 ≤ b ∧ b < 256) :
    Calls Tryd.prog 48 #[.int .i64 n, .int .i64 k, .int .u8 b] w fun e w' => e = .returned (.bool (goOn n k b)) ∧ w' = w := by
  by_cases h1 : b < 48
  · have HV : Hid (goOn n k b = false) := by simp only [Hid, goOn]; rw [decide_eq_false (by omega)]; rfl
    go_enter Tryd.func48, Tryd.ntmps48
    go_wp2
    go_ret
    exact ⟨by rw [HV.out]; rfl, rfl⟩
  · by_cases h2 : 57 < b
    · have HV : Hid (goOn n k b = false) := by simp only [Hid, goOn]; rw [decide_eq_false (by omega)]; rfl
      go_enter Tryd.func48, Tryd.ntmps48
      go_wp2
      go_ret
      exact ⟨by rw [HV.out]; rfl, rfl⟩
    · by_cases h3 : n = 0 ∧ 0 < k
      · obtain ⟨rfl, h4⟩ := h3
        have HV : Hid (goOn 0 k b = false) := by simp only [Hid, goOn]; rw [decide_eq_false (p := ((0 : Int) ≠ 0 ∨ k ≤ 0)) (by omega), Bool.false_and, Bool.and_false]
        go_enter Tryd.func48, Tryd.ntmps48
        go_wp2
        go_ret
        exact ⟨by rw [HV.out]; rfl, rfl⟩
      · have HV : Hid (goOn n k b = decide (n ≤ (9223372036854775807 - (b - 48)) / 10)) := by simp only [Hid, goOn]; rw [decide_eq_true (p := (48 ≤ b ∧ b ≤ 57)) (by omega), decide_eq_true (p := (n ≠ 0 ∨ k ≤ 0)) (by omega), Bool.true_and, Bool.true_and]
        by_cases h5 : n = 0
        · subst h5
          have h6 : ¬ 0 < k := by omega
          clear h3
          go_enter Tryd.func48, Tryd.ntmps48
          go_wp2
          go_ret
          exact ⟨by rw [HV.out]; rfl, rfl⟩
        · clear h3
          go_enter Tryd.func48, Tryd.ntmps48
          go_wp2
          go_ret
          exact ⟨by rw [HV.out]; rfl, rfl⟩
theorem goesOn_is {n k b : Int} {v : Bool} (hv : goOn n k b = v) (w : World) (hb : 0 ≤ b ∧ b < 256) :
    Calls Tryd.prog 48 #[.int .i64 n, .int .i64 k, .int .u8 b] w fun e w' => e = .returned (.bool v) ∧ w' = w := hv ▸ goesOn_any n k b w hb
theorem goOn_true {n k b : Int} (h : goOn n k b = true) : 48 ≤ b ∧ b ≤ 57 ∧ n ≤ (9223372036854775807 - (b - 48)) / 10 := by
  unfold goOn at h
  simp only [Bool.and_eq_true, decide_eq_true_eq] at h
  exact ⟨h.1.1, h.1.2, h.2.2⟩

/-- The number with which l begins, and of how many digits it is. -/
def entR : List UInt8 → Int → Nat → Int × Nat
  | [], n, k => (n, k)
  | b :: l, n, k => if goOn n k b.toNat then entR l (10 * n + (b.toNat - 48)) (k + 1) else (n, k)

set_option maxHeartbeats 1000000 in
theorem entry_any (s : ByteArray) (w : World) (hs : s.size ≤ 140737488355328) :
    Calls Tryd.prog 24 #[.string s] w fun e w' => e = .returned (.tuple #[.int .i64 (entR s.data.toList 0 0).1, .int .i64 ((entR s.data.toList 0 0).2 : Int)]) ∧ w' = w := by
  go_enter Tryd.func24, Tryd.ntmps24
  go_wp2
  go_loopw [2, 3] (fun n i wr => ∃ (j : Nat) (m : Int), i = .int .i64 (j : Int) ∧ n = .int .i64 m ∧ j ≤ s.size ∧ 0 ≤ m ∧ m ≤ 9223372036854775807 ∧ entR (s.data.toList.drop j) m j = entR s.data.toList 0 0 ∧ wr = w) (fun _ i _ => s.size - (intOf i).toNat)
  case atStart => exact ⟨0, 0, rfl, rfl, by omega, by omega, by omega, rfl, rfl⟩
  case round =>
    obtain ⟨j, m, rfl, rfl, hj, h0, hm, he, rfl⟩ := hrel
    by_cases hlt : j < s.size
    · have hji : (j : Int) < (s.size : Int) := by omega
      have hd : s.data.toList.drop j = s[j] :: s.data.toList.drop (j + 1) := by
        rw [List.drop_eq_getElem_cons (by simpa using hlt)]
        rfl
      rw [hd] at he
      have hb8 : (s[j].toNat : Int) < 256 := by have := s[j].toNat_lt; omega
      obtain ⟨v, hv⟩ : ∃ v, goOn m j s[j].toNat = v := ⟨_, rfl⟩
      rw [entR, hv] at he
      cases v with
      | true =>
        obtain ⟨g1, g2, g3⟩ := goOn_true hv
        have gm : 10 * m + ((s[j].toNat : Int) - 48) ≤ 9223372036854775807 := by omega
        have gm' : 10 * m ≤ 9223372036854775807 := by omega
        have he' : Hid (entR (s.data.toList.drop (j + 1)) (10 * m + ((s[j].toNat : Int) - 48)) (j + 1) = entR s.data.toList 0 0) := he
        clear he hd g3
        go_wp2_with (go_at_call 48; refine (goesOn_is hv _ ⟨by omega, hb8⟩).mono ?_; rintro e w1 ⟨rfl, rfl⟩)
        go_roundw
        case rel => exact ⟨j + 1, _, by go_num, rfl, by omega, by omega, gm, he'.out, by first | trivial | rfl⟩
        case measure => simp [intOf]; omega
      | false =>
        have he' : Hid ((m, j) = entR s.data.toList 0 0) := he
        clear he hd
        go_wp2_with (go_at_call 48; refine (goesOn_is hv _ ⟨by omega, hb8⟩).mono ?_; rintro e w1 ⟨rfl, rfl⟩)
        go_ret2
        exact ⟨by rw [← he'.out]; rfl, rfl⟩
    · have hji : ¬ (j : Int) < (s.size : Int) := by omega
      have he' : Hid ((m, j) = entR s.data.toList 0 0) := by
        rw [List.drop_eq_nil_of_le (by simpa using hlt)] at he
        exact he
      clear he
      go_wp2
      go_ret2
      exact ⟨by rw [← he'.out]; rfl, rfl⟩
end Go.Proofs.YtcfefgcibdpmeaaDoor
