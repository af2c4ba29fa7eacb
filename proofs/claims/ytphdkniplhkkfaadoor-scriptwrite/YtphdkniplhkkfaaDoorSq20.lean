
/-
  Package script: the document's texts, small, Plain.
-/
import Derived.Test.YtphdkniplhkkfaaDoorSq13
import Derived.Test.YtphdkniplhkkfaaDoorScRn
namespace Go.Proofs.YtphdkniplhkkfaaDoor
open Go.RowKit Go.Extern.Stop Go.Stop Go.Extern
open Go.Lib (decodeL decodeN validD validD_step decodeL_N)
set_option maxRecDepth 100000

theorem texts_at {k : Int} {b : Bool} (h : hasT k = b) (w : World) : Calls Tryd.prog 19 #[.int .i64 k] w fun e w' => e = .returned (.bool b) ∧ w' = w := by
  rw [← h]
  unfold hasT
  by_cases h0 : k = 0
  · subst h0
    go_enter Tryd.func19, Tryd.ntmps19
    go_wp2
    go_ret
    exact ⟨rfl, rfl⟩
  · by_cases h4 : k = 4
    · subst h4
      go_enter Tryd.func19, Tryd.ntmps19
      go_wp2
      go_ret
      exact ⟨rfl, rfl⟩
    · go_enter Tryd.func19, Tryd.ntmps19
      go_wp2
      go_ret
      exact ⟨by simp [h0, h4], rfl⟩
theorem small_at {k : Int} {b : Bool} (h : byt k = b) (w : World) : Calls Tryd.prog 25 #[.int .i64 k] w fun e w' => e = .returned (.bool b) ∧ w' = w := by
  rw [← h]
  unfold byt
  by_cases h0 : 0 ≤ k
  · by_cases h1 : k ≤ 255
    · go_enter Tryd.func25, Tryd.ntmps25
      go_wp2
      go_ret
      exact ⟨by simp [h0, h1], rfl⟩
    · go_enter Tryd.func25, Tryd.ntmps25
      go_wp2
      go_ret
      exact ⟨by simp [h1], rfl⟩
  · have hd9 : decide (0 ≤ k) = false := decide_eq_false h0
    go_enter Tryd.func25, Tryd.ntmps25
    go_wp2
    go_ret
    exact ⟨rfl, rfl⟩
/-- A step's text, as Plain asks. -/
def tOk (k : Int) (t : ByteArray) : Bool := if hasT k then plT t else decide (t.size = 0)
theorem tOk_bad {k : Int} {t : ByteArray} (h : validD t.data.toList = false) : tOk k t = false := by
  unfold tOk
  split
  · cases hp : plT t
    · rfl
    · rw [plT_valid hp] at h
      cases h
  · refine decide_eq_false fun e => ?_
    have := size0 e
    subst this
    cases h
theorem tOk_long {k : Int} {t : ByteArray} (h : 15 < (rn t.data.toList).length) : tOk k t = false := by
  unfold tOk
  split
  · unfold plT
    rw [decide_eq_false (by omega), Bool.false_and]
  · refine decide_eq_false fun e => ?_
    have := size0 e
    subst this
    exact absurd h (show ¬ 15 < (rn ([] : List UInt8)).length by rw [rn_nil]; decide)
theorem rn_ne {t : ByteArray} (h : rn t.data.toList ≠ []) : ¬ t.size = 0 := fun e => by
  have := size0 e
  subst this
  exact h rfl
theorem rn_eq {t : ByteArray} (h : rn t.data.toList = []) : t.size = 0 := by
  apply Classical.byContradiction
  intro h9
  obtain ⟨h1, _⟩ := rn_at t 0 (by omega)
  rw [List.drop_zero, h] at h1
  cases h1
theorem tOk_no {k : Int} {t : ByteArray} (hk : hasT k = false) (h : rn t.data.toList ≠ []) : tOk k t = false := by
  unfold tOk
  rw [if_neg (by rw [hk]; decide)]
  exact decide_eq_false (rn_ne h)
theorem tOk_none {k : Int} {t : ByteArray} (h : rn t.data.toList = []) : tOk k t = true := by
  unfold tOk
  split
  · unfold plT
    rw [h]
    rfl
  · exact decide_eq_true (rn_eq h)
theorem tOk_some {k : Int} {t : ByteArray} (hk : hasT k = true) (h : (rn t.data.toList).length ≤ 15) : tOk k t = (rn t.data.toList).all okC := by
  unfold tOk plT
  rw [if_pos hk, decide_eq_true h, Bool.true_and]
theorem pln_tOk (s : Stp) : pln s = (knd s.k && byt s.a && byt s.b && byt s.c && tOk s.k s.t) := pln_eq s
theorem okC_cases (c : Int) : (okC c = true ∧ ((97 ≤ c ∧ c ≤ 122) ∨ c = 10 ∨ c = 233 ∨ c = 19990)) ∨ (okC c = false ∧ ¬ (97 ≤ c ∧ c ≤ 122) ∧ ¬ c = 10 ∧ ¬ c = 233 ∧ ¬ c = 19990) := by
  by_cases h : 97 ≤ c ∧ c < 123
  · exact .inl ⟨(by_a h).2, .inl (by omega)⟩
  · by_cases h1 : c = 10
    · subst h1
      exact .inl ⟨rfl, .inr (.inl rfl)⟩
    · by_cases h2 : c = 233
      · subst h2
        exact .inl ⟨rfl, .inr (.inr (.inl rfl))⟩
      · by_cases h3 : c = 19990
        · subst h3
          exact .inl ⟨rfl, .inr (.inr (.inr rfl))⟩
        · exact .inr ⟨(by_no h h1 h2 h3).2, by omega, h1, h2, h3⟩
end Go.Proofs.YtphdkniplhkkfaaDoor
