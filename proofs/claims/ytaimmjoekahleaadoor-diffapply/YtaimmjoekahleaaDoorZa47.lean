
/-
  diff.Apply, diff.Invert.
-/
import Derived.Test.YtaimmjoekahleaaDoorZa46
namespace Go.Proofs.YtaimmjoekahleaaDoor
open Go.RowKit Go.Extern.Stop Go.Stop Go.Extern
set_option maxRecDepth 100000

/-- Why edits can't be done to a text. -/
def pfW (a : ByteArray) (l : List Edt) : Option (Int × Nat) :=
  if Lib.validD a.data.toList = false then some (0, 2) else match ckL 0 (rn a.data.toList) l with
    | some (k, c) => some ((k : Int), c)
    | none => none
theorem pfW_ok {a : ByteArray} {l : List Edt} (h : pfW a l = none) : Lib.validD a.data.toList = true ∧ ckL 0 (rn a.data.toList) l = none := by
  unfold pfW at h
  split at h
  · cases h
  · next hv =>
    split at h
    · cases h
    · exact ⟨by simpa using hv, ‹_›⟩
theorem perform_no {ad : Nat → Addr} {w : World} (E : Env3 ad w) (c a : ByteArray) {v : Value} {l : List Edt} (hl : RwE v l w) (ha : a.size ≤ 1000000) (hsm : Sml l) {i : Int} {code : Nat} (h : pfW a l = some (i, code)) :
    Calls Tryd.prog 13 #[.string c, .string a, v] w fun e w' => ∃ z, e = .returned (.tuple #[.slice none 0 0, .slice none 0 0, z]) ∧ ErrR ad w.heap.size (some (c, i, code)) z w' ∧ Below w.heap.size w w' := by
  cases hv : Lib.validD a.data.toList
  · unfold pfW at h
    rw [if_pos hv] at h
    cases h
    exact perform_bad E c a hl (by omega) hv
  · unfold pfW at h
    rw [if_neg (by rw [hv]; decide)] at h
    refine (perform_is E c a hl ha hv hsm).mono fun e w' q => ?_
    unfold PfQ at q
    cases hc : ckL 0 (rn a.data.toList) l with
    | none => rw [hc] at h; cases h
    | some kc =>
      obtain ⟨k, cc⟩ := kc
      rw [hc] at h q
      cases h
      exact q
theorem perform_ok {ad : Nat → Addr} {w : World} (E : Env3 ad w) (c a : ByteArray) {v : Value} {l : List Edt} (hl : RwE v l w) (ha : a.size ≤ 1000000) (hsm : Sml l) (h : pfW a l = none) :
    Calls Tryd.prog 13 #[.string c, .string a, v] w fun e w' => ∃ t b, e = .returned (.tuple #[t, b, .nilIface]) ∧ RwR t (apL (rn a.data.toList) l) w' ∧ RwE b (ivL (rn a.data.toList) l) w' ∧ (∀ k, t.ownBlock = some k → w.heap.size ≤ k) ∧ (∀ k, b.ownBlock = some k → w.heap.size ≤ k) ∧ Below w.heap.size w w' := by
  obtain ⟨hv, hc⟩ := pfW_ok h
  refine (perform_is E c a hl ha hv hsm).mono fun e w' q => ?_
  unfold PfQ at q
  rw [hc] at q
  exact q
set_option maxHeartbeats 4000000 in
theorem apply_no {ad : Nat → Addr} {w : World} (E : Env3 ad w) (a : ByteArray) {v : Value} {l : List Edt} (hl : RwE v l w) (ha : a.size ≤ 1000000) (hsm : Sml l) {i : Int} {code : Nat} (h : pfW a l = some (i, code)) :
    Calls Tryd.prog 6 #[.string a, v] w fun e w' => ∃ z, e = .returned (.tuple #[.string .empty, z]) ∧ ErrR ad w.heap.size (some (bApply, i, code)) z w' ∧ Below w.heap.size w w' := by
  have HC := hid_of' (perform_no E bApply a hl ha hsm h)
  obtain ⟨a9, c9, rfl, _⟩ := Rw.form hl
  clear E h hl hsm
  have HN := hid_of' (fun x => run_str (RwR.nil x) (by simp))
  go_enter Tryd.func6, Tryd.ntmps6
  go_upto_region 2 with (go_at_call 13; refine HC.out.mono ?_; rintro e w1 ⟨v, rfl, he, hb1⟩)
  have HE := hid_of' (And.intro he hb1)
  clear he hb1
  go_wp2_with (refine wpL_str rfl (.tmp 16) rfl rfl (RwR.nil _) (by simp) ?_)
  go_ret2
  exact ⟨_, rfl, HE.out.1, HE.out.2⟩
set_option maxHeartbeats 4000000 in
theorem apply_ok {ad : Nat → Addr} {w : World} (E : Env3 ad w) (a : ByteArray) {v : Value} {l : List Edt} (hl : RwE v l w) (ha : a.size ≤ 1000000) (hsm : Sml l) (h : pfW a l = none) :
    Calls Tryd.prog 6 #[.string a, v] w fun e w' => e = .returned (.tuple #[.string (tx (apL (rn a.data.toList) l)), .nilIface]) ∧ Below w.heap.size w w' := by
  have HC := hid_of' (perform_ok E bApply a hl ha hsm h)
  obtain ⟨hv, hc⟩ := pfW_ok h
  have HRu := hid_of' (apL_ru l 0 _ (rn_ru _ _ (Nat.le_refl _) hv) hc)
  obtain ⟨a9, c9, rfl, _⟩ := Rw.form hl
  generalize apL (rn a.data.toList) l = zs at HC HRu ⊢
  clear E h hl hsm hv hc
  go_enter Tryd.func6, Tryd.ntmps6
  go_upto_region 2 with (go_at_call 13; refine HC.out.mono ?_; rintro e w1 ⟨t, b, rfl, ht, hbk, _, _, hb1⟩)
  obtain ⟨a1, c1, hv1, _⟩ := ht.form
  obtain ⟨n1, hn1⟩ : ∃ n1, n1 = zs.length := ⟨_, rfl⟩
  rw [← hn1] at hv1
  subst hv1
  have HE := hid_of' (And.intro ht hb1)
  clear ht hbk hb1 hn1
  go_wp2_with (refine wpL_str rfl (.tmp 16) rfl rfl HE.out.1 HRu.out ?_)
  go_ret2
  exact ⟨rfl, HE.out.2⟩
set_option maxHeartbeats 4000000 in
theorem invert_no {ad : Nat → Addr} {w : World} (E : Env3 ad w) (a : ByteArray) {v : Value} {l : List Edt} (hl : RwE v l w) (ha : a.size ≤ 1000000) (hsm : Sml l) {i : Int} {code : Nat} (h : pfW a l = some (i, code)) :
    Calls Tryd.prog 10 #[.string a, v] w fun e w' => ∃ z, e = .returned (.tuple #[.slice none 0 0, z]) ∧ ErrR ad w.heap.size (some (bInvert, i, code)) z w' ∧ Below w.heap.size w w' := by
  have HC := hid_of' (perform_no E bInvert a hl ha hsm h)
  obtain ⟨a9, c9, rfl, _⟩ := Rw.form hl
  clear E h hl hsm
  go_enter Tryd.func10, Tryd.ntmps10
  go_wp2_with (go_at_call 13; refine HC.out.mono ?_; rintro e w1 ⟨v, rfl, he, hb1⟩; have HE := hid_of' (And.intro he hb1); clear he hb1)
  go_ret2
  exact ⟨_, rfl, HE.out.1, HE.out.2⟩
set_option maxHeartbeats 4000000 in
theorem invert_ok {ad : Nat → Addr} {w : World} (E : Env3 ad w) (a : ByteArray) {v : Value} {l : List Edt} (hl : RwE v l w) (ha : a.size ≤ 1000000) (hsm : Sml l) (h : pfW a l = none) :
    Calls Tryd.prog 10 #[.string a, v] w fun e w' => ∃ b, e = .returned (.tuple #[b, .nilIface]) ∧ RwE b (ivL (rn a.data.toList) l) w' ∧ Below w.heap.size w w' := by
  have HC := hid_of' (perform_ok E bInvert a hl ha hsm h)
  obtain ⟨a9, c9, rfl, _⟩ := Rw.form hl
  clear E h hl hsm
  go_enter Tryd.func10, Tryd.ntmps10
  go_wp2_with (go_at_call 13; refine HC.out.mono ?_; rintro e w1 ⟨t, b, rfl, ht, hbk, _, _, hb1⟩; have HE := hid_of' (And.intro hbk hb1); clear ht hbk hb1)
  go_ret2
  exact ⟨_, rfl, HE.out.1, HE.out.2⟩
end Go.Proofs.YtaimmjoekahleaaDoor
