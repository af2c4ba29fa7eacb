/-
  The order's laws, over rows of eight.
-/
import Derived.Test.YtceahohcmhbkmaaDoorCkTick
namespace Go.Proofs.YtceahohcmhbkmaaDoor
theorem mx_le (x y z : Int) : (mx x y ≤ z) = (x ≤ z ∧ y ≤ z) := by unfold mx; split <;> simp <;> omega
theorem le_mn (x y z : Int) : (z ≤ mn x y) = (z ≤ x ∧ z ≤ y) := by unfold mn; split <;> simp <;> omega
theorem cov_trans {a b c : List Int} (h1 : cov a b = true) (h2 : cov b c = true) : cov a c = true :=
  cov_iff.2 fun k hk => Int.le_trans (cov_iff.1 h2 k hk) (cov_iff.1 h1 k hk)
theorem cov_of_mrg {a b c : List Int} (ha : a.length = 8) (hb : b.length = 8) : cov c (mrg a b) = (cov c a && cov c b) := by
  rw [Bool.eq_iff_iff, Bool.and_eq_true, cov_iff, cov_iff, cov_iff]
  constructor
  · intro h
    refine ⟨fun k hk => ?_, fun k hk => ?_⟩ <;> · have := h k hk; rw [mrg_get ha hb hk, mx_le] at this; omega
  · intro h k hk
    rw [mrg_get ha hb hk, mx_le]
    exact ⟨h.1 k hk, h.2 k hk⟩
theorem mee_cov {a b c : List Int} (ha : a.length = 8) (hb : b.length = 8) : cov (mee a b) c = (cov a c && cov b c) := by
  rw [Bool.eq_iff_iff, Bool.and_eq_true, cov_iff, cov_iff, cov_iff]
  constructor
  · intro h
    refine ⟨fun k hk => ?_, fun k hk => ?_⟩ <;> · have := h k hk; rw [mee_get ha hb hk, le_mn] at this; omega
  · intro h k hk
    rw [mee_get ha hb hk, le_mn]
    exact ⟨h.1 k hk, h.2 k hk⟩
theorem mrg_cov_l {a b : List Int} (ha : a.length = 8) (hb : b.length = 8) : cov (mrg a b) a = true := by
  have := cov_of_mrg (c := mrg a b) ha hb
  rw [cov_self] at this
  simpa using (Bool.and_eq_true _ _ ▸ this.symm : _ ∧ _).1
theorem mrg_cov_r {a b : List Int} (ha : a.length = 8) (hb : b.length = 8) : cov (mrg a b) b = true := by
  have := cov_of_mrg (c := mrg a b) ha hb
  rw [cov_self] at this
  simpa using (Bool.and_eq_true _ _ ▸ this.symm : _ ∧ _).2
theorem cov_mee_l {a b : List Int} (ha : a.length = 8) (hb : b.length = 8) : cov a (mee a b) = true := by
  have := mee_cov (c := mee a b) ha hb
  rw [cov_self] at this
  simpa using (Bool.and_eq_true _ _ ▸ this.symm : _ ∧ _).1
theorem cov_mee_r {a b : List Int} (ha : a.length = 8) (hb : b.length = 8) : cov b (mee a b) = true := by
  have := mee_cov (c := mee a b) ha hb
  rw [cov_self] at this
  simpa using (Bool.and_eq_true _ _ ▸ this.symm : _ ∧ _).2
theorem mrg_mee {a b : List Int} (ha : a.length = 8) (hb : b.length = 8) : mrg a (mee a b) = a :=
  ck_ext (mrg_len ha (mee_len ha hb)) ha fun k hk => by rw [mrg_get ha (mee_len ha hb) hk, mee_get ha hb hk]; unfold mx mn; split <;> split at * <;> omega
theorem mee_mrg {a b : List Int} (ha : a.length = 8) (hb : b.length = 8) : mee a (mrg a b) = a :=
  ck_ext (mee_len ha (mrg_len ha hb)) ha fun k hk => by rw [mee_get ha (mrg_len ha hb) hk, mrg_get ha hb hk]; unfold mx mn; split <;> split at * <;> omega
theorem mrg_assoc {a b c : List Int} (ha : a.length = 8) (hb : b.length = 8) (hc : c.length = 8) : mrg (mrg a b) c = mrg a (mrg b c) :=
  ck_ext (mrg_len (mrg_len ha hb) hc) (mrg_len ha (mrg_len hb hc)) fun k hk => by
    rw [mrg_get (mrg_len ha hb) hc hk, mrg_get ha hb hk, mrg_get ha (mrg_len hb hc) hk, mrg_get hb hc hk]
    unfold mx; repeat split
    all_goals omega

end Go.Proofs.YtceahohcmhbkmaaDoor
