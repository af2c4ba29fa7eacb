
/-
  slices.Insert of characters.
-/
import Derived.Test.YtaimmjoekahleaaDoorZa39
namespace Go.Proofs.YtaimmjoekahleaaDoor
open Go.RowKit Go.Extern.Stop Go.Stop Go.Extern
set_option maxRecDepth 100000

/-- What Insert and Replace leave: the row, in its block or in a new one. -/
def Rpl (w : World) (v : Value) (zs : List Int) (e : Ending) (w' : World) : Prop := ∃ v', e = .returned v' ∧ RwR v' zs w' ∧ w.grownBy w' v.ownBlock ∧ At' w v v'

set_option maxHeartbeats 4000000 in
theorem insert_none {w : World} {v u : Value} {xs : List Int} (hv : RwR v xs w) (hu : RwR u [] w) {i : Nat} (hi : i ≤ xs.length) :
    Calls Tryd.prog 38 #[v, .int .i64 (i : Int), u] w fun e w' => Rpl w v xs e w' := by
  obtain ⟨a, c, rfl, hc, hm⟩ := hv.form
  obtain ⟨a', c', rfl, hc', _⟩ := hu.form
  have HV := hid_of' hv
  obtain ⟨n, hn⟩ : ∃ n, n = xs.length := ⟨_, rfl⟩
  rw [← hn] at hi hc HV ⊢
  unfold maxLen at hm
  clear hv hu hn
  have h1 : (0 : Int) ≤ (i : Int) := by omega
  have h2 : (i : Int) ≤ (n : Int) := by omega
  have h3 : (n : Int) ≤ (c : Int) := by omega
  by_cases hci : c = i
  · subst hci
    go_enter Tryd.func38, Tryd.ntmps38
    go_wp2
    go_ret
    exact ⟨_, rfl, HV.out, ⟨rfl, rfl, rfl, Nat.le_refl _, fun _ _ _ => rfl⟩, At'.refl _ _⟩
  · go_enter Tryd.func38, Tryd.ntmps38
    go_wp2
    go_ret
    exact ⟨_, rfl, HV.out, ⟨rfl, rfl, rfl, Nat.le_refl _, fun _ _ _ => rfl⟩, At'.refl _ _⟩

set_option maxHeartbeats 4000000 in
theorem insert_end {w : World} {v u : Value} {xs ys : List Int} (hv : RwR v xs w) (hu : RwR u ys w) (hy : ys ≠ []) (hb : xs.length + ys.length ≤ 1000000000) :
    Calls Tryd.prog 38 #[v, .int .i64 (xs.length : Int), u] w fun e w' => Rpl w v (xs ++ ys) e w' := by
  obtain ⟨a, c, rfl, hc, hm⟩ := hv.form
  obtain ⟨g2, c2, rfl, hc', hg2, _⟩ := hu.at hy
  have HV := hid_of' (And.intro hv hu)
  have HB := hid_of' hb
  obtain ⟨n, hn⟩ : ∃ n, n = xs.length := ⟨_, rfl⟩
  obtain ⟨m, hm'⟩ : ∃ m, m = ys.length := ⟨_, rfl⟩
  have hm0 : ¬ ((m : Int) = 0) := by
    have := List.length_pos_iff.2 hy
    omega
  rw [← hn] at hc hb HV ⊢
  rw [← hm'] at hb HV ⊢
  unfold maxLen at hm
  clear hv hu hn hm' hy
  have h1 : (0 : Int) ≤ (n : Int) := by omega
  have h3 : (n : Int) ≤ (c : Int) := by omega
  by_cases hci : c = n
  · subst hci
    go_enter Tryd.func38, Tryd.ntmps38
    go_wp2_with (at_builtin; refine wpL_appR rfl _ _ rfl rfl rfl HV.out.1 HV.out.2.so (by have := HB.out; omega) ?_; intro v' w' q1 q2 q3; have HQ := hid_of' (And.intro q1 (And.intro q2 q3)); clear q1 q2 q3)
    go_ret
    exact ⟨_, rfl, HQ.out.1, HQ.out.2.1, HQ.out.2.2⟩
  · go_enter Tryd.func38, Tryd.ntmps38
    go_wp2_with (at_builtin; refine wpL_appR rfl _ _ rfl rfl rfl HV.out.1 HV.out.2.so (by have := HB.out; omega) ?_; intro v' w' q1 q2 q3; have HQ := hid_of' (And.intro q1 (And.intro q2 q3)); clear q1 q2 q3)
    go_ret
    exact ⟨_, rfl, HQ.out.1, HQ.out.2.1, HQ.out.2.2⟩

end Go.Proofs.YtaimmjoekahleaaDoor
