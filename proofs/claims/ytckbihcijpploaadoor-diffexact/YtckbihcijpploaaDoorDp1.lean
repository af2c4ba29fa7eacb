
/-
  What two rows have in common stands in both: no program, plain lists; barrowlaw15.within.
-/
import Derived.Test.YtckbihcijpploaaDoorDm9
namespace Go.Proofs.YtckbihcijpploaaDoor
open Go.RowKit Go.Extern.Stop Go.Stop Go.Extern
set_option maxRecDepth 100000

theorem getD_some {x : List Int} {p : Nat} {a : Int} (h : x[p]? = some a) : x.getD p 0 = a := by
  rw [List.getD, h]
  rfl
theorem sub_drop {x : List Int} {i p : Nat} {a : Int} {z : List Int} (hi : i ≤ p) (h : x[p]? = some a) (hz : z.Sublist (x.drop (p + 1))) : (a :: z).Sublist (x.drop i) := by
  have h1 : x.drop p = a :: x.drop (p + 1) := dropc h
  have h2 : (x.drop p).Sublist (x.drop i) := by
    have : x.drop p = (x.drop i).drop (p - i) := by rw [List.drop_drop, show i + (p - i) = p by omega]
    rw [this]
    exact List.drop_sublist ..
  refine List.Sublist.trans ?_ h2
  rw [h1]
  exact hz.cons_cons a
theorem Kc.subs {x y : List Int} : ∀ {l : List (Nat × Nat)} {i j : Nat}, Kc x y i j l → (l.map fun p => x.getD p.1 0).Sublist (x.drop i) ∧ (l.map fun p => x.getD p.1 0).Sublist (y.drop j)
  | [], _, _, _ => ⟨List.nil_sublist _, List.nil_sublist _⟩
  | (p, q) :: l, i, j, ⟨h1, h2, ⟨a, h3, h4⟩, h5⟩ => by
    obtain ⟨s1, s2⟩ := Kc.subs h5
    rw [List.map_cons, getD_some h3]
    exact ⟨sub_drop h1 h3 s1, sub_drop h2 h4 s2⟩
theorem cm_sub (x y : List Int) : (cm x y).Sublist x ∧ (cm x y).Sublist y := by
  have := (kp_kc0 x y).subs
  rwa [List.drop_zero, List.drop_zero] at this
theorem cm_self_go (x : List Int) : ∀ (n i : Nat), (x.drop i).length ≤ n → (kp i i (x.drop i) (x.drop i)).map (fun p => x.getD p.1 0) = x.drop i
  | 0, i, h => by
    have : x.drop i = [] := List.eq_nil_of_length_eq_zero (by omega)
    rw [this, kp_nil]
    rfl
  | n + 1, i, h => by
    cases hx : x.drop i with
    | nil => rw [kp_nil]; rfl
    | cons a r =>
      obtain ⟨x1, x2, x3⟩ := drop_cons hx
      rw [kp_same, List.map_cons, getD_some x1, ← x2, cm_self_go x n (i + 1) (by rw [List.length_drop] at h ⊢; omega)]
theorem cm_self (x : List Int) : cm x x = x := by
  have := cm_self_go x _ 0 (Nat.le_refl _)
  rwa [List.drop_zero] at this
theorem sub_same {a : Int} {z x : List Int} (h : (a :: z).Sublist (a :: x)) : z.Sublist x := by
  cases h with
  | cons _ h => exact (List.sublist_cons_self a z).trans h
  | cons_cons _ h => exact h
theorem sub_other {a b : Int} {z x : List Int} (h : (a :: z).Sublist (b :: x)) (hn : ¬ b = a) : (a :: z).Sublist x := by
  cases h with
  | cons _ h => exact h
  | cons_cons _ h => exact absurd rfl hn

set_option maxHeartbeats 4000000 in
theorem within_is {w : World} {vz vx : Value} {z x : List Int} (hz : RwR vz z w) (hx : RwR vx x w) (hs : z.Sublist x) (hl : x.length ≤ 1000000) :
    Calls Tryd.prog 26 #[vz, vx] w fun e w' => e = .returned (.bool true) ∧ Below w.heap.size w w' := by
  have hzl : z.length ≤ x.length := hs.length_le
  obtain ⟨a1, c1, hv1, _⟩ := hz.form
  obtain ⟨a2, c2, hv2, _⟩ := hx.form
  have H := hid_of' (And.intro hz (And.intro hx hs))
  obtain ⟨n, hn⟩ : ∃ n, n = z.length := ⟨_, rfl⟩
  obtain ⟨m, hm⟩ : ∃ m, m = x.length := ⟨_, rfl⟩
  rw [← hn] at hv1 hzl
  rw [← hm] at hv2 hzl hl
  subst hv1 hv2
  have HN := hid_of' (And.intro hn hm)
  clear hz hx hs hn hm
  go_enter Tryd.func26, Tryd.ntmps26
  go_wp2
  go_loopw [5, 6] (fun kv iv wr => ∃ k i : Nat, kv = .int .i64 (k : Int) ∧ iv = .int .i64 (i : Int) ∧ k ≤ n ∧ i ≤ m ∧ (z.drop k).Sublist (x.drop i) ∧ Below w.heap.size w wr) (fun _ iv _ => m - (intOf iv).toNat)
  case atStart => exact ⟨0, 0, rfl, rfl, Nat.zero_le _, Nat.zero_le _, H.out.2.2, Below.refl _ _⟩
  case round =>
    obtain ⟨k, i, rfl, rfl, hk, hi, hS, hB⟩ := hrel
    by_cases hkn : k = n
    · have HB := hid_of' hB
      by_cases him : i < m
      · have g1 : (i : Int) < (m : Int) := by omega
        have g2 : ¬ (k : Int) < (n : Int) := by omega
        have g3 : ((k : Int) == (n : Int)) = true := by simp [hkn]
        clear hkn hS hB
        go_wp2
        go_ret
        exact ⟨rfl, HB.out⟩
      · have g1 : ¬ (i : Int) < (m : Int) := by omega
        have g3 : ((k : Int) == (n : Int)) = true := by simp [hkn]
        clear hkn hS hB
        go_wp2
        go_ret
        exact ⟨rfl, HB.out⟩
    · obtain ⟨a, ha⟩ : ∃ a, z[k]? = some a := ⟨_, List.getElem?_eq_getElem (by have := HN.out.1; omega)⟩
      rw [dropc ha] at hS
      have him : i < m := by
        rcases Nat.lt_or_ge i m with q | q
        · exact q
        · have e : x.drop i = [] := List.drop_of_length_le (by rw [← HN.out.2]; exact q)
          rw [e] at hS
          have := hS.length_le
          simp at this
      obtain ⟨b, hb⟩ : ∃ b, x[i]? = some b := ⟨_, List.getElem?_eq_getElem (by have := HN.out.2; omega)⟩
      rw [dropc hb] at hS
      obtain ⟨gz, cz, hvz, _, hlz, hcz⟩ := (H.out.1.later hB).at (by rintro rfl; simp at ha)
      obtain ⟨gx, cx, hvx, _, hlx, hcx⟩ := (H.out.2.1.later hB).at (by rintro rfl; simp at hb)
      rw [← HN.out.1] at hvz
      rw [← HN.out.2] at hvx
      cases hvz
      cases hvx
      have ca := hcz k a ha
      have cb := hcx i b hb
      have g1 : (i : Int) < (m : Int) := by omega
      have g2 : (k : Int) < (n : Int) := by omega
      have HB := hid_of' (And.intro hB hS)
      have HZk := hid_of' ha
      clear hcz hcx ha hb hB hS hkn
      go_upto_region 5 with fail
      go_region
      have hd : Below wr.heap.size wr wr.drew := below_drewN (Below.refl _ _) 1
      have HB2 := hid_of' (bgo HB.out.1 hd)
      clear hd ca cb
      generalize wr.drew = W at HB2 ⊢
      by_cases hab : b = a
      · have hab2 : (b == a) = true := by simp [hab]
        have HS := hid_of' (by have := HB.out.2; rw [hab] at this; exact sub_same this : (z.drop (k + 1)).Sublist (x.drop (i + 1)))
        rw [hab2]
        clear hab hab2
        go_wp2
        go_roundw
        case rel => exact ⟨k + 1, i + 1, by go_num, by go_num, by omega, by omega, HS.out, HB2.out⟩
        case measure => simp [intOf]; omega
      · have hab2 : (b == a) = false := by simp [hab]
        have HS := hid_of' (sub_other HB.out.2 hab : (a :: z.drop (k + 1)).Sublist (x.drop (i + 1)))
        rw [hab2]
        clear hab hab2
        go_wp2
        go_roundw
        case rel => exact ⟨k, i + 1, rfl, by go_num, by omega, by omega, by rw [dropc (show z[k]? = some a from HZk.out)]; exact HS.out, HB2.out⟩
        case measure => simp [intOf]; omega
end Go.Proofs.YtckbihcijpploaaDoor
