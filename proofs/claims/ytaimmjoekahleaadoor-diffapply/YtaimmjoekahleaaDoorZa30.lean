
/-
  barrowlaw15: clip, wakes. What two rows have in common stands in both: no program, plain lists; barrowlaw15.within.
-/
import Derived.Test.YtaimmjoekahleaaDoorZa28
namespace Go.Proofs.YtaimmjoekahleaaDoor
open Go.RowKit Go.Extern.Stop Go.Stop Go.Extern
set_option maxRecDepth 100000

/-- At most so many bytes. -/
def clB (s : ByteArray) : ByteArray := if s.size ≤ 120 then s else s.extract 0 120
theorem clB_size (s : ByteArray) : (clB s).size ≤ 120 := by
  unfold clB
  split
  · assumption
  · simp
    omega
theorem clip_is (s : ByteArray) (hs : s.size ≤ 9223372036854775807) (w : World) : Calls Tryd.prog 4 #[.string s] w fun e w' => e = .returned (.string (clB s)) ∧ w' = w := by
  unfold clB
  by_cases h : s.size ≤ 120
  · rw [if_pos h]
    have h2 : ¬ (120 : Int) < (s.size : Int) := by omega
    go_enter Tryd.func4, Tryd.ntmps4
    go_wp2
    go_ret
    exact ⟨rfl, rfl⟩
  · rw [if_neg h]
    have h2 : (120 : Int) < (s.size : Int) := by omega
    go_enter Tryd.func4, Tryd.ntmps4
    go_wp2
    go_ret
    exact ⟨rfl, rfl⟩
/-- Bytes below 128 are their own characters. -/
theorem asc_all : ∀ l : List UInt8, (∀ b ∈ l, b.toNat < 128) → rn l = l.map (fun b => (b.toNat : Int)) ∧ Lib.validD l = true
  | [], _ => ⟨rfl, rfl⟩
  | b :: t, h => by
    have hb := h b (List.mem_cons_self ..)
    have hd := Lib.decodeL_ascii b t hb
    obtain ⟨i1, i2⟩ := asc_all t (fun x hx => h x (List.mem_cons_of_mem _ hx))
    have hne : b :: t ≠ [] := by simp
    refine ⟨?_, ?_⟩
    · rw [rn_step _ hne, hd]
      simp only [List.drop_one, List.tail_cons, i1, List.map_cons]
    · rw [Lib.validD_step _ hne, hd, if_neg (by dsimp only; omega)]
      simpa using i2
theorem chW_small {a b : ByteArray} (ha : a.size ≤ 120) (hb : b.size ≤ 120) (va : Lib.validD a.data.toList = true) (vb : Lib.validD b.data.toList = true) : chW a b = none := by
  unfold chW
  rw [if_neg (by rw [va]; decide), if_neg (by rw [vb]; decide), if_neg]
  intro ⟨h1, h2⟩
  have h3 := Nat.le_trans (rn_len a.data.toList) (show a.data.toList.length ≤ 120 by rw [Array.length_toList]; exact ha)
  have h4 := Nat.le_trans (rn_len b.data.toList) (show b.data.toList.length ≤ 120 by rw [Array.length_toList]; exact hb)
  have h5 : 4194304 / 120 ≤ 4194304 / (rn a.data.toList).length := Nat.div_le_div_left h3 h1
  omega
def sA : ByteArray := ⟨#[97, 98, 99, 100]⟩
def sX : ByteArray := ⟨#[97, 120, 99, 100]⟩
def sB : ByteArray := ⟨#[97, 98]⟩
def sC : ByteArray := ⟨#[98, 97]⟩
theorem w_eds : eds [97, 98, 99, 100] [97, 120, 99, 100] = [⟨1, 1, ⟨#[120]⟩⟩] := by
  have h : kp 0 0 [97, 98, 99, 100] [97, 120, 99, 100] = [(0, 0), (2, 2), (3, 3)] := by simp [kp, ds]
  unfold eds
  rw [h]
  rfl
theorem w_ds : ds [97, 98] [98, 97] = 2 := by simp [ds]
theorem w_rn : rn sA.data.toList = [97, 98, 99, 100] ∧ rn sX.data.toList = [97, 120, 99, 100] ∧ rn sB.data.toList = [97, 98] ∧ rn sC.data.toList = [98, 97] := ⟨(asc_all _ (by decide)).1, (asc_all _ (by decide)).1, (asc_all _ (by decide)).1, (asc_all _ (by decide)).1⟩
set_option maxHeartbeats 2000000 in
theorem wakes_is {ad : Nat → Addr} {w : World} (E : Env ad w) : Calls Tryd.prog 12 #[] w fun e w' => e = .returned (.bool true) ∧ Below w.heap.size w w' := by
  have h1 := edits_ok E sA sX (by decide) (by decide) (chW_small (by decide) (by decide) (asc_all _ (by decide)).2 (asc_all _ (by decide)).2)
  rw [w_rn.1, w_rn.2.1, w_eds] at h1
  have H1 := hid_of' h1
  have h2 := fun (x : World) (hx : Below w.heap.size w x) => dist_ok (E.later hx) sB sC (by decide) (by decide) (chW_small (by decide) (by decide) (asc_all _ (by decide)).2 (asc_all _ (by decide)).2)
  rw [w_rn.2.2.1, w_rn.2.2.2, w_ds] at h2
  have H2 := hid_of' h2
  clear h1 h2
  go_enter Tryd.func12, Tryd.ntmps12
  go_upto_region 2 with (go_at_call 21; refine H1.out.mono ?_; rintro e w1 ⟨v, rfl, hv, _, hb1⟩)
  obtain ⟨a1, c1, hv1, hc1, _⟩ := Rw.form hv
  subst hv1
  obtain ⟨g, rfl, hg, k0, k1, k2⟩ := RwE.at (i := 0) hv rfl
  go_upto_region 3 with (go_at_call 22; refine (H2.out w1 hb1).mono ?_; rintro e w2 ⟨rfl, hb2⟩)
  have m0 : w2.cell? ⟨g, 0, none⟩ = some (.int .i64 1) := by rw [hb2.cell hg]; exact k0
  have m1 : w2.cell? ⟨g, 1, none⟩ = some (.int .i64 1) := by rw [hb2.cell hg]; exact k1
  have m2 : w2.cell? ⟨g, 2, none⟩ = some (.string ⟨#[120]⟩) := by rw [hb2.cell hg]; exact k2
  clear k0 k1 k2
  go_wp2
  go_ret
  exact ⟨rfl, bgo hb1 hb2⟩
end Go.Proofs.YtaimmjoekahleaaDoor
namespace Go.Proofs.YtaimmjoekahleaaDoor
open Go.RowKit Go.Extern.Stop Go.Stop Go.Extern
set_option maxRecDepth 100000

theorem getD_some {x : List Int} {p : Nat} {a : Int} (h : x[p]? = some a) : x.getD p 0 = a := by
  rw [List.getD, h]
  rfl
theorem sub_drop {x : List Int} {i p : Nat} {a : Int} {z : List Int} (hi : i ≤ p) (h : x[p]? = some a) (hz : z.Sublist (x.drop (p + 1))) : (a :: z).Sublist (x.drop i) := by
  have h1 : x.drop p = a :: x.drop (p + 1) := dropc h
  have h2 : (x.drop p).Sublist (x.drop i) := by
    have : x.drop p = (x.drop i).drop (p - i) := by rw [List.drop_drop, show i + (p - i) = p by omega]
    rw [this]
    exact List.drop_sublist ..
  refine List.Sublist.trans ?_ h2
  rw [h1]
  exact hz.cons_cons a
theorem Kc.subs {x y : List Int} : ∀ {l : List (Nat × Nat)} {i j : Nat}, Kc x y i j l → (l.map fun p => x.getD p.1 0).Sublist (x.drop i) ∧ (l.map fun p => x.getD p.1 0).Sublist (y.drop j)
  | [], _, _, _ => ⟨List.nil_sublist _, List.nil_sublist _⟩
  | (p, q) :: l, i, j, ⟨h1, h2, ⟨a, h3, h4⟩, h5⟩ => by
    obtain ⟨s1, s2⟩ := Kc.subs h5
    rw [List.map_cons, getD_some h3]
    exact ⟨sub_drop h1 h3 s1, sub_drop h2 h4 s2⟩
theorem cm_sub (x y : List Int) : (cm x y).Sublist x ∧ (cm x y).Sublist y := by
  have := (kp_kc0 x y).subs
  rwa [List.drop_zero, List.drop_zero] at this
theorem cm_self_go (x : List Int) : ∀ (n i : Nat), (x.drop i).length ≤ n → (kp i i (x.drop i) (x.drop i)).map (fun p => x.getD p.1 0) = x.drop i
  | 0, i, h => by
    have : x.drop i = [] := List.eq_nil_of_length_eq_zero (by omega)
    rw [this, kp_nil]
    rfl
  | n + 1, i, h => by
    cases hx : x.drop i with
    | nil => rw [kp_nil]; rfl
    | cons a r =>
      obtain ⟨x1, x2, x3⟩ := drop_cons hx
      rw [kp_same, List.map_cons, getD_some x1, ← x2, cm_self_go x n (i + 1) (by rw [List.length_drop] at h ⊢; omega)]
theorem cm_self (x : List Int) : cm x x = x := by
  have := cm_self_go x _ 0 (Nat.le_refl _)
  rwa [List.drop_zero] at this
theorem sub_same {a : Int} {z x : List Int} (h : (a :: z).Sublist (a :: x)) : z.Sublist x := by
  cases h with
  | cons _ h => exact (List.sublist_cons_self a z).trans h
  | cons_cons _ h => exact h
theorem sub_other {a b : Int} {z x : List Int} (h : (a :: z).Sublist (b :: x)) (hn : ¬ b = a) : (a :: z).Sublist x := by
  cases h with
  | cons _ h => exact h
  | cons_cons _ h => exact absurd rfl hn

end Go.Proofs.YtaimmjoekahleaaDoor
