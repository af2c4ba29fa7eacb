
/-
  barrowlaw15: clip, wakes.
-/
import Derived.Test.YtkiloceaelmcfaaDoorDm7
namespace Go.Proofs.YtkiloceaelmcfaaDoor
open Go.RowKit Go.Extern.Stop Go.Stop Go.Extern
set_option maxRecDepth 100000

/-- At most so many bytes. -/
def clB (s : ByteArray) : ByteArray := if s.size ≤ 120 then s else s.extract 0 120
theorem clB_size (s : ByteArray) : (clB s).size ≤ 120 := by
  unfold clB
  split
  · assumption
  · simp
    omega
theorem clip_is (s : ByteArray) (hs : s.size ≤ 9223372036854775807) (w : World) : Calls Tryd.prog 6 #[.string s] w fun e w' => e = .returned (.string (clB s)) ∧ w' = w := by
  unfold clB
  by_cases h : s.size ≤ 120
  · rw [if_pos h]
    have h2 : ¬ (120 : Int) < (s.size : Int) := by omega
    go_enter Tryd.func6, Tryd.ntmps6
    go_wp2
    go_ret
    exact ⟨rfl, rfl⟩
  · rw [if_neg h]
    have h2 : (120 : Int) < (s.size : Int) := by omega
    go_enter Tryd.func6, Tryd.ntmps6
    go_wp2
    go_ret
    exact ⟨rfl, rfl⟩
/-- Bytes below 128 are their own characters. -/
theorem asc_all : ∀ l : List UInt8, (∀ b ∈ l, b.toNat < 128) → rn l = l.map (fun b => (b.toNat : Int)) ∧ Lib.validD l = true
  | [], _ => ⟨rfl, rfl⟩
  | b :: t, h => by
    have hb := h b (List.mem_cons_self ..)
    have hd := Lib.decodeL_ascii b t hb
    obtain ⟨i1, i2⟩ := asc_all t (fun x hx => h x (List.mem_cons_of_mem _ hx))
    have hne : b :: t ≠ [] := by simp
    refine ⟨?_, ?_⟩
    · rw [rn_step _ hne, hd]
      simp only [List.drop_one, List.tail_cons, i1, List.map_cons]
    · rw [Lib.validD_step _ hne, hd, if_neg (by dsimp only; omega)]
      simpa using i2
theorem chW_small {a b : ByteArray} (ha : a.size ≤ 120) (hb : b.size ≤ 120) (va : Lib.validD a.data.toList = true) (vb : Lib.validD b.data.toList = true) : chW a b = none := by
  unfold chW
  rw [if_neg (by rw [va]; decide), if_neg (by rw [vb]; decide), if_neg]
  intro ⟨h1, h2⟩
  have h3 := Nat.le_trans (rn_len a.data.toList) (show a.data.toList.length ≤ 120 by rw [Array.length_toList]; exact ha)
  have h4 := Nat.le_trans (rn_len b.data.toList) (show b.data.toList.length ≤ 120 by rw [Array.length_toList]; exact hb)
  have h5 : 4194304 / 120 ≤ 4194304 / (rn a.data.toList).length := Nat.div_le_div_left h3 h1
  omega
def sA : ByteArray := ⟨#[97, 98, 99, 100]⟩
def sX : ByteArray := ⟨#[97, 120, 99, 100]⟩
def sB : ByteArray := ⟨#[97, 98]⟩
def sC : ByteArray := ⟨#[98, 97]⟩
theorem w_eds : eds [97, 98, 99, 100] [97, 120, 99, 100] = [⟨1, 1, ⟨#[120]⟩⟩] := by
  have h : kp 0 0 [97, 98, 99, 100] [97, 120, 99, 100] = [(0, 0), (2, 2), (3, 3)] := by simp [kp, ds]
  unfold eds
  rw [h]
  rfl
theorem w_ds : ds [97, 98] [98, 97] = 2 := by simp [ds]
theorem w_rn : rn sA.data.toList = [97, 98, 99, 100] ∧ rn sX.data.toList = [97, 120, 99, 100] ∧ rn sB.data.toList = [97, 98] ∧ rn sC.data.toList = [98, 97] := ⟨(asc_all _ (by decide)).1, (asc_all _ (by decide)).1, (asc_all _ (by decide)).1, (asc_all _ (by decide)).1⟩
set_option maxHeartbeats 2000000 in
theorem wakes_is {ad : Nat → Addr} {w : World} (E : Env ad w) : Calls Tryd.prog 14 #[] w fun e w' => e = .returned (.bool true) ∧ Below w.heap.size w w' := by
  have h1 := edits_ok E sA sX (by decide) (by decide) (chW_small (by decide) (by decide) (asc_all _ (by decide)).2 (asc_all _ (by decide)).2)
  rw [w_rn.1, w_rn.2.1, w_eds] at h1
  have H1 := hid_of' h1
  have h2 := fun (x : World) (hx : Below w.heap.size w x) => dist_ok (E.later hx) sB sC (by decide) (by decide) (chW_small (by decide) (by decide) (asc_all _ (by decide)).2 (asc_all _ (by decide)).2)
  rw [w_rn.2.2.1, w_rn.2.2.2, w_ds] at h2
  have H2 := hid_of' h2
  clear h1 h2
  go_enter Tryd.func14, Tryd.ntmps14
  go_upto_region 2 with (go_at_call 16; refine H1.out.mono ?_; rintro e w1 ⟨v, rfl, hv, _, hb1⟩)
  obtain ⟨a1, c1, hv1, hc1, _⟩ := Rw.form hv
  subst hv1
  obtain ⟨g, rfl, hg, k0, k1, k2⟩ := RwE.at (i := 0) hv rfl
  go_upto_region 3 with (go_at_call 17; refine (H2.out w1 hb1).mono ?_; rintro e w2 ⟨rfl, hb2⟩)
  have m0 : w2.cell? ⟨g, 0, none⟩ = some (.int .i64 1) := by rw [hb2.cell hg]; exact k0
  have m1 : w2.cell? ⟨g, 1, none⟩ = some (.int .i64 1) := by rw [hb2.cell hg]; exact k1
  have m2 : w2.cell? ⟨g, 2, none⟩ = some (.string ⟨#[120]⟩) := by rw [hb2.cell hg]; exact k2
  clear k0 k1 k2
  go_wp2
  go_ret
  exact ⟨rfl, bgo hb1 hb2⟩
end Go.Proofs.YtkiloceaelmcfaaDoor
