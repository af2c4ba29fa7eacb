
/-
  barrowkeep.Edits: are two rows alike?
-/
import Derived.Test.YtckbihcijpploaaDoorDm7
namespace Go.Proofs.YtckbihcijpploaaDoor
open Go.RowKit Go.Extern.Stop Go.Stop Go.Extern
set_option maxRecDepth 100000

set_option maxHeartbeats 4000000 in
theorem keepEdits_is {w : World} {va vb : Value} {l : List Edt} (ha : RwE va l w) (hb : RwE vb l w) (hl : l.length ≤ 1000000000) :
    Calls Tryd.prog 15 #[va, vb] w fun e w' => e = .returned (.bool true) ∧ Below w.heap.size w w' := by
  obtain ⟨o1, c1, e1, _⟩ := Rw.form ha
  obtain ⟨o2, c2, e2, _⟩ := Rw.form hb
  obtain ⟨n, hn⟩ : ∃ n, n = l.length := ⟨_, rfl⟩
  have H := hid_of' (And.intro ha (And.intro hb hn))
  rw [← hn] at e1 e2 hl
  subst e1 e2
  clear ha hb hn
  go_enter Tryd.func15, Tryd.ntmps15
  go_wp2
  go_loopw [5] (fun kv wr => ∃ k : Nat, kv = .int .i64 (k : Int) ∧ k ≤ n ∧ Below w.heap.size w wr) (fun kv _ => n - (intOf kv).toNat)
  case atStart => exact ⟨0, rfl, Nat.zero_le _, Below.refl _ _⟩
  case round =>
    obtain ⟨k, rfl, hk, hB⟩ := hrel
    by_cases hkn : k < n
    · have hki : (k : Int) < (n : Int) := by omega
      obtain ⟨e, he⟩ : ∃ e, l[k]? = some e := ⟨_, List.getElem?_eq_getElem (by rw [← H.out.2.2]; exact hkn)⟩
      obtain ⟨g1, rfl, _, a0, a1, a2⟩ := RwE.at (H.out.1.later hB) he
      obtain ⟨g2, rfl, _, b0, b1, b2⟩ := RwE.at (H.out.2.1.later hB) he
      have HB := hid_of' hB
      clear he hB
      go_upto_region 6 with fail
      go_region
      have hd : Below wr.heap.size wr wr.drew := below_drewN (Below.refl _ _) 1
      have HB2 := hid_of' (bgo HB.out hd)
      clear hd a0 a1 a2 b0 b1 b2
      generalize wr.drew = W at HB2 ⊢
      go_wp2
      go_roundw
      case rel => exact ⟨k + 1, by go_num, by omega, HB2.out⟩
      case measure => simp [intOf]; omega
    · have hki : ¬ (k : Int) < (n : Int) := by omega
      have HB := hid_of' hB
      clear hB
      go_wp2
      go_ret
      exact ⟨rfl, HB.out⟩
end Go.Proofs.YtckbihcijpploaaDoor
