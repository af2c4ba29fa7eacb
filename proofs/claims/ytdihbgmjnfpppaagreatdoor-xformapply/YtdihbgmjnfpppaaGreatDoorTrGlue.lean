
/-
  tree.glued.
-/
import Derived.Test.YtdihbgmjnfpppaaGreatDoorTrBack
namespace Go.Proofs.YtdihbgmjnfpppaaGreatDoor
open Go.RowKit
set_option maxRecDepth 100000

theorem Nd.fr_last : ∀ (t : Nd), t.Full → (t.fr t.els.length).2 ≠ []
  | .leaf _ _ _ _ l, h => by simp only [Nd.fr, Nd.els, List.take_length]; exact h
  | .inner _ x y, h => by
    have := Nd.fr_last y h.2
    simp only [Nd.fr, Nd.els, List.length_append]
    rw [if_neg (by omega), show x.els.length + y.els.length - x.els.length = y.els.length by omega]
    exact this
/-- Two rows of leaves, glued. -/
def glueL (ch : Int) (x y : Nd) : List (List El) := if ch < ((x.fr x.els.length).2.length : Int) + ((y.bk 0).1.length : Int) then x.leaves ++ y.leaves else ((x.fr x.els.length).1 ++ [(x.fr x.els.length).2 ++ (y.bk 0).1]) ++ (y.bk 0).2

set_option maxHeartbeats 4000000 in
theorem glued_some {R : Rows} {nx ny : Nd} {w : World} (ch : Int) (hx : nx.At R w) (hy : ny.At R w) (fx : nx.Full) (fy : ny.Full) (hn : nx.els.length + ny.els.length ≤ 1073741824) :
    Calls Tryz.prog 69 #[.int .i64 ch, .pointer (some ⟨nx.blk, 0, none⟩), .pointer (some ⟨ny.blk, 0, none⟩)] w fun r w' => ∃ v, r = .returned v ∧ OTree R (glueL ch nx ny) v w' ∧ Below w.heap.size w w' := by
  have d4 := nd_sz hx
  have HZ := hid_of' hx.hi
  have HF := hid_of' (front_any nx nx.els.length w hx fx (by omega) (Nat.le_refl _))
  have HK : Hid (∀ x, Below w.heap.size w x → Calls Tryz.prog 67 #[.pointer (some ⟨ny.blk, 0, none⟩), .int .i64 0] x fun r w' => ∃ u v, r = .returned (.tuple #[u, v]) ∧ SlE w' u (ny.bk 0).1 ∧ OTree R (ny.bk 0).2 v w' ∧ Below x.heap.size x w') := fun x hx' => back_any ny 0 x (hy.later hx') fy (by omega) (by omega)
  have HJ : Hid (∀ x, Below w.heap.size w x → _) := fun x hx' => joined_any _ nx ny rfl x (hx.later hx') (hy.later hx') fx fy (by rw [List.length_append]; omega)
  have l1 := congrArg List.length (Nd.fr_els nx nx.els.length)
  have l2 := congrArg List.length (Nd.bk_els ny 0)
  rw [List.length_append, List.length_take] at l1
  rw [List.length_append, List.length_drop] at l2
  have hne := Nd.fr_last nx fx
  have HG : Hid (glueL ch nx ny = if ch < ((nx.fr nx.els.length).2.length : Int) + ((ny.bk 0).1.length : Int) then nx.leaves ++ ny.leaves else ((nx.fr nx.els.length).1 ++ [(nx.fr nx.els.length).2 ++ (ny.bk 0).1]) ++ (ny.bk 0).2) := rfl
  obtain ⟨ah, eah⟩ : ∃ z, (nx.fr nx.els.length).1 = z := ⟨_, rfl⟩
  obtain ⟨la, ela⟩ : ∃ z, (nx.fr nx.els.length).2 = z := ⟨_, rfl⟩
  obtain ⟨fi, efi⟩ : ∃ z, (ny.bk 0).1 = z := ⟨_, rfl⟩
  obtain ⟨be, ebe⟩ : ∃ z, (ny.bk 0).2 = z := ⟨_, rfl⟩
  rw [eah, ela] at l1 HF HG
  rw [efi, ebe] at l2 HK HG
  rw [ela] at hne
  have b1 : la.length + fi.length ≤ 1073741824 := by omega
  have b2 : ah.flatten.length + (la.length + fi.length) + be.flatten.length ≤ 1073741824 := by omega
  have HB := hid_of' (show la.length + fi.length ≤ 1073741824 ∧ ah.flatten.length + (la.length + fi.length) + be.flatten.length ≤ 1073741824 from ⟨b1, b2⟩)
  clear l1 l2 eah ela efi ebe hx hy fx fy b2
  go_enter Tryz.func69, Tryz.ntmps69
  go_upto_region 5 with (first | (go_at_call 66; with_reducible refine HF.out.mono ?_; rintro r w1 ⟨v1, u1, rfl, o1, s1, hb1⟩) | (go_at_call 67; with_reducible refine (HK.out _ hb1).mono ?_; rintro r w2 ⟨u2, v2, rfl, s2, o2, hb2⟩))
  replace o1 := o1.later hb2
  replace s1 := s1.later hb2
  have hB := bgo hb1 hb2
  obtain ⟨a1', c1', rfl⟩ := s1.form
  obtain ⟨a2', c2', rfl⟩ := s2.form
  clear hb1 hb2 HF HK d4
  by_cases hc : ch < (la.length : Int) + (fi.length : Int)
  · have HE := HG.out
    rw [if_pos hc] at HE
    have HE' := hid_of' HE
    clear HE HG
    go_wp2_with (go_at_call 82; with_reducible refine (HJ.out _ hB).mono ?_; rintro r w3 ⟨v3, rfl, o3, hb3⟩)
    go_ret
    rw [HE'.out]
    exact ⟨_, rfl, o3.o, bgo hB hb3⟩
  · have HE := HG.out
    rw [if_neg hc] at HE
    have HE' := hid_of' HE
    clear HE HG HJ
    have HC : Hid (Calls Tryz.prog 64 #[.slice (some ⟨w2.heap.size, 0, none⟩) 2 2] (w2.alloc (.cells #[.slice a1' la.length c1', .slice a2' fi.length c2'] 22)) fun r w' => ∃ v, r = .returned v ∧ OwnE (w2.heap.size + 1) v (la ++ fi) w' ∧ Below (w2.heap.size + 1) (w2.alloc (.cells #[.slice a1' la.length c1', .slice a2' fi.length c2'] 22)) w') := by
      have H := concat_any [(.slice a1' la.length c1', la), (.slice a2' fi.length c2', fi)] w2.heap.size 0 2 (w2.alloc (.cells #[.slice a1' la.length c1', .slice a2' fi.length c2'] 22)) (fun i p hp => by
        have hr := row_new w2 #[.slice a1' la.length c1', .slice a2' fi.length c2'] 22
        match i, hp with
        | 0, hp => simp at hp; subst hp; exact ⟨by rw [hr.cell]; rfl, s1.later (below_one _ _)⟩
        | 1, hp => simp at hp; subst hp; exact ⟨by rw [hr.cell]; rfl, s2.later (below_one _ _)⟩
        | i + 2, hp => simp at hp) (by simp) (by simp [catE]; omega) (by simp)
      simp only [World.size_alloc, catE, List.flatMap_cons, List.flatMap_nil, List.append_nil] at H
      exact H
    have hne2 : la ++ fi ≠ [] := by intro h; exact hne (List.append_eq_nil_iff.1 h).1
    have hlen : (la ++ fi).length ≤ 1099511627776 := by rw [List.length_append]; omega
    go_wp2_with (go_at_call 64; with_reducible refine HC.out.mono ?_; rintro r w3 ⟨v3, rfl, ho, hb3⟩; obtain ⟨g1, c1, hg1, rfl, he1, hlc, hc9⟩ := ho.room hne2; have hb3' : Below w2.heap.size w2 w3 := (below_one w2 _).trans (hb3.mono (by omega)); clear ho HC hb3)
    have HO := leafOf_any (la ++ fi) g1 0 c1 w3 he1 hlen hlc hc9 (Rk.new (Nat.le_trans HZ.out (by have := hB.size; omega))) (Nat.le_trans HZ.out (Nat.le_trans hB.size hb3'.size))
    rw [List.length_append] at HO
    refine HO.mono ?_
    rintro r w4 ⟨b4, _, rfl, t4, hb4⟩
    have q1 := (o1.later hb3').later hb4
    have J1 := hid_of' (joinedO (u := .pointer (some ⟨b4, 0, none⟩)) (ms := [la ++ fi]) q1 (.inr ⟨_, rfl, t4, hne2, rfl⟩) (by have := HB.out; simp only [List.flatten_append, List.flatten_cons, List.flatten_nil, List.append_nil, List.length_append]; omega))
    have q2 := (o2.later hb3').later hb4
    unfold pv
    clear HO he1 t4
    go_wp2_with (first | (go_at_call 82; with_reducible refine J1.out.mono ?_; rintro r w5 ⟨v5, rfl, q5, hb5⟩; clear J1) | (go_at_call 82; with_reducible refine (joinedO q5 (q2.later hb5) (by have := HB.out; simp only [List.flatten_append, List.flatten_cons, List.flatten_nil, List.append_nil, List.length_append]; omega)).mono ?_; rintro r w6 ⟨v6, rfl, q6, hb6⟩))
    go_ret
    rw [HE'.out]
    exact ⟨_, rfl, q6, bgo (bgo (bgo (bgo hB hb3') hb4) hb5) hb6⟩
end Go.Proofs.YtdihbgmjnfpppaaGreatDoor
