
/-
  barrowlaw14.cut, UndoBack.
-/
import Derived.Test.YtgkbgojgpomcdaaDoorUn11
namespace Go.Proofs.YtgkbgojgpomcdaaDoor
open Go.RowKit Go.Extern.Stop Go.Stop Go.Extern
set_option maxRecDepth 100000

theorem SlD.ch' {S : Nat → Prop} {w w' : World} {v : Value} {l : List Xg} (h : SlD w v l) (c : Ch S w w') (hn : ∀ k, k < w.heap.size → ¬ S k) : SlD w' v l := by
  rcases h with h | ⟨g, o_, c', rfl, h⟩
  · exact .inl h
  · exact .inr ⟨g, o_, c', rfl, fun i e he => (h i e he).ch c (hn g (h i e he).1)⟩
theorem SlD.take {w : World} {a : Option Addr} {n c m : Nat} {l : List Xg} (h : SlD w (.slice a n c) l) (hm : m ≤ l.length) : SlD w (.slice a m c) (l.take m) := by
  rcases h with ⟨rfl, a', c', hv⟩ | ⟨g, o_, c', hv, h⟩
  · obtain rfl : m = 0 := by simpa using hm
    exact .inl ⟨rfl, _, _, rfl⟩
  · simp only [Value.slice.injEq] at hv
    obtain ⟨rfl, rfl, rfl⟩ := hv
    refine .inr ⟨g, o_, c, by rw [List.length_take, Nat.min_eq_left hm], fun i e he => h i e ?_⟩
    rw [List.getElem?_take] at he
    split at he
    · exact he
    · cases he
set_option maxHeartbeats 1000000 in
theorem cut14_is {w : World} {v : Value} {l : List Xg} (h : SlD w v l) (hc : ∀ a n c, v = .slice a n c → n ≤ c) :
    Calls Tryd.prog 17 #[v] w fun e w' => ∃ u, e = .returned u ∧ SlD w u (l.take 20) ∧ w' = w := by
  obtain ⟨a, c, rfl⟩ := h.form
  have hnc := hc a l.length c rfl
  have H := hid_of' h
  clear h hc
  by_cases hl : 20 < l.length
  · obtain ⟨_, g, o_, rfl, _⟩ := H.out.some' (by rintro rfl; simp at hl)
    have k1 : 20 < (l.length : Int) := by omega
    have k2 : 20 ≤ (c : Int) := by omega
    have k3 : ¬ (l.length : Int) ≤ 20 := by omega
    have k4 : 20 ≤ c := by omega
    generalize hn : l.length = n at *
    go_enter Tryd.func17, Tryd.ntmps17
    go_wp2
    go_ret
    exact ⟨_, rfl, H.out.take (by omega), rfl⟩
  · have k1 : ¬ 20 < (l.length : Int) := by omega
    have e : l.take 20 = l := List.take_of_length_le (by omega)
    rw [e]
    go_enter Tryd.func17, Tryd.ntmps17
    go_wp2
    go_ret
    exact ⟨_, rfl, H.out, rfl⟩
set_option maxHeartbeats 4000000 in
theorem undoBack_all {W : World} {v : Value} {l : List Xg} (h : SlD W v l) (hc : ∀ a n c, v = .slice a n c → n ≤ c) :
    Calls Tryd.prog 5 #[v] W fun e w' => e = .returned (.bool true) ∧ Below W.heap.size W w' := by
  have HC := hid_of' (cut14_is h hc)
  have HW := hid_of' wakes14_ok
  clear h hc
  go_enter Tryd.func5, Tryd.ntmps5
  go_upto_region 2 with (go_at_call 17; refine HC.out.mono ?_; rintro e w0 ⟨u, rfl, hu, h0⟩; obtain rfl := h0.symm; clear HC)
  obtain ⟨a, c, hu9⟩ := hu.form
  have hml : (l.take 20).length ≤ 20 := by rw [List.length_take]; omega
  generalize l.take 20 = m at hu hu9 hml
  have HS := hid_of' hu
  generalize m.length = nm at hu9
  subst hu9
  clear hu
  have hm2 : m.length ≤ 4398046510976 := by omega
  have HB1 := hid_of' (back_ok HS.out hm2)
  go_upto_region 3 with (first | (go_at_call 18; (with_reducible refine HB1.out.mono ?_); rintro e w1 ⟨u1, rfl, hu1, hb1⟩; clear HB1; obtain ⟨a1, c1, hv1, _⟩ := Rw.form hu1.1; generalize List.length _ = n1 at hv1; subst hv1; have H1 := hid_of' (And.intro hu1 hb1); clear hu1 hb1; have HA1 := hid_of' (again_ok (HS.out.later H1.out.2) hm2)) | (go_at_call 19; (with_reducible refine HA1.out.mono ?_); rintro e w2 ⟨u2, rfl, hu2, hb2⟩; clear HA1; obtain ⟨a2, c2, hv2, _⟩ := Rw.form hu2.1; generalize List.length _ = n2 at hv2; subst hv2; have H2 := hid_of' (And.intro hu2 (And.intro hb2 (bgo H1.out.2 hb2))); clear hu2 hb2))
  have HR1 := hid_of' (refBack_is (HS.out.later H2.out.2.2) hm2)
  have hbl := Nat.le_trans (bkL_len m) hm2
  have hal := Nat.le_trans (agL_len m) hm2
  go_upto_region 5 with (first | (go_at_call 21; (with_reducible refine HR1.out.mono ?_); rintro e w3 ⟨u3, rfl, hu3, hb3⟩; clear HR1; obtain ⟨a3, c3, hv3, _⟩ := Rw.form hu3.1; generalize List.length _ = n3 at hv3; subst hv3; have H3 := hid_of' (And.intro hu3 (And.intro hb3 (bgo H2.out.2.2 hb3))); clear hu3 hb3; have HC1 := hid_of' (changes_same ((H1.out.1.1.later (bgo H2.out.2.1 H3.out.2.1)).sl) H3.out.1.1.sl (Nat.le_trans hbl (by decide)))) | (go_at_call_of 20 (Value.slice a1 n1 c1); (with_reducible refine HC1.out.mono ?_); rintro e w4 ⟨rfl, hb4⟩; clear HC1; have H4 := hid_of' (And.intro hb4 (bgo H3.out.2.2 hb4)); clear hb4; have HR2 := hid_of' (refAgain_is (HS.out.later H4.out.2) hm2)) | (go_at_call 22; (with_reducible refine HR2.out.mono ?_); rintro e w5 ⟨u5, rfl, hu5, hb5⟩; clear HR2; obtain ⟨a5, c5, hv5, _⟩ := Rw.form hu5.1; generalize List.length _ = n5 at hv5; subst hv5; have H5 := hid_of' (And.intro hu5 (And.intro hb5 (bgo H4.out.2 hb5))); clear hu5 hb5; have HC2 := hid_of' (changes_same ((H2.out.1.1.later (bgo H3.out.2.1 (bgo H4.out.1 H5.out.2.1))).sl) H5.out.1.1.sl (Nat.le_trans hal (by decide)))) | (go_at_call 20; (with_reducible refine HC2.out.mono ?_); rintro e w6 ⟨rfl, hb6⟩; clear HC2; have H6 := hid_of' (And.intro hb6 (bgo H5.out.2.2 hb6)); clear hb6))
  have b26 : Below w2.heap.size w2 w6 := bgo H3.out.2.1 (bgo H4.out.1 (bgo H5.out.2.1 H6.out.1))
  have ra := H1.out.1.1.later (bgo H2.out.2.1 b26)
  have rb := H2.out.1.1.later b26
  have HP1 := hid_of' (spoil_is ra hbl)
  have hW1 := H1.out.2.size
  have hne : ∀ k, Value.ownBlock (.slice a2 n2 c2) = some k → ¬ Value.ownBlock (.slice a1 n1 c1) = some k := fun k hk hk' => by
    have := Rw.lt H1.out.1.1 k hk'
    have := H2.out.1.2 k hk
    omega
  have H7 := hid_of' (And.intro ra (And.intro rb hne))
  clear ra rb hne b26 hW1
  go_upto_region 6 with (go_at_call 23; (with_reducible refine HP1.out.mono ?_); rintro e w7 ⟨⟨z7, rfl⟩, hc7⟩; clear HP1)
  have HP2 := hid_of' (spoil_is (Rw.ch H7.out.2.1 hc7 H7.out.2.2) hal)
  have H8 := hid_of' hc7
  clear hc7
  go_upto_region 7 with (go_at_call 23; (with_reducible refine HP2.out.mono ?_); rintro e w8 ⟨⟨z8, rfl⟩, hc8⟩; clear HP2)
  have hb8 : Below W.heap.size W w8 := by
    have q1 := H6.out.2
    have q2 := H8.out.below (n := W.heap.size) (fun s hs e => by have := H1.out.1.2 s e; omega) q1.size
    have q3 := hc8.below (n := W.heap.size) (fun s hs e => by have := H2.out.1.2 s e; have := H1.out.2.size; omega) (Nat.le_trans q1.size H8.out.size)
    exact (q1.trans q2).trans q3
  have HE := hid_of' hb8
  have HB2 := hid_of' (back_ok (HS.out.later hb8) hm2)
  clear hc8 hb8
  go_wp2_with (first | (go_at_call 18; (with_reducible refine HB2.out.mono ?_); rintro e w9 ⟨u9, rfl, hu9, hb9⟩; clear HB2; obtain ⟨a9, c9, hv9, _⟩ := Rw.form hu9.1; generalize List.length _ = n9 at hv9; subst hv9; have H9 := hid_of' (And.intro hu9 (bgo HE.out hb9)); clear hu9 hb9; have HR3 := hid_of' (refBack_is (HS.out.later H9.out.2) hm2)) | (go_at_call 21; (with_reducible refine HR3.out.mono ?_); rintro e w10 ⟨u10, rfl, hu10, hb10⟩; clear HR3; obtain ⟨a10, c10, hv10, _⟩ := Rw.form hu10.1; generalize List.length _ = n10 at hv10; subst hv10; have H10 := hid_of' (bgo H9.out.2 hb10); have HC3 := hid_of' (changes_same ((H9.out.1.1.later hb10).sl) hu10.1.sl (Nat.le_trans hbl (by decide))); clear hu10 hb10) | (go_at_call 20; (with_reducible refine HC3.out.mono ?_); rintro e w11 ⟨rfl, hb11⟩; clear HC3; have H11 := hid_of' (bgo H10.out hb11); clear hb11) | (go_at_call 13; refine (HW.out _).mono ?_; rintro e w12 ⟨rfl, hb12⟩))
  go_ret
  exact ⟨rfl, bgo H11.out hb12⟩
end Go.Proofs.YtgkbgojgpomcdaaDoor
