
/-
  barrowlaw15.DiffExact holds of any two texts.
-/
import Derived.Test.YtckbihcijpploaaDoorDr6
import Derived.Test.YtckbihcijpploaaDoorDr7
import Derived.Test.YtckbihcijpploaaDoorDl1
namespace Go.Proofs.YtckbihcijpploaaDoor
open Go.RowKit Go.Extern.Stop Go.Stop Go.Extern
set_option maxRecDepth 100000

theorem NoR.form {M : Nat} {o : Rf} {v : Value} {w : World} (h : NoR M o v w) : ∃ q p n c p' n' c', v = .agg (nov q p n c p' n' c') := by
  match o, h with
  | none, h => exact ⟨_, _, _, _, _, _, _, h⟩
  | some (_, _, _), ⟨_, _, h1, _⟩ => exact ⟨_, _, _, _, _, _, _, h1⟩
theorem ErrR.ch {ad : Nat → Addr} {M : Nat} {o : Rf} {v : Value} {S : Nat → Prop} {w w' : World} (h : ErrR ad M o v w) (c : Ch S w w') (hS : ∀ s, M ≤ s → ¬ S s) : ErrR ad M o v w' := by
  match o, h with
  | none, h => exact h
  | some (_, _, _), ⟨b, h1, h2, h3, h4⟩ => exact ⟨b, h1, h2, h3, c.heap h4 (hS b h2)⟩
theorem rwE_apart {v : Value} {l : List Edt} {w : World} {b : Nat} {cs : Array Value} (h : RwE v l w) (hr : RowAt b cs 30 w) : ∀ k, v.ownBlock = some k → ¬ k = b := by
  intro k hk e
  rcases h.2 with ⟨rfl, _⟩ | ⟨g, cap, cur, rfl, hg, _⟩
  · cases hk
  · cases hk
    subst e
    rw [show w.heap[g]? = _ from hr] at hg
    simp at hg
theorem bt_len (ys : List Int) : ∀ (l : List (Nat × Nat)) (i j : Nat), (bt ys i j l).length ≤ l.length
  | [], _, _ => Nat.le_refl _
  | (p, q) :: l, i, j => by
    have := bt_len ys l (p + 1) (q + 1)
    rw [bt, List.length_append, List.length_cons]
    split <;> simp <;> omega
theorem eds_len (x y : List Int) : (eds x y).length ≤ x.length + y.length + 1 := by
  have h := bt_len y (kp 0 0 x y ++ [(x.length, y.length)]) 0 0
  have h2 := kp_len _ 0 0 x y (Nat.le_refl _)
  rw [List.length_append, List.length_singleton] at h
  unfold eds
  omega
set_option maxHeartbeats 4000000 in
theorem exact_law {ad : Nat → Addr} {w : World} (L : Laid ad w) (U : U8 w) (a b a' b' : ByteArray) (hCa : ∀ x, Calls Tryd.prog 9 #[.string a] x fun e w' => e = .returned (.string a') ∧ w' = x) (hCb : ∀ x, Calls Tryd.prog 9 #[.string b] x fun e w' => e = .returned (.string b') ∧ w' = x)
    (n : Int) (l : List Edt) (hl : l.length ≤ 1000000000) (s : ByteArray) (oD oE oC : Rf)
    (hD : ∀ x, Below w.heap.size w x → Calls Tryd.prog 10 #[.string a', .string b'] x fun e w' => ∃ v, e = .returned (.tuple #[.int .i64 n, v]) ∧ ErrR ad x.heap.size oD v w' ∧ Below x.heap.size x w')
    (hRD : ∀ x, Calls Tryd.prog 11 #[.string a', .string b'] x fun e w' => ∃ v, e = .returned (.tuple #[.int .i64 n, v]) ∧ NoR x.heap.size oD v w' ∧ Below x.heap.size x w')
    (hE : ∀ x, Below w.heap.size w x → Calls Tryd.prog 13 #[.string a', .string b'] x fun e w' => ∃ u v, e = .returned (.tuple #[u, v]) ∧ RwE u l w' ∧ ErrR ad x.heap.size oE v w' ∧ Below x.heap.size x w')
    (hRE : ∀ x, Calls Tryd.prog 14 #[.string a', .string b'] x fun e w' => ∃ u v, e = .returned (.tuple #[u, v]) ∧ RwE u l w' ∧ NoR x.heap.size oE v w' ∧ Below x.heap.size x w')
    (hC : ∀ x, Below w.heap.size w x → Calls Tryd.prog 16 #[.string a', .string b'] x fun e w' => ∃ v, e = .returned (.tuple #[.string s, v]) ∧ ErrR ad x.heap.size oC v w' ∧ Below x.heap.size x w')
    (hRC : ∀ x, Calls Tryd.prog 17 #[.string a', .string b'] x fun e w' => ∃ v, e = .returned (.tuple #[.string s, v]) ∧ NoR x.heap.size oC v w' ∧ Below x.heap.size x w') :
    Calls Tryd.prog 3 #[.string a, .string b] w fun e w' => e = .returned (.bool true) ∧ Below w.heap.size w w' := by
  replace hCa := hid_of' hCa
  replace hCb := hid_of' hCb
  replace hD := hid_of' hD
  replace hRD := hid_of' hRD
  replace hE := hid_of' hE
  replace hRE := hid_of' hRE
  replace hC := hid_of' hC
  replace hRC := hid_of' hRC
  have HL := hid_of' hl
  have HE := hid_of' (L.env U)
  replace L := hid_of' L
  clear U hl
  go_enter Tryd.func3, Tryd.ntmps3
  go_upto_region 2 with (go_at_call 9; first | (refine (hCa.out _).mono ?_; rintro e w9 ⟨rfl, h0⟩; obtain rfl := h0.symm) | (refine (hCb.out _).mono ?_; rintro e w9 ⟨rfl, h0⟩; obtain rfl := h0.symm))
  go_upto_region 3 with (go_at_call 10; refine (hD.out _ (Below.refl _ _)).mono ?_; rintro e w1 ⟨v1, rfl, e1, b1⟩; have H1 := hid_of' (And.intro e1 b1); clear e1 b1)
  go_upto_region 4 with (first | (go_at_call 11; refine (hRD.out _).mono ?_; rintro e w2 ⟨u1, rfl, n1, b2⟩; have H2 := hid_of' (And.intro n1 b2); obtain ⟨q1, p1, m1, c1, p2, m2, c2, rfl⟩ := n1.form; clear n1 b2) | (refine wpL_storeNo rfl _ _ rfl rfl rfl (RowAt.new w2 _ _) ?_))
  have r8 := (RowAt.new w2 (nov 0 none 0 0 none 0 0) 30).put (nov q1 p1 m1 c1 p2 m2 c2)
  have b8 := below_row (below_one w2 (.cells (nov 0 none 0 0 none 0 0) 30)) (Nat.le_refl _) (nov q1 p1 m1 c1 p2 m2 c2)
  change Code.wp _ _ _ _ ((w2.alloc (.cells (nov 0 none 0 0 none 0 0) 30)).setRow w2.heap.size (nov q1 p1 m1 c1 p2 m2 c2))
  generalize (w2.alloc (.cells (nov 0 none 0 0 none 0 0) 30)).setRow w2.heap.size (nov q1 p1 m1 c1 p2 m2 c2) = W3 at r8 b8 ⊢
  have HB3 := hid_of' (bgo (bgo H1.out.2 H2.out.2) b8)
  have HNb := hid_of' (show w.heap.size ≤ w2.heap.size from (bgo H1.out.2 H2.out.2).size)
  have HR1 := hid_of' (refused_is (L.out.below HB3.out) (H1.out.1.later (bgo H2.out.2 b8)) (H2.out.1.later b8))
  generalize hnb : w2.heap.size = nb at r8 HNb ⊢
  have HN8 := hid_of' r8
  clear r8 b8 H1 H2 hnb
  go_upto_region 6 with (first | (refine opw_loadNo _ rfl rfl HN8.out rfl ?_) | (go_at_call 12; (with_reducible refine HR1.out.mono ?_); rintro e w4 ⟨rfl, b4⟩; have HB4 := hid_of' b4; clear b4 HR1))
  go_upto_region 7 with (go_at_call 13; refine (hE.out _ (bgo HB3.out HB4.out)).mono ?_; rintro e w5 ⟨x1, v2, rfl, hx1, e2, b5⟩; have H5 := hid_of' (And.intro hx1 (And.intro e2 b5)); clear hx1 e2 b5)
  go_upto_region 8 with (first | (go_at_call 14; refine (hRE.out _).mono ?_; rintro e w6 ⟨x2, u2, rfl, hx2, n2, b6⟩; have H6 := hid_of' (And.intro hx2 (And.intro n2 b6)); obtain ⟨q3, p3, m3, c3, p4, m4, c4, rfl⟩ := n2.form; clear hx2 n2 b6; have R6 := hid_of' (HN8.out.later (bgo (bgo HB4.out H5.out.2.2) H6.out.2.2))) | (refine wpL_storeNo rfl _ _ rfl rfl rfl R6.out ?_))
  have k7 := Ch.row (S := fun k => k = nb) (Ch.refl _ w6) (.inl rfl) (nov q3 p3 m3 c3 p4 m4 c4)
  have hx1 := Rw.ch (H5.out.1.later H6.out.2.2) k7 (rwE_apart (H5.out.1.later H6.out.2.2) R6.out)
  have hx2 := Rw.ch H6.out.1 k7 (rwE_apart H6.out.1 R6.out)
  have l4 := (HN8.out.later HB4.out).lt
  have l5 := (HN8.out.later (bgo HB4.out H5.out.2.2)).lt
  have e7 := (H5.out.2.1.later H6.out.2.2).ch k7 (fun s hs => by omega)
  have n7 := H6.out.2.1.ch k7 (fun s hs => by omega)
  have r7 := R6.out.put (nov q3 p3 m3 c3 p4 m4 c4)
  have b7 := below_row (bgo (bgo HB3.out HB4.out) (bgo H5.out.2.2 H6.out.2.2)) HNb.out (nov q3 p3 m3 c3 p4 m4 c4)
  change Code.wp _ _ _ _ (w6.setRow nb (nov q3 p3 m3 c3 p4 m4 c4))
  generalize w6.setRow nb (nov q3 p3 m3 c3 p4 m4 c4) = W7 at hx1 hx2 e7 n7 r7 b7 ⊢
  have HB7 := hid_of' b7
  have HK := hid_of' (keepEdits_is hx1 hx2 HL.out)
  have HR2 := hid_of' (fun (x : World) (h : Below W7.heap.size W7 x) => refused_is (L.out.below (bgo b7 h)) (e7.later h) (n7.later h))
  have HN7 := hid_of' r7
  clear k7 hx1 hx2 l4 l5 e7 n7 r7 b7 H5 H6 R6 HN8 HB4 HB3
  go_upto_region 10 with (first | (go_at_call 15; (with_reducible refine HK.out.mono ?_); rintro e w8 ⟨rfl, b8⟩; have HB8 := hid_of' b8; clear b8 HK) | (refine opw_loadNo _ rfl rfl (HN7.out.later HB8.out) rfl ?_) | (go_at_call 12; (with_reducible refine (HR2.out _ HB8.out).mono ?_); rintro e w9 ⟨rfl, b9⟩; have HB9 := hid_of' b9; clear b9 HR2))
  go_upto_region 11 with (go_at_call 16; refine (hC.out _ (bgo (bgo HB7.out HB8.out) HB9.out)).mono ?_; rintro e w10 ⟨v3, rfl, e3, b10⟩; have H10 := hid_of' (And.intro e3 b10); clear e3 b10)
  go_upto_region 12 with (first | (go_at_call 17; refine (hRC.out _).mono ?_; rintro e w11 ⟨u3, rfl, n3, b11⟩; have H11 := hid_of' (And.intro n3 b11); obtain ⟨q5, p5, m5, c5, p6, m6, c6, rfl⟩ := n3.form; clear n3 b11; have R11 := hid_of' (HN7.out.later (bgo (bgo (bgo HB8.out HB9.out) H10.out.2) H11.out.2))) | (refine wpL_storeNo rfl _ _ rfl rfl rfl R11.out ?_))
  have k7 := Ch.row (S := fun k => k = nb) (Ch.refl _ w11) (.inl rfl) (nov q5 p5 m5 c5 p6 m6 c6)
  have l4 := (HN7.out.later (bgo HB8.out HB9.out)).lt
  have l5 := (HN7.out.later (bgo (bgo HB8.out HB9.out) H10.out.2)).lt
  have e7 := (H10.out.1.later H11.out.2).ch k7 (fun s hs => by omega)
  have n7 := H11.out.1.ch k7 (fun s hs => by omega)
  have r7 := R11.out.put (nov q5 p5 m5 c5 p6 m6 c6)
  have b7 := below_row (bgo (bgo (bgo HB7.out HB8.out) HB9.out) (bgo H10.out.2 H11.out.2)) HNb.out (nov q5 p5 m5 c5 p6 m6 c6)
  change Code.wp _ _ _ _ (w11.setRow nb (nov q5 p5 m5 c5 p6 m6 c6))
  generalize w11.setRow nb (nov q5 p5 m5 c5 p6 m6 c6) = W12 at e7 n7 r7 b7 ⊢
  have HB12 := hid_of' b7
  have HR3 := hid_of' (refused_is (L.out.below b7) e7 n7)
  have HN12 := hid_of' r7
  clear k7 l4 l5 e7 n7 r7 b7 H10 H11 R11 HN7 HB8 HB9 HB7
  have d0 : W12.cell? ⟨nb, 0, none⟩ = some (.int .i64 q5) := HN12.out.is rfl
  have d1 : W12.cell? ⟨nb, 1, none⟩ = some (.slice p5 m5 c5) := HN12.out.is rfl
  have d2 : W12.cell? ⟨nb, 2, none⟩ = some (.slice p6 m6 c6) := HN12.out.is rfl
  clear HN12
  unfold nov at HR3
  go_wp2_with (first | (go_at_call 12; (with_reducible refine HR3.out.mono ?_); rintro e w13 ⟨rfl, b13⟩; have HB13 := hid_of' b13; clear b13 HR3) | (go_at_call 18; (with_reducible refine (wakes_is (HE.out.later (bgo HB12.out HB13.out))).mono ?_); rintro e w14 ⟨rfl, b14⟩))
  go_ret
  exact ⟨rfl, bgo (bgo HB12.out HB13.out) b14⟩
theorem diffExact_all {ad : Nat → Addr} {w : World} (L : Laid ad w) (U : U8 w) (a b : ByteArray) (ha : a.size ≤ 9223372036854775807) (hb : b.size ≤ 9223372036854775807) :
    Calls Tryd.prog 3 #[.string a, .string b] w fun e w' => e = .returned (.bool true) ∧ Below w.heap.size w w' := by
  have E := L.env U
  have sa := clB_size a
  have sb := clB_size b
  have hno : (Lib.validD (clB a).data.toList = false ∨ Lib.validD (clB b).data.toList = false) → Calls Tryd.prog 3 #[.string a, .string b] w fun e w' => e = .returned (.bool true) ∧ Below w.heap.size w w' := fun h => by
    obtain ⟨i, k, hc⟩ := chW_bad h
    exact exact_law L U a b _ _ (fun x => clip_is a ha x) (fun x => clip_is b hb x) 0 [] (Nat.zero_le _) .empty _ _ _
      (fun x hx => dist_no (E.later hx) _ _ (small70 sa) (small70 sb) hc)
      (fun x => rDist_no x _ _ sa sb hc)
      (fun x hx => (edits_no (E.later hx) _ _ (small70 sa) (small70 sb) hc).mono fun _ _ ⟨v, h1, h2, h3⟩ => ⟨_, v, h1, RwE.nil _, h2, h3⟩)
      (fun x => (rEdits_no x _ _ sa sb hc).mono fun _ _ ⟨v, h1, h2, h3⟩ => ⟨_, v, h1, RwE.nil _, h2, h3⟩)
      (fun x hx => common_no (E.later hx) _ _ (small70 sa) (small70 sb) hc)
      (fun x => rCommon_no x _ _ sa sb hc)
  cases va : Lib.validD (clB a).data.toList
  · exact hno (.inl va)
  · cases vb : Lib.validD (clB b).data.toList
    · exact hno (.inr vb)
    · have hc := chW_small sa sb va vb
      have hal := Nat.le_trans (rn_len (clB a).data.toList) (show (clB a).data.toList.length ≤ 120 by rw [Array.length_toList]; exact sa)
      have hbl := Nat.le_trans (rn_len (clB b).data.toList) (show (clB b).data.toList.length ≤ 120 by rw [Array.length_toList]; exact sb)
      exact exact_law L U a b _ _ (fun x => clip_is a ha x) (fun x => clip_is b hb x) _ _ (by have := eds_len (rn (clB a).data.toList) (rn (clB b).data.toList); omega) _ none none none
        (fun x hx => (dist_ok (E.later hx) _ _ (small70 sa) (small70 sb) hc).mono fun _ _ ⟨h1, h2⟩ => ⟨_, h1, rfl, h2⟩)
        (fun x => (rDist_ok x _ _ sa sb va vb).mono fun _ _ ⟨h1, h2⟩ => ⟨_, h1, rfl, h2⟩)
        (fun x hx => (edits_ok (E.later hx) _ _ (small70 sa) (small70 sb) hc).mono fun _ _ ⟨v, h1, h2, _, h3⟩ => ⟨v, _, h1, h2, rfl, h3⟩)
        (fun x => (rEdits_ok x _ _ sa sb va vb).mono fun _ _ ⟨v, h1, h2, h3⟩ => ⟨v, _, h1, h2, rfl, h3⟩)
        (fun x hx => (common_ok (E.later hx) _ _ (small70 sa) (small70 sb) hc).mono fun _ _ ⟨h1, h2⟩ => ⟨_, h1, rfl, h2⟩)
        (fun x => (rCommon_ok x _ _ sa sb va vb).mono fun _ _ ⟨h1, h2⟩ => ⟨_, h1, rfl, h2⟩)
end Go.Proofs.YtckbihcijpploaaDoor
