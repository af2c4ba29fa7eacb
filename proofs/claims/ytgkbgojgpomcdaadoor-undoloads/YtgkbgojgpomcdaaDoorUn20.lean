
/-
  A pair of Stacks; barrowlaw14.same.
-/
import Derived.Test.YtgkbgojgpomcdaaDoorUn19
namespace Go.Proofs.YtgkbgojgpomcdaaDoor
open Go.RowKit Go.Extern.Stop Go.Stop Go.Extern
set_option maxRecDepth 100000

/-- The program's Stack and the document's, with the same edits; all that they hold lies from N on. -/
structure PrAt (N P Bs Br : Nat) (d u : List (List Xg)) (vd vu vd' vu' : Value) (F F' : Nat → Prop) (w : World) : Prop where
  lies : RowAt P #[.pointer (some ⟨Bs, 0, none⟩), .pointer (some ⟨Br, 0, none⟩)] 31 w
  s : SkAt 68 Bs vd vu F d u w
  r : SkAt 29 Br vd' vu' F' d u w
  dis : ∀ k, F k → ¬ F' k
  pF : ¬ F P
  pF' : ¬ F' P
  nP : N ≤ P
  nF : ∀ k, F k → N ≤ k
  nF' : ∀ k, F' k → N ≤ k
theorem PrAt.later {N P Bs Br : Nat} {d u : List (List Xg)} {vd vu vd' vu' : Value} {F F' : Nat → Prop} {w w' : World} (h : PrAt N P Bs Br d u vd vu vd' vu' F F' w) (hb : Below w.heap.size w w') : PrAt N P Bs Br d u vd vu vd' vu' F F' w' := ⟨h.lies.later hb, h.s.later hb, h.r.later hb, h.dis, h.pF, h.pF', h.nP, h.nF, h.nF'⟩
theorem PrAt.ch {N P Bs Br : Nat} {d u : List (List Xg)} {vd vu vd' vu' : Value} {F F' S : Nat → Prop} {w w' : World} (h : PrAt N P Bs Br d u vd vu vd' vu' F F' w) (c : Ch S w w') (hS : ∀ k, S k → ¬ F k ∧ ¬ F' k ∧ ¬ k = P) : PrAt N P Bs Br d u vd vu vd' vu' F F' w' :=
  ⟨h.lies.ch c (fun q => (hS P q).2.2 rfl), h.s.ch c (fun k hk q => (hS k q).1 hk), h.r.ch c (fun k hk q => (hS k q).2.1 hk), h.dis, h.pF, h.pF', h.nP, h.nF, h.nF'⟩
/-- The program's has changed. -/
theorem PrAt.goS {N P Bs Br : Nat} {d u d1 u1 : List (List Xg)} {vd vu vd' vu' vd1 vu1 : Value} {F F' F1 : Nat → Prop} {w w' : World} (h : PrAt N P Bs Br d u vd vu vd' vu' F F' w) (_hs : SkAt 68 Bs vd1 vu1 F1 d1 u1 w') (c : Ch F w w') (hf : ∀ k, F1 k → F k ∨ w.heap.size ≤ k) :
    RowAt P #[.pointer (some ⟨Bs, 0, none⟩), .pointer (some ⟨Br, 0, none⟩)] 31 w' ∧ SkAt 29 Br vd' vu' F' d u w' ∧ (∀ k, F1 k → ¬ F' k) ∧ ¬ F1 P ∧ (∀ k, F1 k → N ≤ k) := by
  have hPl := h.lies.lt
  refine ⟨h.lies.ch c h.pF, h.r.ch c (fun k hk q => h.dis k q hk), fun k hk hk' => ?_, fun hk => ?_, fun k hk => ?_⟩
  · rcases hf k hk with q | q
    · exact h.dis k q hk'
    · have := h.r.lt k hk'; omega
  · rcases hf P hk with q | q
    · exact h.pF q
    · omega
  · rcases hf k hk with q | q
    · exact h.nF k q
    · have := h.nP; omega
theorem OwnV.setNil {n c g : Nat} {zs : List Value} {w : World} (h : OwnV (.slice (some ⟨g, 0, none⟩) n c) zs w) (hn : zs.length = n) (i : Nat) : OwnV (.slice (some ⟨g, 0, none⟩) n c) (zs.set i (.slice none 0 0)) (w.setCell ⟨g, i, none⟩ (.slice none 0 0)) := by
  refine ⟨?_, fun u hu => ?_⟩
  · rw [List.length_set, hn]
    have h1 := h.1
    rw [hn] at h1
    refine ⟨by rw [List.length_set, hn, Nat.mul_one], ?_⟩
    rcases h1.2 with ⟨q, _⟩ | ⟨g', cap, cur, q, hg, h2, h3, h4, h5⟩
    · cases q
    · cases q
      refine .inr ⟨g, c, cur.setIfInBounds i (.slice none 0 0), rfl, RowAt.setc hg _ _, h2, h3, by simpa using h4, ?_⟩
      rw [Array.toList_setIfInBounds, List.take_set, h5]
  · rcases List.mem_or_eq_of_mem_set hu with q | q
    · exact h.2 u q
    · exact ⟨_, _, _, q⟩
set_option maxHeartbeats 8000000 in
theorem same_ok {N P Bs Br : Nat} {d u : List (List Xg)} {vd vu vd' vu' : Value} {F F' : Nat → Prop} {W : World} (h : PrAt N P Bs Br d u vd vu vd' vu' F F' W) :
    Calls Tryd.prog 12 #[.pointer (some ⟨P, 0, none⟩)] W fun e w' => e = .returned (.bool true) ∧ Below W.heap.size W w' := by
  have H := hid_of' h
  have HDp := hid_of' (depth_is h.s)
  have p0 : W.cell? ⟨P, 0, none⟩ = some (.pointer (some ⟨Bs, 0, none⟩)) := h.lies.cellIs 0 rfl
  obtain ⟨ad, cd, hvd, _⟩ := h.r.rd.form
  obtain ⟨au, cu, hvu, _⟩ := h.r.ru.form
  have hfd : ∀ l ∈ d, l.length ≤ 4398046510976 := fun l hl => (h.r.rd.fits l hl).2
  have hfu : ∀ l ∈ u, l.length ≤ 4398046510976 := fun l hl => (h.r.ru.fits l hl).2
  have hld : d.length ≤ 100000 := by have := h.s.ld; omega
  have hlu : u.length ≤ 100000 := by have := h.s.lu; omega
  have HF := hid_of' (And.intro hfd (And.intro hfu (And.intro hld hlu)))
  obtain ⟨nd, hnd⟩ : ∃ nd, nd = d.length := ⟨_, rfl⟩
  obtain ⟨nu, hnu⟩ : ∃ nu, nu = u.length := ⟨_, rfl⟩
  rw [← hnd] at hvd HDp
  rw [← hnu] at hvu HDp
  subst hvd hvu
  have HNd := hid_of' hnd
  have HNu := hid_of' hnu
  have kf : Hid (∀ x, Below W.heap.size W x → x.cell? ⟨P, 0, none⟩ = some (.pointer (some ⟨Bs, 0, none⟩)) ∧ x.cell? ⟨P, 1, none⟩ = some (.pointer (some ⟨Br, 0, none⟩)) ∧ x.cell? ⟨Br, 0, none⟩ = some (.slice ad nd cd) ∧ x.cell? ⟨Br, 1, none⟩ = some (.slice au nu cu)) := fun x hx => ⟨(H.out.lies.later hx).cellIs 0 rfl, (H.out.lies.later hx).cellIs 1 rfl, (H.out.r.lies.later hx).cellIs 0 rfl, (H.out.r.lies.later hx).cellIs 1 rfl⟩
  clear h hfd hfu hld hlu hnd hnu
  go_enter Tryd.func12, Tryd.ntmps12
  go_upto_region 2 with (go_at_call 11; refine HDp.out.mono ?_; rintro e w1 ⟨rfl, hb1⟩; clear HDp)
  clear p0
  have p0 := (kf.out w1 hb1).1
  have HE := hid_of' (edits_ok (H.out.s.later hb1))
  have H1 := hid_of' hb1
  clear hb1
  go_upto_region 3 with (go_at_call 24; refine HE.out.mono ?_; rintro e w2 ⟨x, y, rfl, hx, hy, hb2⟩; clear HE; have H2 := hid_of' (And.intro hx (And.intro hy (bgo H1.out hb2))); clear hx hy hb2)
  obtain ⟨hx, hy, hb2⟩ := H2.out
  obtain ⟨us, hO, hE, hD⟩ := hx.ex
  obtain ⟨ub, hO2, hE2, _⟩ := hy.ex
  obtain ⟨ax, cx, hv1⟩ := hO.form
  obtain ⟨ay, cy, hv2⟩ := hO2.form
  have eux : us.length = nd := by rw [hE.1]; exact HNd.out.symm
  have euy : ub.length = nu := by rw [hE2.1]; exact HNu.out.symm
  rw [eux] at hv1
  rw [euy] at hv2
  subst hv1 hv2
  have hk := kf.out w2 hb2
  have p1 := hk.2.1
  have q0 := hk.2.2.1
  have q1 := hk.2.2.2
  have HH1 := hid_of' (histories_same hx.row.sl (H.out.r.later hb2).rd.sl HF.out.1 HF.out.2.2.1)
  have HX := hid_of' (And.intro hO (And.intro hE (And.intro hD (And.intro eux hx.own))))
  have HYr := hid_of' hy.row.sl
  have HB2 := hid_of' hb2
  clear p0 hk hx hy hO hE hD hO2 hE2 eux euy H2 hb2
  go_upto_region 5 with (first | (go_at_call_of 27 (Value.slice ax nd cx); (with_reducible refine HH1.out.mono ?_); rintro e w3 ⟨rfl, hb3⟩; clear HH1; have p1' := (kf.out w3 (bgo HB2.out hb3)).2.1; have q1' := (kf.out w3 (bgo HB2.out hb3)).2.2.2; have HH2 := hid_of' (histories_same (HYr.out.later hb3) (H.out.r.later (bgo HB2.out hb3)).ru.sl HF.out.2.1 HF.out.2.2.2); have H3 := hid_of' hb3; clear hb3) | (go_at_call 27; (with_reducible refine HH2.out.mono ?_); rintro e w4 ⟨rfl, hb4⟩; clear HH2; have H4 := hid_of' (bgo H3.out hb4); clear hb4))
  clear p1 q0 q1 p1' q1'
  have hnd64 : nd ≤ 64 := by rw [HNd.out]; exact H.out.s.ld
  go_loopw [8] (fun kv wr => ∃ (k : Nat) (zs : List Value), kv = .int .i64 (k : Int) ∧ k ≤ nd ∧ OwnV (.slice ax nd cx) zs wr ∧ zs.length = nd ∧ (∀ j, k ≤ j → zs[j]? = us[j]?) ∧ (∀ (j : Nat) (y : Value) (l : List Xg), k ≤ j → us[j]? = some y → d[j]? = some l → RwX y l wr) ∧ Below W.heap.size W wr) (fun kv _ => nd - (intOf kv).toNat)
  case atStart =>
    obtain ⟨hO, hE, hD, eux, hw⟩ := HX.out
    exact ⟨0, us, rfl, Nat.zero_le _, hO.later H4.out, eux, fun _ _ => rfl, fun j y l _ h1 h2 => ((hE.2 j y l h1 h2).later H4.out).row, bgo HB2.out H4.out⟩
  case round =>
    obtain ⟨k, zs, rfl, hk, hz, hzl, hzu, hru, hB⟩ := hrel
    by_cases hkn : k < nd
    · have hki : (k : Int) < (nd : Int) := by omega
      obtain ⟨hO, hE, hD, eux, hw⟩ := HX.out
      obtain ⟨y, hy⟩ : ∃ y, us[k]? = some y := ⟨_, List.getElem?_eq_getElem (by omega)⟩
      obtain ⟨l, hl⟩ : ∃ l, d[k]? = some l := ⟨_, List.getElem?_eq_getElem (by rw [← HNd.out]; exact hkn)⟩
      have hzk : zs[k]? = some y := (hzu k (Nat.le_refl _)).trans hy
      have hry := hru k y l (Nat.le_refl _) hy hl
      have hyo : ∀ b, y.ownBlock = some b → W.heap.size ≤ b := fun b hb => Nat.le_trans H1.out.size ((hE.2 k y l hy hl).own b hb)
      obtain ⟨a1, c1, hyv, _⟩ := Rw.form hry
      obtain ⟨g, c, hvx, hcell, hfz⟩ := hz.at hzk
      rw [hzl] at hvx
      simp only [Value.slice.injEq, true_and] at hvx
      obtain ⟨rfl, rfl⟩ := hvx
      generalize l.length = n1 at hyv
      subst hyv
      have HS := hid_of' (spoil_is hry ((H.out.r.rd.fits l (List.mem_of_getElem? hl)).2))
      have hgy : ¬ Value.ownBlock (.slice a1 n1 c1) = some g := fun q => by
        obtain ⟨cur, h1⟩ := Rw.typ hry g q
        obtain ⟨cur', h2⟩ := Rw.typ hz.1 g rfl
        rw [h1] at h2
        simp at h2
      have HR := hid_of' (And.intro hz (And.intro hzl (And.intro hzu (And.intro hru (And.intro hB (And.intro hy (And.intro hyo (And.intro hgy (And.intro hD (hw g rfl))))))))))
      clear hz hzu hru hB hy hl hry hyo hO hE hD eux hw hzk hgy hfz
      go_upto_region 8 with (go_at_call 23; (with_reducible refine HS.out.mono ?_); rintro e w5 ⟨⟨z5, rfl⟩, hc5⟩; clear HS)
      clear hcell
      obtain ⟨hz, _, hzu, hru, hB, hy, hyo, hgy, hD, hwg⟩ := HR.out
      have hz5 := hz.ch hc5 (fun b hb e => hgy (by cases hb; exact e))
      obtain ⟨y5, hy5⟩ : ∃ y, zs[k]? = some y := ⟨_, List.getElem?_eq_getElem (by omega)⟩
      obtain ⟨g5, c5, hv5, hcell, hfz⟩ := hz5.at hy5
      simp only [Value.slice.injEq, Option.some.injEq, Addr.mk.injEq, and_true] at hv5
      obtain ⟨rfl, hv6⟩ := hv5
      clear hv6
      have HZ := hid_of' (And.intro hz5 hc5)
      clear hz hz5 hzu hru hB hy hyo hgy hD hc5 hy5 hwg
      go_wp2
      go_roundw
      case rel =>
        obtain ⟨hz, _, hzu, hru, hB, hy, hyo, hgy, hD, hwg⟩ := HR.out
        obtain ⟨hz5, hc5⟩ := HZ.out
        have hWg : W.heap.size ≤ g := Nat.le_trans H1.out.size hwg
        have hB5 : Below W.heap.size W w5 := hB.trans (hc5.below (fun s hs e => by have := hyo s e; omega) hB.size)
        have hcs : Ch (fun b => b = g) w5 (w5.setCell ⟨g, k, none⟩ (.slice none 0 0)) := (Ch.refl (fun b => b = g) w5).set (p := ⟨g, k, none⟩) (.inl rfl) _
        refine ⟨k + 1, zs.set k (.slice none 0 0), by go_num, by omega, hz5.setNil hzl k, by rw [List.length_set]; exact hzl, fun j hj => ?_, fun j y l hj h1 h2 => ?_, hB5.trans (hcs.below (fun s hs e => by have e' : s = g := e; omega) hB5.size)⟩
        · rw [List.getElem?_set_ne (by omega)]
          exact hzu j (by omega)
        · have h3 := hru j y l (by omega) h1 h2
          have h4 : RwX y l w5 := Rw.ch h3 hc5 (fun b hb e => hD k j _ y hy h1 (by omega) b e hb)
          refine Rw.ch h4 hcs (fun b hb e => ?_)
          have e' : b = g := e
          subst e'
          obtain ⟨cur, q1⟩ := Rw.typ h4 b hb
          obtain ⟨cur', q2⟩ := Rw.typ hz5.1 b rfl
          rw [q1] at q2
          simp at q2
      case measure => simp [intOf]; omega
    · have hki : ¬ (k : Int) < (nd : Int) := by omega
      have HB := hid_of' hB
      have p0 := (kf.out wr hB).1
      have HE := hid_of' (edits_ok (H.out.s.later hB))
      clear hz hzl hzu hru hB
      go_upto_region 10 with (go_at_call 24; refine HE.out.mono ?_; rintro e w6 ⟨x6, y6, rfl, hx6, hy6, hb6⟩; clear HE; have H6 := hid_of' (And.intro hx6 (And.intro hy6 (bgo HB.out hb6))); clear hx6 hy6 hb6)
      obtain ⟨hx6, hy6, hb6⟩ := H6.out
      obtain ⟨us6, hO6, hE6, _⟩ := hx6.ex
      obtain ⟨ub6, hP6, hF6, _⟩ := hy6.ex
      obtain ⟨a6, c6, hv6⟩ := hO6.form
      obtain ⟨b6, e6, hv7⟩ := hP6.form
      rw [show us6.length = nd by rw [hE6.1]; exact HNd.out.symm] at hv6
      rw [show ub6.length = nu by rw [hF6.1]; exact HNu.out.symm] at hv7
      subst hv6 hv7
      have hk6 := kf.out w6 hb6
      have p1 := hk6.2.1
      have q0 := hk6.2.2.1
      have q1 := hk6.2.2.2
      have HH1 := hid_of' (histories_same hx6.row.sl (H.out.r.later hb6).rd.sl HF.out.1 HF.out.2.2.1)
      have HYr6 := hid_of' hy6.row.sl
      have HB6 := hid_of' hb6
      clear p0 hk6 hx6 hy6 hO6 hE6 hP6 hF6 H6 hb6
      go_wp2_with (first | (go_at_call_of 27 (Value.slice a6 nd c6); (with_reducible refine HH1.out.mono ?_); rintro e w7 ⟨rfl, hb7⟩; clear HH1; have p1' := (kf.out w7 (bgo HB6.out hb7)).2.1; have q1' := (kf.out w7 (bgo HB6.out hb7)).2.2.2; have HH2 := hid_of' (histories_same (HYr6.out.later hb7) (H.out.r.later (bgo HB6.out hb7)).ru.sl HF.out.2.1 HF.out.2.2.2); have H7 := hid_of' (bgo HB6.out hb7); clear hb7) | (go_at_call 27; (with_reducible refine HH2.out.mono ?_); rintro e w8 ⟨rfl, hb8⟩; clear HH2))
      go_ret
      exact ⟨rfl, bgo H7.out hb8⟩
end Go.Proofs.YtgkbgojgpomcdaaDoor
