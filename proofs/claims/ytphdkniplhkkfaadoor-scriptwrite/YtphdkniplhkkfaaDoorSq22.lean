
/-
  Package script: the document's Write.
-/
import Derived.Test.YtphdkniplhkkfaaDoorSq21
import Derived.Test.YtphdkniplhkkfaaDoorSq15
namespace Go.Proofs.YtphdkniplhkkfaaDoor
open Go.RowKit Go.Extern.Stop Go.Stop Go.Extern
open Go.Lib (decodeL decodeN validD validD_step decodeL_N)
set_option maxRecDepth 100000

set_option maxHeartbeats 8000000 in
theorem refwrite_ok {w : World} {u : Value} {l : List Stp} (h : SlT w u l) (hl : l.length ≤ 10000) (hz : ∀ e ∈ l, e.t.size ≤ 1000000) :
    Calls Tryd.prog 7 #[u] w fun e w' => ∃ v, e = .returned v ∧ RwB v (wrL l) w' ∧ (∀ q, v.ownBlock = some q → w.heap.size ≤ q) ∧ Below w.heap.size w w' := by
  obtain ⟨ua, uc, rfl⟩ := h.form
  obtain ⟨n, hn⟩ : ∃ n, n = l.length := ⟨_, rfl⟩
  have HH := hid_of' (And.intro h (And.intro hn hz))
  rw [← hn] at hl ⊢
  clear h hn hz
  go_enter Tryd.func7, Tryd.ntmps7
  go_upto_region 3 with fail
  go_loopw [3, 4] (fun rv iv wr => ∃ k : Nat, iv = .int .i64 (k : Int) ∧ k ≤ n ∧ RwB rv (wrL (l.take k)) wr ∧ (∀ q, rv.ownBlock = some q → w.heap.size ≤ q) ∧ Below w.heap.size w wr) (fun _ iv _ => n - (intOf iv).toNat)
  case atStart => exact ⟨0, rfl, Nat.zero_le _, RwB.nil _, (fun q hq => by cases hq), Below.refl _ _⟩
  case round =>
    obtain ⟨k, rfl, hk, hR, hO, hB⟩ := hrel
    obtain ⟨va, vc, hv, _, _⟩ := Rw.form hR
    obtain ⟨m, hm⟩ : ∃ m, m = (wrL (l.take k)).length := ⟨_, rfl⟩
    rw [← hm] at hv
    subst hv
    by_cases hkn : k < n
    · have hki : (k : Int) < (n : Int) := by omega
      obtain ⟨e, he⟩ : ∃ e, l[k]? = some e := ⟨_, List.getElem?_eq_getElem (by rw [← HH.out.2.1]; exact hkn)⟩
      obtain ⟨g, o, rfl, hg, hcs⟩ := (HH.out.1.later hB).at he
      have hes := HH.out.2.2 e (List.mem_of_getElem? he)
      have htk : wrL (l.take (k + 1)) = wrL (l.take k) ++ (if pln e then wrS e else []) := by
        rw [List.take_add_one, he, Option.toList_some, wrL_snoc]
      obtain ⟨sk, sa, sb, sc, st⟩ := e
      unfold stE at hcs
      dsimp only at hcs hes
      have r1 := RowAt.new wr (stv 0 0 0 0 .empty) 30
      have b1 := below_one wr (.cells (stv 0 0 0 0 .empty) 30)
      have hml : m ≤ 200000 := by
        have h1 := wrL_len (l.take k)
        rw [List.length_take] at h1
        omega
      have hlt := Rw.lt hR
      have HR := hid_of' (And.intro hR (And.intro hO (And.intro hB (And.intro hm (And.intro htk (And.intro hml hlt))))))
      clear hR hO hB hm htk he hml hlt
      go_upto_region 6 with (first | (refine wpL_ldT rfl _ rfl rfl hcs ?_) | (refine wpL_stT rfl _ _ rfl rfl rfl r1 ?_))
      have r2 : RowAt wr.heap.size (stv sk sa sb sc st) 30 ((wr.alloc (.cells (stv 0 0 0 0 .empty) 30)).setRow wr.heap.size (stv sk sa sb sc st)) := setRow_heap _ _ _ _ _ _ r1
      have b2 : Below wr.heap.size wr ((wr.alloc (.cells (stv 0 0 0 0 .empty) 30)).setRow wr.heap.size (stv sk sa sb sc st)) := below_row b1 (Nat.le_refl _) _
      change Code.wp Tryd.prog _ _ _ ((wr.alloc (.cells (stv 0 0 0 0 .empty) 30)).setRow wr.heap.size (stv sk sa sb sc st))
      obtain ⟨P, hP⟩ : ∃ P, P = wr.heap.size := ⟨_, rfl⟩
      rw [← hP] at r2 ⊢
      have b2' := hid_of' b2
      generalize hw2 : (wr.alloc (.cells (stv 0 0 0 0 .empty) 30)).setRow P (stv sk sa sb sc st) = w2 at r2 ⊢
      have H2 := hid_of' (And.intro r2 (And.intro (show Below wr.heap.size wr w2 by rw [← hw2, hP]; exact b2) hP))
      have HPl := hid_of' (refplain_is sk sa sb sc st (by omega) w2)
      clear b1 b2 b2' hw2 hP r1 r2 hcs
      cases hp : pln ⟨sk, sa, sb, sc, st⟩
      · rw [hp] at HPl
        have htk := HR.out.2.2.2.2.1
        rw [hp, if_neg (by decide), List.append_nil] at htk
        have HTK := hid_of' htk
        clear htk
        go_wp2_with (first | (refine wpL_ldT rfl _ rfl rfl H2.out.1.in ?_) | (go_at_call 11; refine HPl.out.mono ?_; rintro e w3 ⟨rfl, hb3⟩; have hbw := bgo (bgo HR.out.2.2.1 H2.out.2.1) hb3; have hrw := (HR.out.1.later H2.out.2.1).later hb3))
        refine ⟨⟨k + 1, by go_num, by omega, ?_, HR.out.2.1, hbw⟩, by simp [intOf]; omega⟩
        rw [HTK.out]
        exact hrw
      · rw [hp] at HPl
        have htk := HR.out.2.2.2.2.1
        rw [hp, if_pos rfl] at htk
        obtain ⟨⟨k0, k1⟩, ⟨a0, a1⟩, ⟨b0, b1⟩, ⟨c0, c1⟩, hT0⟩ := pln_is hp
        dsimp only at k0 k1 a0 a1 b0 b1 c0 c1 hT0
        have HTK := hid_of' (And.intro htk hT0)
        clear htk hT0
        go_upto_region 7 with (first | (refine wpL_ldT rfl _ rfl rfl H2.out.1.in ?_) | (go_at_call 11; refine HPl.out.mono ?_; rintro e w3 ⟨rfl, hb3⟩))
        have rP3 := H2.out.1.later hb3
        have m0 : w3.cell? ⟨P, 0, none⟩ = some (.int .i64 sk) := rP3.is rfl
        have m1 : w3.cell? ⟨P, 1, none⟩ = some (.int .i64 sa) := rP3.is rfl
        have m2 : w3.cell? ⟨P, 2, none⟩ = some (.int .i64 sb) := rP3.is rfl
        have m3 : w3.cell? ⟨P, 3, none⟩ = some (.int .i64 sc) := rP3.is rfl
        have H3 := hid_of' (And.intro rP3 (And.intro ((HR.out.1.later H2.out.2.1).later hb3) (And.intro (bgo (bgo HR.out.2.2.1 H2.out.2.1) hb3) (bgo H2.out.2.1 hb3))))
        clear rP3 hb3 HPl
        go_upto_region 8 with (at_builtin; refine wpL_appBy (m := [sk.toNat.toUInt8, sa.toNat.toUInt8, sb.toNat.toUInt8, sc.toNat.toUInt8]) rfl _ _ rfl rfl rfl (H3.out.2.1.later (below_one _ _)) (so_b4 _ ⟨k0, k1⟩ ⟨a0, a1⟩ ⟨b0, b1⟩ ⟨c0, c1⟩) (by have := HR.out.2.2.2.2.2.1; have := HR.out.2.2.2.1; simp only [List.length_cons, List.length_nil]; omega) ?_; intro v4 w4 q1 q2 q3)
        have bA := below_one w3 (.cells #[.int .u8 sk, .int .u8 sa, .int .u8 sb, .int .u8 sc] 5)
        have rP4 : RowAt P (stv sk sa sb sc st) 30 w4 := (H3.out.1.later bA).grow q2 (fun e => by have := HR.out.2.2.2.2.2.2 P e; have := H2.out.2.2; omega)
        have hB4 : Below w.heap.size w w4 := (bgo H3.out.2.2.1 bA).grown q2 (bgo H3.out.2.2.1 bA).size HR.out.2.1
        have hO4 : ∀ q, v4.ownBlock = some q → w.heap.size ≤ q := fun q hq => (q3 q hq).elim (fun e => HR.out.2.1 q e) (fun e => by have h1 := (bgo H3.out.2.2.1 bA).size; omega)
        have ck : w4.cell? ⟨P, 0, none⟩ = some (.int .i64 sk) := rP4.is rfl
        have cT : w4.cell? ⟨P, 4, none⟩ = some (.string st) := rP4.is rfl
        obtain ⟨xa, xc, hx4, _, _⟩ := Rw.form q1
        obtain ⟨l4, hl4⟩ : ∃ l4, l4 = wrL (l.take k) ++ [sk.toNat.toUInt8, sa.toNat.toUInt8, sb.toNat.toUInt8, sc.toNat.toUInt8] := ⟨_, rfl⟩
        rw [← hl4] at q1 hx4
        obtain ⟨n4, hn4⟩ : ∃ n4, n4 = l4.length := ⟨_, rfl⟩
        rw [← hn4] at hx4
        have hl4l : l4.length ≤ 200004 := by
          rw [hl4]
          simp only [List.length_append, List.length_cons, List.length_nil]
          have := HR.out.2.2.2.2.2.1
          have := HR.out.2.2.2.1
          omega
        subst hx4
        have hlt4 := Rw.lt q1
        have H4 := hid_of' (And.intro q1 (And.intro hO4 (And.intro hB4 (And.intro hl4 (And.intro hl4l hlt4)))))
        clear q1 q2 q3 hO4 hB4 hl4 hl4l hlt4 rP4 bA m0 m1 m2 m3 hn4
        cases hT : hasT sk
        · have HT := hid_of' (fun x => texts_at hT x)
          go_wp2_with (go_at_call 19; with_reducible refine (HT.out _).mono ?_; rintro e wx ⟨rfl, hwx⟩; rw [hwx]; clear hwx)
          refine ⟨⟨k + 1, by go_num, by omega, ?_, H4.out.2.1, H4.out.2.2.1⟩, by simp [intOf]; omega⟩
          have e : wrL (l.take (k + 1)) = l4 := by
            rw [HTK.out.1, H4.out.2.2.2.1]
            unfold wrS
            rw [if_neg (by rw [hT]; decide), List.append_nil]
          rw [e]
          exact H4.out.1
        · have hpt : plT st = true := by
            have := HTK.out.2
            rwa [hT, if_pos rfl] at this
          have hval := plT_valid hpt
          obtain ⟨hr15, hall⟩ : (rn st.data.toList).length ≤ 15 ∧ (rn st.data.toList).all okC = true := by
            unfold plT at hpt
            simpa only [Bool.and_eq_true, decide_eq_true_eq] using hpt
          have HT := hid_of' (fun x => texts_at hT x)
          have HRu := hid_of' (fun x => runes_is x st (by omega))
          have HVal := hid_of' (And.intro hval hall)
          clear hpt hval hall
          go_upto_region 10 with (first
            | (go_at_call 19; with_reducible refine (HT.out _).mono ?_; rintro e wx ⟨rfl, hwx⟩; rw [hwx]; clear hwx)
            | (go_at_call 20; refine (HRu.out _).mono ?_; rintro e w5 ⟨hor, hb5⟩; rcases hor with ⟨vr, _, rfl, hvr, hov⟩ | ⟨hbad, rfl⟩))
          · obtain ⟨rs, hrs⟩ : ∃ rs, rs = rn st.data.toList := ⟨_, rfl⟩
            rw [← hrs] at hvr hr15
            obtain ⟨ra, rc, hvv, hrc, _⟩ := Rw.form hvr
            obtain ⟨n5, hn5⟩ : ∃ n5, n5 = rs.length := ⟨_, rfl⟩
            rw [← hn5] at hvv hr15 hrc
            subst hvv
            have HRs := hid_of' (And.intro hrs hn5)
            have hvr5 := hid_of' hvr
            clear hrs hvr hn5
            by_cases h50 : n5 = 0
            · subst h50
              go_upto_region 12 with (at_builtin; refine wpL_appBy (u := .slice (some ⟨w5.heap.size, 0, none⟩) 1 1) (m := [((0 : Int)).toNat.toUInt8]) rfl _ _ rfl rfl rfl ((H4.out.1.later hb5).later (below_one _ _)) (so_b1 (z := 0) _ ⟨by omega, by omega⟩) (by have := H4.out.2.2.2.2.1; simp only [List.length_cons, List.length_nil]; omega) ?_; intro v6 w6 q1 q2 q3)
              have bA := bgo hb5 (below_one w5 (.cells #[.int .u8 0] 5))
              have hB6 : Below w.heap.size w w6 := (bgo H4.out.2.2.1 bA).grown q2 (bgo H4.out.2.2.1 bA).size H4.out.2.1
              have hO6 : ∀ q, v6.ownBlock = some q → w.heap.size ≤ q := fun q hq => (q3 q hq).elim (fun e => H4.out.2.1 q e) (fun e => by have h1 := (bgo H4.out.2.2.1 bA).size; omega)
              have H6 := hid_of' (And.intro q1 (And.intro hO6 hB6))
              clear q1 q2 q3 hO6 hB6 bA hb5 hov ck cT
              refine wp_loop_rounds 1 ?_
              rw [rounds_succ]
              go_wp2
              refine ⟨⟨k + 1, by go_num, by omega, ?_, H6.out.2.1, H6.out.2.2⟩, by simp [intOf]; omega⟩
              have e : wrL (l.take (k + 1)) = l4 ++ [((0 : Int)).toNat.toUInt8] := by
                have e0 : rn st.data.toList = [] := by
                  rw [← HRs.out.1]
                  exact List.eq_nil_of_length_eq_zero HRs.out.2.symm
                rw [HTK.out.1, H4.out.2.2.2.1]
                unfold wrS wtC
                rw [if_pos hT, e0]
                simp only [List.append_assoc]
                rfl
              rw [e]
              exact H6.out.1
            · have hrne : rs ≠ [] := by
                intro e
                have h9 := HRs.out.2
                rw [e] at h9
                exact h50 h9
              have h9 := hvr5.out
              rw [HRs.out.2] at h9
              obtain ⟨gv, rc', e, _, hgv, _⟩ := RwR.at h9 hrne
              cases e
              rw [← HRs.out.2] at h9
              have hgo : w4.heap.size ≤ gv := hov gv rfl
              have HG := hid_of' (And.intro h9 (And.intro hgv hgo))
              clear h9 hgv hgo hov hvr5 hrne
              go_upto_region 12 with (at_builtin; refine wpL_appBy (u := .slice (some ⟨w5.heap.size, 0, none⟩) 1 1) (m := [((n5 : Int)).toNat.toUInt8]) rfl _ _ rfl rfl rfl ((H4.out.1.later hb5).later (below_one _ _)) (so_b1 (z := (n5 : Int)) _ ⟨by omega, by omega⟩) (by have := H4.out.2.2.2.2.1; simp only [List.length_cons, List.length_nil]; omega) ?_; intro v6 w6 q1 q2 q3)
              have bA := bgo hb5 (below_one w5 (.cells #[.int .u8 (n5 : Int)] 5))
              have hB6 : Below w.heap.size w w6 := (bgo H4.out.2.2.1 bA).grown q2 (bgo H4.out.2.2.1 bA).size H4.out.2.1
              have hO6 : ∀ q, v6.ownBlock = some q → w.heap.size ≤ q ∧ ¬ q = gv := fun q hq => (q3 q hq).elim (fun e => ⟨H4.out.2.1 q e, by have h1 := H4.out.2.2.2.2.2 q e; have h2 := HG.out.2.2; omega⟩) (fun e => by
                have h1 := (bgo H4.out.2.2.1 bA).size
                have h2 := HG.out.2.1
                rw [World.size_alloc] at e h1
                omega)
              have hV6 : RwR (.slice (some ⟨gv, 0, none⟩) n5 rc) rs w6 := Rw.grow (HG.out.1.later (below_one _ _)) q2 (fun q hq e => by
                have e1 : gv = q := Option.some.inj (show some gv = some q from hq)
                have h1 := H4.out.2.2.2.2.2 q e
                have h2 := HG.out.2.2
                omega)
              obtain ⟨l6, hl6⟩ : ∃ l6, l6 = l4 ++ [((n5 : Int)).toNat.toUInt8] := ⟨_, rfl⟩
              rw [← hl6] at q1
              have hl6l : l6.length ≤ 200005 := by
                rw [hl6]
                have := H4.out.2.2.2.2.1
                simp only [List.length_append, List.length_cons, List.length_nil]
                omega
              have H6 := hid_of' (And.intro q1 (And.intro hO6 (And.intro (And.intro (Rw.lt hV6 gv rfl) hV6) (And.intro hB6 (And.intro hl6 hl6l)))))
              clear q1 q2 q3 hO6 hB6 bA hb5 hV6 hl6 hl6l ck cT
              go_loopw [3, 8] (fun ov jv wr => ∃ j : Nat, jv = .int .i64 (j : Int) ∧ j ≤ n5 ∧ Hid (RwB ov (l6 ++ (rs.take j).map fun c => (byN c).toUInt8) wr) ∧ Hid (∀ q, ov.ownBlock = some q → w.heap.size ≤ q ∧ ¬ q = gv) ∧ Hid (gv < wr.heap.size ∧ RwR (.slice (some ⟨gv, 0, none⟩) n5 rc) rs wr) ∧ Hid (Below w.heap.size w wr)) (fun _ jv _ => n5 - (intOf jv).toNat)
              case atStart => exact ⟨0, rfl, Nat.zero_le _, by simpa [Hid] using H6.out.1, H6.out.2.1, H6.out.2.2.1, H6.out.2.2.2.1⟩
              case round =>
                obtain ⟨j, rfl, hj, hRj, hOj, hVj, hBj⟩ := hrel
                obtain ⟨oa, oc, hov9, _, _⟩ := Rw.form hRj.out
                obtain ⟨no, hno⟩ : ∃ no, no = (l6 ++ (rs.take j).map fun c => (byN c).toUInt8).length := ⟨_, rfl⟩
                rw [← hno] at hov9
                subst hov9
                have hlo : (l6 ++ (rs.take j).map fun c => (byN c).toUInt8).length ≤ 200100 := by
                  simp only [List.length_append, List.length_map, List.length_take]
                  have := H6.out.2.2.2.2.2
                  omega
                have HNo := hid_of' hno
                clear hno
                by_cases hjn : j < n5
                · have hjz : (j : Int) < (n5 : Int) := by omega
                  obtain ⟨ch, hch⟩ : ∃ ch, rs[j]? = some ch := ⟨_, List.getElem?_eq_getElem (by rw [← HRs.out.2]; exact hjn)⟩
                  have h9 := hVj.out.2
                  rw [HRs.out.2] at h9
                  obtain ⟨g9, c9, e9, _, _, hcell⟩ := RwR.at h9 (by rintro rfl; simp at hch)
                  have e8 : g9 = gv := by
                    have := e9
                    simp only [Value.slice.injEq, Option.some.injEq, Addr.mk.injEq] at this
                    exact this.1.1.symm
                  rw [e8] at hcell
                  have cc : wr.cell? ⟨gv, j, none⟩ = some (.int .i32 ch) := hcell j ch hch
                  have hokc : okC ch = true := by
                    have h8 := HVal.out.2
                    rw [← HRs.out.1] at h8
                    exact List.all_eq_true.1 h8 ch (List.mem_of_getElem? hch)
                  have HCh := hid_of' hch
                  have HI := hid_of' (And.intro hRj.out (And.intro hOj.out (And.intro hVj.out (And.intro hBj.out hlo))))
                  clear hcell h9 e9 e8 hch hRj hOj hVj hBj hlo
                  rcases okC_cases ch with ⟨_, hcs⟩ | ⟨ho, _⟩
                  · clear hokc
                    rcases hcs with ⟨ha, hb⟩ | rfl | rfl | rfl
                    · have hby : byN ch = (ch - 97).toNat := if_pos ⟨ha, by omega⟩
                      have n10 : ¬ ch = 10 := by omega
                      have n11 : ¬ ch = 233 := by omega
                      have n12 : ¬ ch = 19990 := by omega
                      have HM := hid_of' (show (byN ch).toUInt8 = ((ch - 97 : Int)).toNat.toUInt8 from by rw [hby])
                      go_upto_region 13 with (at_builtin; refine wpL_appBy (u := .slice (some ⟨wr.heap.size, 0, none⟩) 1 1) (m := [((ch - 97 : Int)).toNat.toUInt8]) rfl _ _ rfl rfl rfl (HI.out.1.later (below_one _ _)) (so_b1 (z := ch - 97) _ ⟨by omega, by omega⟩) (by have := HI.out.2.2.2.2; simp only [List.length_cons, List.length_nil]; omega) ?_; intro v8 w8 q1 q2 q3)
                      have bC := below_one wr (.cells #[.int .u8 (ch - 97)] 5)
                      have hB8 : Below w.heap.size w w8 := (bgo HI.out.2.2.2.1 bC).grown q2 (bgo HI.out.2.2.2.1 bC).size (fun q hq => (HI.out.2.1 q hq).1)
                      have hO8 : ∀ q, v8.ownBlock = some q → w.heap.size ≤ q ∧ ¬ q = gv := fun q hq => (q3 q hq).elim (fun e => HI.out.2.1 q e) (fun e => by
                        have h1 := HI.out.2.2.2.1.size
                        have h2 := HI.out.2.2.1.1
                        rw [World.size_alloc] at e
                        omega)
                      have hV8 : RwR (.slice (some ⟨gv, 0, none⟩) n5 rc) rs w8 := Rw.grow (HI.out.2.2.1.2.later bC) q2 (fun q hq e => (HI.out.2.1 q e).2 (Option.some.inj (show some gv = some q from hq)).symm)
                      have hgv8 : gv < w8.heap.size := Rw.lt hV8 gv rfl
                      have q4 : RwB v8 (l6 ++ (rs.take (j + 1)).map fun c => (byN c).toUInt8) w8 := by
                        rw [List.take_add_one, HCh.out, Option.toList_some, List.map_append, ← List.append_assoc, List.map_singleton, HM.out]
                        exact q1
                      have H8 := hid_of' (And.intro q4 (And.intro hO8 (And.intro (And.intro hgv8 hV8) hB8)))
                      clear q1 q2 q3 q4 hO8 hB8 hV8 hgv8 bC
                      go_wp2
                      exact ⟨⟨j + 1, by go_num, by omega, H8.out.1, H8.out.2.1, H8.out.2.2.1, H8.out.2.2.2⟩, by simp [intOf]; omega⟩
                    · have HM := hid_of' (show (byN 10).toUInt8 = ((208 : Int)).toNat.toUInt8 from rfl)
                      go_upto_region 13 with (at_builtin; refine wpL_appBy (u := .slice (some ⟨wr.heap.size, 0, none⟩) 1 1) (m := [((208 : Int)).toNat.toUInt8]) rfl _ _ rfl rfl rfl (HI.out.1.later (below_one _ _)) (so_b1 (z := 208) _ ⟨by omega, by omega⟩) (by have := HI.out.2.2.2.2; simp only [List.length_cons, List.length_nil]; omega) ?_; intro v8 w8 q1 q2 q3)
                      have bC := below_one wr (.cells #[.int .u8 (208)] 5)
                      have hB8 : Below w.heap.size w w8 := (bgo HI.out.2.2.2.1 bC).grown q2 (bgo HI.out.2.2.2.1 bC).size (fun q hq => (HI.out.2.1 q hq).1)
                      have hO8 : ∀ q, v8.ownBlock = some q → w.heap.size ≤ q ∧ ¬ q = gv := fun q hq => (q3 q hq).elim (fun e => HI.out.2.1 q e) (fun e => by
                        have h1 := HI.out.2.2.2.1.size
                        have h2 := HI.out.2.2.1.1
                        rw [World.size_alloc] at e
                        omega)
                      have hV8 : RwR (.slice (some ⟨gv, 0, none⟩) n5 rc) rs w8 := Rw.grow (HI.out.2.2.1.2.later bC) q2 (fun q hq e => (HI.out.2.1 q e).2 (Option.some.inj (show some gv = some q from hq)).symm)
                      have hgv8 : gv < w8.heap.size := Rw.lt hV8 gv rfl
                      have q4 : RwB v8 (l6 ++ (rs.take (j + 1)).map fun c => (byN c).toUInt8) w8 := by
                        rw [List.take_add_one, HCh.out, Option.toList_some, List.map_append, ← List.append_assoc, List.map_singleton, HM.out]
                        exact q1
                      have H8 := hid_of' (And.intro q4 (And.intro hO8 (And.intro (And.intro hgv8 hV8) hB8)))
                      clear q1 q2 q3 q4 hO8 hB8 hV8 hgv8 bC
                      go_wp2
                      exact ⟨⟨j + 1, by go_num, by omega, H8.out.1, H8.out.2.1, H8.out.2.2.1, H8.out.2.2.2⟩, by simp [intOf]; omega⟩
                    · have HM := hid_of' (show (byN 233).toUInt8 = ((224 : Int)).toNat.toUInt8 from rfl)
                      go_upto_region 13 with (at_builtin; refine wpL_appBy (u := .slice (some ⟨wr.heap.size, 0, none⟩) 1 1) (m := [((224 : Int)).toNat.toUInt8]) rfl _ _ rfl rfl rfl (HI.out.1.later (below_one _ _)) (so_b1 (z := 224) _ ⟨by omega, by omega⟩) (by have := HI.out.2.2.2.2; simp only [List.length_cons, List.length_nil]; omega) ?_; intro v8 w8 q1 q2 q3)
                      have bC := below_one wr (.cells #[.int .u8 (224)] 5)
                      have hB8 : Below w.heap.size w w8 := (bgo HI.out.2.2.2.1 bC).grown q2 (bgo HI.out.2.2.2.1 bC).size (fun q hq => (HI.out.2.1 q hq).1)
                      have hO8 : ∀ q, v8.ownBlock = some q → w.heap.size ≤ q ∧ ¬ q = gv := fun q hq => (q3 q hq).elim (fun e => HI.out.2.1 q e) (fun e => by
                        have h1 := HI.out.2.2.2.1.size
                        have h2 := HI.out.2.2.1.1
                        rw [World.size_alloc] at e
                        omega)
                      have hV8 : RwR (.slice (some ⟨gv, 0, none⟩) n5 rc) rs w8 := Rw.grow (HI.out.2.2.1.2.later bC) q2 (fun q hq e => (HI.out.2.1 q e).2 (Option.some.inj (show some gv = some q from hq)).symm)
                      have hgv8 : gv < w8.heap.size := Rw.lt hV8 gv rfl
                      have q4 : RwB v8 (l6 ++ (rs.take (j + 1)).map fun c => (byN c).toUInt8) w8 := by
                        rw [List.take_add_one, HCh.out, Option.toList_some, List.map_append, ← List.append_assoc, List.map_singleton, HM.out]
                        exact q1
                      have H8 := hid_of' (And.intro q4 (And.intro hO8 (And.intro (And.intro hgv8 hV8) hB8)))
                      clear q1 q2 q3 q4 hO8 hB8 hV8 hgv8 bC
                      go_wp2
                      exact ⟨⟨j + 1, by go_num, by omega, H8.out.1, H8.out.2.1, H8.out.2.2.1, H8.out.2.2.2⟩, by simp [intOf]; omega⟩
                    · have HM := hid_of' (show (byN 19990).toUInt8 = ((240 : Int)).toNat.toUInt8 from rfl)
                      go_upto_region 13 with (at_builtin; refine wpL_appBy (u := .slice (some ⟨wr.heap.size, 0, none⟩) 1 1) (m := [((240 : Int)).toNat.toUInt8]) rfl _ _ rfl rfl rfl (HI.out.1.later (below_one _ _)) (so_b1 (z := 240) _ ⟨by omega, by omega⟩) (by have := HI.out.2.2.2.2; simp only [List.length_cons, List.length_nil]; omega) ?_; intro v8 w8 q1 q2 q3)
                      have bC := below_one wr (.cells #[.int .u8 (240)] 5)
                      have hB8 : Below w.heap.size w w8 := (bgo HI.out.2.2.2.1 bC).grown q2 (bgo HI.out.2.2.2.1 bC).size (fun q hq => (HI.out.2.1 q hq).1)
                      have hO8 : ∀ q, v8.ownBlock = some q → w.heap.size ≤ q ∧ ¬ q = gv := fun q hq => (q3 q hq).elim (fun e => HI.out.2.1 q e) (fun e => by
                        have h1 := HI.out.2.2.2.1.size
                        have h2 := HI.out.2.2.1.1
                        rw [World.size_alloc] at e
                        omega)
                      have hV8 : RwR (.slice (some ⟨gv, 0, none⟩) n5 rc) rs w8 := Rw.grow (HI.out.2.2.1.2.later bC) q2 (fun q hq e => (HI.out.2.1 q e).2 (Option.some.inj (show some gv = some q from hq)).symm)
                      have hgv8 : gv < w8.heap.size := Rw.lt hV8 gv rfl
                      have q4 : RwB v8 (l6 ++ (rs.take (j + 1)).map fun c => (byN c).toUInt8) w8 := by
                        rw [List.take_add_one, HCh.out, Option.toList_some, List.map_append, ← List.append_assoc, List.map_singleton, HM.out]
                        exact q1
                      have H8 := hid_of' (And.intro q4 (And.intro hO8 (And.intro (And.intro hgv8 hV8) hB8)))
                      clear q1 q2 q3 q4 hO8 hB8 hV8 hgv8 bC
                      go_wp2
                      exact ⟨⟨j + 1, by go_num, by omega, H8.out.1, H8.out.2.1, H8.out.2.2.1, H8.out.2.2.2⟩, by simp [intOf]; omega⟩
                  · rw [hokc] at ho
                    cases ho
                · have hjz : ¬ (j : Int) < (n5 : Int) := by omega
                  have HI := hid_of' (And.intro hRj.out (And.intro hOj.out hBj.out))
                  clear hRj hOj hVj hBj
                  go_wp2
                  refine ⟨⟨k + 1, by go_num, by omega, ?_, fun q hq => (HI.out.2.1 q hq).1, HI.out.2.2⟩, by simp [intOf]; omega⟩
                  have e : wrL (l.take (k + 1)) = l6 ++ (rs.take j).map fun c => (byN c).toUInt8 := by
                    rw [show rs.take j = rs from List.take_of_length_le (by rw [← HRs.out.2]; omega), HTK.out.1, H6.out.2.2.2.2.1, H4.out.2.2.2.1]
                    unfold wrS wtC
                    rw [if_pos hT, ← HRs.out.1]
                    have e2 : ((n5 : Int)).toNat = rs.length := by rw [← HRs.out.2]; rfl
                    rw [e2]
                    simp only [List.append_assoc]
                    rfl
                  rw [e]
                  exact HI.out.1
          · exact absurd (HVal.out.1.symm.trans hbad) (by decide)
    · have hki : ¬ (k : Int) < (n : Int) := by omega
      have HR := hid_of' (And.intro hR (And.intro hO (And.intro hB hm)))
      clear hR hO hB hm
      go_wp2
      go_ret
      refine ⟨_, rfl, ?_, HR.out.2.1, HR.out.2.2.1⟩
      have := HR.out.1
      rwa [List.take_of_length_le (by rw [← HH.out.2.1]; omega)] at this
end Go.Proofs.YtphdkniplhkkfaaDoor
