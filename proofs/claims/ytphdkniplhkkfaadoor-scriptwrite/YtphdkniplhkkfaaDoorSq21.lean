
/-
  Package script: the document's Plain.
-/
import Derived.Test.YtphdkniplhkkfaaDoorSq20
namespace Go.Proofs.YtphdkniplhkkfaaDoor
open Go.RowKit Go.Extern.Stop Go.Stop Go.Extern
open Go.Lib (decodeL decodeN validD validD_step decodeL_N)
set_option maxRecDepth 100000

set_option maxHeartbeats 4000000 in
theorem refplain_is (k a b c : Int) (t : ByteArray) (ht : t.size ≤ 1000000) (w : World) : Calls Tryd.prog 11 #[.agg (stv k a b c t)] w fun e w' => e = .returned (.bool (pln ⟨k, a, b, c, t⟩)) ∧ Below w.heap.size w w' := by
  rw [pln_tOk]
  dsimp only
  have b1 := below_one w (.cells (stv k a b c t) 30)
  have rP : RowAt w.heap.size (stv k a b c t) 30 (w.alloc (.cells (stv k a b c t) 30)) := RowAt.new w _ _
  have HR := hid_of' (fun x => runes_is x t (by omega))
  have HRow := hid_of' rP
  unfold stv at b1 rP HRow ⊢
  have HB1 := hid_of' b1
  have H1 := hid_of' (fun x => small_at (k := a) rfl x)
  have H2 := hid_of' (fun x => small_at (k := b) rfl x)
  have H3 := hid_of' (fun x => small_at (k := c) rfl x)
  obtain ⟨X, hX⟩ : ∃ X, X = tOk k t := ⟨_, rfl⟩
  rw [← hX]
  have HX := hid_of' hX
  clear b1 hX rP
  have hkn : (knd k = false ∧ (k < 0 ∨ 14 ≤ k)) ∨ (knd k = true ∧ 0 ≤ k ∧ k < 14) := by
    unfold knd
    by_cases h : 0 ≤ k ∧ k < 14
    · exact .inr ⟨decide_eq_true h, h⟩
    · exact .inl ⟨decide_eq_false h, by omega⟩
  have H4 := hid_of' (fun x => texts_at (k := k) rfl x)
  rcases hkn with ⟨e0, hk | hk⟩ | ⟨e0, hk0, hk1⟩
  · rw [e0]
    clear e0
    go_enter Tryd.func11, Tryd.ntmps11
    go_wp2_with (first
        | (go_at_call 25; (first | (with_reducible refine (H1.out _).mono ?_) | (with_reducible refine (H2.out _).mono ?_) | (with_reducible refine (H3.out _).mono ?_)); rintro e wx ⟨rfl, hwx⟩; rw [hwx]; clear hwx)
        | (go_at_call 19; with_reducible refine (H4.out _).mono ?_; rintro e wx ⟨rfl, hwx⟩; rw [hwx]; clear hwx))
    go_ret
    exact ⟨rfl, HB1.out⟩
  · rw [e0]
    have hk2 : ¬ k < 0 := by omega
    clear e0
    go_enter Tryd.func11, Tryd.ntmps11
    go_wp2_with (first
        | (go_at_call 25; (first | (with_reducible refine (H1.out _).mono ?_) | (with_reducible refine (H2.out _).mono ?_) | (with_reducible refine (H3.out _).mono ?_)); rintro e wx ⟨rfl, hwx⟩; rw [hwx]; clear hwx)
        | (go_at_call 19; with_reducible refine (H4.out _).mono ?_; rintro e wx ⟨rfl, hwx⟩; rw [hwx]; clear hwx))
    go_ret
    exact ⟨rfl, HB1.out⟩
  · rw [e0, Bool.true_and]
    have hk2 : ¬ k < 0 := by omega
    have hk3 : ¬ 14 ≤ k := by omega
    clear e0
    cases e1 : byt a
    · rw [e1] at H1
      clear e1
      go_enter Tryd.func11, Tryd.ntmps11
      go_wp2_with (first
          | (go_at_call 25; (first | (with_reducible refine (H1.out _).mono ?_) | (with_reducible refine (H2.out _).mono ?_) | (with_reducible refine (H3.out _).mono ?_)); rintro e wx ⟨rfl, hwx⟩; rw [hwx]; clear hwx)
          | (go_at_call 19; with_reducible refine (H4.out _).mono ?_; rintro e wx ⟨rfl, hwx⟩; rw [hwx]; clear hwx))
      go_ret
      exact ⟨rfl, HB1.out⟩
    · rw [e1] at H1
      clear e1
      cases e2 : byt b
      · rw [e2] at H2
        clear e2
        go_enter Tryd.func11, Tryd.ntmps11
        go_wp2_with (first
            | (go_at_call 25; (first | (with_reducible refine (H1.out _).mono ?_) | (with_reducible refine (H2.out _).mono ?_) | (with_reducible refine (H3.out _).mono ?_)); rintro e wx ⟨rfl, hwx⟩; rw [hwx]; clear hwx)
            | (go_at_call 19; with_reducible refine (H4.out _).mono ?_; rintro e wx ⟨rfl, hwx⟩; rw [hwx]; clear hwx))
        go_ret
        exact ⟨rfl, HB1.out⟩
      · rw [e2] at H2
        clear e2
        cases e3 : byt c
        · rw [e3] at H3
          clear e3
          go_enter Tryd.func11, Tryd.ntmps11
          go_wp2_with (first
              | (go_at_call 25; (first | (with_reducible refine (H1.out _).mono ?_) | (with_reducible refine (H2.out _).mono ?_) | (with_reducible refine (H3.out _).mono ?_)); rintro e wx ⟨rfl, hwx⟩; rw [hwx]; clear hwx)
              | (go_at_call 19; with_reducible refine (H4.out _).mono ?_; rintro e wx ⟨rfl, hwx⟩; rw [hwx]; clear hwx))
          go_ret
          exact ⟨rfl, HB1.out⟩
        · rw [e3] at H3
          clear e3
          rw [Bool.true_and, Bool.true_and, Bool.true_and]
          go_enter Tryd.func11, Tryd.ntmps11
          go_upto_region 3 with (first
              | (go_at_call 25; (first | (with_reducible refine (H1.out _).mono ?_) | (with_reducible refine (H2.out _).mono ?_) | (with_reducible refine (H3.out _).mono ?_)); rintro e wx ⟨rfl, hwx⟩; rw [hwx]; clear hwx)
              | (go_at_call 19; with_reducible refine (H4.out _).mono ?_; rintro e wx ⟨rfl, hwx⟩; rw [hwx]; clear hwx))
          obtain ⟨P, hP⟩ : ∃ P, P = w.heap.size := ⟨_, rfl⟩
          rw [← hP] at HRow ⊢
          generalize w.alloc (.cells #[.int .i64 k, .int .i64 a, .int .i64 b, .int .i64 c, .string t] 30) = w1 at HRow HB1 ⊢
          have cT : w1.cell? ⟨P, 4, none⟩ = some (.string t) := RowAt.is HRow.out rfl
          clear hP
          go_upto_region 4 with (go_at_call 20; refine (HR.out _).mono ?_; rintro e w2 ⟨hor, hb2⟩; rcases hor with ⟨v, hv, rfl, hrv, hov⟩ | ⟨hv, rfl⟩)
          · have cK : w2.cell? ⟨P, 0, none⟩ = some (.int .i64 k) := RowAt.is (RowAt.later HRow.out hb2) rfl
            have hbw := bgo HB1.out hb2
            obtain ⟨va, vc, rfl, hvc, _⟩ := Rw.form hrv
            obtain ⟨rs, hrs⟩ : ∃ rs, rs = rn t.data.toList := ⟨_, rfl⟩
            rw [← hrs] at hrv hvc ⊢
            obtain ⟨n, hn⟩ : ∃ n, n = rs.length := ⟨_, rfl⟩
            rw [← hn] at hrv hvc ⊢
            have HV := hid_of' (And.intro hrv (And.intro hrs (And.intro hn (And.intro hbw hv))))
            clear hrv hrs hn hbw hv hb2 hov cT
            by_cases h15 : 15 < n
            · have h15z : (15 : Int) < (n : Int) := by omega
              have eX : X = false := by rw [HX.out]; exact tOk_long (by rw [← HV.out.2.1, ← HV.out.2.2.1]; exact h15)
              subst eX
              go_wp2_with (first
                    | (go_at_call 25; (first | (with_reducible refine (H1.out _).mono ?_) | (with_reducible refine (H2.out _).mono ?_) | (with_reducible refine (H3.out _).mono ?_)); rintro e wx ⟨rfl, hwx⟩; rw [hwx]; clear hwx)
                    | (go_at_call 19; with_reducible refine (H4.out _).mono ?_; rintro e wx ⟨rfl, hwx⟩; rw [hwx]; clear hwx))
              go_ret
              exact ⟨rfl, HV.out.2.2.2.1⟩
            · have h15z : ¬ (15 : Int) < (n : Int) := by omega
              by_cases hn0 : n = 0
              · subst hn0
                have eX : X = true := by
                  rw [HX.out]
                  refine tOk_none ?_
                  rw [← HV.out.2.1]
                  exact List.eq_nil_of_length_eq_zero HV.out.2.2.1.symm
                subst eX
                go_wp2_with (first
                    | (go_at_call 25; (first | (with_reducible refine (H1.out _).mono ?_) | (with_reducible refine (H2.out _).mono ?_) | (with_reducible refine (H3.out _).mono ?_)); rintro e wx ⟨rfl, hwx⟩; rw [hwx]; clear hwx)
                    | (go_at_call 19; with_reducible refine (H4.out _).mono ?_; rintro e wx ⟨rfl, hwx⟩; rw [hwx]; clear hwx))
                refine wp_loop_rounds 1 ?_
                rw [rounds_succ]
                go_wp2
                go_ret
                exact ⟨rfl, HV.out.2.2.2.1⟩
              · have hn0z : (0 : Int) < (n : Int) := by omega
                have hne : rn t.data.toList ≠ [] := by
                  rw [← HV.out.2.1]
                  intro e
                  rw [e] at HV
                  exact hn0 HV.out.2.2.1
                cases e4 : hasT k
                · have eX : X = false := by rw [HX.out]; exact tOk_no e4 hne
                  subst eX
                  rw [e4] at H4
                  clear e4
                  go_wp2_with (first
                    | (go_at_call 25; (first | (with_reducible refine (H1.out _).mono ?_) | (with_reducible refine (H2.out _).mono ?_) | (with_reducible refine (H3.out _).mono ?_)); rintro e wx ⟨rfl, hwx⟩; rw [hwx]; clear hwx)
                    | (go_at_call 19; with_reducible refine (H4.out _).mono ?_; rintro e wx ⟨rfl, hwx⟩; rw [hwx]; clear hwx))
                  go_ret
                  exact ⟨rfl, HV.out.2.2.2.1⟩
                · have eX : X = rs.all okC := by rw [HX.out, HV.out.2.1]; exact tOk_some e4 (by rw [← HV.out.2.1, ← HV.out.2.2.1]; omega)
                  rw [e4] at H4
                  clear e4
                  have HA := hid_of' eX
                  clear eX
                  go_upto_region 7 with (first
                    | (go_at_call 25; (first | (with_reducible refine (H1.out _).mono ?_) | (with_reducible refine (H2.out _).mono ?_) | (with_reducible refine (H3.out _).mono ?_)); rintro e wx ⟨rfl, hwx⟩; rw [hwx]; clear hwx)
                    | (go_at_call 19; with_reducible refine (H4.out _).mono ?_; rintro e wx ⟨rfl, hwx⟩; rw [hwx]; clear hwx))
                  go_loopw [5] (fun jv wr => ∃ j : Nat, jv = .int .i64 (j : Int) ∧ j ≤ n ∧ Hid ((rs.take j).all okC = true) ∧ wr = w2) (fun jv _ => n - (intOf jv).toNat)
                  case atStart => exact ⟨0, rfl, Nat.zero_le _, rfl, rfl⟩
                  case round =>
                    obtain ⟨j, rfl, hj, hall, rfl⟩ := hrel
                    by_cases hjn : j < n
                    · have hjz : (j : Int) < (n : Int) := by omega
                      obtain ⟨ch, hch⟩ : ∃ ch, rs[j]? = some ch := ⟨_, List.getElem?_eq_getElem (by rw [← HV.out.2.2.1]; exact hjn)⟩
                      have hrv := HV.out.1
                      rw [HV.out.2.2.1] at hrv
                      obtain ⟨g, vc2, hv2, _, _, hcell⟩ := RwR.at hrv (by rintro rfl; simp at hch)
                      cases hv2
                      have cc : wr.cell? ⟨g, j, none⟩ = some (.int .i32 ch) := hcell j ch hch
                      clear hcell hrv
                      rcases okC_cases ch with ⟨ho, hcs⟩ | ⟨ho, hc1, hc2, hc3, hc4⟩
                      · have ht2 : (rs.take (j + 1)).all okC = true := by
                          rw [List.take_add_one, hch, Option.toList_some, List.all_append, hall.out]
                          simp [ho]
                        have HT2 := hid_of' ht2
                        clear ht2 ho hall hch
                        rcases hcs with ⟨ha, hb⟩ | rfl | rfl | rfl
                        · go_wp2
                          all_goals exact ⟨⟨j + 1, by go_num, by omega, HT2.out, trivial⟩, by simp [intOf]; omega⟩
                        · go_wp2
                          all_goals exact ⟨⟨j + 1, by go_num, by omega, HT2.out, trivial⟩, by simp [intOf]; omega⟩
                        · go_wp2
                          all_goals exact ⟨⟨j + 1, by go_num, by omega, HT2.out, trivial⟩, by simp [intOf]; omega⟩
                        · go_wp2
                          all_goals exact ⟨⟨j + 1, by go_num, by omega, HT2.out, trivial⟩, by simp [intOf]; omega⟩
                      · have eX : X = false := by
                          rw [HA.out]
                          cases hq : rs.all okC
                          · rfl
                          · have := List.all_eq_true.1 hq ch (List.mem_of_getElem? hch)
                            rw [ho] at this
                            cases this
                        subst eX
                        have e10 : (ch == 10) = false := by simpa using hc2
                        have e11 : (ch == 233) = false := by simpa using hc3
                        have e12 : (ch == 19990) = false := by simpa using hc4
                        clear ho hall hch hc2 hc3 hc4
                        by_cases hlo : 97 ≤ ch
                        · have hhi : ¬ ch ≤ 122 := by omega
                          clear hc1
                          go_wp2
                          go_ret
                          exact ⟨rfl, HV.out.2.2.2.1⟩
                        · clear hc1
                          go_wp2
                          go_ret
                          exact ⟨rfl, HV.out.2.2.2.1⟩
                    · have hjz : ¬ (j : Int) < (n : Int) := by omega
                      have eX : X = true := by
                        rw [HA.out, ← hall.out, List.take_of_length_le (by rw [← HV.out.2.2.1]; omega)]
                      subst eX
                      go_wp2
                      go_ret
                      exact ⟨rfl, HV.out.2.2.2.1⟩
          · have eX : X = false := by rw [HX.out]; exact tOk_bad hv
            have hbw := bgo HB1.out hb2
            subst eX
            go_wp2_with (first
                    | (go_at_call 25; (first | (with_reducible refine (H1.out _).mono ?_) | (with_reducible refine (H2.out _).mono ?_) | (with_reducible refine (H3.out _).mono ?_)); rintro e wx ⟨rfl, hwx⟩; rw [hwx]; clear hwx)
                    | (go_at_call 19; with_reducible refine (H4.out _).mono ?_; rintro e wx ⟨rfl, hwx⟩; rw [hwx]; clear hwx))
            go_ret
            exact ⟨rfl, hbw⟩
end Go.Proofs.YtphdkniplhkkfaaDoor
