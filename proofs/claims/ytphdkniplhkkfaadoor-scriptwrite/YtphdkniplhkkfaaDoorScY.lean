
/-
  Package script: the document's Text; Text of both of any step.
-/
import Derived.Test.YtphdkniplhkkfaaDoorScX
import Derived.Test.YtphdkniplhkkfaaDoorScDg
import Derived.Test.YtphdkniplhkkfaaDoorSq21
namespace Go.Proofs.YtphdkniplhkkfaaDoor
open Go.RowKit Go.Extern.Stop Go.Stop Go.Extern
open Go.Lib (itoa)
set_option maxRecDepth 100000

theorem dig_is (n : Int) (h0 : 0 ≤ n) (h1 : n ≤ 100000) (w : World) :
    Calls Tryd.prog 30 #[.int .i64 n] w fun e w' => e = .returned (.string (itB n)) ∧ Below w.heap.size w w' := digits_any n ⟨by omega, by omega⟩ w
theorem join4 (s a b c d : ByteArray) : ((((((a ++ s) ++ b) ++ s) ++ c) ++ s) ++ d) = ⟨(joinB s [a, b, c, d]).toArray⟩ := by
  refine by_ext ?_
  simp [joinB]
theorem join5 (s a b c d e : ByteArray) : ((((((((a ++ s) ++ b) ++ s) ++ c) ++ s) ++ d) ++ s) ++ e) = ⟨(joinB s ([a, b, c, d] ++ [e])).toArray⟩ := by
  refine by_ext ?_
  simp [joinB]
set_option maxHeartbeats 4000000 in
theorem text_no {w : World} {k a b c : Int} {t : ByteArray} (hp : pln ⟨k, a, b, c, t⟩ = false) (ht : t.size ≤ 1000000) :
    Calls Tryd.prog 12 #[.agg (stv k a b c t)] w fun e w' => e = .returned (.string (textB ⟨k, a, b, c, t⟩)) ∧ Below w.heap.size w w' := by
  have HTx : Hid (textB ⟨k, a, b, c, t⟩ = .empty) := if_neg (by rw [hp]; decide)
  have rP : RowAt w.heap.size (stv k a b c t) 30 (w.alloc (.cells (stv k a b c t) 30)) := RowAt.new w _ _
  have bP := below_one w (.cells (stv k a b c t) 30)
  go_enter Tryd.func12, Tryd.ntmps12
  go_upto_region 1 with fail
  obtain ⟨P, hP⟩ : ∃ P, P = w.heap.size := ⟨_, rfl⟩
  rw [← hP] at rP ⊢
  generalize w.alloc (.cells (stv k a b c t) 30) = w1 at rP bP ⊢
  have HPl := hid_of' (plain_is k a b c t (by omega) w1)
  rw [hp] at HPl
  have HP := hid_of' (And.intro rP (And.intro bP hP))
  clear rP bP hP
  go_wp2_with (first | (refine wpL_ldT rfl _ rfl rfl HP.out.1.in ?_) | (go_at_call 10; refine HPl.out.mono ?_; rintro e W0 ⟨rfl, hb3⟩))
  go_ret
  exact ⟨by rw [HTx.out]; rfl, bgo HP.out.2.1 hb3⟩
theorem text_is {w : World} {k a b c : Int} {t : ByteArray} (ht : t.size ≤ 1000000) (hTab : TabOk w) :
    Calls Tryd.prog 12 #[.agg (stv k a b c t)] w fun e w' => e = .returned (.string (textB ⟨k, a, b, c, t⟩)) ∧ Below w.heap.size w w' := by
  cases hp : pln ⟨k, a, b, c, t⟩
  · exact text_no hp ht
  · exact text_pl hp ht hTab
set_option maxHeartbeats 4000000 in
theorem reftext_no {w : World} {k a b c : Int} {t : ByteArray} (hp : pln ⟨k, a, b, c, t⟩ = false) (ht : t.size ≤ 1000000) :
    Calls Tryd.prog 13 #[.agg (stv k a b c t)] w fun e w' => e = .returned (.string (textB ⟨k, a, b, c, t⟩)) ∧ Below w.heap.size w w' := by
  have HTx : Hid (textB ⟨k, a, b, c, t⟩ = .empty) := if_neg (by rw [hp]; decide)
  have rP : RowAt w.heap.size (stv k a b c t) 30 (w.alloc (.cells (stv k a b c t) 30)) := RowAt.new w _ _
  have bP := below_one w (.cells (stv k a b c t) 30)
  go_enter Tryd.func13, Tryd.ntmps13
  go_upto_region 1 with fail
  obtain ⟨P, hP⟩ : ∃ P, P = w.heap.size := ⟨_, rfl⟩
  rw [← hP] at rP ⊢
  generalize w.alloc (.cells (stv k a b c t) 30) = w1 at rP bP ⊢
  have HPl := hid_of' (refplain_is k a b c t (by omega) w1)
  rw [hp] at HPl
  have HP := hid_of' (And.intro rP (And.intro bP hP))
  clear rP bP hP
  go_wp2_with (first | (refine wpL_ldT rfl _ rfl rfl HP.out.1.in ?_) | (go_at_call 11; refine HPl.out.mono ?_; rintro e W0 ⟨rfl, hb3⟩))
  go_ret
  exact ⟨by rw [HTx.out]; rfl, bgo HP.out.2.1 hb3⟩
set_option maxHeartbeats 4000000 in
theorem reftext_pl {w : World} {k a b c : Int} {t : ByteArray} (hp : pln ⟨k, a, b, c, t⟩ = true) (ht : t.size ≤ 1000000) :
    Calls Tryd.prog 13 #[.agg (stv k a b c t)] w fun e w' => e = .returned (.string (textB ⟨k, a, b, c, t⟩)) ∧ Below w.heap.size w w' := by
  obtain ⟨hk, ha, hb, hc, hT0⟩ := pln_is hp
  dsimp only at hk ha hb hc hT0
  obtain ⟨k0, k1⟩ := hk
  obtain ⟨a0, a1⟩ := ha
  obtain ⟨b0, b1⟩ := hb
  obtain ⟨c0, c1⟩ := hc
  have rP : RowAt w.heap.size (stv k a b c t) 30 (w.alloc (.cells (stv k a b c t) 30)) := RowAt.new w _ _
  have bP := below_one w (.cells (stv k a b c t) 30)
  have HT0 := hid_of' hT0
  have HTx : Hid (textB ⟨k, a, b, c, t⟩ = ⟨(joinB spB (wordsB ⟨k, a, b, c, t⟩)).toArray⟩) := if_pos hp
  clear hT0
  go_enter Tryd.func13, Tryd.ntmps13
  go_upto_region 1 with fail
  obtain ⟨P, hP⟩ : ∃ P, P = w.heap.size := ⟨_, rfl⟩
  rw [← hP] at rP ⊢
  generalize w.alloc (.cells (stv k a b c t) 30) = w1 at rP bP ⊢
  have HPl := hid_of' (refplain_is k a b c t (by omega) w1)
  rw [hp] at HPl
  have HP := hid_of' (And.intro rP (And.intro bP hP))
  clear rP bP hP
  go_upto_region 3 with (first | (refine wpL_ldT rfl _ rfl rfl HP.out.1.in ?_) | (go_at_call 11; refine HPl.out.mono ?_; rintro e W0 ⟨rfl, hb3⟩))
  have r0 := HP.out.1.later hb3
  have hB := bgo HP.out.2.1 hb3
  unfold stv at r0
  have m0 := fun s : Wld W0 => RowAt.cls r0 0 (.int .i64 k) rfl s
  have m1 := fun s : Wld W0 => RowAt.cls r0 1 (.int .i64 a) rfl s
  have m2 := fun s : Wld W0 => RowAt.cls r0 2 (.int .i64 b) rfl s
  have m3 := fun s : Wld W0 => RowAt.cls r0 3 (.int .i64 c) rfl s
  have HN := hid_of' (fun x => refname_is k x)
  have HA := hid_of' (fun (x : World) => dig_is a a0 (by omega) x)
  have HBb := hid_of' (fun (x : World) => dig_is b b0 (by omega) x)
  have HC := hid_of' (fun (x : World) => dig_is c c0 (by omega) x)
  have sk := nameB_size k
  have sa := itB_size a a0 (by omega)
  have sb := itB_size b b0 (by omega)
  have sc := itB_size c c0 (by omega)
  have HW : Hid (wordsB ⟨k, a, b, c, t⟩ = [nameB k, itB a, itB b, itB c] ++ (if hasT k then [itB ((rn t.data.toList).length : Int)] else [])) := rfl
  generalize hn : nameB k = sN at HN sk HW
  generalize hia : itB a = sA at HA sa HW
  generalize hib : itB b = sB at HBb sb HW
  generalize hic : itB c = sC at HC sc HW
  clear hn hia hib hic hb3 HPl
  have HR0 := hid_of' r0
  clear r0
  have r0 := HR0.out
  go_upto_region 3 with fail
  refine wp_region_cls (by kernel_rfl) (by kernel_rfl) ?_
  repeat (first | go_big_quiet_skip | (go_big_quiet_want; first | (go_big_quiet_op; first | go_big_quiet_on | go_big_quiet_call ((first | (go_at_call 29; exact cls_of (HN.out _)) | (go_at_call 30; first | (with_reducible exact cls_of (HA.out _)) | (with_reducible exact cls_of (HBb.out _)) | (with_reducible exact cls_of (HC.out _))))))))
  refine wpQuiet_nil ?_
  rintro w1 ⟨s1, e1⟩
  have hb1 := wOf_below s1
  rw [← e1] at hb1
  clear e1 s1
  replace r0 := r0.later hb1
  replace hB := bgo hB hb1
  clear hb1
  obtain ⟨S, hS⟩ : ∃ S : ByteArray, S = sN ++ (⟨#[32]⟩ : ByteArray) ++ sA ++ (⟨#[32]⟩ : ByteArray) ++ sB ++ (⟨#[32]⟩ : ByteArray) ++ sC := ⟨_, rfl⟩
  rw [← hS]
  have hSz : S.size ≤ 200 := by
    rw [hS]
    simp only [ByteArray.size_append]
    show sN.size + 1 + sA.size + 1 + sB.size + 1 + sC.size ≤ 200
    omega
  have hSj : S = ⟨(joinB spB [sN, sA, sB, sC]).toArray⟩ := by rw [hS]; exact join4 spB sN sA sB sC
  have HS := hid_of' (And.intro hS hSj)
  have ck : w1.cell? ⟨P, 0, none⟩ = some (.int .i64 k) := r0.is rfl
  have cT : w1.cell? ⟨P, 4, none⟩ = some (.string t) := r0.is rfl
  have HBw := hid_of' hB
  clear hS hSj sk sa sb sc hB r0
  cases hT : hasT k
  · have HT := hid_of' (fun x => texts_at hT x)
    rw [hT, if_neg (by decide), List.append_nil] at HW
    go_wp2_with (go_at_call 19; with_reducible refine (HT.out _).mono ?_; rintro e wx ⟨rfl, hwx⟩; rw [hwx]; clear hwx)
    go_ret
    refine ⟨?_, HBw.out⟩
    rw [HTx.out, HW.out, ← HS.out.2]
    rfl
  · have HT := hid_of' (fun x => texts_at hT x)
    rw [hT, if_pos rfl] at HT0 HW
    have hval := plT_valid HT0.out
    have hr15 : (rn t.data.toList).length ≤ 15 := by
      have := HT0.out
      unfold plT at this
      simp only [Bool.and_eq_true, decide_eq_true_eq] at this
      exact this.1
    have HRu := hid_of' (fun x => runes_is x t (by omega))
    have HVal := hid_of' hval
    clear hval
    go_upto_region 6 with (first
      | (go_at_call 19; with_reducible refine (HT.out _).mono ?_; rintro e wx ⟨rfl, hwx⟩; rw [hwx]; clear hwx)
      | (go_at_call 20; refine (HRu.out _).mono ?_; rintro e w5 ⟨hor, hb5⟩; rcases hor with ⟨vr, _, rfl, hvr, hov⟩ | ⟨hbad, rfl⟩))
    · obtain ⟨ra, rc, hvv, _, _⟩ := Rw.form hvr
      obtain ⟨nR, hnR⟩ : ∃ nR, nR = (rn t.data.toList).length := ⟨_, rfl⟩
      rw [← hnR] at hvv hr15 HW
      subst hvv
      have HD := hid_of' (fun (x : World) => dig_is (nR : Int) (by omega) (by omega) x)
      have sR := itB_size (nR : Int) (by omega) (by omega)
      generalize hiR : itB (nR : Int) = sR9 at HD sR HW
      have HB5 := hid_of' (bgo HBw.out hb5)
      clear hnR hvr hov hb5 hiR ck cT
      go_wp2_with (go_at_call 30; refine (HD.out _).mono ?_; rintro e w6 ⟨rfl, hb6⟩)
      go_ret
      refine ⟨?_, bgo HB5.out hb6⟩
      rw [HTx.out, HW.out, ← join5 spB sN sA sB sC sR9]
      have := HS.out.1
      show Ending.returned (Value.string (S ++ (⟨#[32]⟩ : ByteArray) ++ sR9)) = _
      rw [this]
      rfl
    · exact absurd (HVal.out.symm.trans hbad) (by decide)
theorem reftext_is {w : World} {k a b c : Int} {t : ByteArray} (ht : t.size ≤ 1000000) :
    Calls Tryd.prog 13 #[.agg (stv k a b c t)] w fun e w' => e = .returned (.string (textB ⟨k, a, b, c, t⟩)) ∧ Below w.heap.size w w' := by
  cases hp : pln ⟨k, a, b, c, t⟩
  · exact reftext_no hp ht
  · exact reftext_pl hp ht
end Go.Proofs.YtphdkniplhkkfaaDoor
