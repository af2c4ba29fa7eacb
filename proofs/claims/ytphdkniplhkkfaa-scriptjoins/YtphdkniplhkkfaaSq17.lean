
/-
  barrowlaw18.ScriptBack holds of any steps.
-/
import Derived.Test.YtphdkniplhkkfaaSq16
namespace Go.Proofs.Ytphdkniplhkkfaa
open Go.RowKit Go.Extern.Stop Go.Stop Go.Extern
set_option maxRecDepth 100000

theorem RwB.slc {v : Value} {bs : List UInt8} {w : World} (h : RwB v bs w) : SlC w v bs := by
  obtain ⟨a, c, hv, hle, _⟩ := Rw.form h
  exact ⟨h.sl, a, c, hv, hle⟩
theorem wrL_small {L : List Stp} (h : L.length ≤ 400) : (wrL L).length ≤ 8000 := by
  have := wrL_len L
  omega
set_option maxHeartbeats 8000000 in
theorem scriptBack_all {w : World} {v : Value} {l : List Stp} (h : SlT w v l) (hz : ∀ e ∈ l, e.t.size ≤ maxLen) :
    Calls Try.prog 4 #[v] w fun e w' => e = .returned (.bool true) ∧ Below w.heap.size w w' := by
  have HC := hid_of' (cut_ok h hz)
  have hLn := cutL_len l
  have hLs := cutL_small l
  generalize cutL l = L at HC hLn hLs
  have HK := hid_of' (fun x => wakes_is x)
  clear h hz
  go_enter Try.func4, Try.ntmps4
  go_upto_region 2 with (go_at_call 14; refine HC.out.mono ?_; rintro e w1 ⟨u, rfl, hu, hou, hb1⟩)
  obtain ⟨ua, uc, huv, _⟩ := Rw.form hu
  obtain ⟨n, hn⟩ : ∃ n, n = L.length := ⟨_, rfl⟩
  rw [← hn] at huv
  have hnn : n ≤ 200 := by omega
  subst huv
  have HU := hid_of' (And.intro hu (And.intro hou (And.intro hb1 (And.intro hn (And.intro hLn hLs)))))
  clear hu hou hb1 hn hLn hLs HC
  go_upto_region 4 with fail
  go_loopw [3, 4] (fun pv iv wr => ∃ k : Nat, iv = .int .i64 (k : Int) ∧ k ≤ n ∧ RwT pv ((L.take k).filter pln) wr ∧ (∀ q, pv.ownBlock = some q → w1.heap.size ≤ q) ∧ Below w1.heap.size w1 wr) (fun _ iv _ => n - (intOf iv).toNat)
  case atStart => exact ⟨0, rfl, Nat.zero_le _, RwT.nil _, (fun q hq => by cases hq), Below.refl _ _⟩
  case round =>
    obtain ⟨k, rfl, hk, hR, hO, hB⟩ := hrel
    obtain ⟨pa, pc, hpv, _, _⟩ := Rw.form hR
    have hpl : ((L.take k).filter pln).length ≤ 200 := by
      have h1 := List.length_filter_le pln (L.take k)
      rw [List.length_take] at h1
      omega
    obtain ⟨m, hm⟩ : ∃ m, m = ((L.take k).filter pln).length := ⟨_, rfl⟩
    rw [← hm] at hpv
    subst hpv
    by_cases hkn : k < n
    · have hki : (k : Int) < (n : Int) := by omega
      obtain ⟨e, he⟩ : ∃ e, L[k]? = some e := ⟨_, List.getElem?_eq_getElem (by rw [← HU.out.2.2.2.1]; exact hkn)⟩
      obtain ⟨g, o, rfl, hg, hcs⟩ := ((RwT.sl HU.out.1).later hB).at he
      have hes := HU.out.2.2.2.2.2 e (List.mem_of_getElem? he)
      have htk : (L.take (k + 1)).filter pln = (L.take k).filter pln ++ (if pln e then [e] else []) := by
        rw [List.take_add_one, he, Option.toList_some, List.filter_append, List.filter_cons, List.filter_nil]
      obtain ⟨sk, sa, sb, sc, st⟩ := e
      unfold stE at hcs
      dsimp only at hcs hes
      have HPl := hid_of' (plain_is sk sa sb sc st (by omega) wr)
      have HR := hid_of' (And.intro hR (And.intro hO (And.intro hB (And.intro hpl htk))))
      clear hR hO hB hm htk he hpl
      cases hp : pln ⟨sk, sa, sb, sc, st⟩
      · rw [hp] at HPl
        have htk := HR.out.2.2.2.2
        rw [hp, if_neg (by decide), List.append_nil] at htk
        have HTK := hid_of' htk
        clear htk
        go_wp2_with (first | (refine wpL_ldT rfl _ rfl rfl hcs ?_) | (go_at_call 15; refine HPl.out.mono ?_; rintro e w3 ⟨rfl, hb3⟩; have hbw := bgo HR.out.2.2.1 hb3; have hrw := HR.out.1.later hb3))
        refine ⟨⟨k + 1, by go_num, by omega, ?_, HR.out.2.1, hbw⟩, by simp [intOf]; omega⟩
        rw [HTK.out]
        exact hrw
      · rw [hp] at HPl
        have htk := HR.out.2.2.2.2
        rw [hp, if_pos rfl] at htk
        have HTK := hid_of' htk
        clear htk
        go_upto_region 5 with (first | (refine wpL_ldT rfl _ rfl rfl hcs ?_) | (go_at_call 15; refine HPl.out.mono ?_; rintro e w3 ⟨rfl, hb3⟩; have hbw := bgo HR.out.2.2.1 hb3; have hrw := HR.out.1.later hb3; have hcs3 := hcs.later hb3) | (refine wpL_ldT rfl _ rfl rfl hcs3 ?_; unfold stv) | (at_builtin; refine wpL_appT (m := [⟨sk, sa, sb, sc, st⟩]) rfl _ _ rfl rfl rfl (hrw.later (below_one _ _)) (so_t _ _ _ _ _ _) (by have := HR.out.2.2.2.1; simp only [List.length_cons, List.length_nil]; omega) ?_; intro u6 w6 q1 q2 q3))
        have hwb := bgo hbw (below_one w3 (.cells #[.int .i64 sk, .int .i64 sa, .int .i64 sb, .int .i64 sc, .string st] 29))
        have HQ := hid_of' (And.intro q1 (And.intro (fun g hg => (q3 g hg).elim (fun h => HR.out.2.1 g h) (fun h => Nat.le_trans hwb.size h)) (hwb.grown q2 hwb.size (fun g hg => HR.out.2.1 g hg))))
        clear q1 q2 q3 hwb hcs3 hbw hrw hb3 hcs
        go_wp2
        refine ⟨⟨k + 1, by go_num, by omega, ?_, HQ.out.2.1, HQ.out.2.2⟩, by simp [intOf]; omega⟩
        rw [HTK.out]
        exact HQ.out.1
    · have hki : ¬ (k : Int) < (n : Int) := by omega
      have ek : (L.take k).filter pln = L.filter pln := by rw [List.take_of_length_le (by rw [← HU.out.2.2.2.1]; omega)]
      rw [ek] at hR
      have hfl : (L.filter pln).length ≤ 1000000 := by
        have h1 := List.length_filter_le pln L
        have h2 := HU.out.2.2.2.2.1
        omega
      have HR := hid_of' (And.intro hR (And.intro hO hB))
      clear hR hO hB hm ek hpl
      have HW := hid_of' (write_ok ((RwT.sl HU.out.1).later HR.out.2.2) (by have := HU.out.2.2.2.2.1; omega) (fun e he => by have := HU.out.2.2.2.2.2 e he; omega))
      go_wp2_with (first
        | (go_at_call 16; refine HW.out.mono ?_; rintro e w2 ⟨vb, rfl, rb, ob, b2⟩; have HRd := hid_of' (read_ok rb.slc (by have := wrL_small (L := L) (by have := HU.out.2.2.2.2.1; omega); omega)))
        | (go_at_call 9; refine HRd.out.mono ?_; rintro e w3 ⟨vc, rfl, rc, oc, b3⟩; have rc' : RwT vc (L.filter pln) w3 := (by rw [← rd_wr]; exact rc); have HS := hid_of' (keepSteps_same rc'.sl (((RwT.sl HR.out.1).later b2).later b3) hfl))
        | (go_at_call 11; refine HS.out.mono ?_; rintro e w4 ⟨rfl, b4⟩)
        | (go_at_call 13; with_reducible refine (HK.out _).mono ?_; rintro e w5 ⟨rfl, b5⟩))
      go_ret
      refine ⟨rfl, ?_⟩
      have c1 := bgo HU.out.2.2.1 HR.out.2.2
      exact bgo (bgo (bgo (bgo c1 b2) b3) b4) b5
end Go.Proofs.Ytphdkniplhkkfaa
