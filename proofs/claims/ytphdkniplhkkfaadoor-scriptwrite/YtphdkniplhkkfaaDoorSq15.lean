
/-
  Package script: Write.
-/
import Derived.Test.YtphdkniplhkkfaaDoorSq14
import Derived.Test.YtphdkniplhkkfaaDoorSq7
namespace Go.Proofs.YtphdkniplhkkfaaDoor
open Go.RowKit Go.Extern.Stop Go.Stop Go.Extern
set_option maxRecDepth 100000

/-- What Write writes. -/
def wrL (l : List Stp) : List UInt8 := wr l
theorem wrS_len20 {s : Stp} (h : pln s = true) : (wrS s).length ≤ 20 := by
  obtain ⟨_, _, _, _, ht⟩ := pln_is h
  unfold wrS
  simp only [List.length_append, List.length_cons, List.length_nil]
  by_cases hk : hasT s.k = true
  · rw [if_pos hk] at ht ⊢
    unfold plT at ht
    simp only [Bool.and_eq_true, decide_eq_true_eq] at ht
    unfold wtC
    simp only [List.length_cons, List.length_map]
    omega
  · rw [if_neg hk]
    simp
theorem wrL_len : ∀ l : List Stp, (wrL l).length ≤ 20 * l.length
  | [] => Nat.zero_le _
  | s :: l => by
    have ih := wrL_len l
    unfold wrL at ih ⊢
    rw [wr_cons, List.length_append, List.length_cons]
    split
    · next h =>
      have := wrS_len20 h
      omega
    · simp only [List.length_nil]
      omega
theorem wrL_snoc (l : List Stp) (s : Stp) : wrL (l ++ [s]) = wrL l ++ (if pln s then wrS s else []) := by
  unfold wrL
  rw [wr_app, wr_cons, wr_nil, List.append_nil]
set_option maxHeartbeats 4000000 in
theorem write_ok {w : World} {u : Value} {l : List Stp} (h : SlT w u l) (hl : l.length ≤ 10000) (hz : ∀ e ∈ l, e.t.size ≤ 1000000) :
    Calls Tryd.prog 6 #[u] w fun e w' => ∃ v, e = .returned v ∧ RwB v (wrL l) w' ∧ (∀ q, v.ownBlock = some q → w.heap.size ≤ q) ∧ Below w.heap.size w w' := by
  obtain ⟨ua, uc, rfl⟩ := h.form
  obtain ⟨n, hn⟩ : ∃ n, n = l.length := ⟨_, rfl⟩
  have HH := hid_of' (And.intro h (And.intro hn hz))
  rw [← hn] at hl ⊢
  clear h hn hz
  go_enter Tryd.func6, Tryd.ntmps6
  go_upto_region 3 with fail
  go_loopw [3, 8] (fun rv iv wr => ∃ k : Nat, iv = .int .i64 (k : Int) ∧ k ≤ n ∧ RwB rv (wrL (l.take k)) wr ∧ (∀ q, rv.ownBlock = some q → w.heap.size ≤ q) ∧ Below w.heap.size w wr) (fun _ iv _ => n - (intOf iv).toNat)
  case atStart => exact ⟨0, rfl, Nat.zero_le _, RwB.nil _, (fun q hq => by cases hq), Below.refl _ _⟩
  case round =>
    obtain ⟨k, rfl, hk, hR, hO, hB⟩ := hrel
    obtain ⟨va, vc, hv, _, _⟩ := Rw.form hR
    obtain ⟨m, hm⟩ : ∃ m, m = (wrL (l.take k)).length := ⟨_, rfl⟩
    rw [← hm] at hv
    subst hv
    by_cases hkn : k < n
    · have hki : (k : Int) < (n : Int) := by omega
      obtain ⟨e, he⟩ : ∃ e, l[k]? = some e := ⟨_, List.getElem?_eq_getElem (by rw [← HH.out.2.1]; exact hkn)⟩
      obtain ⟨g, o, rfl, hg, hcs⟩ := (HH.out.1.later hB).at he
      have hes := HH.out.2.2 e (List.mem_of_getElem? he)
      have htk : wrL (l.take (k + 1)) = wrL (l.take k) ++ (if pln e then wrS e else []) := by
        rw [List.take_add_one, he, Option.toList_some, wrL_snoc]
      obtain ⟨sk, sa, sb, sc, st⟩ := e
      unfold stE at hcs
      dsimp only at hcs hes
      have r1 := RowAt.new wr (stv 0 0 0 0 .empty) 30
      have b1 := below_one wr (.cells (stv 0 0 0 0 .empty) 30)
      have hml : m ≤ 200000 := by
        have h1 := wrL_len (l.take k)
        rw [List.length_take] at h1
        omega
      have HR := hid_of' (And.intro hR (And.intro hO (And.intro hB (And.intro hm (And.intro htk hml)))))
      clear hR hO hB hm htk he hml
      go_upto_region 5 with (first | (refine wpL_ldT rfl _ rfl rfl hcs ?_) | (refine wpL_stT rfl _ _ rfl rfl rfl r1 ?_))
      have r2 : RowAt wr.heap.size (stv sk sa sb sc st) 30 ((wr.alloc (.cells (stv 0 0 0 0 .empty) 30)).setRow wr.heap.size (stv sk sa sb sc st)) := setRow_heap _ _ _ _ _ _ r1
      have b2 : Below wr.heap.size wr ((wr.alloc (.cells (stv 0 0 0 0 .empty) 30)).setRow wr.heap.size (stv sk sa sb sc st)) := below_row b1 (Nat.le_refl _) _
      change Code.wp Tryd.prog _ _ _ ((wr.alloc (.cells (stv 0 0 0 0 .empty) 30)).setRow wr.heap.size (stv sk sa sb sc st))
      obtain ⟨P, hP⟩ : ∃ P, P = wr.heap.size := ⟨_, rfl⟩
      rw [← hP] at r2 ⊢
      have b2' := hid_of' b2
      generalize hw2 : (wr.alloc (.cells (stv 0 0 0 0 .empty) 30)).setRow P (stv sk sa sb sc st) = w2 at r2 ⊢
      have H2 := hid_of' (And.intro r2 (show Below wr.heap.size wr w2 by rw [← hw2, hP]; exact b2))
      have HPl := hid_of' (plain_is sk sa sb sc st (by omega) w2)
      clear b1 b2 b2' hw2 hP r1 r2
      cases hp : pln ⟨sk, sa, sb, sc, st⟩
      · rw [hp] at HPl
        have htk := HR.out.2.2.2.2.1
        rw [hp, if_neg (by decide), List.append_nil] at htk
        have HTK := hid_of' htk
        clear htk
        go_wp2_with (first | (refine wpL_ldT rfl _ rfl rfl H2.out.1.in ?_) | (go_at_call 10; refine HPl.out.mono ?_; rintro e w3 ⟨rfl, hb3⟩; have hbw := bgo (bgo HR.out.2.2.1 H2.out.2) hb3; have hrw := (HR.out.1.later H2.out.2).later hb3))
        refine ⟨⟨k + 1, by go_num, by omega, ?_, HR.out.2.1, hbw⟩, by simp [intOf]; omega⟩
        rw [HTK.out]
        exact hrw
      · rw [hp] at HPl
        have htk := HR.out.2.2.2.2.1
        rw [hp, if_pos rfl] at htk
        have HTK := hid_of' htk
        clear htk
        go_upto_region 7 with (first | (refine wpL_ldT rfl _ rfl rfl H2.out.1.in ?_) | (go_at_call 10; refine HPl.out.mono ?_; rintro e w3 ⟨rfl, hb3⟩; have hbw := bgo (bgo HR.out.2.2.1 H2.out.2) hb3; have hrw := (HR.out.1.later H2.out.2).later hb3; have r3 := H2.out.1.later hb3; have HA := hid_of' (appendStep_ok (w0 := w) hrw HR.out.2.1 hbw hp (by have := HR.out.2.2.2.2.2; have := HR.out.2.2.2.1; omega) hes)) | (refine wpL_ldT rfl _ rfl rfl r3.in ?_) | (go_at_call 18; refine HA.out.mono ?_; rintro e w4 ⟨v4, rfl, hr4, ho4, hb4⟩))
        have H4 := hid_of' (And.intro hr4 (And.intro ho4 hb4))
        clear hr4 ho4 hb4 hbw hrw r3 hb3 HA
        go_wp2
        refine ⟨⟨k + 1, by go_num, by omega, ?_, H4.out.2.1, H4.out.2.2⟩, by simp [intOf]; omega⟩
        rw [HTK.out]
        exact H4.out.1
    · have hki : ¬ (k : Int) < (n : Int) := by omega
      have HR := hid_of' (And.intro hR (And.intro hO (And.intro hB hm)))
      clear hR hO hB hm
      go_wp2
      go_ret
      refine ⟨_, rfl, ?_, HR.out.2.1, HR.out.2.2.1⟩
      have := HR.out.1
      rwa [List.take_of_length_le (by rw [← HH.out.2.1]; omega)] at this
end Go.Proofs.YtphdkniplhkkfaaDoor
