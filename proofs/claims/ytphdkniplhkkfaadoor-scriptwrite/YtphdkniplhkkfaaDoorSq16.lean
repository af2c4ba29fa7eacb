
/-
  barrowlaw18: cut; ScriptBack holds of any steps.
-/
import Derived.Test.YtphdkniplhkkfaaDoorSq15
import Derived.Test.YtphdkniplhkkfaaDoorSq8
namespace Go.Proofs.YtphdkniplhkkfaaDoor
open Go.RowKit Go.Extern.Stop Go.Stop Go.Extern
set_option maxRecDepth 100000

/-- A step, its text cut. -/
def cutT (t : ByteArray) : ByteArray := if 80 < t.size then t.extract 0 80 else t
def cutE (s : Stp) : Stp := ⟨s.k, s.a, s.b, s.c, cutT s.t⟩
def cutL (l : List Stp) : List Stp := (l.take 200).map cutE
theorem cutL_len (l : List Stp) : (cutL l).length ≤ 200 := by
  unfold cutL
  rw [List.length_map, List.length_take]
  omega
theorem cutT_size (t : ByteArray) : (cutT t).size ≤ 80 := by
  unfold cutT
  split
  · rw [ByteArray.size_extract]
    omega
  · omega
theorem cutL_small (l : List Stp) : ∀ e ∈ cutL l, e.t.size ≤ 80 := fun e he => by
  obtain ⟨x, _, rfl⟩ := List.mem_map.1 he
  exact cutT_size x.t
set_option maxHeartbeats 8000000 in
theorem cut_ok {w : World} {v : Value} {l : List Stp} (h : SlT w v l) (hsz : ∀ e ∈ l, e.t.size ≤ maxLen) :
    Calls Tryd.prog 5 #[v] w fun e w' => ∃ u, e = .returned u ∧ RwT u (cutL l) w' ∧ (∀ k, u.ownBlock = some k → w.heap.size ≤ k) ∧ Below w.heap.size w w' := by
  obtain ⟨a9, c9, rfl⟩ := h.form
  obtain ⟨nl, hnl⟩ : ∃ nl, nl = l.length := ⟨_, rfl⟩
  have HH := hid_of' (And.intro h (And.intro hnl hsz))
  rw [← hnl]
  clear h hnl hsz
  go_enter Tryd.func5, Tryd.ntmps5
  go_wp2
  go_loopw [3, 4] (fun ov kv wr => ∃ k : Nat, kv = .int .i64 (k : Int) ∧ k ≤ nl ∧ k ≤ 200 ∧ RwT ov (cutL (l.take k)) wr ∧ (∀ g, ov.ownBlock = some g → w.heap.size ≤ g) ∧ Below w.heap.size w wr) (fun _ kv _ => 200 - (intOf kv).toNat)
  case atStart => exact ⟨0, rfl, Nat.zero_le _, Nat.zero_le _, RwT.nil _, (fun g hg => by cases hg), Below.refl _ _⟩
  case round =>
    obtain ⟨k, rfl, hk, hk30, hL, hO, hB⟩ := hrel
    obtain ⟨la, lc, hlv, _⟩ := Rw.form hL
    obtain ⟨ln, hln⟩ : ∃ ln, ln = (cutL (l.take k)).length := ⟨_, rfl⟩
    rw [← hln] at hlv
    subst hlv
    by_cases hkq : k < nl
    · have hki : (k : Int) < (nl : Int) := by omega
      by_cases hk3 : k < 200
      · have hki3 : (k : Int) < 200 := by omega
        obtain ⟨e, he⟩ : ∃ e, l[k]? = some e := ⟨_, List.getElem?_eq_getElem (by rw [← HH.out.2.1]; exact hkq)⟩
        obtain ⟨g3, o3, rfl, hg3, hcs⟩ := (HH.out.1.later hB).at he
        have hes := HH.out.2.2 e (List.mem_of_getElem? he)
        have htk : cutL (l.take (k + 1)) = cutL (l.take k) ++ [cutE e] := by
          unfold cutL
          rw [List.take_take, List.take_take, Nat.min_eq_right (by omega), Nat.min_eq_right (by omega), List.take_add_one, he, List.map_append]
          rfl
        have hlk : (cutL (l.take k)).length ≤ 200 := cutL_len _
        obtain ⟨sk, sa, sb, sc, st⟩ := e
        unfold stE at hcs
        dsimp only at hcs hes
        unfold maxLen at hes
        have r1 := RowAt.new wr (stv 0 0 0 0 .empty) 30
        have b1 := below_one wr (.cells (stv 0 0 0 0 .empty) 30)
        have HR := hid_of' (And.intro hL (And.intro hO (And.intro hB (And.intro htk hlk))))
        clear hL hO hB htk hlk hln he
        go_upto_region 6 with (first | (refine wpL_ldT rfl _ rfl rfl hcs ?_) | (refine wpL_stT rfl _ _ rfl rfl rfl r1 ?_))
        have r2 : RowAt wr.heap.size (stv sk sa sb sc st) 30 ((wr.alloc (.cells (stv 0 0 0 0 .empty) 30)).setRow wr.heap.size (stv sk sa sb sc st)) := setRow_heap _ _ _ _ _ _ r1
        have b2 : Below wr.heap.size wr ((wr.alloc (.cells (stv 0 0 0 0 .empty) 30)).setRow wr.heap.size (stv sk sa sb sc st)) := below_row b1 (Nat.le_refl _) _
        change Code.wp Tryd.prog _ _ _ ((wr.alloc (.cells (stv 0 0 0 0 .empty) 30)).setRow wr.heap.size (stv sk sa sb sc st))
        obtain ⟨P, hP⟩ : ∃ P, P = wr.heap.size := ⟨_, rfl⟩
        rw [← hP] at r2 ⊢
        have b2' := hid_of' b2
        generalize hw2 : (wr.alloc (.cells (stv 0 0 0 0 .empty) 30)).setRow P (stv sk sa sb sc st) = w2 at r2 ⊢
        have H2 := hid_of' (And.intro r2 (And.intro (show Below wr.heap.size wr w2 by rw [← hw2, hP]; exact b2) hP))
        have c4 : w2.cell? ⟨P, 4, none⟩ = some (.string st) := r2.is rfl
        clear b1 b2 b2' hw2 hP r1 r2 hcs
        by_cases hz : 80 < st.size
        · have hzi : (80 : Int) < (st.size : Int) := by omega
          have hz4 : (80 : Int) ≤ (st.size : Int) := by omega
          have f4 : w2.frozen? ⟨P, 4, none⟩ = false := H2.out.1.free 4
          have hce : cutE ⟨sk, sa, sb, sc, st⟩ = ⟨sk, sa, sb, sc, st.extract 0 80⟩ := by
            unfold cutE cutT
            dsimp only
            rw [if_pos hz]
          have HCE := hid_of' hce
          clear hce
          go_upto_region 8 with fail
          have r3 : RowAt P (stv sk sa sb sc (st.extract 0 80)) 30 (w2.setCell ⟨P, 4, none⟩ (.string (st.extract 0 80))) := H2.out.1.setc 4 _
          have b3 : Below wr.heap.size wr (w2.setCell ⟨P, 4, none⟩ (.string (st.extract 0 80))) := H2.out.2.1.setCell (by rw [H2.out.2.2]; exact Nat.le_refl _) _
          generalize w2.setCell ⟨P, 4, none⟩ (.string (st.extract 0 80)) = w3 at r3 b3 ⊢
          generalize st.extract 0 80 = tt at r3 HCE ⊢
          have H3 := hid_of' (And.intro (HR.out.1.later b3) (And.intro (bgo HR.out.2.2.1 b3) HCE.out))
          clear b3 c4 f4 HCE
          go_upto_region 4 with (first | (refine wpL_ldT rfl _ rfl rfl r3.in ?_; unfold stv) | (at_builtin; refine wpL_appT (m := [⟨sk, sa, sb, sc, tt⟩]) rfl _ _ rfl rfl rfl (H3.out.1.later (below_one _ _)) (so_t _ _ _ _ _ _) (by have := HR.out.2.2.2.2; simp only [List.length_cons, List.length_nil]; omega) ?_; intro u6 w6 q1 q2 q3))
          have hwb := bgo H3.out.2.1 (below_one w3 (.cells #[.int .i64 sk, .int .i64 sa, .int .i64 sb, .int .i64 sc, .string tt] 30))
          have HQ := hid_of' (And.intro q1 (And.intro (fun g hg => (q3 g hg).elim (fun h => HR.out.2.1 g h) (fun h => Nat.le_trans hwb.size h)) (hwb.grown q2 hwb.size (fun g hg => HR.out.2.1 g hg))))
          clear q1 q2 q3 hwb
          have hk9 : k ≤ 200 := by omega
          go_wp2
          refine ⟨⟨k + 1, by go_num, by omega, by omega, ?_, HQ.out.2.1, HQ.out.2.2⟩, by simp [intOf]; omega⟩
          rw [HR.out.2.2.2.1, H3.out.2.2]
          exact HQ.out.1
        · have hzi : ¬ (80 : Int) < (st.size : Int) := by omega
          have hce : cutE ⟨sk, sa, sb, sc, st⟩ = ⟨sk, sa, sb, sc, st⟩ := by
            unfold cutE cutT
            dsimp only
            rw [if_neg hz]
          have H3 := hid_of' (And.intro (HR.out.1.later H2.out.2.1) (And.intro (bgo HR.out.2.2.1 H2.out.2.1) hce))
          clear hce
          have r3 := H2.out.1
          go_upto_region 4 with (first | (refine wpL_ldT rfl _ rfl rfl r3.in ?_; unfold stv) | (at_builtin; refine wpL_appT (m := [⟨sk, sa, sb, sc, st⟩]) rfl _ _ rfl rfl rfl (H3.out.1.later (below_one _ _)) (so_t _ _ _ _ _ _) (by have := HR.out.2.2.2.2; simp only [List.length_cons, List.length_nil]; omega) ?_; intro u6 w6 q1 q2 q3))
          have hwb := bgo H3.out.2.1 (below_one w2 (.cells #[.int .i64 sk, .int .i64 sa, .int .i64 sb, .int .i64 sc, .string st] 30))
          have HQ := hid_of' (And.intro q1 (And.intro (fun g hg => (q3 g hg).elim (fun h => HR.out.2.1 g h) (fun h => Nat.le_trans hwb.size h)) (hwb.grown q2 hwb.size (fun g hg => HR.out.2.1 g hg))))
          clear q1 q2 q3 hwb
          have hk9 : k ≤ 200 := by omega
          go_wp2
          refine ⟨⟨k + 1, by go_num, by omega, by omega, ?_, HQ.out.2.1, HQ.out.2.2⟩, by simp [intOf]; omega⟩
          rw [HR.out.2.2.2.1, H3.out.2.2]
          exact HQ.out.1
      · have hki3 : ¬ (k : Int) < 200 := by omega
        obtain rfl : k = 200 := by omega
        have e : cutL (l.take 200) = cutL l := by
          unfold cutL
          rw [List.take_take, Nat.min_self]
        rw [e] at hL
        have HL := hid_of' (And.intro hL (And.intro hO hB))
        clear hL hO hB hln e
        go_wp2
        go_ret
        exact ⟨_, rfl, HL.out.1, HL.out.2.1, HL.out.2.2⟩
    · have hki : ¬ (k : Int) < (nl : Int) := by omega
      have ek : k = nl := by omega
      have e : cutL (l.take k) = cutL l := by rw [ek, HH.out.2.1, List.take_length]
      rw [e] at hL
      have HL := hid_of' (And.intro hL (And.intro hO hB))
      clear hL hO hB hln e ek
      go_wp2
      go_ret
      exact ⟨_, rfl, HL.out.1, HL.out.2.1, HL.out.2.2⟩
end Go.Proofs.YtphdkniplhkkfaaDoor
