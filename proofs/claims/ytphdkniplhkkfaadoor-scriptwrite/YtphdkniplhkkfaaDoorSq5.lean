
/-
  Package script: Read, any bytes as steps.
-/
import Derived.Test.YtphdkniplhkkfaaDoorSq4
namespace Go.Proofs.YtphdkniplhkkfaaDoor
open Go.RowKit Go.Extern.Stop Go.Stop Go.Extern
set_option maxRecDepth 100000

theorem so_t (w : World) (k a b c : Int) (t : ByteArray) : So 5 (.slice (some ⟨w.heap.size, 0, none⟩) 1 1) [(⟨k, a, b, c, t⟩ : Stp)].length (fc stc [(⟨k, a, b, c, t⟩ : Stp)]) (w.alloc (.cells (stv k a b c t) 30)) := so_new w 30 5 (stv k a b c t) rfl _ rfl
/-- A slice's length. -/
def lenV : Value → Nat
  | .slice _ n _ => n
  | _ => 0
set_option maxHeartbeats 4000000 in
theorem read_ok {w : World} {v : Value} {bs : List UInt8} (h : SlC w v bs) (hl : bs.length ≤ 1000000) :
    Calls Tryd.prog 16 #[v] w fun e w' => ∃ u, e = .returned u ∧ RwT u (rd bs) w' ∧ (∀ k, u.ownBlock = some k → w.heap.size ≤ k) ∧ Below w.heap.size w w' := by
  have HH := hid_of' h
  clear h
  go_enter Tryd.func16, Tryd.ntmps16
  go_wp2
  go_loopw [0, 3] (fun rv tv wr => ∃ (r : List UInt8) (l : List Stp), SlC w rv r ∧ l ++ rd r = rd bs ∧ l.length + r.length ≤ bs.length ∧ RwT tv l wr ∧ (∀ k, tv.ownBlock = some k → w.heap.size ≤ k) ∧ Below w.heap.size w wr) (fun rv _ _ => lenV rv)
  case atStart => exact ⟨bs, [], HH.out, rfl, by simp, RwT.nil _, (fun q hq => by cases hq), Below.refl _ _⟩
  case round =>
    obtain ⟨r, l, hr, hrd, hll, hR, hO, hB⟩ := hrel
    obtain ⟨ra, rc, rfl, hrc⟩ := hr.2
    obtain ⟨ta, tc, htv, _, _⟩ := Rw.form hR
    obtain ⟨tn, htn⟩ : ∃ tn, tn = l.length := ⟨_, rfl⟩
    rw [← htn] at htv
    subst htv
    obtain ⟨N, hN⟩ : ∃ N, N = r.length := ⟨_, rfl⟩
    have HR := hid_of' (And.intro hr (And.intro hrd (And.intro hll (And.intro hR (And.intro hO (And.intro hB (And.intro hN htn)))))))
    rw [← hN] at hrc ⊢
    clear hr hrd hll hR hO hB hN htn
    by_cases h0 : N = 0
    · subst h0
      go_wp2
      go_ret
      refine ⟨_, rfl, ?_, HR.out.2.2.2.2.1, HR.out.2.2.2.2.2.1⟩
      have e : r = [] := List.eq_nil_of_length_eq_zero HR.out.2.2.2.2.2.2.1.symm
      have e2 := HR.out.2.1
      rw [e, rd_nil, List.append_nil] at e2
      rw [← e2]
      exact HR.out.2.2.2.1
    · have hN0 : (0 : Int) < (N : Int) := by omega
      have hne : r ≠ [] := by
        rintro rfl
        exact h0 HR.out.2.2.2.2.2.2.1
      have r1 : RowAt wr.heap.size (stv 0 0 0 0 .empty) 30 (wr.alloc (.cells (stv 0 0 0 0 .empty) 30)) := RowAt.new wr _ _
      have b1 := below_one wr (.cells (stv 0 0 0 0 .empty) 30)
      go_upto_region 4 with fail
      change Code.wp Tryd.prog _ _ _ (wr.alloc (.cells (stv 0 0 0 0 .empty) 30))
      obtain ⟨P, hP⟩ : ∃ P, P = wr.heap.size := ⟨_, rfl⟩
      rw [← hP] at r1 ⊢
      generalize wr.alloc (.cells (stv 0 0 0 0 .empty) 30) = w1 at r1 b1 ⊢
      have bw1 := bgo HR.out.2.2.2.2.2.1 b1
      have HC := hid_of' (readStep_ok (HR.out.1.later bw1) (by have := HR.out.2.2.1; omega))
      have bwr := HR.out.2.2.2.2.2.1
      have HP := hid_of' (And.intro r1 (And.intro b1 (And.intro bw1 hP)))
      clear r1 b1 bw1 hP bwr
      rw [← HR.out.2.2.2.2.2.2.1] at HC
      go_upto_region 5 with (first | (go_at_call 31; refine HC.out.mono ?_; rintro e w2 ⟨u2, rfl, hu2, hb2⟩; rw [stv_is]; have r2 := HP.out.1.later hb2) | (refine wpL_stT rfl _ _ rfl rfl rfl r2 ?_))
      obtain ⟨sk, sa, sb, sc, st, hst⟩ : ∃ k a b c t, rdS r = ⟨k, a, b, c, t⟩ := ⟨_, _, _, _, _, rfl⟩
      rw [hst]
      have r3 : RowAt P (stv sk sa sb sc st) 30 (w2.setRow P (stv sk sa sb sc st)) := setRow_heap _ _ _ _ _ _ r2
      have b3 : Below wr.heap.size wr (w2.setRow P (stv sk sa sb sc st)) := below_row (bgo HP.out.2.1 hb2) (by rw [HP.out.2.2.2]; exact Nat.le_refl _) _
      dsimp only
      generalize w2.setRow P (stv sk sa sb sc st) = w3 at r3 b3 ⊢
      have hL3 := HR.out.2.2.2.1.later b3
      have bw3 := bgo HR.out.2.2.2.2.2.1 b3
      have H3 := hid_of' (And.intro hL3 (And.intro bw3 (And.intro (hu2 w (by rw [HR.out.2.2.2.2.2.2.1]; exact HR.out.1)) hst)))
      clear hL3 bw3 b3 hu2 hb2 r2 HC hst
      go_upto_region 6 with (first | (refine wpL_ldT rfl _ rfl rfl r3.in ?_; unfold stv) | (at_builtin; refine wpL_appT (m := [⟨sk, sa, sb, sc, st⟩]) rfl _ _ rfl rfl rfl (H3.out.1.later (below_one _ _)) (so_t _ _ _ _ _ _) (by have := HR.out.2.2.1; simp only [List.length_cons, List.length_nil]; omega) ?_; intro u6 w6 q1 q2 q3))
      have hB6 : Below w.heap.size w w6 := (bgo H3.out.2.1 (below_one _ _)).grown q2 (bgo H3.out.2.1 (below_one _ _)).size HR.out.2.2.2.2.1
      have hO6 : ∀ q, u6.ownBlock = some q → w.heap.size ≤ q := fun q hq => (q3 q hq).elim (fun e => HR.out.2.2.2.2.1 q e) (fun e => by have h2 := H3.out.2.1.size; rw [World.size_alloc] at e; omega)
      have hst := rd_step r hne
      have hlt := rdR_len r hne
      rw [H3.out.2.2.2] at hst
      obtain ⟨a2, c2, hv2, _⟩ := H3.out.2.2.1.2
      refine ⟨⟨rdR r, l ++ [⟨sk, sa, sb, sc, st⟩], H3.out.2.2.1, ?_, ?_, q1, hO6, hB6⟩, ?_⟩
      · rw [← HR.out.2.1, hst, List.append_assoc]
        rfl
      · have := HR.out.2.2.1
        simp only [List.length_append, List.length_cons, List.length_nil]
        omega
      · rw [hv2]
        show (rdR r).length < N
        rw [HR.out.2.2.2.2.2.2.1]
        exact hlt
end Go.Proofs.YtphdkniplhkkfaaDoor
