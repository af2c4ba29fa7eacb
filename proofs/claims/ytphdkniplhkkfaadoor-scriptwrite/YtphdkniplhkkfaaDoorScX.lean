
/-
  script.Text of a plain step.
-/
import Derived.Test.YtphdkniplhkkfaaDoorScT
namespace Go.Proofs.YtphdkniplhkkfaaDoor
open Go.RowKit Go.Extern.Stop Go.Stop Go.Extern
set_option maxRecDepth 100000

def spB : ByteArray := ⟨#[32]⟩
def wordsB (s : Stp) : List ByteArray := [nameB s.k, itB s.a, itB s.b, itB s.c] ++ (if hasT s.k then [itB ((rn s.t.data.toList).length : Int)] else [])
/-- What Text tells. -/
def textB (s : Stp) : ByteArray := if pln s then ⟨(joinB spB (wordsB s)).toArray⟩ else .empty
set_option maxHeartbeats 4000000 in
theorem text_pl {w : World} {k a b c : Int} {t : ByteArray} (hp : pln ⟨k, a, b, c, t⟩ = true) (ht : t.size ≤ 1000000) (hTab : TabOk w) :
    Calls Tryd.prog 12 #[.agg (stv k a b c t)] w fun e w' => e = .returned (.string (textB ⟨k, a, b, c, t⟩)) ∧ Below w.heap.size w w' := by
  obtain ⟨hk, ha, hb, hc, hT0⟩ := pln_is hp
  dsimp only at hk ha hb hc hT0
  obtain ⟨k0, k1⟩ := hk
  obtain ⟨a0, a1⟩ := ha
  obtain ⟨b0, b1⟩ := hb
  obtain ⟨c0, c1⟩ := hc
  have rP : RowAt w.heap.size (stv k a b c t) 30 (w.alloc (.cells (stv k a b c t) 30)) := RowAt.new w _ _
  have bP := below_one w (.cells (stv k a b c t) 30)
  have HT0 := hid_of' hT0
  have HTab := hid_of' hTab
  have HTx : Hid (textB ⟨k, a, b, c, t⟩ = ⟨(joinB spB (wordsB ⟨k, a, b, c, t⟩)).toArray⟩) := if_pos hp
  clear hT0 hTab
  go_enter Tryd.func12, Tryd.ntmps12
  go_upto_region 1 with fail
  obtain ⟨P, hP⟩ : ∃ P, P = w.heap.size := ⟨_, rfl⟩
  rw [← hP] at rP ⊢
  generalize w.alloc (.cells (stv k a b c t) 30) = w1 at rP bP ⊢
  have HPl := hid_of' (plain_is k a b c t (by omega) w1)
  rw [hp] at HPl
  have HP := hid_of' (And.intro rP (And.intro bP hP))
  clear rP bP hP
  go_upto_region 3 with (first | (refine wpL_ldT rfl _ rfl rfl HP.out.1.in ?_) | (go_at_call 10; refine HPl.out.mono ?_; rintro e W0 ⟨rfl, hb3⟩))
  have r0 := HP.out.1.later hb3
  have b0w := bgo HP.out.2.1 hb3
  unfold stv at r0
  have HN := hid_of' (fun x => name_is k x)
  have HA := hid_of' (fun (x : World) (hx : Below W0.heap.size W0 x) => itoa_is a a0 (by omega) (HTab.out.later (bgo b0w hx)))
  have HB := hid_of' (fun (x : World) (hx : Below W0.heap.size W0 x) => itoa_is b b0 (by omega) (HTab.out.later (bgo b0w hx)))
  have HC := hid_of' (fun (x : World) (hx : Below W0.heap.size W0 x) => itoa_is c c0 (by omega) (HTab.out.later (bgo b0w hx)))
  refine wp_region_tail 12 (by kernel_rfl) (fun _ => none) (by kernel_rfl) (by kernel_rfl) (by decide) (fun i v x => match i with
    | 0 => v = .pointer (some ⟨P, 0, none⟩)
    | 1 => v = .int .i64 k
    | 2 => v = .string (nameB k)
    | 3 => v = .pointer (some ⟨P, 1, none⟩)
    | 4 => v = .int .i64 a
    | 5 => v = .string (itB a)
    | 6 => v = .pointer (some ⟨P, 2, none⟩)
    | 7 => v = .int .i64 b
    | 8 => v = .string (itB b)
    | 9 => v = .pointer (some ⟨P, 3, none⟩)
    | 10 => v = .int .i64 c
    | 11 => v = .string (itB c)
    | _ => True) (fun _ => false) (fun _ _ _ _ h => by cases h) ?_ ?_ ?_
  · intro i v x x' hR hb
    match i, hR with
    | 0, h => exact h
    | 1, h => exact h
    | 2, h => exact h
    | 3, h => exact h
    | 4, h => exact h
    | 5, h => exact h
    | 6, h => exact h
    | 7, h => exact h
    | 8, h => exact h
    | 9, h => exact h
    | 10, h => exact h
    | 11, h => exact h
    | m + 12, h => exact h
  · intro i o hi ho q x vals hX hdep hoth
    have t1 : q.tmps[1]? = some (.pointer (some ⟨P, 0, none⟩)) := by rw [hoth 1 (by kernel_rfl)]; rfl
    match i, hi, ho with
    | 0, _, ho =>
      simp only [List.getElem?_cons_zero, Option.some.injEq] at ho
      subst ho
      unfold Oper.wp
      simp [execOp, go_sem, t1]
      exact came _ rfl (Below.refl _ _) rfl (fun h => absurd h (by decide))
    | 1, _, ho =>
      simp only [List.getElem?_cons_succ, List.getElem?_cons_zero, Option.some.injEq] at ho
      subst ho
      obtain ⟨u0, e0⟩ := hdep ⟨0, .data⟩ (by simp) rfl _ 7 rfl rfl
      rw [show vals 0 = .pointer (some ⟨P, 0, none⟩) from e0] at u0
      have cc : x.cell? ⟨P, 0, none⟩ = some (.int .i64 k) := (r0.later hX).is rfl
      unfold Oper.wp
      simp [execOp, go_sem, u0, cc]
      exact came _ rfl (Below.refl _ _) rfl (fun h => absurd h (by decide))
    | 2, _, ho =>
      simp only [List.getElem?_cons_succ, List.getElem?_cons_zero, Option.some.injEq] at ho
      subst ho
      obtain ⟨u1, e1⟩ := hdep ⟨1, .data⟩ (by simp) rfl _ 8 rfl rfl
      rw [show vals 1 = .int .i64 k from e1] at u1
      unfold Oper.wp
      simp [go_sem, u1]
      refine (HN.out x).mono ?_
      rintro r x1 ⟨rfl, hb1⟩
      exact came _ rfl hb1 rfl (fun h => absurd h (by decide))
    | 3, _, ho =>
      simp only [List.getElem?_cons_succ, List.getElem?_cons_zero, Option.some.injEq] at ho
      subst ho
      unfold Oper.wp
      simp [execOp, go_sem, t1]
      exact came _ rfl (Below.refl _ _) rfl (fun h => absurd h (by decide))
    | 4, _, ho =>
      simp only [List.getElem?_cons_succ, List.getElem?_cons_zero, Option.some.injEq] at ho
      subst ho
      obtain ⟨u3, e3⟩ := hdep ⟨3, .data⟩ (by simp) rfl _ 10 rfl rfl
      rw [show vals 3 = .pointer (some ⟨P, 1, none⟩) from e3] at u3
      have cc : x.cell? ⟨P, 1, none⟩ = some (.int .i64 a) := (r0.later hX).is rfl
      unfold Oper.wp
      simp [execOp, go_sem, u3, cc]
      exact came _ rfl (Below.refl _ _) rfl (fun h => absurd h (by decide))
    | 5, _, ho =>
      simp only [List.getElem?_cons_succ, List.getElem?_cons_zero, Option.some.injEq] at ho
      subst ho
      obtain ⟨u4, e4⟩ := hdep ⟨4, .data⟩ (by simp) rfl _ 11 rfl rfl
      rw [show vals 4 = .int .i64 a from e4] at u4
      unfold Oper.wp
      simp [go_sem, u4]
      refine (HA.out x hX).mono ?_
      rintro r x1 ⟨rfl, hb1⟩
      exact came _ rfl hb1 rfl (fun h => absurd h (by decide))
    | 6, _, ho =>
      simp only [List.getElem?_cons_succ, List.getElem?_cons_zero, Option.some.injEq] at ho
      subst ho
      unfold Oper.wp
      simp [execOp, go_sem, t1]
      exact came _ rfl (Below.refl _ _) rfl (fun h => absurd h (by decide))
    | 7, _, ho =>
      simp only [List.getElem?_cons_succ, List.getElem?_cons_zero, Option.some.injEq] at ho
      subst ho
      obtain ⟨u6, e6⟩ := hdep ⟨6, .data⟩ (by simp) rfl _ 13 rfl rfl
      rw [show vals 6 = .pointer (some ⟨P, 2, none⟩) from e6] at u6
      have cc : x.cell? ⟨P, 2, none⟩ = some (.int .i64 b) := (r0.later hX).is rfl
      unfold Oper.wp
      simp [execOp, go_sem, u6, cc]
      exact came _ rfl (Below.refl _ _) rfl (fun h => absurd h (by decide))
    | 8, _, ho =>
      simp only [List.getElem?_cons_succ, List.getElem?_cons_zero, Option.some.injEq] at ho
      subst ho
      obtain ⟨u7, e7⟩ := hdep ⟨7, .data⟩ (by simp) rfl _ 14 rfl rfl
      rw [show vals 7 = .int .i64 b from e7] at u7
      unfold Oper.wp
      simp [go_sem, u7]
      refine (HB.out x hX).mono ?_
      rintro r x1 ⟨rfl, hb1⟩
      exact came _ rfl hb1 rfl (fun h => absurd h (by decide))
    | 9, _, ho =>
      simp only [List.getElem?_cons_succ, List.getElem?_cons_zero, Option.some.injEq] at ho
      subst ho
      unfold Oper.wp
      simp [execOp, go_sem, t1]
      exact came _ rfl (Below.refl _ _) rfl (fun h => absurd h (by decide))
    | 10, _, ho =>
      simp only [List.getElem?_cons_succ, List.getElem?_cons_zero, Option.some.injEq] at ho
      subst ho
      obtain ⟨u9, e9⟩ := hdep ⟨9, .data⟩ (by simp) rfl _ 16 rfl rfl
      rw [show vals 9 = .pointer (some ⟨P, 3, none⟩) from e9] at u9
      have cc : x.cell? ⟨P, 3, none⟩ = some (.int .i64 c) := (r0.later hX).is rfl
      unfold Oper.wp
      simp [execOp, go_sem, u9, cc]
      exact came _ rfl (Below.refl _ _) rfl (fun h => absurd h (by decide))
    | 11, _, ho =>
      simp only [List.getElem?_cons_succ, List.getElem?_cons_zero, Option.some.injEq] at ho
      subst ho
      obtain ⟨u10, e10⟩ := hdep ⟨10, .data⟩ (by simp) rfl _ 17 rfl rfl
      rw [show vals 10 = .int .i64 c from e10] at u10
      unfold Oper.wp
      simp [go_sem, u10]
      refine (HC.out x hX).mono ?_
      rintro r x1 ⟨rfl, hb1⟩
      exact came _ rfl hb1 rfl (fun h => absurd h (by decide))
    | m + 12, hi, _ => exact absurd hi (by omega)
  · intro vals W1 hX hR _
    have f0 : vals 0 = .pointer (some ⟨P, 0, none⟩) := hR 0 (by decide)
    have f1 : vals 1 = .int .i64 k := hR 1 (by decide)
    have f2 : vals 2 = .string (nameB k) := hR 2 (by decide)
    have f3 : vals 3 = .pointer (some ⟨P, 1, none⟩) := hR 3 (by decide)
    have f4 : vals 4 = .int .i64 a := hR 4 (by decide)
    have f5 : vals 5 = .string (itB a) := hR 5 (by decide)
    have f6 : vals 6 = .pointer (some ⟨P, 2, none⟩) := hR 6 (by decide)
    have f7 : vals 7 = .int .i64 b := hR 7 (by decide)
    have f8 : vals 8 = .string (itB b) := hR 8 (by decide)
    have f9 : vals 9 = .pointer (some ⟨P, 3, none⟩) := hR 9 (by decide)
    have f10 : vals 10 = .int .i64 c := hR 10 (by decide)
    have f11 : vals 11 = .string (itB c) := hR 11 (by decide)
    simp only [List.drop, List.take, putAll, List.setIfInBounds_toArray, List.set_cons_succ, List.set_cons_zero, f0, f1, f2, f3, f4, f5, f6, f7, f8, f9, f10, f11]
    clear f0 f1 f2 f3 f4 f5 f6 f7 f8 f9 f10 f11 hR HN HA HB HC HPl
    have HW1 := hid_of' (And.intro (r0.later hX) (bgo b0w hX))
    clear r0 b0w hX hb3
    go_upto_region 4 with fail
    have rS := rwS_new W1 (nameB k) (itB a) (itB b) (itB c)
    have bS := bgo HW1.out.2 (below_one W1 (.cells #[.string (nameB k), .string (itB a), .string (itB b), .string (itB c)] 9))
    have rP2 := HW1.out.1.later (below_one W1 (.cells #[.string (nameB k), .string (itB a), .string (itB b), .string (itB c)] 9))
    obtain ⟨G, hG⟩ : ∃ G, G = W1.heap.size := ⟨_, rfl⟩
    rw [← hG] at rS ⊢
    generalize W1.alloc (.cells #[.string (nameB k), .string (itB a), .string (itB b), .string (itB c)] 9) = w2 at rS bS rP2 ⊢
    have ck : w2.cell? ⟨P, 0, none⟩ = some (.int .i64 k) := rP2.is rfl
    have cT : w2.cell? ⟨P, 4, none⟩ = some (.string t) := rP2.is rfl
    have sk := nameB_size k
    have sa := itB_size a a0 (by omega)
    have sb := itB_size b b0 (by omega)
    have sc := itB_size c c0 (by omega)
    have HS := hid_of' (And.intro rS (And.intro bS (And.intro hG HW1.out.2.size)))
    have HZ := hid_of' (show ∀ x ∈ [nameB k, itB a, itB b, itB c], x.size ≤ 1000 from fun x hx => by
      simp only [List.mem_cons, List.not_mem_nil, or_false] at hx
      rcases hx with rfl | rfl | rfl | rfl <;> omega)
    clear rS bS rP2 hG sk sa sb sc
    cases hT : hasT k
    · have HT := hid_of' (fun x => hasT_at hT x)
      have hw : wordsB ⟨k, a, b, c, t⟩ = [nameB k, itB a, itB b, itB c] := by
        unfold wordsB
        rw [if_neg (by rw [hT]; decide), List.append_nil]
      have HWd := hid_of' hw
      have HJ := hid_of' (join_ok (sep := spB) HS.out.1 (by simp) (by simp) HZ.out (by decide))
      clear hw
      go_wp2_with (first | (go_at_call 23; with_reducible refine (HT.out _).mono ?_; rintro e wx ⟨rfl, hwx⟩; rw [hwx]; clear hwx) | (go_at_call 28; refine HJ.out.mono ?_; rintro e w9 ⟨rfl, hb9⟩))
      go_ret
      refine ⟨?_, bgo HS.out.2.1 hb9⟩
      rw [HTx.out, HWd.out]
      rfl
    · have HT := hid_of' (fun x => hasT_at hT x)
      rw [hT, if_pos rfl] at HT0
      have hr15 : (rn t.data.toList).length ≤ 15 := by
        have := HT0.out
        unfold plT at this
        simp only [Bool.and_eq_true, decide_eq_true_eq] at this
        exact this.1
      have hw : wordsB ⟨k, a, b, c, t⟩ = [nameB k, itB a, itB b, itB c] ++ [itB ((rn t.data.toList).length : Int)] := by
        unfold wordsB
        rw [if_pos hT]
      have HC := hid_of' (fun x => Tryd.utf8_RuneCountInString t x (by omega))
      rw [count_rn] at HC
      obtain ⟨nR, hnR⟩ : ∃ nR, nR = (rn t.data.toList).length := ⟨_, rfl⟩
      rw [← hnR] at HC hr15 hw
      have HWd := hid_of' hw
      have HI := hid_of' (fun (x : World) (hx : Below w2.heap.size w2 x) => itoa_is (nR : Int) (by omega) (by omega) (HTab.out.later (bgo HS.out.2.1 hx)))
      have sR := itB_size (nR : Int) (by omega) (by omega)
      have HZ2 := hid_of' (show ∀ x ∈ [nameB k, itB a, itB b, itB c] ++ [itB (nR : Int)], x.size ≤ 1000 from fun x hx => by
        rcases List.mem_append.1 hx with hx | hx
        · exact HZ.out x hx
        · rw [List.mem_singleton.1 hx]
          omega)
      clear hw hnR sR HT0
      go_upto_region 6 with (first
        | (go_at_call 23; with_reducible refine (HT.out _).mono ?_; rintro e wx ⟨rfl, hwx⟩; rw [hwx]; clear hwx)
        | (go_at_call 27; refine (HC.out _).mono ?_; rintro e w3 ⟨rfl, pos, hw3⟩; have b3 : Below w2.heap.size w2 w3 := (by rw [hw3]; exact (Below.refl _ _).alloc (Nat.le_refl _) _); clear hw3)
        | (go_at_call 26; refine (HI.out _ b3).mono ?_; rintro e w4 ⟨rfl, b4⟩)
        | (at_builtin; refine wpL_appS (m := [itB (nR : Int)]) rfl _ _ rfl rfl rfl (((HS.out.1.later b3).later b4).later (below_one _ _)) (so_s1 _ _) (by simp) ?_; intro v5 w5 q1 q2 q3))
      have HJ := hid_of' (join_ok (sep := spB) q1 (by simp) (by simp) HZ2.out (by decide))
      have b24 := bgo (bgo b3 b4) (below_one w4 (.cells #[.string (itB (nR : Int))] 9))
      have hb5 : Below w.heap.size w w5 := (bgo HS.out.2.1 b24).grown q2 (bgo HS.out.2.1 b24).size (fun q hq => by
        have e : G = q := Option.some.inj (show some G = some q from hq)
        have h1 := HS.out.2.2.1
        have h2 := HS.out.2.2.2
        omega)
      have HB5 := hid_of' hb5
      clear q1 q2 q3 b24 hb5 b3 b4 ck cT
      go_wp2_with (go_at_call 28; refine HJ.out.mono ?_; rintro e w9 ⟨rfl, hb9⟩)
      go_ret
      refine ⟨?_, bgo HB5.out hb9⟩
      rw [HTx.out, HWd.out]
      rfl
end Go.Proofs.YtphdkniplhkkfaaDoor
