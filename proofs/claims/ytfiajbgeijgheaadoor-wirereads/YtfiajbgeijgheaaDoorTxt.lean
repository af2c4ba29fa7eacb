
/-
  What (*Reader).Text reads.
-/
import Derived.Test.YtfiajbgeijgheaaDoorRd3
import Derived.Test.YtfiajbgeijgheaaDoorInvW
import Derived.Laws.IdiomStrings
namespace Go.Proofs.YtfiajbgeijgheaaDoor
open Go.RowKit
set_option maxRecDepth 100000

/-- P2.4: a text. -/
def txtR (bs : List UInt8) (most : Int) : Except Nat (ByteArray × Nat) :=
  match numR bs most with
  | .error c => .error c
  | .ok (n, k) => if bs.length - k < n then .error 6 else .ok (⟨((bs.drop k).take n).toArray⟩, k + n)

/-- How far the reading of a text has come: nothing; its length; its bytes; the variable holds it. -/
def TxtSt (ad : Nat → Addr) (rb g : Nat) (bs : List UInt8) (pl n k : Nat) (x : Value) (rv mv nv : Nat) (most : Int) (w : World) (s : Nat) (w' : World) : Prop :=
  (s ≤ 2 → Lw ad w') ∧ Kept [rb, nv] w w' ∧ w'.heap[rv]? = some (.cells #[.pointer (some ⟨rb, 0, none⟩)] 51 (0, 0)) ∧ w'.heap[mv]? = some (.cells #[.int .i64 most] 3 (0, 0)) ∧
    w'.heap[nv]? = some (.cells #[if s = 3 then .string ⟨((bs.drop (pl + k)).take n).toArray⟩ else x] 9 (0, 0)) ∧ RdAt rb g bs (if s = 0 then pl else if s = 1 then pl + k else pl + k + n) .nilIface w' ∧ (1 ≤ s → numR (bs.drop pl) most = .ok (n, k)) ∧ (2 ≤ s → n ≤ bs.length - (pl + k))

theorem take_exact {rb g : Nat} {bs : List UInt8} {pl : Nat} {br : Value} {w : World} (h : RdAt rb g bs pl br w) (n : Nat) (hn : n ≤ bs.length - pl) :
    Calls Tryd.prog 59 #[.pointer (some ⟨rb, 0, none⟩), .int .i64 n] w fun e w' => e = .returned (.slice (some ⟨g, if bs.length = pl then 0 else pl, none⟩) n (bs.length - pl)) ∧ ∃ m m', w' = ((w.drewN m).setCell ⟨rb, 1, none⟩ (.int .i64 (pl + n : Nat))).drewN m' := by
  have HR : Aside (RdAt rb g bs pl br w) := h
  have c0 := h.c0
  have c1 := h.c1
  have hfz := h.frozen 1
  have hg : ¬ ((bs.length - pl : Nat) : Int) < (n : Int) := by omega
  have he : wrap64 ((pl : Int) + (n : Int)) = ((pl + n : Nat) : Int) := by
    have hle := h.le
    have hlim := h.lim
    unfold wrap64; omega
  have e1 : (0:Int) ≤ (pl : Int) ∧ (pl : Int) ≤ ((pl + n : Nat) : Int) := by omega
  have e2 : ((pl + n : Nat) : Int) ≤ (bs.length : Int) := by have := h.le; omega
  clear h
  go_enter Tryd.func59, Tryd.ntmps59
  go_wp2_with (first | (go_at_call 26; refine (left_any HR.out).mono ?_; rintro e w1 ⟨rfl, m, rfl⟩))
  go_quiet (fail)
  go_wp2
  case inl hbp =>
    go_ret
    exact ⟨by simp, _, _, rfl⟩
  case inr hbp =>
    go_ret
    exact ⟨by simp, _, _, rfl⟩

theorem getD_flip {l : Array Bool} {i : Nat} {b : Bool} (h : l.getD i true = false) : l.getD i b = false := by
  simp only [Array.getD_eq_getD_getElem?] at h ⊢
  cases hx : l[i]? with
  | none => simp [hx] at h
  | some y => simpa [hx] using h

set_option maxHeartbeats 2000000 in
theorem txtC {ad : Nat → Addr} {rb g : Nat} {bs : List UInt8} {pl : Nat} {w : World} (L : Lw ad w) (h : RdAt rb g bs pl .nilIface w) (most : Int) (rv mv nv : Nat) (x : Value) (hrv : w.heap[rv]? = some (.cells #[.pointer (some ⟨rb, 0, none⟩)] 51 (0, 0))) (hmv : w.heap[mv]? = some (.cells #[.int .i64 most] 3 (0, 0))) (hnv : w.heap[nv]? = some (.cells #[x] 9 (0, 0))) (hn : ¬ nv = rb) (hg : ¬ nv = g) :
    Calls Tryd.prog 58 #[.pointer (some ⟨rv, 0, none⟩), .pointer (some ⟨mv, 0, none⟩), .pointer (some ⟨nv, 0, none⟩)] w fun e w' => Kept [rb, nv] w w' ∧ match txtR (bs.drop pl) most with
      | .ok (n, k) => e = .returned (.tuple #[]) ∧ RdAt rb g bs (pl + k) .nilIface w' ∧ w'.heap[nv]? = some (.cells #[.string n] 9 (0, 0))
      | .error c => e = gaveUp ad c ∧ (∃ q, RdAt rb g bs q .nilIface w') ∧ w'.heap[nv]? = some (.cells #[x] 9 (0, 0)) := by
  have hrr : ¬ rv = rb := fun e => by have h1 := h.lies; rw [← e, hrv] at h1; simp at h1
  have hrm : ¬ mv = rb := fun e => by have h1 := h.lies; rw [← e, hmv] at h1; simp at h1
  have hrn : ¬ rv = nv := fun e => by rw [e, hnv] at hrv; simp at hrv
  have hmn : ¬ mv = nv := fun e => by rw [e, hnv] at hmv; simp at hmv
  have hlo := h.lo
  obtain ⟨n, k, hnum⟩ : ∃ n k, numR (bs.drop pl) most = .ok (n, k) ∨ ∃ c, numR (bs.drop pl) most = .error c := by
    cases hr : numR (bs.drop pl) most with
    | error c => exact ⟨0, 0, .inr ⟨c, rfl⟩⟩
    | ok y => exact ⟨y.1, y.2, .inl rfl⟩
  have hst : TxtSt ad rb g bs pl n k x rv mv nv most w 0 w.drew := ⟨fun _ => L.kept (S := []) (Kept.refl _ w).drew (by simp), (Kept.refl _ w).drew, hrv, hmv, by rw [if_neg (by decide)]; exact hnv, by rw [if_pos rfl]; exact h.drewN 1, by omega, by omega⟩
  clear L h hrv hmv hnv
  go_enter Tryd.func58, Tryd.ntmps58
  go_wp2_with fail
  refine wp_region_inv' (by kernel_rfl) (by kernel_rfl) (fun i => match i with
    | 0 => .pointer (some ⟨rb, 0, none⟩)
    | 1 => .pointer (some ⟨rb, 0, none⟩)
    | 2 => .int .i64 most
    | 3 => .int .i64 n
    | 4 => .slice (some ⟨g, if bs.length = pl + k then 0 else pl + k, none⟩) n (bs.length - (pl + k))
    | 5 => .string ⟨((bs.drop (pl + k)).take n).toArray⟩
    | _ => undef) (fun listed x' => ∃ s, s ≤ 3 ∧ listed.getD 3 false = decide (1 ≤ s) ∧ listed.getD 4 false = decide (2 ≤ s) ∧ listed.getD 6 false = decide (3 ≤ s) ∧ TxtSt ad rb g bs pl n k x rv mv nv most w s x') ⟨0, by omega, by simp, by simp, by simp, hst⟩ ?_ ?_
  · intro i o ho listed b x' hJ hsz hun haft hdf hb hbo
    obtain ⟨s, hs3, h3, h4, h6, hT⟩ := hJ
    have hT' := hT
    obtain ⟨L', hk', hrv', hmv', hnv', hr', hn1, hn2⟩ := hT
    have t0 : b.tmps[0]? = some (.pointer (some ⟨rv, 0, none⟩)) := by rw [hbo 0 (by kernel_rfl)]; rfl
    have t1 : b.tmps[1]? = some (.pointer (some ⟨mv, 0, none⟩)) := by rw [hbo 1 (by kernel_rfl)]; rfl
    have t2 : b.tmps[2]? = some (.pointer (some ⟨nv, 0, none⟩)) := by rw [hbo 2 (by kernel_rfl)]; rfl
    have cr : x'.cell? ⟨rv, 0, none⟩ = some (.pointer (some ⟨rb, 0, none⟩)) := by rw [cellW_of hrv']; rfl
    have cm : x'.cell? ⟨mv, 0, none⟩ = some (.int .i64 most) := by rw [cellW_of hmv']; rfl
    have hcr : x'.frozen? ⟨nv, 0, none⟩ = false := frozenW_of hnv' 0
    match i, ho with
    | 0, ho =>
      simp only [List.getElem?_toArray, List.getElem?_cons_zero, Option.some.injEq] at ho
      subst ho
      unfold Oper.wp
      simp [execOp, go_sem, t0, cr]
      exact ⟨s, hs3, by simpa using h3, by simpa using h4, by simpa using h6, hT'⟩
    | 1, ho =>
      simp only [List.getElem?_toArray, List.getElem?_cons_succ, List.getElem?_cons_zero, Option.some.injEq] at ho
      subst ho
      unfold Oper.wp
      simp [execOp, go_sem, t0, cr]
      exact ⟨s, hs3, by simpa using h3, by simpa using h4, by simpa using h6, hT'⟩
    | 2, ho =>
      simp only [List.getElem?_toArray, List.getElem?_cons_succ, List.getElem?_cons_zero, Option.some.injEq] at ho
      subst ho
      unfold Oper.wp
      simp [execOp, go_sem, t1, cm]
      exact ⟨s, hs3, by simpa using h3, by simpa using h4, by simpa using h6, hT'⟩
    | 3, ho =>
      simp only [List.getElem?_toArray, List.getElem?_cons_succ, List.getElem?_cons_zero, Option.some.injEq] at ho
      subst ho
      have hs0 : s = 0 := by
        rw [getD_flip hun] at h3
        have : ¬ 1 ≤ s := of_decide_eq_false h3.symm
        omega
      subst hs0
      have t4 : b.tmps[4]? = some (.pointer (some ⟨rb, 0, none⟩)) := hb 1 _ 4 rfl rfl (haft ⟨1, .data⟩ (by simp) rfl)
      have t5 : b.tmps[5]? = some (.int .i64 most) := hb 2 _ 5 rfl rfl (haft ⟨2, .data⟩ (by simp) rfl)
      unfold Oper.wp
      simp [go_sem, t4, t5]
      rw [if_pos rfl] at hr'
      refine (number_any (L' (by omega)) hr' most).mono ?_
      intro e w2 h2
      rcases hnum with hok | ⟨c, herr⟩
      · obtain ⟨rfl, hr2, hk2, L2⟩ := numPost_ok (L' (by omega)) hlo h2 hok
        exact ⟨rfl, 1, by omega, by have : listed.size = 7 := hsz; omega, by simpa using h4, by simpa using h6, fun _ => L2, hk'.trans (hk2.mono (by simp)), hk2.heap hrv' (by simpa using hrr), hk2.heap hmv' (by simpa using hrm), hk2.heap hnv' (by simpa using hn), by simpa using hr2, fun _ => hok, by omega⟩
      · obtain ⟨rfl, hk2, q, hr2⟩ := numPost_err h2 herr
        have ht : txtR (bs.drop pl) most = .error c := by unfold txtR; rw [herr]
        refine ⟨hdf, hk'.trans (hk2.mono (by simp)), ?_⟩
        rw [ht]
        exact ⟨rfl, ⟨q, hr2⟩, hk2.heap hnv' (by simpa using hn)⟩
    | 4, ho =>
      simp only [List.getElem?_toArray, List.getElem?_cons_succ, List.getElem?_cons_zero, Option.some.injEq] at ho
      subst ho
      have l3 : listed.getD 3 false = true := haft ⟨3, .data⟩ (by simp) rfl
      have hs1 : s = 1 := by
        rw [getD_flip hun] at h4
        rw [l3] at h3
        have h41 : ¬ 2 ≤ s := of_decide_eq_false h4.symm
        have h31 : 1 ≤ s := of_decide_eq_true h3.symm
        omega
      subst hs1
      have t3 : b.tmps[3]? = some (.pointer (some ⟨rb, 0, none⟩)) := hb 0 _ 3 rfl rfl (haft ⟨0, .data⟩ (by simp) rfl)
      have t6 : b.tmps[6]? = some (.int .i64 n) := hb 3 _ 6 rfl rfl l3
      have hok := hn1 (by omega)
      have hkl : k ≤ bs.length - pl := by have := (numR_ok hok).2.2.1; rwa [List.length_drop] at this
      unfold Oper.wp
      simp [go_sem, t3, t6]
      rw [if_neg (by decide), if_pos rfl] at hr'
      by_cases hfit : n ≤ bs.length - (pl + k)
      · refine (take_exact hr' n hfit).mono ?_
        rintro e w2 ⟨rfl, m, m', hw2⟩
        have hk2 : Kept [rb] x' w2 := by rw [hw2]; exact (((Kept.refl _ x').drewN m).set (p := ⟨rb, 1, none⟩) (.inl (by simp)) _).drewN m'
        have hr2 : RdAt rb g bs (pl + k + n) .nilIface w2 := by rw [hw2]; exact ((hr'.drewN m).place (pl + k + n) (by have := hr'.le; omega)).drewN m'
        exact ⟨rfl, 2, by omega, by simpa using h3, by have : listed.size = 7 := hsz; omega, by simpa using h6, fun _ => (L' (by omega)).kept hk2 (by simpa using hlo), hk'.trans (hk2.mono (by simp)), hk2.heap hrv' (by simpa using hrr), hk2.heap hmv' (by simpa using hrm), hk2.heap hnv' (by simpa using hn), by simpa using hr2, fun _ => hok, fun _ => hfit⟩
      · refine (take_at_short (L' (by omega)) hr' n (by omega)).mono ?_
        rintro e w2 ⟨rfl, hr2, hk2⟩
        have ht : txtR (bs.drop pl) most = .error 6 := by
          unfold txtR; rw [hok]
          simp only [List.length_drop]
          rw [if_pos (by omega)]
        refine ⟨hdf, hk'.trans (hk2.mono (by simp)), ?_⟩
        rw [ht]
        exact ⟨rfl, ⟨_, hr2⟩, hk2.heap hnv' (by simpa using hn)⟩
    | 5, ho =>
      simp only [List.getElem?_toArray, List.getElem?_cons_succ, List.getElem?_cons_zero, Option.some.injEq] at ho
      subst ho
      have l4 : listed.getD 4 false = true := haft ⟨4, .data⟩ (by simp) rfl
      have hs2 : 2 ≤ s := by rw [l4] at h4; exact of_decide_eq_true h4.symm
      have hfit := hn2 hs2
      have t7 : b.tmps[7]? = some (.slice (some ⟨g, if bs.length = pl + k then 0 else pl + k, none⟩) n (bs.length - (pl + k))) := hb 4 _ 7 rfl rfl l4
      have hlen : ((bs.drop (pl + k)).take n).length = n := by simp; omega
      have hcv := run_convert_bytes_back (P := Tryd.prog) x' 25 9 5 ⟨g, if bs.length = pl + k then 0 else pl + k, none⟩ (bs.length - (pl + k)) ((bs.drop (pl + k)).take n) Tryd.underlying25 Tryd.underlying5 Tryd.underlying9 (fun j hj => by
        have hj' : j < n := by omega
        have hne : ¬ bs.length = pl + k := by omega
        rw [if_neg hne, Addr.add_lit]
        have hb1 : bs[pl + k + j]? = some (((bs.drop (pl + k)).take n)[j]) := by
          rw [List.getElem_take, List.getElem_drop]
          exact List.getElem?_eq_getElem _
        exact hr'.byte _ _ hb1)
      rw [hlen] at hcv
      unfold Oper.wp
      simp [execOp, go_sem, t7, hcv]
      exact ⟨s, hs3, by simpa using h3, by simpa using h4, by simpa using h6, hT'⟩
    | 6, ho =>
      simp only [List.getElem?_toArray, List.getElem?_cons_succ, List.getElem?_cons_zero, Option.some.injEq] at ho
      subst ho
      have l4 : listed.getD 4 false = true := haft ⟨4, .chain⟩ (by simp) rfl
      have l5 : listed.getD 5 false = true := haft ⟨5, .data⟩ (by simp) rfl
      have hs2 : s = 2 := by
        rw [getD_flip hun] at h6
        rw [l4] at h4
        have h41 : 2 ≤ s := of_decide_eq_true h4.symm
        have h31 : ¬ 3 ≤ s := of_decide_eq_false h6.symm
        omega
      subst hs2
      have t8 : b.tmps[8]? = some (.string ⟨((bs.drop (pl + k)).take n).toArray⟩) := hb 5 _ 8 rfl rfl l5
      have hnv2 : x'.heap[nv]? = some (.cells #[x] 9 (0, 0)) := hnv'
      have cn : x'.cell? ⟨nv, 0, none⟩ = some x := by rw [cellW_of hnv2]; rfl
      unfold Oper.wp
      simp [execOp, go_sem, t2, t8, cn, hcr]
      have hk2 : Kept [nv] x' (x'.setCell ⟨nv, 0, none⟩ (.string ⟨((bs.drop (pl + k)).take n).toArray⟩)) := (Kept.refl _ x').set (p := ⟨nv, 0, none⟩) (.inl (by simp)) _
      exact ⟨3, by omega, by simpa using h3, by simpa using h4, by have : listed.size = 7 := hsz; omega, fun h => absurd h (by omega), hk'.trans (hk2.mono (by simp)), hk2.heap hrv' (by simpa using hrn), hk2.heap hmv' (by simpa using hmn), by rw [heap_setCell_at hnv2]; rfl, by simpa using hr'.kept hk2 (by simpa using fun e => hn e.symm) (by simpa using fun e => hg e.symm), fun _ => hn1 (by omega), fun _ => hn2 (by omega)⟩
    | i + 7, ho => simp at ho
  · intro listed b x' hall hJ hsz hdf hb hbo
    obtain ⟨s, hs3, h3, h4, h6, hT⟩ := hJ
    rw [hall 6 (by decide)] at h6
    have h61 : 3 ≤ s := of_decide_eq_true h6.symm
    have hs3 : s = 3 := by omega
    subst hs3
    obtain ⟨L', hk', hrv', hmv', hnv', hr', hn1, hn2⟩ := hT
    have hok := hn1 (by omega)
    have hfit := hn2 (by omega)
    have ht : txtR (bs.drop pl) most = .ok (⟨((bs.drop (pl + k)).take n).toArray⟩, k + n) := by
      unfold txtR; rw [hok]
      simp only [List.length_drop]
      rw [if_neg (by omega), List.drop_drop]
    refine ⟨hdf, .tuple #[], results_none rfl _ _ _, hk', ?_⟩
    rw [ht]
    exact ⟨rfl, by simpa [Nat.add_assoc] using hr', by simpa using hnv'⟩
end Go.Proofs.YtfiajbgeijgheaaDoor
