
/-
  (*tree.Tree).Insert and Remove.
-/
import Derived.Test.YtjalehlmldlooaaGreatDoorZap17
import Derived.Test.YtjalehlmldlooaaGreatDoorZap18
namespace Go.Proofs.YtjalehlmldlooaaGreatDoor
open Go.RowKit
set_option maxRecDepth 100000

set_option maxHeartbeats 1000000 in
theorem hasRoom_some {R : Rows} {b ch : Nat} {t : Nd} {w : World} (i n : Nat) (k cc : Nat) (a : Option Addr) (j : Nat) (h1 : RowAt b #[.int .i64 (ch : Int), pv t.blk] 89 w) (h2 : t.At R w) (hl : t.els.length ≤ 1073741824) (hi : i ≤ 1073741824) (hat : t.leafAt i = (.slice a k cc, j)) (hk : k ≤ 1073741824) (hn : n ≤ 1073741824) :
    Calls Tryz.prog 44 #[pv b, .int .i64 (i : Int), .int .i64 (n : Int)] w fun r w' => r = .returned (.bool (decide (k + n ≤ ch))) ∧ w' = w := by
  have HA := hid_of' (leafAt_any t i w h2 hl hi)
  rw [hat] at HA
  have c0 := h1.cell 0
  have c1 := h1.cell 1
  unfold pv at *
  have hs : (k : Int) + (n : Int) ≤ 1099511627776 := by omega
  have hd : decide ((k : Int) + (n : Int) ≤ (ch : Int)) = decide (k + n ≤ ch) := by rw [decide_eq_decide]; omega
  clear h1 h2 hat
  go_enter Tryz.func44, Tryz.ntmps44
  go_wp2_with (go_at_call 61; refine HA.out.mono ?_; rintro r w1 ⟨rfl, hw⟩; obtain rfl := hw.symm)
  go_ret
  exact ⟨by rw [← hd]; rfl, rfl⟩

/-- What Insert answers, and where its tree stands then. -/
def InsOut (R : Rows) (b ch : Nat) (l : List El) (w : World) (r : Ending) (w' : World) : Prop := r = .returned .nilIface ∧ TrL R b ch l w' ∧ Kp b w w'
theorem len_L {R : Rows} {b ch : Nat} {l : List El} {w : World} (h : TrL R b ch l w) : Calls Tryz.prog 42 #[pv b] w fun r w' => r = .returned (.int .i64 (l.length : Int)) ∧ w' = w := by
  rcases h.at with ⟨h1, h2⟩ | ⟨t, h1, h2, h3, h4, _⟩
  · exact len_any (R := R) (.inl ⟨h1, h2⟩)
  · exact len_any (.inr ⟨t, h1, h2, h3, h4⟩)

set_option maxHeartbeats 4000000 in
theorem insert_rep {R : Rows} (b ch : Nat) (t : Nd) (ip : Nat) (l : List El) (a' : Option Addr) (c' : Nat) (w : World) (h1 : RowAt b #[.int .i64 (ch : Int), pv t.blk] 89 w) (h2 : t.At R w) (h3 : t.Full) (hu : SlE w (.slice a' l.length c') l) (hip : ip ≤ t.els.length) (hn : t.els.length + l.length ≤ 1073741824) (h0 : l ≠ []) (hno : R.no b) (hok : LOk ch t.leaves)
    (k cc : Nat) (a : Option Addr) (j : Nat) (hat : t.leafAt ip = (.slice a k cc, j)) (hk : k + l.length ≤ ch) (hch : ch ≤ 64) :
    Calls Tryz.prog 19 #[pv b, .int .i64 (ip : Int), .slice a' l.length c'] w (InsOut R b ch (t.els.take ip ++ (l ++ t.els.drop ip)) w) := by
  have hp : 0 < l.length := List.length_pos_iff.2 h0
  have hl0 : ((l.length : Int) == 0) = false := by rw [beq_eq_false_iff_ne]; omega
  have HL := hid_of' (len_any (b := b) (ch := ch) (.inr ⟨t, h1, h2, h3, rfl⟩))
  have HR := hid_of' (hasRoom_some ip l.length k cc a j h1 h2 (by omega) (by omega) hat (by omega) (by omega))
  rw [decide_eq_true hk] at HR
  have hfit := Nd.fits_zero hip
  have HP := hid_of' (replaced_any t ip 0 l a' c' w h2 h3 h0 hfit hn hu)
  rw [show ((0 : Nat) : Int) = 0 from rfl] at HP
  have HE := hid_of' (Nd.rp_els l hfit)
  obtain ⟨A, m, B, j', g, o_, cc', v1, v2, v3, v4⟩ := Nd.rp_lv t ip 0 l hfit
  have hm : m.length = k := by rw [hat] at v4; simp at v4; exact v4.1.2.1.symm
  have HK : Hid (LOk ch (t.rp ip 0 l)) := by
    show LOk _ _
    rw [v2]
    rw [v1] at hok
    refine hok.rp ?_ ?_
    · simp only [List.length_append, List.length_take, List.length_drop]; omega
    · simp only [List.length_append, List.length_take, List.length_drop]; omega
  have e1 : ¬ (ip : Int) < 0 := by omega
  have e2 : ¬ (t.els.length : Int) < (ip : Int) := by omega
  have c1 : w.cell? ⟨b, 1, none⟩ = some (.pointer (some ⟨t.blk, 0, none⟩)) := h1.cell 1
  have HH := hid_of' h1
  unfold pv at HL HR ⊢
  clear hu hp h2 h3 hat v1 v2 v3 v4 hok hm hfit h1
  go_enter Tryz.func19, Tryz.ntmps19
  go_wp2_with (first | (go_at_call 42; refine HL.out.mono ?_; rintro r w1 ⟨rfl, hw⟩; obtain rfl := hw.symm) | (go_at_call 44; refine HR.out.mono ?_; rintro r w1 ⟨rfl, hw⟩; obtain rfl := hw.symm) | (go_at_call 45; go_loud (with_reducible refine HP.out.mono ?_); rintro r w2 ⟨v, rfl, htr, hb2⟩; obtain ⟨tn, rfl, p2, p3, p4⟩ := htr; have d1 := (HH.out.later hb2).cell 1; have df : w2.frozen? ⟨b, 1, none⟩ = false := Lib.frozen_of_heap (HH.out.later hb2) 1; clear c1))
  go_ret
  have q := TrL.of_put hno (HH.out.later hb2) p2 p3 (by rw [p4]; exact HK.out)
  rw [Nd.els_flat, p4, HE.out] at q
  exact ⟨rfl, q, (Kp.of hb2).trans (Kp.cell b 1 _)⟩

/-- What spliced made. -/
def SplAt (R : Rows) (ch : Nat) (l : List El) (P : Prop) (v : Value) (x : World) : Prop := ∃ qs, OTree R qs v x ∧ qs.flatten = l ∧ (P → LOk ch qs)
theorem SplAt.later {R : Rows} {ch : Nat} {l : List El} {P : Prop} {v : Value} {x x' : World} (h : SplAt R ch l P v x) (hb : Below x.heap.size x x') : SplAt R ch l P v x' := by
  obtain ⟨qs, h1, h2⟩ := h
  exact ⟨qs, h1.later hb, h2⟩

set_option maxHeartbeats 4000000 in
theorem insert_spl {R : Rows} (b ch : Nat) (ls : List (List El)) (root : Value) (ip : Nat) (l : List El) (a' : Option Addr) (c' : Nat) (w : World) (h1 : RowAt b #[.int .i64 (ch : Int), root] 89 w) (h2 : OTree R ls root w) (hok : LOk ch ls) (hu : SlE w (.slice a' l.length c') l) (hip : ip ≤ ls.flatten.length) (hn : ls.flatten.length + l.length ≤ 1073741824) (h0 : l ≠ []) (hno : R.no b) (c1 : 2 ≤ ch) (c2 : ch ≤ 64) (hz : R.hi ≤ w.heap.size)
    (hroom : Calls Tryz.prog 44 #[.pointer (some ⟨b, 0, none⟩), .int .i64 (ip : Int), .int .i64 (l.length : Int)] w fun r w' => r = .returned (.bool false) ∧ w' = w) :
    Calls Tryz.prog 19 #[pv b, .int .i64 (ip : Int), .slice a' l.length c'] w (InsOut R b ch (ls.flatten.take ip ++ (l ++ ls.flatten.drop ip)) w) := by
  have hp : 0 < l.length := List.length_pos_iff.2 h0
  have hl0 : ((l.length : Int) == 0) = false := by rw [beq_eq_false_iff_ne]; omega
  obtain ⟨n0, hn0⟩ : ∃ n0, ls.flatten.length = n0 := ⟨_, rfl⟩
  have e1 : ¬ (ip : Int) < 0 := by omega
  have e2 : ¬ (n0 : Int) < (ip : Int) := by omega
  have HR := hid_of' hroom
  clear hroom
  have HC : Hid (∀ x, Below w.heap.size w x → _) := fun x hx => splicedO ch (h2.later hx) ip 0 l (.slice a' l.length c') (hu.later hx) (by omega) (by omega) c1 c2 (Nat.le_trans hz hx.size)
  have HL := hid_of' (len_L ⟨ls, root, h1, h2, rfl, hok⟩)
  rw [hn0] at HL
  rw [show ((0 : Nat) : Int) = 0 from rfl] at HC
  unfold pv at HL ⊢
  obtain ⟨rp, rfl⟩ : ∃ p, root = .pointer p := by
    rcases h2 with ⟨_, rfl⟩ | ⟨t, rfl, _⟩
    · exact ⟨_, rfl⟩
    · exact ⟨_, rfl⟩
  clear h2
  go_enter Tryz.func19, Tryz.ntmps19
  go_upto_region 7 with (first | (go_at_call 42; refine HL.out.mono ?_; rintro r w1 ⟨rfl, hw⟩; obtain rfl := hw.symm) | (go_at_call 44; refine HR.out.mono ?_; rintro r w1 ⟨rfl, hw⟩; obtain rfl := hw.symm))
  refine wp_region_tail 12 (by kernel_rfl) (fun _ => none) (by kernel_rfl) (by kernel_rfl) (by decide) (fun i v x => match i with
    | 0 => v = .pointer (some ⟨b, 0, none⟩)
    | 1 => v = .pointer (some ⟨b, 0, none⟩)
    | 2 => v = .pointer (some ⟨b, 0, none⟩)
    | 3 => v = .pointer (some ⟨b, 0, none⟩)
    | 4 => v = .int .i64 (ch : Int)
    | 5 => v = .pointer (some ⟨b, 0, none⟩)
    | 6 => v = .pointer (some ⟨b, 0, none⟩)
    | 7 => v = .pointer (some ⟨b, 1, none⟩)
    | 8 => v = .pointer rp
    | 9 => v = .int .i64 (ip : Int)
    | 10 => v = .slice a' l.length c'
    | 11 => SplAt R ch (ls.flatten.take ip ++ (l ++ ls.flatten.drop ip)) (LOk ch ls) v x
    | _ => True) (fun _ => false) (fun _ _ _ _ h => by cases h) ?_ ?_ ?_
  · intro i v x x' hR hb
    match i, hR with
    | 0, h => exact h
    | 1, h => exact h
    | 2, h => exact h
    | 3, h => exact h
    | 4, h => exact h
    | 5, h => exact h
    | 6, h => exact h
    | 7, h => exact h
    | 8, h => exact h
    | 9, h => exact h
    | 10, h => exact h
    | 11, h => exact SplAt.later h hb
    | m + 12, h => exact h
  · intro i o hi ho q x vals hX hdep hoth
    have t0 : q.tmps[0]? = some (.pointer (some ⟨b, 0, none⟩)) := by rw [hoth 0 (by kernel_rfl)]; rfl
    have t1 : q.tmps[1]? = some (.int .i64 (ip : Int)) := by rw [hoth 1 (by kernel_rfl)]; rfl
    have t2 : q.tmps[2]? = some (.slice a' l.length c') := by rw [hoth 2 (by kernel_rfl)]; rfl
    match i, hi, ho with
    | 0, _, ho =>
      simp only [List.getElem?_cons_zero, Option.some.injEq] at ho
      subst ho
      unfold Oper.wp
      simp [execOp, go_sem, t0]
      exact came _ rfl (Below.refl _ _) rfl (fun h => absurd h (by decide))
    | 1, _, ho =>
      simp only [List.getElem?_cons_succ, List.getElem?_cons_zero, Option.some.injEq] at ho
      subst ho
      unfold Oper.wp
      simp [execOp, go_sem, t0]
      exact came _ rfl (Below.refl _ _) rfl (fun h => absurd h (by decide))
    | 2, _, ho =>
      simp only [List.getElem?_cons_succ, List.getElem?_cons_zero, Option.some.injEq] at ho
      subst ho
      obtain ⟨u1, e1⟩ := hdep ⟨1, .data⟩ (by simp) rfl _ 36 rfl rfl
      rw [show vals 1 = .pointer (some ⟨b, 0, none⟩) from e1] at u1
      unfold Oper.wp
      simp [execOp, go_sem, u1]
      exact came _ rfl (Below.refl _ _) rfl (fun h => absurd h (by decide))
    | 3, _, ho =>
      simp only [List.getElem?_cons_succ, List.getElem?_cons_zero, Option.some.injEq] at ho
      subst ho
      obtain ⟨u2, e2⟩ := hdep ⟨2, .data⟩ (by simp) rfl _ 37 rfl rfl
      rw [show vals 2 = .pointer (some ⟨b, 0, none⟩) from e2] at u2
      unfold Oper.wp
      simp [execOp, go_sem, u2]
      exact came _ rfl (Below.refl _ _) rfl (fun h => absurd h (by decide))
    | 4, _, ho =>
      simp only [List.getElem?_cons_succ, List.getElem?_cons_zero, Option.some.injEq] at ho
      subst ho
      obtain ⟨u3, e3⟩ := hdep ⟨3, .data⟩ (by simp) rfl _ 38 rfl rfl
      rw [show vals 3 = .pointer (some ⟨b, 0, none⟩) from e3] at u3
      have cc := (h1.later hX).cell 0
      unfold Oper.wp
      simp [execOp, go_sem, u3, cc]
      exact came _ rfl (Below.refl _ _) rfl (fun h => absurd h (by decide))
    | 5, _, ho =>
      simp only [List.getElem?_cons_succ, List.getElem?_cons_zero, Option.some.injEq] at ho
      subst ho
      unfold Oper.wp
      simp [execOp, go_sem, t0]
      exact came _ rfl (Below.refl _ _) rfl (fun h => absurd h (by decide))
    | 6, _, ho =>
      simp only [List.getElem?_cons_succ, List.getElem?_cons_zero, Option.some.injEq] at ho
      subst ho
      obtain ⟨u5, e5⟩ := hdep ⟨5, .data⟩ (by simp) rfl _ 40 rfl rfl
      rw [show vals 5 = .pointer (some ⟨b, 0, none⟩) from e5] at u5
      unfold Oper.wp
      simp [execOp, go_sem, u5]
      exact came _ rfl (Below.refl _ _) rfl (fun h => absurd h (by decide))
    | 7, _, ho =>
      simp only [List.getElem?_cons_succ, List.getElem?_cons_zero, Option.some.injEq] at ho
      subst ho
      obtain ⟨u6, e6⟩ := hdep ⟨6, .data⟩ (by simp) rfl _ 41 rfl rfl
      rw [show vals 6 = .pointer (some ⟨b, 0, none⟩) from e6] at u6
      unfold Oper.wp
      simp [execOp, go_sem, u6]
      exact came _ rfl (Below.refl _ _) rfl (fun h => absurd h (by decide))
    | 8, _, ho =>
      simp only [List.getElem?_cons_succ, List.getElem?_cons_zero, Option.some.injEq] at ho
      subst ho
      obtain ⟨u7, e7⟩ := hdep ⟨7, .data⟩ (by simp) rfl _ 42 rfl rfl
      rw [show vals 7 = .pointer (some ⟨b, 1, none⟩) from e7] at u7
      have cc := (h1.later hX).cell 1
      unfold Oper.wp
      simp [execOp, go_sem, u7, cc]
      exact came _ rfl (Below.refl _ _) rfl (fun h => absurd h (by decide))
    | 9, _, ho =>
      simp only [List.getElem?_cons_succ, List.getElem?_cons_zero, Option.some.injEq] at ho
      subst ho
      unfold Oper.wp
      simp [execOp, go_sem, t1]
      exact came _ rfl (Below.refl _ _) rfl (fun h => absurd h (by decide))
    | 10, _, ho =>
      simp only [List.getElem?_cons_succ, List.getElem?_cons_zero, Option.some.injEq] at ho
      subst ho
      unfold Oper.wp
      simp [execOp, go_sem, t2]
      exact came _ rfl (Below.refl _ _) rfl (fun h => absurd h (by decide))
    | 11, _, ho =>
      simp only [List.getElem?_cons_succ, List.getElem?_cons_zero, Option.some.injEq] at ho
      subst ho
      obtain ⟨u4, e4⟩ := hdep ⟨4, .data⟩ (by simp) rfl _ 39 rfl rfl
      rw [show vals 4 = .int .i64 (ch : Int) from e4] at u4
      obtain ⟨u8, e8⟩ := hdep ⟨8, .data⟩ (by simp) rfl _ 43 rfl rfl
      rw [show vals 8 = .pointer rp from e8] at u8
      obtain ⟨u9, e9⟩ := hdep ⟨9, .data⟩ (by simp) rfl _ 44 rfl rfl
      rw [show vals 9 = .int .i64 (ip : Int) from e9] at u9
      obtain ⟨u10, e10⟩ := hdep ⟨10, .data⟩ (by simp) rfl _ 45 rfl rfl
      rw [show vals 10 = .slice a' l.length c' from e10] at u10
      unfold Oper.wp
      simp [go_sem, u4, u8, u9, u10]
      refine (HC.out _ hX).mono ?_
      rintro r x1 ⟨v1, qs, rfl, o1, e1', y1, hb1⟩
      exact came _ rfl hb1 ⟨qs, o1, by rw [e1']; simp only [Nat.add_zero, List.append_assoc], y1⟩ (fun h => absurd h (by decide))
    | m + 12, hi, _ => exact absurd hi (by omega)
  · intro vals x' hX hR _
    obtain ⟨qs, o1, q1, y1⟩ : SplAt R ch (ls.flatten.take ip ++ (l ++ ls.flatten.drop ip)) (LOk ch ls) (vals 11) x' := hR 11 (by decide)
    have r0 : vals 0 = .pointer (some ⟨b, 0, none⟩) := hR 0 (by decide)
    have d1 := (h1.later hX).cell 1
    have df : x'.frozen? ⟨b, 1, none⟩ = false := Lib.frozen_of_heap (h1.later hX) 1
    obtain ⟨rq, hrq⟩ : ∃ p, vals 11 = .pointer p := by
      rcases o1 with ⟨_, h⟩ | ⟨t, h, _⟩
      · exact ⟨_, h⟩
      · exact ⟨_, h⟩
    rw [hrq] at o1
    simp only [List.take, List.drop, putAll, hrq, r0]
    go_wp2
    go_ret
    have q := TrL.of_put_o hno (h1.later hX) o1 (y1 hok)
    rw [q1] at q
    exact ⟨rfl, q, (Kp.of hX).trans (Kp.cell b 1 _)⟩

/-- Insert, of a place that there is. -/
theorem insert_any {R : Rows} {b ch : Nat} {lr : List El} {w : World} (h : TrL R b ch lr w) (ip : Nat) (l : List El) (u : Value) (hu : SlE w u l) (hip : ip ≤ lr.length) (hn : lr.length + l.length ≤ 1073741824) (hno : R.no b) (c1 : 2 ≤ ch) (c2 : ch ≤ 64) (hz : R.hi ≤ w.heap.size) :
    Calls Tryz.prog 19 #[pv b, .int .i64 (ip : Int), u] w (InsOut R b ch (lr.take ip ++ (l ++ lr.drop ip)) w) := by
  obtain ⟨a', c', rfl⟩ := hu.form
  by_cases h0 : l = []
  · subst h0
    have HL := hid_of' (len_L h)
    have e1 : ¬ (ip : Int) < 0 := by omega
    have e2 : ¬ (lr.length : Int) < (ip : Int) := by omega
    have HT : Hid (TrL R b ch (lr.take ip ++ ([] ++ lr.drop ip)) w) := by
      show TrL _ _ _ _ _
      rw [List.nil_append, List.take_append_drop]; exact h
    unfold pv at HL ⊢
    clear h hu
    go_enter Tryz.func19, Tryz.ntmps19
    go_wp2_with (go_at_call 42; refine HL.out.mono ?_; rintro r w1 ⟨rfl, hw⟩; obtain rfl := hw.symm)
    go_ret
    exact ⟨rfl, HT.out, Kp.of (Below.refl _ _)⟩
  · have h9 := h
    obtain ⟨ls, root, h1, h2, h3, hok⟩ := h9
    subst h3
    rcases h2 with ⟨rfl, rfl⟩ | ⟨t, rfl, k1, k2, rfl⟩
    · have := insert_spl b ch [] (.pointer none) ip l a' c' w h1 (.inl ⟨rfl, rfl⟩) trivial hu hip hn h0 hno c1 c2 hz (hasRoom_nil _ _ h1)
      exact this
    · have hip' : ip ≤ t.els.length := by rw [Nd.els_flat]; exact hip
      have hn' : t.els.length + l.length ≤ 1073741824 := by rw [Nd.els_flat]; exact hn
      obtain ⟨A, m, B, j, g, o_, cc, v1, v2, v3, v4⟩ := Nd.rp_lv t ip 0 l (Nd.fits_zero hip')
      by_cases hk : m.length + l.length ≤ ch
      · have := insert_rep b ch t ip l a' c' w h1 k1 k2 hu hip' hn' h0 hno hok m.length cc _ j v4 hk c2
        rw [Nd.els_flat] at this
        exact this
      · have hm : m.length ≤ 1073741824 := by
          have : m.length ≤ t.els.length := by rw [Nd.els_flat, v1]; simp only [List.flatten_append, List.flatten_cons, List.length_append]; omega
          omega
        have hr := hasRoom_some ip l.length m.length cc _ j h1 k1 (by omega) (by omega) v4 hm (by omega)
        rw [decide_eq_false hk] at hr
        have := insert_spl b ch t.leaves _ ip l a' c' w h1 (.inr ⟨t, rfl, k1, k2, rfl⟩) hok hu hip hn h0 hno c1 c2 hz hr
        exact this
end Go.Proofs.YtjalehlmldlooaaGreatDoor
