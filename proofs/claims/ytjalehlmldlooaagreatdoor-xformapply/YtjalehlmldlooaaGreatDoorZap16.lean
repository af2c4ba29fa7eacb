
/-
  tree.glued. How long the leaves are: what P4.5 asks of a row of leaves, and that glueing, packing and replacing keep it. tree.glued of trees or none; tree.packed of any row; tree.spliced.
-/
import Derived.Test.YtjalehlmldlooaaGreatDoorZap15
namespace Go.Proofs.YtjalehlmldlooaaGreatDoor
open Go.RowKit
set_option maxRecDepth 100000

theorem Nd.fr_last : ∀ (t : Nd), t.Full → (t.fr t.els.length).2 ≠ []
  | .leaf _ _ _ _ l, h => by simp only [Nd.fr, Nd.els, List.take_length]; exact h
  | .inner _ x y, h => by
    have := Nd.fr_last y h.2
    simp only [Nd.fr, Nd.els, List.length_append]
    rw [if_neg (by omega), show x.els.length + y.els.length - x.els.length = y.els.length by omega]
    exact this
/-- Two rows of leaves, glued. -/
def glueL (ch : Int) (x y : Nd) : List (List El) := if ch < ((x.fr x.els.length).2.length : Int) + ((y.bk 0).1.length : Int) then x.leaves ++ y.leaves else ((x.fr x.els.length).1 ++ [(x.fr x.els.length).2 ++ (y.bk 0).1]) ++ (y.bk 0).2

set_option maxHeartbeats 4000000 in
theorem glued_some {R : Rows} {nx ny : Nd} {w : World} (ch : Int) (hx : nx.At R w) (hy : ny.At R w) (fx : nx.Full) (fy : ny.Full) (hn : nx.els.length + ny.els.length ≤ 1073741824) :
    Calls Tryz.prog 69 #[.int .i64 ch, .pointer (some ⟨nx.blk, 0, none⟩), .pointer (some ⟨ny.blk, 0, none⟩)] w fun r w' => ∃ v, r = .returned v ∧ OTree R (glueL ch nx ny) v w' ∧ Below w.heap.size w w' := by
  have d4 := nd_sz hx
  have HZ := hid_of' hx.hi
  have HF := hid_of' (front_any nx nx.els.length w hx fx (by omega) (Nat.le_refl _))
  have HK : Hid (∀ x, Below w.heap.size w x → Calls Tryz.prog 67 #[.pointer (some ⟨ny.blk, 0, none⟩), .int .i64 0] x fun r w' => ∃ u v, r = .returned (.tuple #[u, v]) ∧ SlE w' u (ny.bk 0).1 ∧ OTree R (ny.bk 0).2 v w' ∧ Below x.heap.size x w') := fun x hx' => back_any ny 0 x (hy.later hx') fy (by omega) (by omega)
  have HJ : Hid (∀ x, Below w.heap.size w x → _) := fun x hx' => joined_any _ nx ny rfl x (hx.later hx') (hy.later hx') fx fy (by rw [List.length_append]; omega)
  have l1 := congrArg List.length (Nd.fr_els nx nx.els.length)
  have l2 := congrArg List.length (Nd.bk_els ny 0)
  rw [List.length_append, List.length_take] at l1
  rw [List.length_append, List.length_drop] at l2
  have hne := Nd.fr_last nx fx
  have HG : Hid (glueL ch nx ny = if ch < ((nx.fr nx.els.length).2.length : Int) + ((ny.bk 0).1.length : Int) then nx.leaves ++ ny.leaves else ((nx.fr nx.els.length).1 ++ [(nx.fr nx.els.length).2 ++ (ny.bk 0).1]) ++ (ny.bk 0).2) := rfl
  obtain ⟨ah, eah⟩ : ∃ z, (nx.fr nx.els.length).1 = z := ⟨_, rfl⟩
  obtain ⟨la, ela⟩ : ∃ z, (nx.fr nx.els.length).2 = z := ⟨_, rfl⟩
  obtain ⟨fi, efi⟩ : ∃ z, (ny.bk 0).1 = z := ⟨_, rfl⟩
  obtain ⟨be, ebe⟩ : ∃ z, (ny.bk 0).2 = z := ⟨_, rfl⟩
  rw [eah, ela] at l1 HF HG
  rw [efi, ebe] at l2 HK HG
  rw [ela] at hne
  have b1 : la.length + fi.length ≤ 1073741824 := by omega
  have b2 : ah.flatten.length + (la.length + fi.length) + be.flatten.length ≤ 1073741824 := by omega
  have HB := hid_of' (show la.length + fi.length ≤ 1073741824 ∧ ah.flatten.length + (la.length + fi.length) + be.flatten.length ≤ 1073741824 from ⟨b1, b2⟩)
  clear l1 l2 eah ela efi ebe hx hy fx fy b2
  go_enter Tryz.func69, Tryz.ntmps69
  go_upto_region 5 with (first | (go_at_call 66; with_reducible refine HF.out.mono ?_; rintro r w1 ⟨v1, u1, rfl, o1, s1, hb1⟩) | (go_at_call 67; with_reducible refine (HK.out _ hb1).mono ?_; rintro r w2 ⟨u2, v2, rfl, s2, o2, hb2⟩))
  replace o1 := o1.later hb2
  replace s1 := s1.later hb2
  have hB := bgo hb1 hb2
  obtain ⟨a1', c1', rfl⟩ := s1.form
  obtain ⟨a2', c2', rfl⟩ := s2.form
  clear hb1 hb2 HF HK d4
  by_cases hc : ch < (la.length : Int) + (fi.length : Int)
  · have HE := HG.out
    rw [if_pos hc] at HE
    have HE' := hid_of' HE
    clear HE HG
    go_wp2_with (go_at_call 82; with_reducible refine (HJ.out _ hB).mono ?_; rintro r w3 ⟨v3, rfl, o3, hb3⟩)
    go_ret
    rw [HE'.out]
    exact ⟨_, rfl, o3.o, bgo hB hb3⟩
  · have HE := HG.out
    rw [if_neg hc] at HE
    have HE' := hid_of' HE
    clear HE HG HJ
    have HC : Hid (Calls Tryz.prog 64 #[.slice (some ⟨w2.heap.size, 0, none⟩) 2 2] (w2.alloc (.cells #[.slice a1' la.length c1', .slice a2' fi.length c2'] 22)) fun r w' => ∃ v, r = .returned v ∧ OwnE (w2.heap.size + 1) v (la ++ fi) w' ∧ Below (w2.heap.size + 1) (w2.alloc (.cells #[.slice a1' la.length c1', .slice a2' fi.length c2'] 22)) w') := by
      have H := concat_any [(.slice a1' la.length c1', la), (.slice a2' fi.length c2', fi)] w2.heap.size 0 2 (w2.alloc (.cells #[.slice a1' la.length c1', .slice a2' fi.length c2'] 22)) (fun i p hp => by
        have hr := row_new w2 #[.slice a1' la.length c1', .slice a2' fi.length c2'] 22
        match i, hp with
        | 0, hp => simp at hp; subst hp; exact ⟨by rw [hr.cell]; rfl, s1.later (below_one _ _)⟩
        | 1, hp => simp at hp; subst hp; exact ⟨by rw [hr.cell]; rfl, s2.later (below_one _ _)⟩
        | i + 2, hp => simp at hp) (by simp) (by simp [catE]; omega) (by simp)
      simp only [World.size_alloc, catE, List.flatMap_cons, List.flatMap_nil, List.append_nil] at H
      exact H
    have hne2 : la ++ fi ≠ [] := by intro h; exact hne (List.append_eq_nil_iff.1 h).1
    have hlen : (la ++ fi).length ≤ 1099511627776 := by rw [List.length_append]; omega
    go_wp2_with (go_at_call 64; with_reducible refine HC.out.mono ?_; rintro r w3 ⟨v3, rfl, ho, hb3⟩; obtain ⟨g1, c1, hg1, rfl, he1, hlc, hc9⟩ := ho.room hne2; have hb3' : Below w2.heap.size w2 w3 := (below_one w2 _).trans (hb3.mono (by omega)); clear ho HC hb3)
    have HO := leafOf_any (la ++ fi) g1 0 c1 w3 he1 hlen hlc hc9 (Rk.new (Nat.le_trans HZ.out (by have := hB.size; omega))) (Nat.le_trans HZ.out (Nat.le_trans hB.size hb3'.size))
    rw [List.length_append] at HO
    refine HO.mono ?_
    rintro r w4 ⟨b4, _, rfl, t4, hb4⟩
    have q1 := (o1.later hb3').later hb4
    have J1 := hid_of' (joinedO (u := .pointer (some ⟨b4, 0, none⟩)) (ms := [la ++ fi]) q1 (.inr ⟨_, rfl, t4, hne2, rfl⟩) (by have := HB.out; simp only [List.flatten_append, List.flatten_cons, List.flatten_nil, List.append_nil, List.length_append]; omega))
    have q2 := (o2.later hb3').later hb4
    unfold pv
    clear HO he1 t4
    go_wp2_with (first | (go_at_call 82; with_reducible refine J1.out.mono ?_; rintro r w5 ⟨v5, rfl, q5, hb5⟩; clear J1) | (go_at_call 82; with_reducible refine (joinedO q5 (q2.later hb5) (by have := HB.out; simp only [List.flatten_append, List.flatten_cons, List.flatten_nil, List.append_nil, List.length_append]; omega)).mono ?_; rintro r w6 ⟨v6, rfl, q6, hb6⟩))
    go_ret
    rw [HE'.out]
    exact ⟨_, rfl, q6, bgo (bgo (bgo (bgo hB hb3') hb4) hb5) hb6⟩
end Go.Proofs.YtjalehlmldlooaaGreatDoor
namespace Go.Proofs.YtjalehlmldlooaaGreatDoor
open Go.RowKit
set_option maxRecDepth 100000

/-- No leaf is longer than ch; two neighbours have more than half of it together. -/
def LOk (ch : Nat) : List (List El) → Prop
  | [] => True
  | a :: r => a.length ≤ ch ∧ (∀ b, r.head? = some b → ch / 2 < a.length + b.length) ∧ LOk ch r
theorem LOk.app {ch : Nat} : ∀ {xs ys : List (List El)}, LOk ch (xs ++ ys) ↔ LOk ch xs ∧ LOk ch ys ∧ ∀ a b, xs.getLast? = some a → ys.head? = some b → ch / 2 < a.length + b.length
  | [], ys => by simp [LOk]
  | [a], ys => by
    simp only [List.cons_append, List.nil_append, LOk, List.head?_nil, List.getLast?_singleton, Option.some.injEq]
    constructor
    · rintro ⟨h1, h2, h3⟩
      exact ⟨⟨h1, fun b hb => absurd hb (by simp), trivial⟩, h3, fun a' b e hb => by subst e; exact h2 b hb⟩
    · rintro ⟨⟨h1, _, _⟩, h3, h4⟩
      exact ⟨h1, fun b hb => h4 _ b rfl hb, h3⟩
  | a :: c :: xs, ys => by
    have ih := LOk.app (ch := ch) (xs := c :: xs) (ys := ys)
    rw [List.cons_append, LOk, ih, LOk, List.getLast?_cons_cons]
    simp only [List.cons_append, List.head?_cons]
    constructor
    · rintro ⟨h1, h2, h3, h4, h5⟩
      exact ⟨⟨h1, h2, h3⟩, h4, h5⟩
    · rintro ⟨⟨h1, h2, h3⟩, h4, h5⟩
      exact ⟨h1, h2, h3, h4, h5⟩
theorem LOk.one {ch : Nat} {a : List El} (h : a.length ≤ ch) : LOk ch [a] := ⟨h, fun _ hb => (by cases hb), trivial⟩
theorem Nd.fr_lv : ∀ (t : Nd) (i : Nat), ∃ l r, t.leaves = (t.fr i).1 ++ l :: r ∧ (t.fr i).2.length ≤ l.length
  | .leaf _ _ _ _ l, i => ⟨l, [], rfl, by simp only [Nd.fr, List.length_take]; omega⟩
  | .inner _ x y, i => by
    rw [Nd.fr, Nd.leaves]
    split
    · obtain ⟨l, r, h1, h2⟩ := Nd.fr_lv x i
      exact ⟨l, r ++ y.leaves, by rw [h1, List.append_assoc, List.cons_append], h2⟩
    · obtain ⟨l, r, h1, h2⟩ := Nd.fr_lv y (i - x.els.length)
      exact ⟨l, r, by rw [h1]; simp only [List.append_assoc], h2⟩
theorem Nd.bk_lv : ∀ (t : Nd) (i : Nat), ∃ l r, t.leaves = r ++ l :: (t.bk i).2 ∧ (t.bk i).1.length ≤ l.length
  | .leaf _ _ _ _ l, i => ⟨l, [], rfl, by simp only [Nd.bk, List.length_drop]; omega⟩
  | .inner _ x y, i => by
    rw [Nd.bk, Nd.leaves]
    split
    · obtain ⟨l, r, h1, h2⟩ := Nd.bk_lv x i
      exact ⟨l, r, by rw [h1]; simp only [List.append_assoc, List.cons_append], h2⟩
    · obtain ⟨l, r, h1, h2⟩ := Nd.bk_lv y (i - x.els.length)
      exact ⟨l, x.leaves ++ r, by rw [h1, List.append_assoc], h2⟩
theorem Nd.fr_end : ∀ (t : Nd), t.leaves = (t.fr t.els.length).1 ++ [(t.fr t.els.length).2]
  | .leaf _ _ _ _ l => by simp [Nd.fr, Nd.leaves, Nd.els]
  | .inner _ x y => by
    have := Nd.fr_end y
    unfold Nd.fr
    rw [if_neg (by simp only [Nd.els, List.length_append]; omega)]
    simp only [Nd.els, Nd.leaves, List.length_append]
    rw [show x.els.length + y.els.length - x.els.length = y.els.length by omega, List.append_assoc, ← this]
theorem Nd.bk_zero : ∀ (t : Nd), t.Full → t.leaves = (t.bk 0).1 :: (t.bk 0).2
  | .leaf _ _ _ _ l, _ => by simp [Nd.bk, Nd.leaves]
  | .inner _ x y, hf => by
    have := Nd.bk_zero x hf.1
    have hp := hf.1.pos
    unfold Nd.bk
    rw [if_pos hp]
    simp only [Nd.leaves]
    rw [← List.cons_append, ← this]
theorem LOk.fr {ch : Nat} {t : Nd} (h : LOk ch t.leaves) (i : Nat) : LOk ch (t.fr i).1 := by
  obtain ⟨l, r, h1, _⟩ := Nd.fr_lv t i
  rw [h1] at h
  exact (LOk.app.1 h).1
theorem LOk.bk {ch : Nat} {t : Nd} (h : LOk ch t.leaves) (i : Nat) : LOk ch (t.bk i).2 := by
  obtain ⟨l, r, h1, _⟩ := Nd.bk_lv t i
  rw [h1] at h
  exact (LOk.app.1 h).2.1.2.2
theorem LOk.glue {ch : Nat} {x y : Nd} (hx : LOk ch x.leaves) (hy : LOk ch y.leaves) (fy : y.Full) : LOk ch (glueL ch x y) := by
  have e1 := Nd.fr_end x
  have e2 := Nd.bk_zero y fy
  unfold glueL
  split
  · rename_i h
    refine LOk.app.2 ⟨hx, hy, fun a b ha hb => ?_⟩
    rw [e1, List.getLast?_append, List.getLast?_singleton] at ha
    rw [e2] at hb
    simp at ha hb
    subst ha hb
    omega
  · rename_i h
    rw [e1] at hx
    rw [e2] at hy
    obtain ⟨a1, a2, a3⟩ := LOk.app.1 hx
    obtain ⟨b1, b2, b3⟩ := hy
    refine LOk.app.2 ⟨LOk.app.2 ⟨a1, LOk.one (by rw [List.length_append]; omega), fun a b ha hb => ?_⟩, b3, fun a b ha hb => ?_⟩
    · simp only [List.head?_cons, Option.some.injEq] at hb
      have := a3 a _ ha rfl
      subst hb
      rw [List.length_append]
      omega
    · rw [List.getLast?_append, List.getLast?_singleton] at ha
      simp at ha
      have := b2 b hb
      subst ha
      rw [List.length_append]
      omega
theorem cutL_b : ∀ (n : Nat) (l : List El) (q c : Nat), 1 ≤ n → q * n ≤ l.length → l.length ≤ c * n → ∀ m ∈ cutL n l, q ≤ m.length ∧ m.length ≤ c := by
  intro n
  induction n using Nat.strongRecOn with
  | ind n ih =>
    intro l q c h1 hq hc m hm
    by_cases hn : n = 1
    · subst hn
      rw [cutL, dif_pos (by omega)] at hm
      simp at hm
      subst hm
      omega
    · rw [cutL, dif_neg (by omega)] at hm
      obtain ⟨hf, ehf⟩ : ∃ z, n / 2 = z := ⟨_, rfl⟩
      obtain ⟨at_, eat⟩ : ∃ z, l.length * hf / n = z := ⟨_, rfl⟩
      rw [ehf, eat] at hm
      have d1 : at_ * n ≤ l.length * hf := by rw [← eat]; exact Nat.div_mul_le_self _ _
      have d2 : l.length * hf < (at_ + 1) * n := by rw [← eat]; exact (Nat.div_lt_iff_lt_mul (by omega)).1 (Nat.lt_succ_self _)
      obtain ⟨k, ek⟩ : ∃ k, n = hf + k := ⟨n - hf, by omega⟩
      have kp : 0 < k := by omega
      have hp : 0 < hf := by omega
      have hnp : 0 < n := by omega
      -- q * hf ≤ at_
      have a1 : q * hf ≤ at_ := by
        refine Nat.le_of_lt_succ (Nat.lt_of_mul_lt_mul_right (a := n) (Nat.lt_of_le_of_lt ?_ d2))
        rw [Nat.mul_right_comm]
        exact Nat.mul_le_mul_right hf hq
      have a2 : at_ ≤ c * hf := by
        refine Nat.le_of_mul_le_mul_right (c := n) (Nat.le_trans d1 ?_) hnp
        rw [Nat.mul_right_comm]
        exact Nat.mul_le_mul_right hf hc
      have e3 : l.length * n = l.length * hf + l.length * k := by rw [ek, Nat.mul_add]
      have a0 : at_ ≤ l.length := by
        refine Nat.le_of_mul_le_mul_right (c := n) (Nat.le_trans d1 ?_) hnp
        rw [e3]; omega
      have e4 : (l.length - at_) * n = l.length * n - at_ * n := Nat.sub_mul _ _ _
      have a3 : q * k ≤ l.length - at_ := by
        refine Nat.le_of_mul_le_mul_right (c := n) ?_ hnp
        rw [e4, Nat.mul_right_comm]
        have := Nat.mul_le_mul_right k hq
        omega
      have a4 : l.length - at_ ≤ c * k := by
        refine Nat.le_of_lt_succ (Nat.lt_of_mul_lt_mul_right (a := n) ?_)
        rw [e4, Nat.succ_mul, Nat.mul_right_comm]
        have := Nat.mul_le_mul_right k hc
        have e5 : (at_ + 1) * n = at_ * n + n := Nat.succ_mul _ _
        omega
      rcases List.mem_append.1 hm with hm | hm
      · exact ih hf (by omega) _ q c hp (by rw [List.length_take, Nat.min_eq_left a0]; exact a1) (by rw [List.length_take, Nat.min_eq_left a0]; exact a2) m hm
      · rw [show n - hf = k by omega] at hm
        exact ih k (by omega) _ q c kp (by rw [List.length_drop]; exact a3) (by rw [List.length_drop]; exact a4) m hm
theorem LOk.of_b {ch q : Nat} (hq : ch / 2 < q + q) : ∀ (ls : List (List El)), (∀ m ∈ ls, q ≤ m.length ∧ m.length ≤ ch) → LOk ch ls
  | [], _ => trivial
  | a :: r, h => by
    refine ⟨(h a (by simp)).2, fun b hb => ?_, LOk.of_b hq r fun m hm => h m (by simp [hm])⟩
    have h1 := (h a (by simp)).1
    have h2 := (h b (by rw [List.mem_cons]; exact .inr (List.mem_of_head? hb))).1
    omega
theorem LOk.packed {ch : Nat} (h2 : 2 ≤ ch) (l : List El) (hl : l ≠ []) : LOk ch (cutL (pkN ch l.length) l) := by
  have hp : 0 < l.length := List.length_pos_iff.2 hl
  obtain ⟨b1, b2⟩ := pkN_b (ch := ch) (len := l.length) (by omega) hp
  have u1 : l.length ≤ ch * pkN ch l.length := by
    have := Nat.lt_mul_div_succ (l.length + ch - 1) (show 0 < ch by omega)
    unfold pkN
    rw [Nat.mul_succ] at this
    omega
  by_cases h1 : pkN ch l.length = 1
  · rw [h1] at u1 ⊢
    rw [cutL, dif_pos (by omega)]
    exact LOk.one (by omega)
  · refine LOk.of_b (q := ch / 2) (by omega) _ (cutL_b _ l (ch / 2) ch b1 ?_ u1)
    have u2 : pkN ch l.length * ch ≤ l.length + ch - 1 := by unfold pkN; exact Nat.div_mul_le_self _ _
    obtain ⟨n, en⟩ : ∃ n, pkN ch l.length = n + 2 := ⟨pkN ch l.length - 2, by omega⟩
    rw [en] at u2 ⊢
    have u3 : ch / 2 * 2 ≤ ch := Nat.div_mul_le_self _ _
    have u4 : ch / 2 * n ≤ n * ch := by rw [Nat.mul_comm]; exact Nat.mul_le_mul_left n (by omega)
    rw [Nat.mul_add]
    rw [Nat.add_mul] at u2
    omega
end Go.Proofs.YtjalehlmldlooaaGreatDoor
namespace Go.Proofs.YtjalehlmldlooaaGreatDoor
open Go.RowKit
set_option maxRecDepth 100000

/-- Glued: a tree, or none. -/
theorem gluedO {R : Rows} {ls ms : List (List El)} {v u : Value} {w : World} (ch : Nat) (h1 : OTree R ls v w) (h2 : OTree R ms u w) (hn : ls.flatten.length + ms.flatten.length ≤ 1073741824) :
    Calls Tryz.prog 69 #[.int .i64 (ch : Int), v, u] w fun r w' => ∃ v' qs, r = .returned v' ∧ OTree R qs v' w' ∧ qs.flatten = ls.flatten ++ ms.flatten ∧ (LOk ch ls → LOk ch ms → LOk ch qs) ∧ Below w.heap.size w w' := by
  rcases h1 with ⟨rfl, rfl⟩ | ⟨t, rfl, a1, a2, rfl⟩
  · obtain ⟨p, rfl⟩ : ∃ p, u = .pointer p := by
      rcases h2 with ⟨_, rfl⟩ | ⟨t, rfl, _⟩
      · exact ⟨_, rfl⟩
      · exact ⟨_, rfl⟩
    refine (glued_nil1 ch p w).mono ?_
    rintro r w1 ⟨rfl, rfl⟩
    exact ⟨_, ms, rfl, h2, rfl, fun _ h => h, Below.refl _ _⟩
  · rcases h2 with ⟨rfl, rfl⟩ | ⟨t', rfl, b1, b2, rfl⟩
    · refine (glued_nil2' ch t.blk w).mono ?_
      rintro r w1 ⟨rfl, rfl⟩
      exact ⟨_, t.leaves, rfl, .inr ⟨t, rfl, a1, a2, rfl⟩, by simp, fun h _ => h, Below.refl _ _⟩
    · rw [← Nd.els_flat, ← Nd.els_flat] at hn
      refine (glued_some ch a1 b1 a2 b2 hn).mono ?_
      rintro r w1 ⟨v', rfl, ht, hb⟩
      refine ⟨_, _, rfl, ht, ?_, fun k1 k2 => LOk.glue k1 k2 b2, hb⟩
      have l1 := Nd.fr_els t t.els.length
      have l2 := Nd.bk_els t' 0
      rw [List.take_length] at l1
      rw [List.drop_zero] at l2
      unfold glueL
      split
      · rw [List.flatten_append]
      · simp only [List.flatten_append, List.flatten_cons, List.flatten_nil, List.append_nil]
        rw [← Nd.els_flat, ← Nd.els_flat]
        have l3 : _ ++ _ = t.els ++ t'.els := congr (congrArg HAppend.hAppend l1) l2
        simpa only [List.append_assoc] using l3
theorem SlE.room {w : World} {a : Option Addr} {n c : Nat} {l : List El} (h : SlE w (.slice a n c) l) (hl : l ≠ []) : ∃ g o_, a = some ⟨g, o_, none⟩ ∧ n = l.length ∧ ElsAt g o_ l w := by
  rcases h with ⟨e, _⟩ | ⟨g, o_, c', e, hE⟩
  · exact absurd e hl
  · cases e
    exact ⟨g, o_, rfl, rfl, hE⟩
set_option maxHeartbeats 400000 in
theorem packed_none (ch : Int) (a : Option Addr) (c : Nat) (w : World) : Calls Tryz.prog 68 #[.int .i64 ch, .slice a 0 c] w fun r w' => r = .returned (.pointer none) ∧ w' = w := by
  go_enter Tryz.func68, Tryz.ntmps68
  go_wp2
  go_ret
  exact ⟨rfl, rfl⟩
theorem packedO {R : Rows} (ch : Nat) (l : List El) (v : Value) {base : Nat} (w : World) (ho : OwnE base v l w) (hn : l.length ≤ 1073741824) (h1 : 2 ≤ ch) (h2 : ch ≤ 64) (hz : R.hi ≤ w.heap.size) :
    Calls Tryz.prog 68 #[.int .i64 (ch : Int), v] w fun r w' => ∃ v' qs, r = .returned v' ∧ OTree R qs v' w' ∧ qs.flatten = l ∧ LOk ch qs ∧ Below w.heap.size w w' := by
  by_cases hl : l = []
  · subst hl
    obtain ⟨a, c, rfl⟩ := ho.form
    refine (packed_none ch a c w).mono ?_
    rintro r w1 ⟨rfl, rfl⟩
    exact ⟨_, [], rfl, .inl ⟨rfl, rfl⟩, rfl, trivial, Below.refl _ _⟩
  · obtain ⟨g, c, _, rfl, hE, hlc, hc⟩ := ho.room hl
    refine (packed_some ch l g 0 c w hE hlc hc hn hl (by omega) h2 hz).mono ?_
    rintro r w1 ⟨v', rfl, ⟨t, rfl, k1, k2, k3, k4⟩, hb⟩
    exact ⟨_, _, rfl, .inr ⟨t, rfl, k1, k2, k4⟩, by rw [← k4, ← Nd.els_flat, k3], LOk.packed h1 l hl, hb⟩

theorem frontO {R : Rows} {ls : List (List El)} {v : Value} {w : World} (h : OTree R ls v w) (i : Nat) (hi : i ≤ ls.flatten.length) (hn : ls.flatten.length ≤ 1073741824) :
    Calls Tryz.prog 66 #[v, .int .i64 (i : Int)] w fun r w' => ∃ v' u qs l, r = .returned (.tuple #[v', u]) ∧ OTree R qs v' w' ∧ SlE w' u l ∧ qs.flatten ++ l = ls.flatten.take i ∧ (∀ ch, LOk ch ls → LOk ch qs) ∧ Below w.heap.size w w' := by
  rcases h with ⟨rfl, rfl⟩ | ⟨t, rfl, a1, a2, rfl⟩
  · refine (front_nil i w).mono ?_
    rintro r w1 ⟨rfl, rfl⟩
    exact ⟨_, _, [], [], rfl, .inl ⟨rfl, rfl⟩, .inl ⟨rfl, _, _, rfl⟩, by simp, fun _ h => h, Below.refl _ _⟩
  · rw [← Nd.els_flat] at hi hn ⊢
    refine (front_any t i w a1 a2 hn hi).mono ?_
    rintro r w1 ⟨v', u, rfl, g1, g2, hb⟩
    exact ⟨_, _, _, _, rfl, g1, g2, Nd.fr_els t i, fun _ h => h.fr i, hb⟩
theorem backO {R : Rows} {ls : List (List El)} {v : Value} {w : World} (h : OTree R ls v w) (i : Nat) (hi : i ≤ ls.flatten.length) (hn : ls.flatten.length ≤ 1073741824) :
    Calls Tryz.prog 67 #[v, .int .i64 (i : Int)] w fun r w' => ∃ u v' l qs, r = .returned (.tuple #[u, v']) ∧ SlE w' u l ∧ OTree R qs v' w' ∧ l ++ qs.flatten = ls.flatten.drop i ∧ (∀ ch, LOk ch ls → LOk ch qs) ∧ Below w.heap.size w w' := by
  rcases h with ⟨rfl, rfl⟩ | ⟨t, rfl, a1, a2, rfl⟩
  · refine (back_nil i w).mono ?_
    rintro r w1 ⟨rfl, rfl⟩
    exact ⟨_, _, [], [], rfl, .inl ⟨rfl, _, _, rfl⟩, .inl ⟨rfl, rfl⟩, by simp, fun _ h => h, Below.refl _ _⟩
  · rw [← Nd.els_flat] at hi hn ⊢
    refine (back_any t i w a1 a2 hn hi).mono ?_
    rintro r w1 ⟨u, v', rfl, g1, g2, hb⟩
    exact ⟨_, _, _, _, rfl, g1, g2, Nd.bk_els t i, fun _ h => h.bk i, hb⟩

set_option maxHeartbeats 4000000 in
theorem splicedO {R : Rows} (ch : Nat) {ls : List (List El)} {v : Value} {w : World} (h : OTree R ls v w) (i n : Nat) (l : List El) (u : Value) (hu : SlE w u l) (hi : i + n ≤ ls.flatten.length) (hn : ls.flatten.length + l.length ≤ 1073741824) (h1 : 2 ≤ ch) (h2 : ch ≤ 64) (hz : R.hi ≤ w.heap.size) :
    Calls Tryz.prog 46 #[.int .i64 (ch : Int), v, .int .i64 (i : Int), .int .i64 (n : Int), u] w fun r w' => ∃ v' qs, r = .returned v' ∧ OTree R qs v' w' ∧ qs.flatten = ls.flatten.take i ++ l ++ ls.flatten.drop (i + n) ∧ (LOk ch ls → LOk ch qs) ∧ Below w.heap.size w w' := by
  obtain ⟨a', c', rfl⟩ := hu.form
  obtain ⟨p, rfl⟩ : ∃ p, v = .pointer p := by
    rcases h with ⟨_, rfl⟩ | ⟨t, rfl, _⟩
    · exact ⟨_, rfl⟩
    · exact ⟨_, rfl⟩
  have HF := hid_of' (frontO h i (by omega) (by omega))
  have HK : Hid (∀ x, Below w.heap.size w x → _) := fun x hx => backO (h.later hx) (i + n) hi (by omega)
  have hs : (i : Int) + (n : Int) = ((i + n : Nat) : Int) := by omega
  have b9 : (i : Int) + (n : Int) ≤ 1073741824 := by omega
  have HU := hid_of' hu
  have HZ := hid_of' (show ls.flatten.length + l.length ≤ 1073741824 ∧ i + n ≤ ls.flatten.length from ⟨hn, hi⟩)
  rw [← hs] at HK
  clear h hu hs hi hn
  go_enter Tryz.func46, Tryz.ntmps46
  go_upto_region 3 with (first | (go_at_call 66; with_reducible refine HF.out.mono ?_; rintro r w1 ⟨v1, u1, q1, m1, rfl, o1, s1, e1, y1, hb1⟩) | (go_at_call 67; with_reducible refine (HK.out _ hb1).mono ?_; rintro r w2 ⟨u2, v2, m2, q2, rfl, s2, o2, e2, y2, hb2⟩))
  replace o1 := o1.later hb2
  replace s1 := s1.later hb2
  have hB := bgo hb1 hb2
  have hu := HU.out.later hB
  obtain ⟨a1', c1', rfl⟩ := s1.form
  obtain ⟨a2', c2', rfl⟩ := s2.form
  have g1 := congrArg List.length e1
  have g2 := congrArg List.length e2
  rw [List.length_append, List.length_take] at g1
  rw [List.length_append, List.length_drop] at g2
  have g3 := HZ.out
  have hcat : (m1 ++ (l ++ m2)).length ≤ 1073741824 := by simp only [List.length_append]; omega
  have HL := hid_of' (show q1.flatten.length + (m1.length + (l.length + m2.length)) + q2.flatten.length ≤ 1073741824 by omega)
  have HC : Hid (Calls Tryz.prog 64 #[.slice (some ⟨w2.heap.size, 0, none⟩) 3 3] (w2.alloc (.cells #[.slice a1' m1.length c1', .slice a' l.length c', .slice a2' m2.length c2'] 22)) fun r w' => ∃ v, r = .returned v ∧ OwnE (w2.heap.size + 1) v (m1 ++ (l ++ m2)) w' ∧ Below (w2.heap.size + 1) (w2.alloc (.cells #[.slice a1' m1.length c1', .slice a' l.length c', .slice a2' m2.length c2'] 22)) w') := by
    have H := concat_any [(.slice a1' m1.length c1', m1), (.slice a' l.length c', l), (.slice a2' m2.length c2', m2)] w2.heap.size 0 3 (w2.alloc (.cells #[.slice a1' m1.length c1', .slice a' l.length c', .slice a2' m2.length c2'] 22)) (fun i p hp => by
      have hr := row_new w2 #[.slice a1' m1.length c1', .slice a' l.length c', .slice a2' m2.length c2'] 22
      match i, hp with
      | 0, hp => simp at hp; subst hp; exact ⟨by rw [hr.cell]; rfl, s1.later (below_one _ _)⟩
      | 1, hp => simp at hp; subst hp; exact ⟨by rw [hr.cell]; rfl, hu.later (below_one _ _)⟩
      | 2, hp => simp at hp; subst hp; exact ⟨by rw [hr.cell]; rfl, s2.later (below_one _ _)⟩
      | i + 3, hp => simp at hp) (by simp) (by simp only [List.length_append] at hcat; simp [catE]; omega) (by simp)
    simp only [World.size_alloc, catE, List.flatMap_cons, List.flatMap_nil, List.append_nil] at H
    exact H
  clear HF HK HU HZ g1 g2 g3 hb1 hb2
  go_wp2_with (go_at_call 64; with_reducible refine HC.out.mono ?_; rintro r w3 ⟨v3, rfl, ho, hb3⟩; have hb3' : Below w2.heap.size w2 w3 := (below_one w2 _).trans (hb3.mono (by omega)); clear HC hb3)
  refine (packedO ch _ v3 w3 ho hcat h1 h2 (Nat.le_trans hz (Nat.le_trans hB.size hb3'.size))).mono ?_
  rintro r w4 ⟨v4, q4, rfl, o4, e4, y4, hb4⟩
  have HG1 := hid_of' (gluedO ch ((o1.later hb3').later hb4) o4 (by have := HL.out; rw [e4]; simp only [List.length_append]; omega))
  have o2' := (o2.later hb3').later hb4
  clear ho
  go_wp2_with (go_at_call 69; with_reducible refine HG1.out.mono ?_; rintro r w5 ⟨v5, q5, rfl, o5, e5, y5, hb5⟩; clear HG1)
  refine (gluedO ch o5 (o2'.later hb5) (by have := HL.out; rw [e5, e4]; simp only [List.length_append]; omega)).mono ?_
  rintro r w6 ⟨v6, q6, rfl, o6, e6, y6, hb6⟩
  go_wp2
  go_ret
  refine ⟨_, q6, rfl, o6, ?_, fun h => y6 (y5 (y1 _ h) y4) (y2 _ h), bgo (bgo (bgo (bgo hB hb3') hb4) hb5) hb6⟩
  rw [e6, e5, e4, ← e1, ← e2]
  simp only [List.append_assoc]
end Go.Proofs.YtjalehlmldlooaaGreatDoor
