
/-
  barrowref05: Copy, Put, Cut. The ranks of a Model rise along its row, with room between: behind Of, behind an Insert where there is room, behind an Add; where an element stands by its rank. Index of a Model by its ranks; Insert into a gap with room, and the rank that it gives. Anchors in memory; Model.At of an element that is there; package anchor: liveAnchor, At, Where, Rebase, and what At says of no model and of a gap that is not there. Package anchor: At with its refusals; Rebase. barrowref05.Insert; barrowlaw13.begun. barrowlaw13.wakes. barrowref05.Live and Weigh. barrowref05.Sum. The document's answer for package anchor: barrowref05.Find, barrowref13.At, Where, Rebase. barrowref13.Rebase and At; equality of anchors. Rows of numbers and of anchors that came in.
-/
import Derived.Test.YtjopeojnlibagaaGreatDoorTrKeep
import Derived.Test.YtjopeojnlibagaaGreatDoorMbA
import Derived.Test.YtjopeojnlibagaaGreatDoorTrBef
import Derived.Test.YtjopeojnlibagaaGreatDoorTrIntact
import Derived.Test.YtjopeojnlibagaaGreatDoorTrRef0
namespace Go.Proofs.YtjopeojnlibagaaGreatDoor
open Go.RowKit
set_option maxRecDepth 100000

/-- A row of one's own, or none, that lies in none of these blocks. -/
def PlAt (R : Rows) (w : World) (u : Value) (l : List El) : Prop := (l = [] ∧ u = .slice none 0 0) ∨ ∃ g c, u = .slice (some ⟨g, 0, none⟩) l.length c ∧ ElsAt g 0 l w ∧ Rk R g ∧ l.length ≤ c ∧ c ≤ 9223372036854775807
theorem PlAt.sl {R : Rows} {w : World} {u : Value} {l : List El} (h : PlAt R w u l) : SlE w u l := by
  rcases h with ⟨h1, h2⟩ | ⟨g, c, h1, h2, _⟩
  · exact .inl ⟨h1, _, _, h2⟩
  · exact .inr ⟨g, 0, c, h1, h2⟩
theorem PlAt.later {R : Rows} {w w' : World} {u : Value} {l : List El} (h : PlAt R w u l) (hb : Below w.heap.size w w') : PlAt R w' u l := by
  rcases h with h | ⟨g, c, h1, h2, h3⟩
  · exact .inl h
  · exact .inr ⟨g, c, h1, h2.later hb, h3⟩
theorem PlAt.kp {R : Rows} {x : Nat} {w w' : World} {u : Value} {l : List El} (h : PlAt R w u l) (k : Kp x w w') (hx : R.no x) : PlAt R w' u l := by
  rcases h with h | ⟨g, c, h1, h2, h3, h4⟩
  · exact .inl h
  · exact .inr ⟨g, c, h1, h2.kp k (fun e => by subst e; exact h3 hx), h3, h4⟩
theorem PlAt.widen {R R' : Rows} {w : World} {u : Value} {l : List El} (h : PlAt R w u l) (hl : l ≠ []) (hr : ∀ g, R'.no g → R.no g ∨ w.heap.size ≤ g) : PlAt R' w u l := by
  rcases h with h | ⟨g, c, h1, h2, h3, h4⟩
  · exact .inl h
  · exact .inr ⟨g, c, h1, h2, fun k => (hr g k).elim h3 (fun e => by have := h2.lt hl; omega), h4⟩
theorem PlAt.weak {R R' : Rows} {w : World} {u : Value} {l : List El} (h : PlAt R w u l) (hr : ∀ g, R'.no g → R.no g) : PlAt R' w u l := by
  rcases h with h | ⟨g, c, h1, h2, h3, h4⟩
  · exact .inl h
  · exact .inr ⟨g, c, h1, h2, fun k => h3 (hr g k), h4⟩
theorem PlAt.of_own {R : Rows} {base : Nat} {v : Value} {l : List El} {w : World} (h : OwnE base v l w) (hb : R.hi ≤ base) : PlAt R w v l := by
  by_cases hl : l = []
  · subst hl
    rcases h.2 with ⟨h1, _⟩ | ⟨g, cap, cur, h1, h2, h3, h4, h5, _⟩
    · exact .inl ⟨rfl, h1⟩
    · exact .inr ⟨g, cap, h1, fun i e he => (by simp at he), Rk.new (Nat.le_trans hb h2), Nat.zero_le _, Nat.le_trans h5 (by decide)⟩
  · obtain ⟨g, c, h1, h2, h3, h4, h5⟩ := h.room hl
    exact .inr ⟨g, c, h2, h3, Rk.new (Nat.le_trans hb h1), h4, h5⟩
theorem PlAt.form {R : Rows} {w : World} {u : Value} {l : List El} (h : PlAt R w u l) : ∃ a c, u = .slice a l.length c := h.sl.form
set_option maxHeartbeats 1000000 in
theorem copy_ok {w : World} {u : Value} {l : List El} (hu : SlE w u l) (hn : l.length ≤ 1073741824) :
    Calls Tryz.prog 59 #[u] w fun r w' => ∃ v, r = .returned v ∧ OwnE w.heap.size v l w' ∧ Below w.heap.size w w' := by
  obtain ⟨a', c', rfl⟩ := hu.form
  have HU := hid_of' (hu.later (below_one w (.cells #[] 66)))
  clear hu
  go_enter Tryz.func59, Tryz.ntmps59
  go_wp2_with (at_builtin; refine wpL_appE rfl _ _ rfl rfl rfl (own_empty w) HU.out (by simpa using (by omega : l.length ≤ 1099511627776)) (by simp) ?_; intro v' w1 ho hg)
  have hB0 := (below_one w (.cells #[] 66)).grown hg (by simp) (fun k hk => ((own_empty w).lt k hk).1)
  rw [List.nil_append] at ho
  go_ret
  exact ⟨_, rfl, ho, hB0⟩

set_option maxHeartbeats 4000000 in
theorem put_none {w : World} (l m : List El) (a' : Option Addr) (c' : Nat) (hm : SlE w (.slice a' m.length c') m) (ip : Nat) (hn : l.length + m.length ≤ 1073741824) (hl : l = []) (h0 : ip = 0) :
    Calls Tryz.prog 53 #[.slice none 0 0, .int .i64 (ip : Int), .slice a' m.length c'] w fun r w' => ∃ v, r = .returned v ∧ OwnE w.heap.size v (l.take ip ++ (m ++ l.drop ip)) w' ∧ Below w.heap.size w w' := by
  have q1 : SlE w (.slice none 0 0) (l.take ip) := .inl ⟨by rw [hl]; simp, _, _, rfl⟩
  have q2 : SlE w (.slice none 0 0) (l.drop ip) := .inl ⟨by rw [hl]; simp, _, _, rfl⟩
  have hi0 : (ip : Int) = 0 := by omega
  clear h0
  have HC := hid_of' (copy_ok q1 (by rw [List.length_take]; omega))
  have HM := hid_of' hm
  have H2 := hid_of' q2
  have b1 : (l.take ip).length + m.length ≤ 1099511627776 := by rw [List.length_take]; omega
  have b2 : (l.take ip ++ m).length + (l.drop ip).length ≤ 1099511627776 := by rw [List.length_append, List.length_take, List.length_drop]; omega
  clear q1 q2 hm
  go_enter Tryz.func53, Tryz.ntmps53
  go_wp2_with (first | (go_at_call 59; (with_reducible refine HC.out.mono ?_); rintro r w1 ⟨v1, rfl, ho1, hb1⟩; clear HC) | (at_builtin; first | (refine wpL_appE rfl _ _ rfl rfl rfl ho1 (HM.out.later hb1) b1 hb1.size ?_; intro v2 w2 ho2 hg2; have hb2 := hb1.grown hg2 hb1.size (fun k hk => (ho1.lt k hk).1); clear ho1) | (refine wpL_appE rfl _ _ rfl rfl rfl ho2 (H2.out.later hb2) b2 hb2.size ?_; intro v3 w3 ho3 hg3; have hb3 := hb2.grown hg3 hb2.size (fun k hk => (ho2.lt k hk).1))))
  go_ret
  rw [List.append_assoc] at ho3
  exact ⟨_, rfl, ho3, hb3⟩

set_option maxHeartbeats 4000000 in
theorem put_end {w : World} (l m : List El) (a' : Option Addr) (c' : Nat) (hm : SlE w (.slice a' m.length c') m) (ip : Nat) (hn : l.length + m.length ≤ 1073741824) (g : Nat) (hE : ElsAt g 0 l w) (e3 : l.length = ip) (hc9 : ip ≤ 9223372036854775807) :
    Calls Tryz.prog 53 #[.slice (some ⟨g, 0, none⟩) ip ip, .int .i64 (ip : Int), .slice a' m.length c'] w fun r w' => ∃ v, r = .returned v ∧ OwnE w.heap.size v (l.take ip ++ (m ++ l.drop ip)) w' ∧ Below w.heap.size w w' := by
  have e0 : 0 ≤ (ip : Int) := by omega
  have q1 : SlE w (.slice (some ⟨g, 0, none⟩) ip ip) (l.take ip) := .inr ⟨g, 0, ip, by rw [List.length_take, Nat.min_eq_left (by omega)], hE.take ip⟩
  have q2 : SlE w (.slice (some ⟨g, 0, none⟩) 0 0) (l.drop ip) := .inl ⟨List.drop_eq_nil_of_le (by omega), _, _, rfl⟩
  have HC := hid_of' (copy_ok q1 (by rw [List.length_take]; omega))
  have HM := hid_of' hm
  have H2 := hid_of' q2
  have b1 : (l.take ip).length + m.length ≤ 1099511627776 := by rw [List.length_take]; omega
  have b2 : (l.take ip ++ m).length + (l.drop ip).length ≤ 1099511627776 := by rw [List.length_append, List.length_take, List.length_drop]; omega
  clear q1 q2 hm e3 hE
  go_enter Tryz.func53, Tryz.ntmps53
  go_wp2_with (first | (go_at_call 59; (with_reducible refine HC.out.mono ?_); rintro r w1 ⟨v1, rfl, ho1, hb1⟩; clear HC) | (at_builtin; first | (refine wpL_appE rfl _ _ rfl rfl rfl ho1 (HM.out.later hb1) b1 hb1.size ?_; intro v2 w2 ho2 hg2; have hb2 := hb1.grown hg2 hb1.size (fun k hk => (ho1.lt k hk).1); clear ho1) | (refine wpL_appE rfl _ _ rfl rfl rfl ho2 (H2.out.later hb2) b2 hb2.size ?_; intro v3 w3 ho3 hg3; have hb3 := hb2.grown hg3 hb2.size (fun k hk => (ho2.lt k hk).1))))
  go_ret
  rw [List.append_assoc] at ho3
  exact ⟨_, rfl, ho3, hb3⟩

set_option maxHeartbeats 4000000 in
theorem put_mid {w : World} (l m : List El) (a' : Option Addr) (c' : Nat) (hm : SlE w (.slice a' m.length c') m) (ip : Nat) (hn : l.length + m.length ≤ 1073741824) (g c : Nat) (hE : ElsAt g 0 l w) (hip : ip ≤ l.length) (hlc : l.length ≤ c) (_hc9 : c ≤ 9223372036854775807) (hc : ¬ c = ip) :
    Calls Tryz.prog 53 #[.slice (some ⟨g, 0, none⟩) l.length c, .int .i64 (ip : Int), .slice a' m.length c'] w fun r w' => ∃ v, r = .returned v ∧ OwnE w.heap.size v (l.take ip ++ (m ++ l.drop ip)) w' ∧ Below w.heap.size w w' := by
  have e1 : (ip : Int) ≤ (c : Int) := by omega
  have e0 : 0 ≤ (ip : Int) := by omega
  have e2 : (ip : Int) ≤ (l.length : Int) := by omega
  have q1 : SlE w (.slice (some ⟨g, 0, none⟩) ip c) (l.take ip) := .inr ⟨g, 0, c, by rw [List.length_take, Nat.min_eq_left (by omega)], hE.take ip⟩
  have q2 : SlE w (.slice (some ⟨g, ip * 5, none⟩) (l.length - ip) (c - ip)) (l.drop ip) := .inr ⟨g, ip * 5, c - ip, by rw [List.length_drop], by have := hE.drop ip; rwa [Nat.zero_add] at this⟩
  have e3 : ip ≤ l.length := hip
  have HC := hid_of' (copy_ok q1 (by rw [List.length_take]; omega))
  have HM := hid_of' hm
  have H2 := hid_of' q2
  have b1 : (l.take ip).length + m.length ≤ 1099511627776 := by rw [List.length_take]; omega
  have b2 : (l.take ip ++ m).length + (l.drop ip).length ≤ 1099511627776 := by rw [List.length_append, List.length_take, List.length_drop]; omega
  clear q1 q2 hm
  go_enter Tryz.func53, Tryz.ntmps53
  go_wp2_with (first | (go_at_call 59; (with_reducible refine HC.out.mono ?_); rintro r w1 ⟨v1, rfl, ho1, hb1⟩; clear HC) | (at_builtin; first | (refine wpL_appE rfl _ _ rfl rfl rfl ho1 (HM.out.later hb1) b1 hb1.size ?_; intro v2 w2 ho2 hg2; have hb2 := hb1.grown hg2 hb1.size (fun k hk => (ho1.lt k hk).1); clear ho1) | (refine wpL_appE rfl _ _ rfl rfl rfl ho2 (H2.out.later hb2) b2 hb2.size ?_; intro v3 w3 ho3 hg3; have hb3 := hb2.grown hg3 hb2.size (fun k hk => (ho2.lt k hk).1))))
  go_ret
  rw [List.append_assoc] at ho3
  exact ⟨_, rfl, ho3, hb3⟩

theorem put_ok {R : Rows} {w : World} {u um : Value} {l m : List El} (hl : PlAt R w u l) (hm : SlE w um m) (ip : Nat) (hip : ip ≤ l.length) (hn : l.length + m.length ≤ 1073741824) :
    Calls Tryz.prog 53 #[u, .int .i64 (ip : Int), um] w fun r w' => ∃ v, r = .returned v ∧ OwnE w.heap.size v (l.take ip ++ (m ++ l.drop ip)) w' ∧ Below w.heap.size w w' := by
  obtain ⟨a', c', rfl⟩ := hm.form
  rcases hl with ⟨h1, rfl⟩ | ⟨g, c, rfl, hE, _, h4, h5⟩
  · exact put_none l m a' c' hm ip hn h1 (by rw [h1] at hip; simpa using hip)
  · by_cases hc : c = ip
    · have e3 : l.length = ip := by omega
      rw [e3, hc]
      exact put_end l m a' c' hm ip hn g hE e3 (by omega)
    · exact put_mid l m a' c' hm ip hn g c hE hip h4 h5 hc
end Go.Proofs.YtjopeojnlibagaaGreatDoor
namespace Go.Proofs.YtjopeojnlibagaaGreatDoor
open Go.RowKit
set_option maxRecDepth 100000

/-- The ranks rise along the row, g apart or more, the ends of all ranks counted. -/
structure Rks (f : Idn → Option Int) (l : List El) (g : Int) : Prop where
  has : ∀ (j : Nat) (e : El), l[j]? = some e → (f e.id).isSome = true
  gap : ∀ i : Nat, i ≤ l.length → rkA f l i + g ≤ rkB f l i
  only : ∀ i : Idn, (f i).isSome = true → hasI l i = true
theorem hasI_at {l : List El} {i : Idn} {j : Nat} {x : El} (h : l[j]? = some x) (hx : x.id = i) : hasI l i = true := List.any_eq_true.2 ⟨x, List.mem_of_getElem? h, by simp [hx]⟩
theorem hasI_ex {l : List El} {i : Idn} (h : hasI l i = true) : ∃ (j : Nat) (x : El), l[j]? = some x ∧ x.id = i := by
  obtain ⟨x, hx, h1⟩ := List.any_eq_true.1 h
  obtain ⟨j, hj⟩ := List.getElem?_of_mem hx
  exact ⟨j, x, hj, by simpa using h1⟩
theorem Rks.weak {f : Idn → Option Int} {l : List El} {g g' : Int} (h : Rks f l g) (hg : g' ≤ g) : Rks f l g' := ⟨h.has, fun i hi => by have := h.gap i hi; omega, h.only⟩
theorem Rks.next {f : Idn → Option Int} {l : List El} {g : Int} (h : Rks f l g) {i : Nat} {x y : El} (hx : l[i]? = some x) (hy : l[i + 1]? = some y) : rkO f x + g ≤ rkO f y := by
  have := h.gap (i + 1) (by have := (List.getElem?_eq_some_iff.1 hy).1; omega)
  rw [rkA_s (by omega) (by simpa using hx), rkB_s hy] at this
  exact this
theorem Rks.lt {f : Idn → Option Int} {l : List El} {g : Int} (h : Rks f l g) (hg : 1 ≤ g) {i : Nat} {x : El} (hx : l[i]? = some x) : ∀ {d : Nat} {y : El}, l[i + d + 1]? = some y → rkO f x < rkO f y
  | 0, y, hy => by have := h.next hx hy; omega
  | d + 1, y, hy => by
    obtain ⟨z, hz⟩ : ∃ z, l[i + d + 1]? = some z := ⟨_, List.getElem?_eq_getElem (by have := (List.getElem?_eq_some_iff.1 hy).1; omega)⟩
    have a := Rks.lt h hg hx hz
    have b := h.next hz hy
    omega
theorem Rks.low {f : Idn → Option Int} {l : List El} {g : Int} (h : Rks f l g) (hg : 1 ≤ g) : ∀ {i : Nat} {e : El}, l[i]? = some e → 0 ≤ rkO f e
  | 0, e, he => by
    have := h.gap 0 (Nat.zero_le _)
    rw [rkA_0, rkB_s he] at this
    omega
  | i + 1, e, he => by
    obtain ⟨z, hz⟩ : ∃ z, l[i]? = some z := ⟨_, List.getElem?_eq_getElem (by have := (List.getElem?_eq_some_iff.1 he).1; omega)⟩
    have a := Rks.low h hg hz
    have b := h.next hz he
    omega
theorem Rks.high {f : Idn → Option Int} {l : List El} {g : Int} (h : Rks f l g) (hg : 1 ≤ g) {i : Nat} {e : El} (he : l[i]? = some e) : rkO f e < 4611686018427387904 := by
  have hi := (List.getElem?_eq_some_iff.1 he).1
  obtain ⟨z, hz⟩ : ∃ z, l[l.length - 1]? = some z := ⟨_, List.getElem?_eq_getElem (by omega)⟩
  have q := h.gap l.length (Nat.le_refl _)
  rw [rkA_s (by omega) hz, rkB_e (Nat.le_refl _)] at q
  by_cases hl : i = l.length - 1
  · rw [← hl, he] at hz
    cases hz
    omega
  · have := h.lt hg he (d := l.length - 1 - i - 1) (by rw [show i + (l.length - 1 - i - 1) + 1 = l.length - 1 by omega]; exact hz)
    omega
theorem Rks.sideA {f : Idn → Option Int} {l : List El} {g : Int} (h : Rks f l g) (hg : 1 ≤ g) {i : Nat} (hi : i ≤ l.length) : -1 ≤ rkA f l i := by
  by_cases h0 : i = 0
  · rw [h0, rkA_0]; omega
  · obtain ⟨z, hz⟩ : ∃ z, l[i - 1]? = some z := ⟨_, List.getElem?_eq_getElem (by omega)⟩
    rw [rkA_s (by omega) hz]
    have := h.low hg hz
    omega
theorem Rks.sideB {f : Idn → Option Int} {l : List El} {g : Int} (h : Rks f l g) (hg : 1 ≤ g) {i : Nat} : rkB f l i ≤ 4611686018427387904 := by
  by_cases h0 : i < l.length
  · obtain ⟨z, hz⟩ : ∃ z, l[i]? = some z := ⟨_, List.getElem?_eq_getElem h0⟩
    rw [rkB_s hz]
    have := h.high hg hz
    omega
  · rw [rkB_e (by omega)]; omega
/-- Behind Of. -/
theorem Rks.of {l : List El} (hd : Apart l) : Rks (rkF l l.length l.length) l (4611686018427387904 / (l.length : Int) / 2) := by
  have hr : ∀ (j : Nat) (e : El), l[j]? = some e → rkF l l.length l.length e.id = some (rankN j l.length) := fun j e he => rkF_at hd (List.getElem?_eq_some_iff.1 he).1 he
  have ho : ∀ (j : Nat) (e : El), l[j]? = some e → rkO (rkF l l.length l.length) e = rankN j l.length := fun j e he => by unfold rkO; rw [hr j e he]; rfl
  refine ⟨fun j e he => by rw [hr j e he]; rfl, fun i hi => ?_, fun i h => by rw [rkF_has (Nat.le_refl _), List.take_length] at h; exact h⟩
  by_cases hn : l.length = 0
  · rw [show i = 0 by omega, rkA_0, rkB_e (by omega), hn]
    decide
  · have a1 : 0 ≤ 4611686018427387904 / (l.length : Int) := Int.ediv_nonneg (by omega) (by omega)
    have a2 : (4611686018427387904 / (l.length : Int)) * (l.length : Int) ≤ 4611686018427387904 := Int.ediv_mul_le _ (by omega)
    have hk : ∀ k : Int, rankN k l.length = k * (4611686018427387904 / (l.length : Int)) + 4611686018427387904 / (l.length : Int) / 2 := fun _ => rfl
    obtain ⟨s, hs⟩ : ∃ s, s = 4611686018427387904 / (l.length : Int) := ⟨_, rfl⟩
    rw [← hs] at a1 a2 hk ⊢
    have hm : ∀ k : Int, (k - 1) * s = k * s - s := fun k => by rw [Int.sub_mul]; omega
    by_cases h0 : i = 0
    · obtain ⟨z, hz⟩ : ∃ z, l[0]? = some z := ⟨_, List.getElem?_eq_getElem (by omega)⟩
      rw [h0, rkA_0, rkB_s hz, ho 0 z hz, hk]
      simp only [Int.ofNat_zero, Int.zero_mul]
      omega
    · obtain ⟨x, hx⟩ : ∃ z, l[i - 1]? = some z := ⟨_, List.getElem?_eq_getElem (by omega)⟩
      rw [rkA_s (by omega) hx, ho _ x hx, hk, show ((i - 1 : Nat) : Int) = (i : Int) - 1 by omega, hm]
      by_cases h1 : i = l.length
      · rw [rkB_e (by omega), h1]
        rw [Int.mul_comm] at a2
        generalize (l.length : Int) * s = p at a2 ⊢
        omega
      · obtain ⟨y, hy⟩ : ∃ z, l[i]? = some z := ⟨_, List.getElem?_eq_getElem (by omega)⟩
        rw [rkB_s hy, ho _ y hy, hk]
        generalize (i : Int) * s = p
        omega
/-- Behind an Insert into a gap with room. -/
theorem Rks.ins {f : Idn → Option Int} {l : List El} {g : Int} {i : Nat} {e : El} (h : Rks f l g) (hg : 2 ≤ g) (hi : i ≤ l.length) (hf : (f e.id).isSome = false) : Rks (putF f e.id (rkA f l i + (rkB f l i - rkA f l i) / 2)) (insE l i e) (g / 2) := by
  obtain ⟨z, hz⟩ : ∃ z, z = rkA f l i + (rkB f l i - rkA f l i) / 2 := ⟨_, rfl⟩
  have hgi := h.gap i hi
  rw [← hz]
  have hx : ∀ (j : Nat) (x : El), l[j]? = some x → x.id ≠ e.id := fun j x hj q => by rw [← q, h.has j x hj] at hf; cases hf
  have ho : ∀ (j : Nat) (x : El), l[j]? = some x → rkO (putF f e.id z) x = rkO f x := fun j x hj => by unfold rkO putF; rw [if_neg (hx j x hj)]
  have he : rkO (putF f e.id z) e = z := by unfold rkO putF; rw [if_pos rfl]; rfl
  have at_ := insE_at (e := e) hi
  refine ⟨fun j x hj => ?_, fun j hj => ?_, fun j hj => ?_⟩
  rotate_right
  · by_cases q : j = e.id
    · exact hasI_at (show (insE l i e)[i]? = some e by rw [at_, if_neg (by omega), if_pos rfl]) q.symm
    · unfold putF at hj
      rw [if_neg q] at hj
      obtain ⟨k, x, h1, h2⟩ := hasI_ex (h.only j hj)
      by_cases c : k < i
      · exact hasI_at (show (insE l i e)[k]? = some x by rw [at_, if_pos c]; exact h1) h2
      · exact hasI_at (show (insE l i e)[k + 1]? = some x by rw [at_, if_neg (by omega), if_neg (by omega)]; exact h1) h2
  · rw [at_] at hj
    unfold putF
    by_cases q : x.id = e.id
    · rw [if_pos q]; rfl
    · rw [if_neg q]
      by_cases h1 : j < i
      · rw [if_pos h1] at hj; exact h.has j x hj
      · rw [if_neg h1] at hj
        by_cases h2 : j = i
        · rw [if_pos h2] at hj; cases hj; exact absurd rfl q
        · rw [if_neg h2] at hj; exact h.has _ x hj
  · rw [insE_len hi] at hj
    have hA1 : ∀ j : Nat, j ≤ i → rkA (putF f e.id z) (insE l i e) j = rkA f l j := fun j hji => by
      by_cases h0 : j = 0
      · rw [h0]; rfl
      · obtain ⟨x, hx1⟩ : ∃ z, l[j - 1]? = some z := ⟨_, List.getElem?_eq_getElem (by omega)⟩
        rw [rkA_s (by omega) (show (insE l i e)[j - 1]? = some x by rw [at_, if_pos (by omega)]; exact hx1), rkA_s (by omega) hx1, ho _ x hx1]
    have hB1 : ∀ j : Nat, j < i → rkB (putF f e.id z) (insE l i e) j = rkB f l j := fun j hji => by
      obtain ⟨x, hx1⟩ : ∃ z, l[j]? = some z := ⟨_, List.getElem?_eq_getElem (by omega)⟩
      rw [rkB_s (show (insE l i e)[j]? = some x by rw [at_, if_pos (by omega)]; exact hx1), rkB_s hx1, ho _ x hx1]
    have hAz : rkA (putF f e.id z) (insE l i e) (i + 1) = z := by
      rw [rkA_s (by omega) (show (insE l i e)[i + 1 - 1]? = some e by rw [at_, if_neg (by omega), if_pos (by omega)]), he]
    have hBz : rkB (putF f e.id z) (insE l i e) i = z := by
      rw [rkB_s (show (insE l i e)[i]? = some e by rw [at_, if_neg (by omega), if_pos rfl]), he]
    have hA2 : ∀ j : Nat, i + 1 < j → j ≤ l.length + 1 → rkA (putF f e.id z) (insE l i e) j = rkA f l (j - 1) := fun j hji hjl => by
      obtain ⟨x, hx1⟩ : ∃ z, l[j - 1 - 1]? = some z := ⟨_, List.getElem?_eq_getElem (by omega)⟩
      rw [rkA_s (by omega) (show (insE l i e)[j - 1]? = some x by rw [at_, if_neg (by omega), if_neg (by omega)]; exact hx1), rkA_s (by omega) hx1, ho _ x hx1]
    have hB2 : ∀ j : Nat, i < j → j ≤ l.length + 1 → rkB (putF f e.id z) (insE l i e) j = rkB f l (j - 1) := fun j hji hjl => by
      by_cases hj : j = l.length + 1
      · rw [rkB_e (by rw [insE_len hi]; omega), rkB_e (by omega)]
      · obtain ⟨x, hx1⟩ : ∃ z, l[j - 1]? = some z := ⟨_, List.getElem?_eq_getElem (by omega)⟩
        rw [rkB_s (show (insE l i e)[j]? = some x by rw [at_, if_neg (by omega), if_neg (by omega)]; exact hx1), rkB_s hx1, ho _ x hx1]
    by_cases c1 : j < i
    · rw [hA1 j (by omega), hB1 j c1]
      have := h.gap j (by omega)
      omega
    · by_cases c2 : j = i
      · rw [c2, hA1 i (Nat.le_refl _), hBz]
        omega
      · by_cases c3 : j = i + 1
        · rw [c3, hAz, hB2 (i + 1) (by omega) (by omega), show i + 1 - 1 = i from rfl]
          omega
        · rw [hA2 j (by omega) hj, hB2 j (by omega) hj]
          have := h.gap (j - 1) (by omega)
          omega
/-- Behind an Add. -/
theorem Rks.add {f : Idn → Option Int} {l : List El} {g : Int} (h : Rks f l g) (i : Nat) (d : Int) : Rks f (addE l i d) g := by
  have ho : ∀ j : Nat, ((addE l i d)[j]?).map (rkO f) = (l[j]?).map (rkO f) := fun j => by
    rw [addE_at]
    by_cases q : j = i
    · rw [if_pos q, Option.map_map]; rfl
    · rw [if_neg q]
  have mk : ∀ (L : List El) (j : Nat), rkB f L j = ((L[j]?).map (rkO f)).getD 4611686018427387904 := fun L j => by
    unfold rkB; cases L[j]? <;> rfl
  have ma : ∀ (L : List El) (j : Nat), rkA f L j = if j = 0 then -1 else ((L[j - 1]?).map (rkO f)).getD (-1) := fun L j => by
    unfold rkA
    by_cases q : j = 0
    · rw [if_pos q, if_pos q]
    · rw [if_neg q, if_neg q]; cases L[j - 1]? <;> rfl
  refine ⟨fun j x hj => ?_, fun j hj => ?_, fun j hj => ?_⟩
  rotate_right
  · obtain ⟨k, x, h1, h2⟩ := hasI_ex (h.only j hj)
    by_cases q : k = i
    · exact hasI_at (show (addE l i d)[k]? = some (x.add d) by rw [addE_at, if_pos q, h1]; rfl) h2
    · exact hasI_at (show (addE l i d)[k]? = some x by rw [addE_at, if_neg q]; exact h1) h2
  · obtain ⟨e, he, h1, _⟩ := at_add hj
    rw [h1]
    exact h.has j e he
  · rw [ma, mk, ho, ho, ← ma, ← mk]
    rw [addE_len] at hj
    exact h.gap j hj
/-- What a search by rank knows. -/
def SrR (f : Idn → Option Int) (l : List El) (rk : Int) (lo hi : Nat) : Prop := (∀ (t : Nat) (e : El), t < lo → l[t]? = some e → rkO f e < rk) ∧ (∀ (t : Nat) (e : El), hi ≤ t → l[t]? = some e → rk ≤ rkO f e)
theorem Rks.le {f : Idn → Option Int} {l : List El} {g : Int} (h : Rks f l g) (hg : 1 ≤ g) {i j : Nat} {x y : El} (hij : i ≤ j) (hx : l[i]? = some x) (hy : l[j]? = some y) : rkO f x ≤ rkO f y := by
  by_cases q : i = j
  · rw [q, hy] at hx; cases hx; exact Int.le_refl _
  · exact Int.le_of_lt (h.lt hg hx (d := j - i - 1) (by rw [show i + (j - i - 1) + 1 = j by omega]; exact hy))
theorem SrR.low {f : Idn → Option Int} {l : List El} {rk : Int} {lo hi m : Nat} {e : El} {g : Int} (h : SrR f l rk lo hi) (R : Rks f l g) (hg : 1 ≤ g) (he : l[m]? = some e) (hp : rkO f e < rk) : SrR f l rk (m + 1) hi :=
  ⟨fun t x ht hx => Int.lt_of_le_of_lt (R.le hg (by omega) hx he) hp, h.2⟩
theorem SrR.high {f : Idn → Option Int} {l : List El} {rk : Int} {lo hi m : Nat} {e : El} {g : Int} (h : SrR f l rk lo hi) (R : Rks f l g) (hg : 1 ≤ g) (he : l[m]? = some e) (hp : rk ≤ rkO f e) : SrR f l rk lo m :=
  ⟨h.1, fun _t _x ht hx => Int.le_trans hp (R.le hg ht he hx)⟩
theorem SrR.done {f : Idn → Option Int} {l : List El} {lo k : Nat} {e : El} {g : Int} (h : SrR f l (rkO f e) lo lo) (R : Rks f l g) (hg : 1 ≤ g) (he : l[k]? = some e) : lo = k := by
  by_cases q : k < lo
  · have := h.1 k e q he; omega
  · by_cases q2 : lo = k
    · exact q2
    · obtain ⟨x, hx⟩ : ∃ z, l[lo]? = some z := ⟨_, List.getElem?_eq_getElem (by have := (List.getElem?_eq_some_iff.1 he).1; omega)⟩
      have a := h.2 lo x (Nat.le_refl _) hx
      have b := R.lt hg hx (d := k - lo - 1) (by rw [show lo + (k - lo - 1) + 1 = k by omega]; exact he)
      omega
end Go.Proofs.YtjopeojnlibagaaGreatDoor
namespace Go.Proofs.YtjopeojnlibagaaGreatDoor
open Go.RowKit
set_option maxRecDepth 100000

theorem cell_cls {W : World} {p : Addr} {v : Value} (h : W.cell? p = some v) (hp : p.block < W.heap.size) : ∀ s : Wld W, (wOf s).cell? p = some v := fun s => by rw [(wOf_below s).cell hp]; exact h
theorem enters_ix (w : World) (args : Array Value) : (callFunc 96 args).run Tryz.prog w = .ok (.enter 96 args) w := by kernel_rfl
set_option maxHeartbeats 1000000 in
theorem ixFn_ok {mb tb kb n b1 b2 : Nat} {R : Rows} {l : List El} {f : Idn → Option Int} {w : World} (h : MdAt mb tb kb n R l f w) (h1 : w.cell? ⟨b1, 0, none⟩ = some (pv mb)) (hb1 : b1 < w.heap.size) (rk : Int) (h2 : w.cell? ⟨b2, 0, none⟩ = some (.int .i64 rk)) (hb2 : b2 < w.heap.size) (k : Nat) (e : El) (he : l[k]? = some e) (hi : e.id.In) (hn : l.length ≤ 1000000) :
    Calls Tryz.prog 96 #[.int .i64 (k : Int), .pointer (some ⟨b1, 0, none⟩), .pointer (some ⟨b2, 0, none⟩)] w fun r w' => r = .returned (.bool (decide (rk ≤ rkO f e))) ∧ Below w.heap.size w w' := by
  have HR : Hid (∀ x, Below w.heap.size w x → _) := fun x hx => rankAt_ok (h.later hx) k e he hi (by omega)
  have c1 := cell_cls h1 hb1
  have c2 := cell_cls h2 hb2
  have hB := Below.refl w.heap.size w
  clear h h1 h2
  unfold pv at *
  go_enter Tryz.func96, Tryz.ntmps96
  go_upto_region 1 with fail
  refine wp_region_cls (by kernel_rfl) (by kernel_rfl) ?_
  repeat (first | go_big_quiet_skip | (go_big_quiet_want; first | (go_big_quiet_op; first | go_big_quiet_on | go_big_quiet_call ((go_at_call 97; exact cls_of (HR.out _ (wOf_below _)))))))
  refine wpQuiet_nil ?_
  rintro w1 ⟨s1, e1⟩
  have hb1 := wOf_below s1
  rw [← e1] at hb1
  clear e1 s1
  replace hB := bgo hB hb1
  clear hb1
  go_wp2
  go_ret
  exact ⟨rfl, hB⟩
set_option maxHeartbeats 1000000 in
theorem searchR_ok {mb tb kb n b1 b2 : Nat} {R : Rows} {l : List El} {f : Idn → Option Int} {g : Int} {w : World} (h : MdAt mb tb kb n R l f w) (h1 : w.cell? ⟨b1, 0, none⟩ = some (pv mb)) (hb1 : b1 < w.heap.size) (hb2 : b2 < w.heap.size) (K : Rks f l g) (hg : 1 ≤ g) (hin : ∀ (j : Nat) (e : El), l[j]? = some e → e.id.In) (hn : l.length ≤ 1000000) (k0 : Nat) (e0 : El) (he0 : l[k0]? = some e0) (h2 : w.cell? ⟨b2, 0, none⟩ = some (.int .i64 (rkO f e0))) :
    Calls Tryz.prog 95 #[.int .i64 (l.length : Int), .func (.func 96) #[] #[.pointer (some ⟨b1, 0, none⟩), .pointer (some ⟨b2, 0, none⟩)]] w fun r w' => r = .returned (.int .i64 (k0 : Int)) ∧ Below w.heap.size w w' := by
  obtain ⟨rk, hrk⟩ : ∃ z, z = rkO f e0 := ⟨_, rfl⟩
  rw [← hrk] at h2
  have HD : Hid (∀ lo, SrR f l rk lo lo → lo = k0) := fun lo hs => by rw [hrk] at hs; exact hs.done K hg he0
  clear hrk
  have HF : Hid (∀ (x : World) (k : Nat) (e : El), Below w.heap.size w x → l[k]? = some e → _) := fun x k e hx hk => ixFn_ok (h.later hx) (by rw [hx.cell (p := ⟨b1, 0, none⟩) hb1]; exact h1) (Nat.lt_of_lt_of_le hb1 hx.size) rk (by rw [hx.cell (p := ⟨b2, 0, none⟩) hb2]; exact h2) (Nat.lt_of_lt_of_le hb2 hx.size) k e hk (hin k e hk) hn
  have eg := fun (args : Array Value) (w : World) => enters_ix w args
  have HLo : Hid (∀ (lo hi m : Nat) (e : El), SrR f l rk lo hi → l[m]? = some e → rkO f e < rk → SrR f l rk (m + 1) hi) := fun lo hi m e a b c => a.low K hg b c
  have HHi : Hid (∀ (lo hi m : Nat) (e : El), SrR f l rk lo hi → l[m]? = some e → rk ≤ rkO f e → SrR f l rk lo m) := fun lo hi m e a b c => a.high K hg b c
  have HG : Hid (∀ m : Nat, m < l.length → ∃ e, l[m]? = some e) := fun m hm => ⟨_, List.getElem?_eq_getElem hm⟩
  have HS0 : Hid (SrR f l rk 0 l.length) := ⟨fun t _ ht => absurd ht (Nat.not_lt_zero _), fun t e h1 h2 => by have := (List.getElem?_eq_some_iff.1 h2).1; omega⟩
  clear h h1 h2 he0 hin K
  generalize hNN : l.length = N at *
  go_enter Tryz.func95, Tryz.ntmps95
  go_wp2
  go_loopw [5, 6] (fun a b wr => ∃ lo hi : Nat, a = .int .i64 (lo : Int) ∧ b = .int .i64 (hi : Int) ∧ lo ≤ hi ∧ hi ≤ N ∧ SrR f l rk lo hi ∧ Below w.heap.size w wr) (fun a b _ => (intOf b - intOf a).toNat)
  case atStart => exact ⟨0, N, rfl, rfl, Nat.zero_le _, Nat.le_refl _, HS0.out, Below.refl _ _⟩
  case round =>
    obtain ⟨lo, hi, rfl, rfl, hlh, hin, hS, hB⟩ := hrel
    by_cases hlt : lo < hi
    · have q1 : (lo : Int) < (hi : Int) := by omega
      have hm : (lo + hi) / 2 < N := by omega
      obtain ⟨e, he⟩ := HG.out _ hm
      have hc := HF.out _ ((lo + hi) / 2) e hB he
      rw [show (((lo + hi) / 2 : Nat) : Int) = ((lo : Int) + (hi : Int)) / 2 by omega] at hc
      have hC := hid_of' hc
      clear hc
      by_cases hq : rk ≤ rkO f e
      · rw [decide_eq_true hq] at hC
        have HS := hid_of' (HHi.out _ _ _ _ hS he hq)
        clear hS hq he
        go_wp2_with (go_at_call 96; refine hC.out.mono ?_; rintro r w2 ⟨rfl, hb⟩)
        go_roundw
        case rel => exact ⟨lo, (lo + hi) / 2, rfl, by rw [show ((lo : Int) + (hi : Int)) / 2 = (((lo + hi) / 2 : Nat) : Int) by omega], by omega, by omega, HS.out, bgo hB hb⟩
        case measure => simp [intOf]; omega
      · rw [decide_eq_false hq] at hC
        have HS := hid_of' (HLo.out _ _ _ _ hS he (by omega))
        clear hS hq he
        go_wp2_with (go_at_call 96; refine hC.out.mono ?_; rintro r w2 ⟨rfl, hb⟩)
        go_roundw
        case rel => exact ⟨(lo + hi) / 2 + 1, hi, by rw [show ((lo : Int) + (hi : Int)) / 2 + 1 = (((lo + hi) / 2 + 1 : Nat) : Int) by omega], rfl, by omega, by omega, HS.out, bgo hB hb⟩
        case measure => simp [intOf]; omega
    · obtain rfl : hi = lo := by omega
      obtain rfl := HD.out _ hS
      go_wp2
      go_ret
      exact ⟨rfl, hB⟩
set_option maxHeartbeats 400000 in
theorem indexOf_ok {mb tb kb n : Nat} {R : Rows} {l : List El} {f : Idn → Option Int} {g : Int} {w : World} (h : MdAt mb tb kb n R l f w) (K : Rks f l g) (hg : 1 ≤ g) (hin : ∀ (j : Nat) (e : El), l[j]? = some e → e.id.In) (hn : l.length ≤ 1000000) (k0 : Nat) (e0 : El) (he0 : l[k0]? = some e0) :
    Calls Tryz.prog 74 #[pv mb, .int .i64 (rkO f e0)] w fun r w' => r = .returned (.int .i64 (k0 : Int)) ∧ Below w.heap.size w w' := by
  have HL : Hid (∀ x, Below w.heap.size w x → _) := fun x hx => lenM_ok (h.later hx)
  have HS : Hid (∀ (x : World) (b1 b2 : Nat), Below w.heap.size w x → x.cell? ⟨b1, 0, none⟩ = some (pv mb) → x.cell? ⟨b2, 0, none⟩ = some (.int .i64 (rkO f e0)) → b1 < x.heap.size → b2 < x.heap.size → _) := fun x b1 b2 hx c1 c2 d1 d2 => searchR_ok (h.later hx) c1 d1 d2 K hg hin hn k0 e0 he0 c2
  generalize rkO f e0 = p at HS ⊢
  have hmf : ∀ (fn : Fn) (first cap : Array Value) (w : World), (Instr.makeFunc fn first cap).run Tryz.prog w = .ok (.func fn first cap) w := fun _ _ _ _ => rfl
  have r1 := row_new w #[pv mb] 25
  have r2 := row_new (w.alloc (.cells #[pv mb] 25)) #[.int .i64 p] 3
  have b1 := below_one w (.cells #[pv mb] 25)
  have b2 := below_one (w.alloc (.cells #[pv mb] 25)) (.cells #[.int .i64 p] 3)
  have r1' := r1.later b2
  have hB := bgo b1 b2
  have hr1 : ((w.alloc (.cells #[pv mb] 25)).alloc (.cells #[.int .i64 p] 3)).cell? ⟨w.heap.size, 0, none⟩ = some (pv mb) := r1'.cell 0
  have hr2 : ((w.alloc (.cells #[pv mb] 25)).alloc (.cells #[.int .i64 p] 3)).cell? ⟨w.heap.size + 1, 0, none⟩ = some (.int .i64 p) := by
    have := r2.cell 0
    rw [show (w.alloc (.cells #[pv mb] 25)).heap.size = w.heap.size + 1 by simp] at this
    exact this
  have hsz : ((w.alloc (.cells #[pv mb] 25)).alloc (.cells #[.int .i64 p] 3)).heap.size = w.heap.size + 2 := by simp
  clear r1 r2 b1 b2 r1' h
  unfold pv at *
  go_enter Tryz.func74, Tryz.ntmps74
  go_upto_region 1 with fail
  generalize ((w.alloc (.cells #[.pointer (some ⟨mb, 0, none⟩)] 25)).alloc (.cells #[.int .i64 p] 3)) = W2 at *
  have HW : Hid (w.heap.size < W2.heap.size ∧ w.heap.size + 1 < W2.heap.size) := ⟨by omega, by omega⟩
  go_wp2_with (first | (go_at_call 47; refine (HL.out _ hB).mono ?_; rintro r w3 ⟨rfl, hw3⟩; obtain rfl := hw3.symm) | (go_at_call 95; refine (HS.out _ _ _ hB hr1 hr2 HW.out.1 HW.out.2).mono ?_; rintro r w4 ⟨rfl, hb4⟩))
  go_ret
  exact ⟨rfl, bgo hB hb4⟩
set_option maxHeartbeats 1000000 in
theorem index_yes {mb tb kb n : Nat} {R : Rows} {l : List El} {f : Idn → Option Int} {g : Int} {w : World} (h : MdAt mb tb kb n R l f w) (K : Rks f l g) (hg : 1 ≤ g) (hin : ∀ (j : Nat) (e : El), l[j]? = some e → e.id.In) (hn : l.length ≤ 1000000) (k0 : Nat) (e0 : El) (he0 : l[k0]? = some e0) :
    Calls Tryz.prog 45 #[pv mb, .agg (idc e0.id.a e0.id.b e0.id.c)] w fun r w' => r = .returned (.tuple #[.int .i64 (k0 : Int), .bool true]) ∧ Below w.heap.size w w' := by
  have HI : Hid (∀ x, Below w.heap.size w x → _) := fun x hx => indexOf_ok (h.later hx) K hg hin hn k0 e0 he0
  have HM := hid_of' h.map
  have hr := h.row
  have hf : f e0.id = some (rkO f e0) := by
    have := K.has k0 e0 he0
    unfold rkO
    cases hq : f e0.id with
    | none => rw [hq] at this; cases this
    | some z => rfl
  have hi := hin k0 e0 he0
  have hB := below_one w (.cells (idc e0.id.a e0.id.b e0.id.c) 29)
  have hr5 := row_new w (idc e0.id.a e0.id.b e0.id.c) 29
  clear h K he0
  generalize rkO f e0 = p at *
  generalize e0.id = i at *
  unfold pv at HI ⊢
  go_enter Tryz.func45, Tryz.ntmps45
  go_upto_region 1 with fail
  generalize w.alloc (.cells (idc i.a i.b i.c) 29) = W5 at hB hr5 ⊢
  have hM5 := HM.out.later hB
  have hE := hr5.in
  have hmr := hr.later hB
  have c1 : ∀ s : Wld W5, (wOf s).cell? ⟨mb, 1, none⟩ = some (.map (some kb)) := fun s => hmr.cls 1 _ rfl s
  refine wp_region_cls (by kernel_rfl) (by kernel_rfl) ?_
  repeat (first | go_big_quiet_skip | (go_big_quiet_want; first | (refine quiet_load_in _ _ rfl rfl hE.cls Tryz.underlying29 rfl (id_size _ _ _) ?_; simp only [Act.put, List.setIfInBounds_toArray, List.set_cons_succ, List.set_cons_zero]; go_big_quiet_on) | (refine quiet_lookup _ _ rfl hi rfl rfl hM5.cls ?_; simp only [Act.put, List.setIfInBounds_toArray, List.set_cons_succ, List.set_cons_zero]; go_big_quiet_on) | (go_big_quiet_op; first | go_big_quiet_on | go_big_quiet_call ((fail)))))
  refine wpQuiet_nil ?_
  rintro w1 ⟨s1, e1⟩
  have hb1 := wOf_below s1
  rw [← e1] at hb1
  clear e1 s1
  replace hB := bgo hB hb1
  clear hb1
  simp only [hf, Option.getD_some, Option.isSome_some]
  go_wp2_with (go_at_call 74; refine (HI.out _ hB).mono ?_; rintro r w4 ⟨rfl, hb4⟩)
  go_ret2
  exact ⟨rfl, bgo hB hb4⟩
set_option maxHeartbeats 1000000 in
theorem index_no {mb tb kb n : Nat} {R : Rows} {l : List El} {f : Idn → Option Int} {w : World} (h : MdAt mb tb kb n R l f w) (i : Idn) (hi : i.In) (hf : f i = none) :
    Calls Tryz.prog 45 #[pv mb, .agg (idc i.a i.b i.c)] w fun r w' => r = .returned (.tuple #[.int .i64 0, .bool false]) ∧ Below w.heap.size w w' := by
  have HM := hid_of' h.map
  have hr := h.row
  have hB := below_one w (.cells (idc i.a i.b i.c) 29)
  have hr5 := row_new w (idc i.a i.b i.c) 29
  clear h
  unfold pv
  go_enter Tryz.func45, Tryz.ntmps45
  go_upto_region 1 with fail
  generalize w.alloc (.cells (idc i.a i.b i.c) 29) = W5 at hB hr5 ⊢
  have hM5 := HM.out.later hB
  have hE := hr5.in
  have hmr := hr.later hB
  have c1 : ∀ s : Wld W5, (wOf s).cell? ⟨mb, 1, none⟩ = some (.map (some kb)) := fun s => hmr.cls 1 _ rfl s
  refine wp_region_cls (by kernel_rfl) (by kernel_rfl) ?_
  repeat (first | go_big_quiet_skip | (go_big_quiet_want; first | (refine quiet_load_in _ _ rfl rfl hE.cls Tryz.underlying29 rfl (id_size _ _ _) ?_; simp only [Act.put, List.setIfInBounds_toArray, List.set_cons_succ, List.set_cons_zero]; go_big_quiet_on) | (refine quiet_lookup _ _ rfl hi rfl rfl hM5.cls ?_; simp only [Act.put, List.setIfInBounds_toArray, List.set_cons_succ, List.set_cons_zero]; go_big_quiet_on) | (go_big_quiet_op; first | go_big_quiet_on | go_big_quiet_call ((fail)))))
  refine wpQuiet_nil ?_
  rintro w1 ⟨s1, e1⟩
  have hb1 := wOf_below s1
  rw [← e1] at hb1
  clear e1 s1
  replace hB := bgo hB hb1
  clear hb1
  simp only [hf, Option.getD_none, Option.isSome_none]
  go_wp2
  go_ret2
  exact ⟨rfl, hB⟩
/-- What rankFor answers where there is room. -/
def RkOw (kb : Nat) (f : Idn → Option Int) (N : Nat) (zr : Int) (x : World) (r : Ending) (x' : World) : Prop := ∃ z f' n', r = .returned (.int .i64 z) ∧ In64 z ∧ n' ≤ N ∧ MpAt kb n' f' x' ∧ (f' = f ∧ z = zr) ∧ Kp kb x x'
/-- That rank came up. -/
def RkVw (kb : Nat) (f : Idn → Option Int) (N : Nat) (zr : Int) (v : Value) (x : World) : Prop := ∃ z f' n', v = .int .i64 z ∧ In64 z ∧ n' ≤ N ∧ MpAt kb n' f' x ∧ (f' = f ∧ z = zr)
/-- What Insert answers, and what it leaves. -/
def InOw (mb tb kb : Nat) (R : Rows) (l : List El) (f : Idn → Option Int) (N : Nat) (i : Idn) (zr : Int) (w : World) (r : Ending) (w' : World) : Prop := ∃ n' f', r = .returned .nilIface ∧ n' ≤ N + 1 ∧ MdAt mb tb kb n' R l f' w' ∧ f' = putF f i zr ∧ K2 tb kb w w'
set_option maxHeartbeats 4000000 in
theorem insert_wide {mb tb kb n : Nat} {R : Rows} {l : List El} {f : Idn → Option Int} {w : World} (h : MdAt mb tb kb n R l f w) (ip : Nat) (e : El) (hi : ip ≤ l.length) (hg : e.Good) (hf : (f e.id).isSome = false) (hn : l.length + 1 ≤ 1073741824) {N : Nat} {zr : Int} (hN : N ≤ 1000000000000)
    (HR : ∀ x, Below w.heap.size w x → Calls Tryz.prog 56 #[pv mb, .int .i64 (ip : Int)] x (RkOw kb f N zr x)) :
    Calls Tryz.prog 28 #[pv mb, .int .i64 (ip : Int), .agg (ev e)] w (InOw mb tb kb R (insE l ip e) f N e.id zr w) := by
  obtain ⟨ne1, ne2, ne3⟩ := h.ne
  have hB0 := below_one w (.cells (ev e) 66)
  have hr0 := row_new w (ev e) 66
  have h0 := h.later hB0
  have HL := hid_of' (lenM_ok h0)
  have HF := hid_of' (flaw_ok h0.row h0.map hg.1 hg.2.1 hg.2.2 hf)
  have e1 : ¬ (ip : Int) < 0 := by omega
  have e2 : ¬ (l.length : Int) < (ip : Int) := by omega
  have e3 : ¬ l.length < ip := by omega
  have hlt := h.row.lt
  have htl : tb < w.heap.size := by obtain ⟨ls, v, ht, _⟩ := h.tree; exact ht.lt
  have hkl := h.map.lt
  have HI := hid_of' hg.1
  clear hg hf
  unfold pv at HL HF HR ⊢
  go_enter Tryz.func28, Tryz.ntmps28
  go_upto_region 6 with (first | (go_at_call 47; refine HL.out.mono ?_; clear HL; rintro r w1 ⟨rfl, hw⟩; obtain rfl := hw.symm) | (refine wpL_loadE rfl _ rfl rfl hr0.in ?_) | (go_at_call 55; refine HF.out.mono ?_; clear HF; rintro r w2 ⟨rfl, hb2⟩))
  have hB2 := bgo hB0 hb2
  have h2 := h0.later hb2
  have hr2 := hr0.later hb2
  clear h0 hr0 hb2 hB0 e1 e2 e3 h
  have hI2 : CsIn w.heap.size 0 (idc e.id.a e.id.b e.id.c) w2 := id_at hr2.in
  have hX0 := hB2.size
  refine wp_region_once 9 (by kernel_rfl) (fun _ => none) (by kernel_rfl) (by kernel_rfl) (by decide) (fun i v x => match i with
    | 0 => v = .pointer (some ⟨mb, 0, none⟩)
    | 1 => v = .pointer (some ⟨mb, 0, none⟩)
    | 2 => v = .pointer (some ⟨mb, 1, none⟩)
    | 3 => v = .map (some kb)
    | 4 => v = .pointer (some ⟨w.heap.size, 0, none⟩)
    | 5 => v = .agg (idc e.id.a e.id.b e.id.c)
    | 6 => v = .pointer (some ⟨mb, 0, none⟩)
    | 7 => v = .int .i64 (ip : Int)
    | 8 => RkVw kb f N zr v x
    | _ => True) (fun _ => false) (fun _ _ _ _ h => by cases h) 8 (by decide) (fun a b => Kp kb a b) (fun a b => Kp kb a b) (fun _ _ h hb => h.trans (Kp.of hb)) (fun _ h => Kp.of h) (fun _ _ h k => (Kp.of h).trans k) (fun _ _ k => k.size) ?_ ?_ ?_ ?_
  · intro i v x x' hR hb
    match i, hR with
    | 0, h => exact h
    | 1, h => exact h
    | 2, h => exact h
    | 3, h => exact h
    | 4, h => exact h
    | 5, h => exact h
    | 6, h => exact h
    | 7, h => exact h
    | 8, h => exact by obtain ⟨z, f9, n9, h1, h2, h3, h4, h5⟩ := h; exact ⟨z, f9, n9, h1, h2, h3, h4.later hb, h5⟩
    | m + 9, h => exact h
  · intro i v x x' hne hR hb
    match i, hne, hR with
    | 0, hne, h => exact h
    | 1, hne, h => exact h
    | 2, hne, h => exact h
    | 3, hne, h => exact h
    | 4, hne, h => exact h
    | 5, hne, h => exact h
    | 6, hne, h => exact h
    | 7, hne, h => exact h
    | 8, hne, h => exact absurd rfl hne
    | m + 9, _, h => exact h
  · intro i o hi ho q x vals hX hC hdep hoth
    have t0 : q.tmps[0]? = some (.pointer (some ⟨mb, 0, none⟩)) := by rw [hoth 0 (by kernel_rfl)]; rfl
    have t1 : q.tmps[1]? = some (.int .i64 (ip : Int)) := by rw [hoth 1 (by kernel_rfl)]; rfl
    have t5 : q.tmps[5]? = some (.pointer (some ⟨w.heap.size, 0, none⟩)) := by rw [hoth 5 (by kernel_rfl)]; rfl
    match i, hi, ho, hC with
    | 0, _, ho, hC =>
      simp only [List.getElem?_cons_zero, Option.some.injEq] at ho
      subst ho
      unfold Oper.wp
      simp [execOp, go_sem, t0]
      exact cameB _ rfl (by decide) (Below.refl _ _) rfl (fun h => absurd h (by decide))
    | 1, _, ho, hC =>
      simp only [List.getElem?_cons_succ, List.getElem?_cons_zero, Option.some.injEq] at ho
      subst ho
      obtain ⟨u0, e0⟩ := hdep ⟨0, .data⟩ (by simp) rfl _ 27 rfl rfl
      rw [show vals 0 = .pointer (some ⟨mb, 0, none⟩) from e0] at u0
      unfold Oper.wp
      simp [execOp, go_sem, u0]
      exact cameB _ rfl (by decide) (Below.refl _ _) rfl (fun h => absurd h (by decide))
    | 2, _, ho, hC =>
      simp only [List.getElem?_cons_succ, List.getElem?_cons_zero, Option.some.injEq] at ho
      subst ho
      obtain ⟨u1, e1⟩ := hdep ⟨1, .data⟩ (by simp) rfl _ 28 rfl rfl
      rw [show vals 1 = .pointer (some ⟨mb, 0, none⟩) from e1] at u1
      unfold Oper.wp
      simp [execOp, go_sem, u1]
      exact cameB _ rfl (by decide) (Below.refl _ _) rfl (fun h => absurd h (by decide))
    | 3, _, ho, hC =>
      simp only [List.getElem?_cons_succ, List.getElem?_cons_zero, Option.some.injEq] at ho
      subst ho
      obtain ⟨u2, e2⟩ := hdep ⟨2, .data⟩ (by simp) rfl _ 29 rfl rfl
      rw [show vals 2 = .pointer (some ⟨mb, 1, none⟩) from e2] at u2
      have cc : x.cell? ⟨mb, 1, none⟩ = some (.map (some kb)) := (h2.row.kp hX ne2).cell 1
      unfold Oper.wp
      simp [execOp, go_sem, u2, cc]
      exact cameB _ rfl (by decide) (Below.refl _ _) rfl (fun h => absurd h (by decide))
    | 4, _, ho, hC =>
      simp only [List.getElem?_cons_succ, List.getElem?_cons_zero, Option.some.injEq] at ho
      subst ho
      unfold Oper.wp
      simp [execOp, go_sem, t5]
      exact cameB _ rfl (by decide) (Below.refl _ _) rfl (fun h => absurd h (by decide))
    | 5, _, ho, hC =>
      simp only [List.getElem?_cons_succ, List.getElem?_cons_zero, Option.some.injEq] at ho
      subst ho
      obtain ⟨u4, e4⟩ := hdep ⟨4, .data⟩ (by simp) rfl _ 31 rfl rfl
      rw [show vals 4 = .pointer (some ⟨w.heap.size, 0, none⟩) from e4] at u4
      exact opw_loadI _ rfl (by simp [Act.eval, u4]) (hI2.kp hX (by omega)) (cameB _ rfl (by decide) (Below.refl _ _) rfl (fun h => absurd h (by decide)))
    | 6, _, ho, hC =>
      simp only [List.getElem?_cons_succ, List.getElem?_cons_zero, Option.some.injEq] at ho
      subst ho
      unfold Oper.wp
      simp [execOp, go_sem, t0]
      exact cameB _ rfl (by decide) (Below.refl _ _) rfl (fun h => absurd h (by decide))
    | 7, _, ho, hC =>
      simp only [List.getElem?_cons_succ, List.getElem?_cons_zero, Option.some.injEq] at ho
      subst ho
      unfold Oper.wp
      simp [execOp, go_sem, t1]
      exact cameB _ rfl (by decide) (Below.refl _ _) rfl (fun h => absurd h (by decide))
    | 8, _, ho, hC =>
      simp only [List.getElem?_cons_succ, List.getElem?_cons_zero, Option.some.injEq] at ho
      subst ho
      obtain ⟨u6, e6⟩ := hdep ⟨6, .data⟩ (by simp) rfl _ 33 rfl rfl
      rw [show vals 6 = .pointer (some ⟨mb, 0, none⟩) from e6] at u6
      obtain ⟨u7, e7⟩ := hdep ⟨7, .data⟩ (by simp) rfl _ 34 rfl rfl
      rw [show vals 7 = .int .i64 (ip : Int) from e7] at u7
      unfold Oper.wp
      simp [go_sem, u6, u7]
      refine (HR x (bgo hB2 (hC rfl))).mono ?_
      rintro r x1 ⟨z, f9, n9, rfl, hz, hn9, hM9, hK9, hb1⟩
      exact cameX _ rfl hb1 ⟨z, f9, n9, rfl, hz, hn9, hM9, hK9⟩ rfl
    | m + 9, hi, _, _ => exact absurd hi (by omega)
  · intro vals x' hX hR _
    obtain ⟨z, f9, n9, r8, hz, hn9, hM9, hK9⟩ : RkVw kb f N zr (vals 8) x' := hR 8 (by decide)
    have r3 : vals 3 = .map (some kb) := hR 3 (by decide)
    have r5 : vals 5 = .agg (idc e.id.a e.id.b e.id.c) := hR 5 (by decide)
    simp only [List.take, List.drop, putAll, r3, r5, r8]
    clear r3 r5 r8 hR
    simp only [List.setIfInBounds_toArray, List.set_cons_succ, List.set_cons_zero]
    refine wpL_mapPut rfl _ _ _ rfl hM9 HI.out rfl rfl rfl hz (by omega) ?_
    intro w9 hM' hgr
    simp only [Act.put]
    have hkp := hX.trans (Kp.of_grown hgr)
    have hT9 := h2.tree.kc (KC.of_kp hkp h2.map.obj)
    have hr9 := hr2.kp hkp (by omega)
    have hm9 := h2.row.kp hkp ne2
    have hno := h2.no
    have hnom := h2.nom
    have hhi : R.hi ≤ w9.heap.size := Nat.le_trans h2.hi hkp.size
    have hs9 := hkp.size
    have hl9 := hM'.lt
    clear hM9 hX hgr h2 hr2 hI2 HI
    go_upto_region 7 with fail
    refine wp_region_tail 7 (by kernel_rfl) (fun _ => none) (by kernel_rfl) (by kernel_rfl) (by decide) (fun i v x => match i with
      | 0 => v = .pointer (some ⟨mb, 0, none⟩)
      | 1 => v = .pointer (some ⟨mb, 0, none⟩)
      | 2 => v = .pointer (some ⟨mb, 0, none⟩)
      | 3 => v = .pointer (some ⟨tb, 0, none⟩)
      | 4 => v = .int .i64 (ip : Int)
      | 5 => v = .agg (ev e)
      | 6 => BsV e v x
      | _ => True) (fun _ => false) (fun _ _ _ _ h => by cases h) ?_ ?_ ?_
    · intro i v x x' hR hb
      match i, hR with
      | 0, h => exact h
      | 1, h => exact h
      | 2, h => exact h
      | 3, h => exact h
      | 4, h => exact h
      | 5, h => exact h
      | 6, h => exact h.later hb
      | m + 7, h => exact h
    · intro i o hi ho q x vals hX hdep hoth
      have t0 : q.tmps[0]? = some (.pointer (some ⟨mb, 0, none⟩)) := by rw [hoth 0 (by kernel_rfl)]; rfl
      have t1 : q.tmps[1]? = some (.int .i64 (ip : Int)) := by rw [hoth 1 (by kernel_rfl)]; rfl
      have t5 : q.tmps[5]? = some (.pointer (some ⟨w.heap.size, 0, none⟩)) := by rw [hoth 5 (by kernel_rfl)]; rfl
      match i, hi, ho with
      | 0, _, ho =>
        simp only [List.getElem?_cons_zero, Option.some.injEq] at ho
        subst ho
        unfold Oper.wp
        simp [execOp, go_sem, t0]
        exact came _ rfl (Below.refl _ _) rfl (fun h => absurd h (by decide))
      | 1, _, ho =>
        simp only [List.getElem?_cons_succ, List.getElem?_cons_zero, Option.some.injEq] at ho
        subst ho
        obtain ⟨u0, e0⟩ := hdep ⟨0, .data⟩ (by simp) rfl _ 36 rfl rfl
        rw [show vals 0 = .pointer (some ⟨mb, 0, none⟩) from e0] at u0
        unfold Oper.wp
        simp [execOp, go_sem, u0]
        exact came _ rfl (Below.refl _ _) rfl (fun h => absurd h (by decide))
      | 2, _, ho =>
        simp only [List.getElem?_cons_succ, List.getElem?_cons_zero, Option.some.injEq] at ho
        subst ho
        obtain ⟨u1, e1⟩ := hdep ⟨1, .data⟩ (by simp) rfl _ 37 rfl rfl
        rw [show vals 1 = .pointer (some ⟨mb, 0, none⟩) from e1] at u1
        unfold Oper.wp
        simp [execOp, go_sem, u1]
        exact came _ rfl (Below.refl _ _) rfl (fun h => absurd h (by decide))
      | 3, _, ho =>
        simp only [List.getElem?_cons_succ, List.getElem?_cons_zero, Option.some.injEq] at ho
        subst ho
        obtain ⟨u2, e2⟩ := hdep ⟨2, .data⟩ (by simp) rfl _ 38 rfl rfl
        rw [show vals 2 = .pointer (some ⟨mb, 0, none⟩) from e2] at u2
        have cc : x.cell? ⟨mb, 0, none⟩ = some (.pointer (some ⟨tb, 0, none⟩)) := (hm9.later hX).cell 0
        unfold Oper.wp
        simp [execOp, go_sem, u2, cc]
        exact came _ rfl (Below.refl _ _) rfl (fun h => absurd h (by decide))
      | 4, _, ho =>
        simp only [List.getElem?_cons_succ, List.getElem?_cons_zero, Option.some.injEq] at ho
        subst ho
        unfold Oper.wp
        simp [execOp, go_sem, t1]
        exact came _ rfl (Below.refl _ _) rfl (fun h => absurd h (by decide))
      | 5, _, ho =>
        simp only [List.getElem?_cons_succ, List.getElem?_cons_zero, Option.some.injEq] at ho
        subst ho
        exact opw_loadE _ rfl (by simp [Act.eval, t5]) (hr9.in.later hX) (came _ rfl (Below.refl _ _) rfl (fun h => absurd h (by decide)))
      | 6, _, ho =>
        simp only [List.getElem?_cons_succ, List.getElem?_cons_zero, Option.some.injEq] at ho
        subst ho
        obtain ⟨u5, e5⟩ := hdep ⟨5, .data⟩ (by simp) rfl _ 41 rfl rfl
        rw [show vals 5 = .agg (ev e) from e5] at u5
        unfold ev at u5
        unfold Oper.wp
        simp [execOp, go_sem, u5]
        exact came _ rfl (below_one _ _) (bsv_new x e) (fun h => absurd h (by decide))
      | m + 7, hi, _ => exact absurd hi (by omega)
    · intro vals x9 hX9 hR9 _
      have q3 : vals 3 = .pointer (some ⟨tb, 0, none⟩) := hR9 3 (by decide)
      have q4 : vals 4 = .int .i64 (ip : Int) := hR9 4 (by decide)
      obtain ⟨q6, g6, q7⟩ : BsV e (vals 6) x9 := hR9 6 (by decide)
      rw [q7] at q6
      have HN := hid_of' (insert_any (hT9.later hX9) ip [e] _ q6 hi (by simpa using hn) hno (by decide) (by decide) (Nat.le_trans hhi hX9.size))
      simp only [List.take, List.drop, putAll, q3, q4, q7]
      clear q3 q4 q6 q7 hR9
      simp only [List.setIfInBounds_toArray, List.set_cons_succ, List.set_cons_zero]
      unfold pv at HN
      go_wp2_with (go_at_call 57; refine HN.out.mono ?_; rintro r w10 ⟨rfl, hT10, hk10⟩)
      go_ret
      have hkB := hM'.later hX9
      refine ⟨n9 + 1, putF f9 e.id z, rfl, by omega, ⟨(hm9.later hX9).kp hk10 ne1, hT10, hkB.kp hk10 (fun q => ne3 q.symm), hno, hnom, Nat.le_trans hhi (Nat.le_trans hX9.size hk10.size)⟩, by rw [hK9.1, hK9.2], ((K2.of hB2).trans (K2.two hkp)).trans ((K2.of hX9).trans (K2.one hk10))⟩
/-- Insert, where the ranks are g apart: they are half of that apart then. -/
theorem insert_rk {mb tb kb n : Nat} {R : Rows} {l : List El} {f : Idn → Option Int} {g : Int} {w : World} (h : MdAt mb tb kb n R l f w) (K : Rks f l g) (hg : 2 ≤ g) (ip : Nat) (e : El) (hi : ip ≤ l.length) (hge : e.Good) (hin : ∀ (j : Nat) (e : El), l[j]? = some e → e.id.In) (hf : (f e.id).isSome = false) (hn : l.length ≤ 1000000) (hN : n ≤ 1000000) :
    Calls Tryz.prog 28 #[pv mb, .int .i64 (ip : Int), .agg (ev e)] w fun r w' => ∃ n' f', r = .returned .nilIface ∧ n' ≤ n + 1 ∧ MdAt mb tb kb n' R (insE l ip e) f' w' ∧ Rks f' (insE l ip e) (g / 2) ∧ K2 tb kb w w' := by
  have ha := K.sideA (by omega) hi
  have hb := K.sideB (i := ip) (by omega)
  have hgap := K.gap ip hi
  refine (insert_wide (zr := rkA f l ip + (rkB f l ip - rkA f l ip) / 2) h ip e hi hge hf (by omega) (N := n) (by omega) (fun x hx => ?_)).mono ?_
  · refine (rankFor_wide (h.later hx) ip hi hin (by omega) ha hb (by omega)).mono ?_
    rintro r x' ⟨rfl, hbx⟩
    exact ⟨_, f, n, rfl, ⟨by omega, by omega⟩, Nat.le_refl _, (h.later hx).map.later hbx, ⟨rfl, rfl⟩, Kp.of hbx⟩
  · rintro r w' ⟨n', f', rfl, h1, h2, rfl, h4⟩
    exact ⟨n', _, rfl, h1, h2, K.ins hg hi hf, h4⟩
end Go.Proofs.YtjopeojnlibagaaGreatDoor
namespace Go.Proofs.YtjopeojnlibagaaGreatDoor
open Go.RowKit Go.Extern.Stop Go.Stop Go.Extern
set_option maxRecDepth 100000

/-- An anchor's cells. -/
def anc (f : Bool) (a b c : Int) : Array Value := #[.bool f, .int .i64 a, .int .i64 b, .int .i64 c]
theorem anc_size (f : Bool) (a b c : Int) : (Tryz.prog.info? 31).map (·.size) = some (anc f a b c).size := (by kernel_rfl : (Tryz.prog.info? 31).map (·.size) = some 4)
theorem bldA (a b c : Int) : Tryz.prog.built 31 [(1, .agg (idc a b c))] = some (anc false a b c) := by kernel_rfl
theorem anc_id {w : World} {g o_ : Nat} {f : Bool} {a b c : Int} (h : CsIn g o_ (anc f a b c) w) : CsIn g (o_ + 1) (idc a b c) w :=
  ⟨h.1, fun j v hv => by
    rw [show o_ + 1 + j = o_ + (j + 1) by omega]
    refine h.2 (j + 1) v ?_
    match j, hv with
    | 0, hv => exact hv
    | 1, hv => exact hv
    | 2, hv => exact hv
    | j + 3, hv => exact absurd hv (by simp [idc])⟩
section
variable {ops : Array Oper} {rest : List Oper} {o : Oper} {A : Act} {w : World} {Q : Exit → Act → World → Prop}
theorem wpL_loadA (hgd : o.guard = none) (x : Operand) (ho : o.op = .load 31 x) {b off : Nat} (hx : A.eval x = .pointer (some ⟨b, off, none⟩)) {f : Bool} {i j k : Int} (h : CsIn b off (anc f i j k) w)
    (k : wpList Tryz.prog ops Q rest (A.put o.dst (.agg (anc f i j k))) w) : wpList Tryz.prog ops Q (o :: rest) A w :=
  wpList_plain hgd fun _ hK => by
    unfold Oper.wp execOp
    simp only [ho, hx, Instr.loadAt, Instr.sureAddr, Sem.run_bind, Sem.run_pure, Result.andThen_ok, run_loadVar_in h Tryz.underlying31 rfl (anc_size _ _ _ _)]
    exact hK _ _ k
theorem opw_loadA {K : Act → World → Prop} (x : Operand) (ho : o.op = .load 31 x) {b off : Nat} (hx : A.eval x = .pointer (some ⟨b, off, none⟩)) {f : Bool} {i j k : Int} (h : CsIn b off (anc f i j k) w)
    (k : K (A.put o.dst (.agg (anc f i j k))) w) : o.wp Tryz.prog A w K Q := by
  unfold Oper.wp execOp
  simp only [ho, hx, Instr.loadAt, Instr.sureAddr, Sem.run_bind, Sem.run_pure, Result.andThen_ok, run_loadVar_in h Tryz.underlying31 rfl (anc_size _ _ _ _)]
  exact k
theorem wpL_storeA (hgd : o.guard = none) (x y : Operand) (ho : o.op = .store 31 x y) {g : Nat} (hx : A.eval x = .pointer (some ⟨g, 0, none⟩)) {f : Bool} {i j l : Int} (hy : A.eval y = .agg (anc f i j l)) {c0 c1 c2 c3 : Value} (h : RowAt g #[c0, c1, c2, c3] 31 w)
    (k : wpList Tryz.prog ops Q rest (A.put o.dst undef) (w.setRow g (anc f i j l))) : wpList Tryz.prog ops Q (o :: rest) A w :=
  wpList_store_row hgd _ x y ho g (anc f i j l) hx hy _ _ h (anc_size _ _ _ _) rfl (by simp [anc, Value.oneCell']) k
theorem wpL_bldG (hgd : o.guard = none) (t : TypeId) (parts : Array (Nat × Operand)) (ho : o.op = .build t parts) (cells : Array Value)
    (hc : Tryz.prog.built t (parts.map fun (i, x) => (i, A.eval x)).toList = some cells)
    (k : wpList Tryz.prog ops Q rest (A.put o.dst (.agg cells)) w) : wpList Tryz.prog ops Q (o :: rest) A w :=
  wpList_plain hgd fun _ hK => by
    unfold Oper.wp execOp
    simp only [ho, Sem.run_bind, run_build w t _ cells hc, Result.andThen_ok]
    exact hK _ _ k
end
theorem results_ctE {fn : Func} {t u : Tmp} {tmps : Array Value} {w : World} {g : Nat} {e : El} (h : fn.results = #[.cell t 66, .tmp u]) (hp : tmps.getD t undef = .pointer (some ⟨g, 0, none⟩)) (hg : RowAt g (ev e) 66 w) :
    (results fn tmps).run Tryz.prog w = .ok (.tuple #[.agg (ev e), tmps.getD u undef]) w := by
  have hu' : tmps[t]?.getD undef = .pointer (some ⟨g, 0, none⟩) := by simpa using hp
  simp [results, h, hu', asAddr, run_loadVar_row w g _ _ _ _ _ hg Tryz.underlying66 rfl (e_size e)]
theorem results_ctA {fn : Func} {t u : Tmp} {tmps : Array Value} {w : World} {g : Nat} {f : Bool} {a b c : Int} (h : fn.results = #[.cell t 31, .tmp u]) (hp : tmps.getD t undef = .pointer (some ⟨g, 0, none⟩)) (hg : RowAt g (anc f a b c) 31 w) :
    (results fn tmps).run Tryz.prog w = .ok (.tuple #[.agg (anc f a b c), tmps.getD u undef]) w := by
  have hu' : tmps[t]?.getD undef = .pointer (some ⟨g, 0, none⟩) := by simpa using hp
  simp [results, h, hu', asAddr, run_loadVar_row w g _ _ _ _ _ hg Tryz.underlying31 rfl (anc_size f a b c)]

set_option maxHeartbeats 1000000 in
theorem atM_ok {mb : Nat} {l : List El} {w : World} (h : MvAt mb l w) (i : Nat) (e : El) (hn : l.length ≤ 1000000) (he : l[i]? = some e) :
    Calls Tryz.prog 68 #[pv mb, .int .i64 (i : Int)] w fun r w' => r = .returned (.tuple #[.agg (ev e), .nilIface]) ∧ Below w.heap.size w w' := by
  obtain ⟨tb, v, R, h1, h2⟩ := h
  have r0 := row_new w #[.int .i64 0, .int .i64 0, .int .i64 0, .int .i32 0, .int .i64 0] 66
  have b0 := below_one w (.cells #[.int .i64 0, .int .i64 0, .int .i64 0, .int .i32 0, .int .i64 0] 66)
  have HA := hid_of' (at_L (h2.later b0) i e (by omega) he)
  have c0 : (w.alloc (.cells #[.int .i64 0, .int .i64 0, .int .i64 0, .int .i32 0, .int .i64 0] 66)).cell? ⟨mb, 0, none⟩ = some (.pointer (some ⟨tb, 0, none⟩)) := (h1.later b0).cell 0
  clear h1 h2 he
  unfold pv at *
  go_enter Tryz.func68, Tryz.ntmps68
  go_upto_region 1 with fail
  generalize w.alloc (.cells #[.int .i64 0, .int .i64 0, .int .i64 0, .int .i32 0, .int .i64 0] 66) = W0 at r0 b0 HA c0 ⊢
  go_upto_region 4 with (first | (go_at_call 60; refine HA.out.mono ?_; rintro r w1 ⟨rfl, hb1⟩) | (refine wpL_storeE rfl _ _ rfl rfl rfl (row_new w1 _ _) ?_))
  have hr5 := (row_new w1 #[.int .i64 0, .int .i64 0, .int .i64 0, .int .i32 0, .int .i64 0] 66).put (ev e)
  have hB5 : Below w1.heap.size w1 ((w1.alloc (.cells #[.int .i64 0, .int .i64 0, .int .i64 0, .int .i32 0, .int .i64 0] 66)).setRow w1.heap.size (ev e)) := below_row (below_one w1 _) (Nat.le_refl _) _
  generalize (w1.alloc (.cells #[.int .i64 0, .int .i64 0, .int .i64 0, .int .i32 0, .int .i64 0] 66)).setRow w1.heap.size (ev e) = W5 at hr5 hB5 ⊢
  have r5 := r0.later (bgo hb1 hB5)
  have hB := bgo b0 (bgo hb1 hB5)
  go_wp2_with (first | (refine wpL_loadE rfl _ rfl rfl hr5.in ?_) | (refine wpL_storeE rfl _ _ rfl rfl rfl r5 ?_))
  exact bodyPost_ret (v := .tuple #[.agg (ev e), .nilIface]) (results_ctE (fn := Tryz.f68) (t := 4) (u := 5) rfl rfl (r5.put (ev e))) rfl ⟨rfl, below_row hB (Nat.le_refl _) _⟩
set_option maxHeartbeats 1000000 in
theorem liveA_zero (mb : Nat) (w : World) :
    Calls Tryz.prog 37 #[pv mb, .int .i64 0] w fun r w' => r = .returned (.agg (anc true 0 0 0)) ∧ Below w.heap.size w w' := by
  have r0 := row_new w #[.bool false, .int .i64 0, .int .i64 0, .int .i64 0] 31
  have b0 := below_one w (.cells #[.bool false, .int .i64 0, .int .i64 0, .int .i64 0] 31)
  unfold pv
  go_enter Tryz.func37, Tryz.ntmps37
  go_wp2_with (refine wpL_storeA rfl _ _ rfl rfl rfl r0 ?_)
  exact bodyPost_ret (v := .agg (anc true 0 0 0)) (results_cell_row rfl _ _ w.heap.size _ _ _ _ rfl (r0.put (anc true 0 0 0)) Tryz.underlying31 rfl (anc_size _ _ _ _)) rfl ⟨rfl, below_row b0 (Nat.le_refl _) _⟩
set_option maxHeartbeats 1000000 in
theorem liveA_ok {mb : Nat} {l : List El} {w : World} (h : MvAt mb l w) (p : Int) (hn : l.length ≤ 1000000) (h0 : 0 < p) (h1 : p ≤ liveL l) (e : El) (he : l[idxL l (p - 1)]? = some e) :
    Calls Tryz.prog 37 #[pv mb, .int .i64 p] w fun r w' => r = .returned (.agg (anc false e.ep e.rp e.no)) ∧ Below w.heap.size w w' := by
  have r0 := row_new w #[.bool false, .int .i64 0, .int .i64 0, .int .i64 0] 31
  have b0 := below_one w (.cells #[.bool false, .int .i64 0, .int .i64 0, .int .i64 0] 31)
  have HM : Hid (∀ x, Below w.heap.size w x → _) := fun x hx => modelOf_ok (h.later hx) (p - 1) hn (by omega) (by omega)
  have HA : Hid (∀ x, Below w.heap.size w x → _) := fun x hx => atM_ok (h.later hx) (idxL l (p - 1)) e hn he
  have hlb := liveL_b l
  have e0 : (p == 0) = false := by rw [beq_eq_false_iff_ne]; omega
  have e1 : wrap64 (p - 1) = p - 1 := wrapIs (by omega) (by omega)
  clear h h0 h1 he hlb hn
  generalize idxL l (p - 1) = k at *
  unfold pv at *
  go_enter Tryz.func37, Tryz.ntmps37
  go_upto_region 3 with fail
  generalize w.alloc (.cells #[.bool false, .int .i64 0, .int .i64 0, .int .i64 0] 31) = W0 at r0 b0 ⊢
  go_upto_region 5 with (first | (go_at_call 67; (with_reducible refine (HM.out _ b0).mono ?_); rintro r w1 ⟨rfl, hb1⟩) | (go_at_call 68; refine (HA.out _ (bgo b0 hb1)).mono ?_; rintro r w2 ⟨rfl, hb2⟩) | (refine wpL_storeE rfl _ _ rfl rfl rfl (row_new w2 _ _) ?_))
  have hr5 := (row_new w2 #[.int .i64 0, .int .i64 0, .int .i64 0, .int .i32 0, .int .i64 0] 66).put (ev e)
  have hB5 : Below w2.heap.size w2 ((w2.alloc (.cells #[.int .i64 0, .int .i64 0, .int .i64 0, .int .i32 0, .int .i64 0] 66)).setRow w2.heap.size (ev e)) := below_row (below_one w2 _) (Nat.le_refl _) _
  generalize (w2.alloc (.cells #[.int .i64 0, .int .i64 0, .int .i64 0, .int .i32 0, .int .i64 0] 66)).setRow w2.heap.size (ev e) = W5 at hr5 hB5 ⊢
  have r5 := r0.later (bgo hb1 (bgo hb2 hB5))
  have hB := bgo b0 (bgo hb1 (bgo hb2 hB5))
  have hE : CsIn w2.heap.size 0 (idc e.ep e.rp e.no) W5 := id_at hr5.in
  go_wp2_with (first | (refine wpL_loadI rfl _ rfl rfl hE ?_; unfold idc) | (refine wpL_storeA rfl _ _ rfl rfl rfl r5 ?_))
  exact bodyPost_ret (v := .agg (anc false e.ep e.rp e.no)) (results_cell_row rfl _ _ w.heap.size _ _ _ _ rfl (r5.put (anc false e.ep e.rp e.no)) Tryz.underlying31 rfl (anc_size _ _ _ _)) rfl ⟨rfl, below_row hB (Nat.le_refl _) _⟩
set_option maxHeartbeats 1000000 in
theorem where_nil (f : Bool) (a b c : Int) (w : World) :
    Calls Tryz.prog 12 #[.pointer none, .agg (anc f a b c)] w fun r w' => r = .returned (.tuple #[.int .i64 0, .bool false]) ∧ Below w.heap.size w w' := by
  go_enter Tryz.func12, Tryz.ntmps12
  go_wp2
  go_ret2
  exact ⟨rfl, below_one _ _⟩
set_option maxHeartbeats 1000000 in
theorem where_front (mb : Nat) (a b c : Int) (w : World) :
    Calls Tryz.prog 12 #[pv mb, .agg (anc true a b c)] w fun r w' => r = .returned (.tuple #[.int .i64 0, .bool true]) ∧ Below w.heap.size w w' := by
  have c0 : (w.alloc (.cells (anc true a b c) 31)).cell? ⟨w.heap.size, 0, none⟩ = some (.bool true) := (row_new w (anc true a b c) 31).cell 0
  have b0 := below_one w (.cells (anc true a b c) 31)
  unfold pv
  go_enter Tryz.func12, Tryz.ntmps12
  go_upto_region 1 with fail
  generalize w.alloc (.cells (anc true a b c) 31) = W0 at c0 b0 ⊢
  go_wp2
  go_ret2
  exact ⟨rfl, b0⟩
set_option maxHeartbeats 1000000 in
theorem where_no {mb tb kb n : Nat} {R : Rows} {l : List El} {f : Idn → Option Int} {w : World} (h : MdAt mb tb kb n R l f w) (a b c : Int) (hi : (⟨a, b, c⟩ : Idn).In) (hf : f ⟨a, b, c⟩ = none) :
    Calls Tryz.prog 12 #[pv mb, .agg (anc false a b c)] w fun r w' => r = .returned (.tuple #[.int .i64 0, .bool false]) ∧ Below w.heap.size w w' := by
  have r0 := row_new w (anc false a b c) 31
  have c0 : (w.alloc (.cells (anc false a b c) 31)).cell? ⟨w.heap.size, 0, none⟩ = some (.bool false) := r0.cell 0
  have b0 := below_one w (.cells (anc false a b c) 31)
  have HI := hid_of' (index_no (h.later b0) ⟨a, b, c⟩ hi hf)
  have hE := anc_id r0.in
  clear h r0
  unfold pv at *
  go_enter Tryz.func12, Tryz.ntmps12
  go_upto_region 1 with fail
  generalize w.alloc (.cells (anc false a b c) 31) = W0 at c0 b0 HI hE ⊢
  go_wp2_with (first | (refine wpL_loadI rfl _ rfl rfl hE ?_) | (go_at_call 45; refine HI.out.mono ?_; rintro r w1 ⟨rfl, hb1⟩))
  go_ret2
  exact ⟨rfl, bgo b0 hb1⟩
set_option maxHeartbeats 1000000 in
theorem where_yes {ad : Nat → Addr} {mb tb kb n : Nat} {R : Rows} {l : List El} {f : Idn → Option Int} {g : Int} {w : World} (L : Laid ad w) (h : MdAt mb tb kb n R l f w) (K : Rks f l g) (hg : 1 ≤ g) (hin : ∀ (j : Nat) (e : El), l[j]? = some e → e.id.In) (hn : l.length ≤ 1000000) (k0 : Nat) (e0 : El) (he0 : l[k0]? = some e0) :
    Calls Tryz.prog 12 #[pv mb, .agg (anc false e0.ep e0.rp e0.no)] w fun r w' => r = .returned (.tuple #[.int .i64 (liveL (l.take (k0 + 1))), .bool true]) ∧ Below w.heap.size w w' := by
  have r0 := row_new w (anc false e0.ep e0.rp e0.no) 31
  have c0 : (w.alloc (.cells (anc false e0.ep e0.rp e0.no) 31)).cell? ⟨w.heap.size, 0, none⟩ = some (.bool false) := r0.cell 0
  have b0 := below_one w (.cells (anc false e0.ep e0.rp e0.no) 31)
  have HI := hid_of' (index_yes (h.later b0) K hg hin hn k0 e0 he0)
  have hk := (List.getElem?_eq_some_iff.1 he0).1
  have HV : Hid (∀ x, Below w.heap.size w x → _) := fun x hx => viewOf_any (h.later hx).mv (L.below hx) hn (k0 + 1) (by omega)
  have hE := anc_id r0.in
  have ek : ((k0 + 1 : Nat) : Int) = (k0 : Int) + 1 := by omega
  rw [ek] at HV
  generalize liveL (l.take (k0 + 1)) = q at *
  generalize isA l (k0 + 1) = qa at *
  clear h r0 he0 K ek
  unfold pv at *
  go_enter Tryz.func12, Tryz.ntmps12
  go_upto_region 1 with fail
  generalize w.alloc (.cells (anc false e0.ep e0.rp e0.no) 31) = W0 at c0 b0 HI hE ⊢
  go_wp2_with (first | (refine wpL_loadI rfl _ rfl rfl hE ?_) | (go_at_call 45; refine HI.out.mono ?_; rintro r w1 ⟨rfl, hb1⟩) | (go_at_call 46; refine (HV.out _ (bgo b0 hb1)).mono ?_; rintro r w2 ⟨rfl, hb2⟩))
  go_ret2
  exact ⟨rfl, bgo b0 (bgo hb1 hb2)⟩
end Go.Proofs.YtjopeojnlibagaaGreatDoor
namespace Go.Proofs.YtjopeojnlibagaaGreatDoor
open Go.RowKit Go.Extern.Stop Go.Stop Go.Extern
set_option maxRecDepth 100000

def bAnchor : ByteArray := ⟨#[97, 110, 99, 104, 111, 114]⟩
/-- A refusal as an error. -/
def fvA (g : Nat) : Value := .iface 115 (.pointer (some ⟨g, 0, none⟩))
set_option maxHeartbeats 1000000 in
theorem anchorAt_nil {ad : Nat → Addr} (p : Int) {w : World} (L : Laid ad w) :
    Calls Tryz.prog 9 #[.pointer none, .int .i64 p] w fun r w' => ∃ g, r = .returned (.tuple #[.agg (anc false 0 0 0), fvA g]) ∧ FaultAt ad g bAnchor bAt (place p) 0 w' ∧ Below w.heap.size w w' := by
  have r0 := row_new w #[.bool false, .int .i64 0, .int .i64 0, .int .i64 0] 31
  have b0 := below_one w (.cells #[.bool false, .int .i64 0, .int .i64 0, .int .i64 0] 31)
  have LV : (w.alloc (.cells #[.bool false, .int .i64 0, .int .i64 0, .int .i64 0] 31)).cell? ⟨0, 0, none⟩ = some (.iface 229 (.pointer (some (ad 0)))) := (L.below b0).var 0 (by decide)
  have HF := hid_of' (fun x => newT (ad := ad) bAnchor bAt p 0 x)
  clear L
  go_enter Tryz.func9, Tryz.ntmps9
  go_upto_region 1 with fail
  generalize w.alloc (.cells #[.bool false, .int .i64 0, .int .i64 0, .int .i64 0] 31) = W0 at r0 b0 LV ⊢
  go_wp2_with (first | (go_at_call 35; refine (HF.out _).mono ?_; rintro r w1 ⟨rfl, hf, hb1⟩) | (refine wpL_storeA rfl _ _ rfl rfl rfl (r0.later hb1) ?_))
  have hlt := r0.lt
  exact bodyPost_ret (v := .tuple #[.agg (anc false 0 0 0), fvA W0.heap.size]) (results_ctA (fn := Tryz.f9) (t := 4) (u := 5) rfl rfl ((r0.later hb1).put (anc false 0 0 0))) rfl ⟨_, rfl, RowAt.other hf _ _ (by omega), below_row (bgo b0 hb1) (Nat.le_refl _) _⟩
set_option maxHeartbeats 1000000 in
theorem anchorAt_out {ad : Nat → Addr} {mb : Nat} {l : List El} (p : Int) {w : World} (h : MvAt mb l w) (L : Laid ad w) (ho : p < 0 ∨ liveL l < p) :
    Calls Tryz.prog 9 #[pv mb, .int .i64 p] w fun r w' => ∃ g, r = .returned (.tuple #[.agg (anc false 0 0 0), fvA g]) ∧ FaultAt ad g bAnchor bAt (place p) 1 w' ∧ Below w.heap.size w w' := by
  have r0 := row_new w #[.bool false, .int .i64 0, .int .i64 0, .int .i64 0] 31
  have b0 := below_one w (.cells #[.bool false, .int .i64 0, .int .i64 0, .int .i64 0] 31)
  have HV : Hid (∀ x, Below w.heap.size w x → x.cell? ⟨1, 0, none⟩ = some (.iface 229 (.pointer (some (ad 1))))) := fun x hx => (L.below hx).var 1 (by decide)
  have HL : Hid (∀ x, Below w.heap.size w x → _) := fun x hx => live_md (h.later hx)
  have HF := hid_of' (fun x => newT (ad := ad) bAnchor bAt p 1 x)
  clear L h
  unfold pv at *
  by_cases hneg : p < 0
  · go_enter Tryz.func9, Tryz.ntmps9
    go_upto_region 1 with fail
    generalize w.alloc (.cells #[.bool false, .int .i64 0, .int .i64 0, .int .i64 0] 31) = W0 at r0 b0 ⊢
    have LV := HV.out _ b0
    go_wp2_with (first | (go_at_call 35; refine (HF.out _).mono ?_; rintro r w1 ⟨rfl, hf, hb1⟩) | (refine wpL_storeA rfl _ _ rfl rfl rfl (r0.later hb1) ?_))
    have hlt := r0.lt
    exact bodyPost_ret (v := .tuple #[.agg (anc false 0 0 0), fvA W0.heap.size]) (results_ctA (fn := Tryz.f9) (t := 4) (u := 5) rfl rfl ((r0.later hb1).put (anc false 0 0 0))) rfl ⟨_, rfl, RowAt.other hf _ _ (by omega), below_row (bgo b0 hb1) (Nat.le_refl _) _⟩
  · have hgt : liveL l < p := by omega
    generalize liveL l = q at *
    clear ho
    go_enter Tryz.func9, Tryz.ntmps9
    go_upto_region 1 with fail
    generalize w.alloc (.cells #[.bool false, .int .i64 0, .int .i64 0, .int .i64 0] 31) = W0 at r0 b0 ⊢
    go_wp2_with (first | (go_at_call 36; refine (HL.out _ b0).mono ?_; rintro r w2 ⟨rfl, hb2⟩; have LV := HV.out _ (bgo b0 hb2)) | (go_at_call 35; refine (HF.out _).mono ?_; rintro r w1 ⟨rfl, hf, hb1⟩) | (refine wpL_storeA rfl _ _ rfl rfl rfl (r0.later (bgo hb2 hb1)) ?_))
    have hlt := r0.lt
    have hs2 := hb2.size
    exact bodyPost_ret (v := .tuple #[.agg (anc false 0 0 0), fvA w2.heap.size]) (results_ctA (fn := Tryz.f9) (t := 4) (u := 5) rfl rfl ((r0.later (bgo hb2 hb1)).put (anc false 0 0 0))) rfl ⟨_, rfl, RowAt.other hf _ _ (by omega), below_row (bgo b0 (bgo hb2 hb1)) (Nat.le_refl _) _⟩
set_option maxHeartbeats 1000000 in
theorem anchorAt_of {mb : Nat} {l : List El} (p : Int) {w : World} {f : Bool} {a b c : Int} (h : MvAt mb l w) (h0 : 0 ≤ p) (h1 : p ≤ liveL l) (HA : ∀ x, Below w.heap.size w x → Calls Tryz.prog 37 #[pv mb, .int .i64 p] x fun r w' => r = .returned (.agg (anc f a b c)) ∧ Below x.heap.size x w') :
    Calls Tryz.prog 9 #[pv mb, .int .i64 p] w fun r w' => r = .returned (.tuple #[.agg (anc f a b c), .nilIface]) ∧ Below w.heap.size w w' := by
  have r0 := row_new w #[.bool false, .int .i64 0, .int .i64 0, .int .i64 0] 31
  have b0 := below_one w (.cells #[.bool false, .int .i64 0, .int .i64 0, .int .i64 0] 31)
  have HL : Hid (∀ x, Below w.heap.size w x → _) := fun x hx => live_md (h.later hx)
  replace HA := hid_of' HA
  have e1 : ¬ p < 0 := by omega
  have e2 : ¬ liveL l < p := by omega
  generalize liveL l = q at *
  clear h h0 h1
  unfold pv at *
  go_enter Tryz.func9, Tryz.ntmps9
  go_upto_region 1 with fail
  generalize w.alloc (.cells #[.bool false, .int .i64 0, .int .i64 0, .int .i64 0] 31) = W0 at r0 b0 ⊢
  go_wp2_with (first | (go_at_call 36; refine (HL.out _ b0).mono ?_; rintro r w1 ⟨rfl, hb1⟩) | (go_at_call 37; refine (HA.out _ (bgo b0 hb1)).mono ?_; rintro r w2 ⟨rfl, hb2⟩) | (refine wpL_storeA rfl _ _ rfl rfl rfl (r0.later (bgo hb1 hb2)) ?_))
  exact bodyPost_ret (v := .tuple #[.agg (anc f a b c), .nilIface]) (results_ctA (fn := Tryz.f9) (t := 4) (u := 5) rfl rfl ((r0.later (bgo hb1 hb2)).put (anc f a b c))) rfl ⟨rfl, below_row (bgo b0 (bgo hb1 hb2)) (Nat.le_refl _) _⟩
/-- The anchor of a gap. -/
def AnOf (l : List El) (p : Int) (f : Bool) (a b c : Int) : Prop := (p = 0 ∧ f = true ∧ a = 0 ∧ b = 0 ∧ c = 0) ∨ (0 < p ∧ ∃ e, l[idxL l (p - 1)]? = some e ∧ ¬ e.hd > 0 ∧ liveL (l.take (idxL l (p - 1))) = p - 1 ∧ f = false ∧ a = e.ep ∧ b = e.rp ∧ c = e.no)
theorem anOf_ex {l : List El} {p : Int} (h0 : 0 ≤ p) (h1 : p ≤ liveL l) : ∃ f a b c, AnOf l p f a b c := by
  by_cases hp : p = 0
  · exact ⟨true, 0, 0, 0, .inl ⟨hp, rfl, rfl, rfl, rfl⟩⟩
  · obtain ⟨e, h2, h3, h4⟩ := idxL_spec l (p - 1) (by omega) (by omega)
    exact ⟨false, e.ep, e.rp, e.no, .inr ⟨by omega, e, h2, h3, h4, rfl, rfl, rfl, rfl⟩⟩
theorem liveA_any {mb : Nat} {l : List El} {w : World} (h : MvAt mb l w) (p : Int) (hn : l.length ≤ 1000000) (h1 : p ≤ liveL l) {f : Bool} {a b c : Int} (hA : AnOf l p f a b c) :
    Calls Tryz.prog 37 #[pv mb, .int .i64 p] w fun r w' => r = .returned (.agg (anc f a b c)) ∧ Below w.heap.size w w' := by
  rcases hA with ⟨rfl, rfl, rfl, rfl, rfl⟩ | ⟨h0, e, he, _, _, rfl, rfl, rfl, rfl⟩
  · exact liveA_zero mb w
  · exact liveA_ok h p hn h0 h1 e he
theorem anchorAt_ok {mb : Nat} {l : List El} {w : World} (h : MvAt mb l w) (p : Int) (hn : l.length ≤ 1000000) (h0 : 0 ≤ p) (h1 : p ≤ liveL l) {f : Bool} {a b c : Int} (hA : AnOf l p f a b c) :
    Calls Tryz.prog 9 #[pv mb, .int .i64 p] w fun r w' => r = .returned (.tuple #[.agg (anc f a b c), .nilIface]) ∧ Below w.heap.size w w' :=
  anchorAt_of p h h0 h1 (fun _ hx => liveA_any (h.later hx) p hn h1 hA)
set_option maxHeartbeats 1000000 in
theorem rebase_of {mb : Nat} {w : World} {f F : Bool} {a b c A B C q : Int} (HW : ∀ x, Below w.heap.size w x → Calls Tryz.prog 12 #[pv mb, .agg (anc f a b c)] x fun r w' => r = .returned (.tuple #[.int .i64 q, .bool true]) ∧ Below x.heap.size x w') (HA : ∀ x, Below w.heap.size w x → Calls Tryz.prog 37 #[pv mb, .int .i64 q] x fun r w' => r = .returned (.agg (anc F A B C)) ∧ Below x.heap.size x w') :
    Calls Tryz.prog 14 #[pv mb, .agg (anc f a b c)] w fun r w' => r = .returned (.tuple #[.agg (anc F A B C), .bool true]) ∧ Below w.heap.size w w' := by
  have r1 := row_new w (anc f a b c) 31
  have b1 := below_one w (.cells (anc f a b c) 31)
  have r0 := row_new (w.alloc (.cells (anc f a b c) 31)) #[.bool false, .int .i64 0, .int .i64 0, .int .i64 0] 31
  have b0 := below_one (w.alloc (.cells (anc f a b c) 31)) (.cells #[.bool false, .int .i64 0, .int .i64 0, .int .i64 0] 31)
  rw [show (w.alloc (.cells (anc f a b c) 31)).heap.size = w.heap.size + 1 by simp] at r0
  replace r1 := r1.later b0
  have hB := bgo b1 b0
  clear b1 b0
  replace HW := hid_of' HW
  replace HA := hid_of' HA
  unfold pv at *
  go_enter Tryz.func14, Tryz.ntmps14
  go_upto_region 1 with fail
  generalize (w.alloc (.cells (anc f a b c) 31)).alloc (.cells #[.bool false, .int .i64 0, .int .i64 0, .int .i64 0] 31) = W0 at r0 r1 hB ⊢
  go_wp2_with (first | (refine wpL_loadA rfl _ rfl rfl r1.in ?_) | (go_at_call 12; refine (HW.out _ hB).mono ?_; rintro r w1 ⟨rfl, hb1⟩) | (go_at_call 37; refine (HA.out _ (bgo hB hb1)).mono ?_; rintro r w2 ⟨rfl, hb2⟩) | (refine wpL_storeA rfl _ _ rfl rfl rfl (r0.later (bgo hb1 hb2)) ?_))
  exact bodyPost_ret (v := .tuple #[.agg (anc F A B C), .bool true]) (results_ctA (fn := Tryz.f14) (t := 4) (u := 5) rfl rfl ((r0.later (bgo hb1 hb2)).put (anc F A B C))) rfl ⟨rfl, below_row (bgo hB (bgo hb1 hb2)) (Nat.le_succ _) _⟩
set_option maxHeartbeats 1000000 in
theorem rebase_not {mb : Nat} {w : World} {f : Bool} {a b c : Int} (HW : ∀ x, Below w.heap.size w x → Calls Tryz.prog 12 #[pv mb, .agg (anc f a b c)] x fun r w' => r = .returned (.tuple #[.int .i64 0, .bool false]) ∧ Below x.heap.size x w') :
    Calls Tryz.prog 14 #[pv mb, .agg (anc f a b c)] w fun r w' => r = .returned (.tuple #[.agg (anc false 0 0 0), .bool false]) ∧ Below w.heap.size w w' := by
  have r1 := row_new w (anc f a b c) 31
  have b1 := below_one w (.cells (anc f a b c) 31)
  have r0 := row_new (w.alloc (.cells (anc f a b c) 31)) #[.bool false, .int .i64 0, .int .i64 0, .int .i64 0] 31
  have b0 := below_one (w.alloc (.cells (anc f a b c) 31)) (.cells #[.bool false, .int .i64 0, .int .i64 0, .int .i64 0] 31)
  rw [show (w.alloc (.cells (anc f a b c) 31)).heap.size = w.heap.size + 1 by simp] at r0
  replace r1 := r1.later b0
  have hB := bgo b1 b0
  clear b1 b0
  replace HW := hid_of' HW
  unfold pv at *
  go_enter Tryz.func14, Tryz.ntmps14
  go_upto_region 1 with fail
  generalize (w.alloc (.cells (anc f a b c) 31)).alloc (.cells #[.bool false, .int .i64 0, .int .i64 0, .int .i64 0] 31) = W0 at r0 r1 hB ⊢
  go_wp2_with (first | (refine wpL_loadA rfl _ rfl rfl r1.in ?_) | (go_at_call 12; refine (HW.out _ hB).mono ?_; rintro r w1 ⟨rfl, hb1⟩) | (refine wpL_storeA rfl _ _ rfl rfl rfl (r0.later hb1) ?_))
  exact bodyPost_ret (v := .tuple #[.agg (anc false 0 0 0), .bool false]) (results_ctA (fn := Tryz.f14) (t := 4) (u := 5) rfl rfl ((r0.later hb1).put (anc false 0 0 0))) rfl ⟨rfl, below_row (bgo hB hb1) (Nat.le_succ _) _⟩
/-- A Model with its ranks: what Where and Index of package model want. -/
structure Mrk (mb : Nat) (l : List El) (w : World) : Prop where
  ex : ∃ tb kb n R f, MdAt mb tb kb n R l f w ∧ Rks f l 1
  ins : ∀ (j : Nat) (e : El), l[j]? = some e → e.id.In
  len : l.length ≤ 1000000
theorem Mrk.later {mb : Nat} {l : List El} {w w' : World} (h : Mrk mb l w) (hb : Below w.heap.size w w') : Mrk mb l w' := by
  obtain ⟨tb, kb, n, R, f, h1, h2⟩ := h.ex
  exact ⟨⟨tb, kb, n, R, f, h1.later hb, h2⟩, h.ins, h.len⟩
theorem Mrk.mv {mb : Nat} {l : List El} {w : World} (h : Mrk mb l w) : MvAt mb l w := by
  obtain ⟨tb, kb, n, R, f, h1, _⟩ := h.ex
  exact h1.mv
/-- Where an anchor is. -/
def WhOf (l : List El) (f : Bool) (a b c : Int) (q : Int) (ok : Bool) : Prop := (f = true ∧ q = 0 ∧ ok = true) ∨ (f = false ∧ hasI l ⟨a, b, c⟩ = false ∧ q = 0 ∧ ok = false) ∨ (f = false ∧ ok = true ∧ ∃ (k : Nat) (e : El), l[k]? = some e ∧ e.id = ⟨a, b, c⟩ ∧ q = liveL (l.take (k + 1)))
theorem whOf_ex (l : List El) (f : Bool) (a b c : Int) : ∃ q ok, WhOf l f a b c q ok := by
  cases f with
  | true => exact ⟨0, true, .inl ⟨rfl, rfl, rfl⟩⟩
  | false =>
    cases hh : hasI l ⟨a, b, c⟩ with
    | false => exact ⟨0, false, .inr (.inl ⟨rfl, hh, rfl, rfl⟩)⟩
    | true =>
      obtain ⟨k, e, h1, h2⟩ := hasI_ex hh
      exact ⟨_, true, .inr (.inr ⟨rfl, rfl, k, e, h1, h2, rfl⟩)⟩
theorem where_any {ad : Nat → Addr} {mb : Nat} {l : List El} {w : World} (L : Laid ad w) (h : Mrk mb l w) {f : Bool} {a b c q : Int} {ok : Bool} (hi : (⟨a, b, c⟩ : Idn).In) (hW : WhOf l f a b c q ok) :
    Calls Tryz.prog 12 #[pv mb, .agg (anc f a b c)] w fun r w' => r = .returned (.tuple #[.int .i64 q, .bool ok]) ∧ Below w.heap.size w w' := by
  obtain ⟨tb, kb, n, R, fm, h1, h2⟩ := h.ex
  rcases hW with ⟨rfl, rfl, rfl⟩ | ⟨rfl, hh, rfl, rfl⟩ | ⟨rfl, rfl, k, e, he, hid, rfl⟩
  · exact where_front mb a b c w
  · refine where_no h1 a b c hi ?_
    cases hf : fm ⟨a, b, c⟩ with
    | none => rfl
    | some z => rw [h2.only _ (by rw [hf]; rfl)] at hh; cases hh
  · have := where_yes L h1 h2 (Int.le_refl _) h.ins h.len k e he
    cases e with
    | mk ep rp no ch hd =>
      simp only [El.id, Idn.mk.injEq] at hid
      obtain ⟨rfl, rfl, rfl⟩ := hid
      exact this
theorem whOf_b {l : List El} {f : Bool} {a b c q : Int} {ok : Bool} (hW : WhOf l f a b c q ok) : 0 ≤ q ∧ q ≤ liveL l := by
  rcases hW with ⟨_, rfl, _⟩ | ⟨_, _, rfl, _⟩ | ⟨_, _, k, e, _, _, rfl⟩
  · exact ⟨Int.le_refl _, (liveL_b l).1⟩
  · exact ⟨Int.le_refl _, (liveL_b l).1⟩
  · refine ⟨(liveL_b _).1, ?_⟩
    have h1 := liveL_app (l.take (k + 1)) (l.drop (k + 1))
    rw [List.take_append_drop] at h1
    have h2 := (liveL_b (l.drop (k + 1))).1
    omega
theorem rebase_any {ad : Nat → Addr} {mb : Nat} {l : List El} {w : World} (L : Laid ad w) (h : Mrk mb l w) {f F : Bool} {a b c q A B C : Int} {ok : Bool} (hi : (⟨a, b, c⟩ : Idn).In) (hW : WhOf l f a b c q ok) (hA : ok = true → AnOf l q F A B C) (hN : ok = false → F = false ∧ A = 0 ∧ B = 0 ∧ C = 0) :
    Calls Tryz.prog 14 #[pv mb, .agg (anc f a b c)] w fun r w' => r = .returned (.tuple #[.agg (anc F A B C), .bool ok]) ∧ Below w.heap.size w w' := by
  cases ok with
  | true => exact rebase_of (fun x hx => where_any (L.below hx) (h.later hx) hi hW) (fun x hx => liveA_any (h.later hx).mv q h.len (whOf_b hW).2 (hA rfl))
  | false =>
    obtain ⟨rfl, rfl, rfl, rfl⟩ := hN rfl
    have hq : q = 0 := by
      rcases hW with ⟨_, rfl, _⟩ | ⟨_, _, rfl, _⟩ | ⟨_, h1, _⟩
      · rfl
      · rfl
      · cases h1
    subst hq
    exact rebase_not (fun x hx => where_any (L.below hx) (h.later hx) hi hW)
end Go.Proofs.YtjopeojnlibagaaGreatDoor
namespace Go.Proofs.YtjopeojnlibagaaGreatDoor
open Go.RowKit Go.Extern.Stop Go.Stop Go.Extern
set_option maxRecDepth 100000

/-- No blocks to keep clear of. -/
def R00 : Rows := ⟨fun _ => False, 0, fun _ h => h.elim⟩
def bInsert : ByteArray := ⟨#[73, 110, 115, 101, 114, 116]⟩
set_option maxHeartbeats 2000000 in
theorem refInsert_ok {R : Rows} {w : World} {u : Value} {l : List El} (hl : PlAt R w u l) (ip : Nat) (e : El) (hip : ip ≤ l.length) (hn : l.length ≤ 1000000) (hw : wrK l e = none) :
    Calls Tryz.prog 27 #[u, .int .i64 (ip : Int), .agg (ev e)] w fun r w' => ∃ v, r = .returned (.tuple #[v, .agg (nov 0 none 0 0 none 0 0)]) ∧ OwnE w.heap.size v (insE l ip e) w' ∧ Below w.heap.size w w' := by
  obtain ⟨a', c', rfl⟩ := hl.form
  have rE := row_new w (ev e) 66
  have bE := below_one w (.cells (ev e) 66)
  have r0 := row_new (w.alloc (.cells (ev e) 66)) (nov 0 none 0 0 none 0 0) 38
  have b0 := below_one (w.alloc (.cells (ev e) 66)) (.cells (nov 0 none 0 0 none 0 0) 38)
  rw [show (w.alloc (.cells (ev e) 66)).heap.size = w.heap.size + 1 by simp] at r0
  replace rE := rE.later b0
  have hB := bgo bE b0
  clear bE b0
  have HW : Hid (∀ x, Below w.heap.size w x → _) := fun x hx => wrong_any (hl.later hx).sl e hn
  rw [hw] at HW
  unfold codeK at HW
  have HP : Hid (∀ (x : World) (um : Value), Below w.heap.size w x → SlE x um [e] → _) := fun x um hx hm => put_ok (hl.later hx) hm ip hip (by simp; omega)
  have e1 : ¬ (ip : Int) < 0 := by omega
  have e2 : ¬ (l.length : Int) < (ip : Int) := by omega
  have e3 : ¬ l.length < ip := by omega
  clear hl hw
  go_enter Tryz.func27, Tryz.ntmps27
  go_upto_region 1 with fail
  change Code.wp _ _ _ _ ((w.alloc (.cells (ev e) 66)).alloc (.cells (nov 0 none 0 0 none 0 0) 38))
  generalize (w.alloc (.cells (ev e) 66)).alloc (.cells (nov 0 none 0 0 none 0 0) 38) = W0 at r0 rE hB ⊢
  go_upto_region 6 with (first | (refine wpL_loadE rfl _ rfl rfl rE.in ?_) | (go_at_call 52; refine (HW.out _ hB).mono ?_; rintro r w1 ⟨rfl, hb1⟩; clear HW))
  replace rE := rE.later hb1
  replace r0 := r0.later hb1
  replace hB := bgo hB hb1
  clear hb1
  have hlt := r0.lt
  have hB2 := bgo hB (below_one w1 (.cells (ecells [e]).toArray 66))
  have hHP := hid_of' (HP.out _ _ hB2 (sl_new w1 [e] 1 1 rfl))
  clear HP
  go_wp2_with (first | (refine wpL_loadE rfl _ rfl rfl rE.in ?_; unfold ev) | (go_at_call 53; (refine hHP.out.mono ?_); rintro r w2 ⟨v2, rfl, ho2, hb2⟩; have r9 := (r0.later (below_one w1 _)).later hb2) | (refine wpL_storeNo rfl _ _ rfl rfl rfl r9 ?_))
  have r8 := r9.put (nov 0 none 0 0 none 0 0)
  have hE8 : OwnE w.heap.size v2 (insE l ip e) (w2.setRow (w.heap.size + 1) (nov 0 none 0 0 none 0 0)) :=
    (ownE_kp2 ho2 (Kp.row _ _) (rowNot r9 ho2 (by decide))).base (by simp; omega)
  exact bodyPost_ret (v := .tuple #[v2, .agg (nov 0 none 0 0 none 0 0)]) (results_tNo (fn := Tryz.f27) (t := 6) (u := 7) rfl rfl r8 rfl) rfl ⟨_, rfl, hE8, below_row (bgo hB2 hb2) (Nat.le_succ _) _⟩
set_option maxHeartbeats 2000000 in
theorem refInsert_bad {w : World} {u : Value} {l : List El} (hl : SlE w u l) (ip : Nat) (e : El) (hip : ip ≤ l.length) (hn : l.length ≤ 1000000) (kk : Nat) (hw : wrK l e = some kk) :
    Calls Tryz.prog 27 #[u, .int .i64 (ip : Int), .agg (ev e)] w fun r w' => ∃ g g', r = .returned (.tuple #[u, .agg (nov ((kk : Int) + 1) (some ⟨g', 0, none⟩) 1 1 (some ⟨g, 0, none⟩) 1 1)]) ∧ Below w.heap.size w w' := by
  obtain ⟨a', c', rfl⟩ := hl.form
  have rE := row_new w (ev e) 66
  have bE := below_one w (.cells (ev e) 66)
  have r0 := row_new (w.alloc (.cells (ev e) 66)) (nov 0 none 0 0 none 0 0) 38
  have b0 := below_one (w.alloc (.cells (ev e) 66)) (.cells (nov 0 none 0 0 none 0 0) 38)
  rw [show (w.alloc (.cells (ev e) 66)).heap.size = w.heap.size + 1 by simp] at r0
  replace rE := rE.later b0
  have hB := bgo bE b0
  clear bE b0
  have HW : Hid (∀ x, Below w.heap.size w x → _) := fun x hx => wrong_any (hl.later hx) e hn
  rw [hw] at HW
  unfold codeK at HW
  have hnz : (((kk : Int) + 1) == 0) = false := by rw [beq_eq_false_iff_ne]; omega
  have HS := hid_of' (fun x => say_any bModel bInsert (ip : Int) ((kk : Int) + 1) x hnz)
  have e1 : ¬ (ip : Int) < 0 := by omega
  have e2 : ¬ (l.length : Int) < (ip : Int) := by omega
  have e3 : ¬ l.length < ip := by omega
  clear hl hw
  go_enter Tryz.func27, Tryz.ntmps27
  go_upto_region 1 with fail
  change Code.wp _ _ _ _ ((w.alloc (.cells (ev e) 66)).alloc (.cells (nov 0 none 0 0 none 0 0) 38))
  generalize (w.alloc (.cells (ev e) 66)).alloc (.cells (nov 0 none 0 0 none 0 0) 38) = W0 at r0 rE hB ⊢
  go_wp2_with (first | (refine wpL_loadE rfl _ rfl rfl rE.in ?_) | (go_at_call 52; refine (HW.out _ hB).mono ?_; rintro r w1 ⟨rfl, hb1⟩; clear HW) | (go_at_call 38; refine (HS.out _).mono ?_; rintro r w2 ⟨g2, g3, rfl, k1, k2, k3, k4, hb2⟩; clear HS; have r9 := r0.later (bgo hb1 hb2)) | (refine wpL_storeNo rfl _ _ rfl rfl rfl r9 ?_))
  have r8 := r9.put (nov ((kk : Int) + 1) (some ⟨g3, 0, none⟩) 1 1 (some ⟨g2, 0, none⟩) 1 1)
  exact bodyPost_ret (v := .tuple #[.slice a' l.length c', .agg (nov ((kk : Int) + 1) (some ⟨g3, 0, none⟩) 1 1 (some ⟨g2, 0, none⟩) 1 1)]) (results_tNo (fn := Tryz.f27) (t := 6) (u := 7) rfl rfl r8 rfl) rfl ⟨g2, g3, rfl, below_row (bgo hB (bgo hb1 hb2)) (Nat.le_succ _) _⟩
theorem FineTo.snoc {xs : List El} {e : El} (h : FineTo xs xs.length) (hw : wrK xs e = none) : FineTo (xs ++ [e]) (xs ++ [e]).length := fun i x hi hx => by
  by_cases q : i < xs.length
  · rw [List.getElem?_append_left q] at hx
    rw [List.take_append_of_le_length (by omega)]
    exact h i x q hx
  · have : i = xs.length := by simp at hi; omega
    subst this
    rw [List.getElem?_append_right (Nat.le_refl _), Nat.sub_self] at hx
    cases hx
    rw [List.take_left']
    · exact hw
    · rfl
/-- One more element of those that begun takes. -/
def bgS (xs : List El) (e : El) : List El := if xs.length < 80 ∧ wrK xs e = none then xs ++ [e] else xs
/-- The elements that begun takes. -/
def bgL (l : List El) : List El := l.foldl bgS []
theorem bgL_next {l : List El} {k : Nat} {e : El} (h : l[k]? = some e) : bgL (l.take (k + 1)) = bgS (bgL (l.take k)) e := by
  unfold bgL
  rw [List.take_add_one, h, List.foldl_append]
  rfl
theorem bgS_full : ∀ {l xs : List El}, ¬ xs.length < 80 → l.foldl bgS xs = xs
  | [], _, _ => rfl
  | e :: l, xs, h => by
    rw [List.foldl_cons, show bgS xs e = xs by unfold bgS; rw [if_neg (fun q => h q.1)]]
    exact bgS_full h
theorem bgL_full {l : List El} {k : Nat} (h : ¬ (bgL (l.take k)).length < 80) : bgL l = bgL (l.take k) := by
  have : bgL l = (l.drop k).foldl bgS (bgL (l.take k)) := by
    unfold bgL
    rw [← List.foldl_append, List.take_append_drop]
  rw [this, bgS_full h]
/-- What begun leaves: some elements that are right, a list of them, and a Model of them. -/
structure Bgn (B mb : Nat) (v : Value) (xs : List El) (w : World) : Prop where
  md : ∃ tb kb n R f, MdAt mb tb kb n R xs f w ∧ Rks f xs (4611686018427387904 / (xs.length : Int) / 2) ∧ n = xs.length ∧ (∀ x, x < B → R.no x) ∧ B ≤ tb ∧ B ≤ kb ∧ B ≤ mb
  own : ∃ base, OwnE base v xs w ∧ base ≤ B ∧ ∀ k, v.ownBlock = some k → k < B
  fine : FineTo xs xs.length
  ins : ∀ e ∈ xs, e.id.In
  len : xs.length ≤ 80
set_option maxHeartbeats 4000000 in
theorem begun13 {w : World} {u : Value} {l : List El} (hu : SlE w u l) (hlm : l.length ≤ 9223372036854775807) (hin : ∀ e ∈ l, e.id.In) :
    Calls Tryz.prog 8 #[u] w fun r w' => ∃ B mb v xs, w.heap.size ≤ B ∧ r = .returned (.tuple #[pv mb, v]) ∧ Bgn B mb v xs w' ∧ xs = bgL l ∧ Below w.heap.size w w' := by
  obtain ⟨a', c', rfl⟩ := hu.form
  have HIn := hid_of' hin
  clear hin
  go_enter Tryz.func8, Tryz.ntmps8
  go_wp2
  go_loopw [4, 5] (fun ov iv wr => ∃ (k : Nat) (xs : List El), iv = .int .i64 (k : Int) ∧ k ≤ l.length ∧ xs.length ≤ 80 ∧ OwnE w.heap.size ov xs wr ∧ FineTo xs xs.length ∧ (∀ e ∈ xs, e ∈ l) ∧ xs = bgL (l.take k) ∧ Below w.heap.size w wr) (fun _ iv _ => l.length - (intOf iv).toNat)
  case atStart => exact ⟨0, [], rfl, Nat.zero_le _, by simp, ⟨rfl, .inl ⟨rfl, rfl⟩⟩, (fun i x hi => absurd hi (by simp)), (fun e he => absurd he (by simp)), rfl, Below.refl _ _⟩
  case round =>
    obtain ⟨k, xs, rfl, hk, hx80, hE, hF, hsub, hXS, hB⟩ := hrel
    replace hXS := hid_of' hXS
    replace hF := hid_of' hF
    replace hsub := hid_of' hsub
    obtain ⟨a4, c4, rfl⟩ := hE.form
    by_cases hlt : k < l.length ∧ xs.length < 80
    · obtain ⟨hlt, h80⟩ := hlt
      have hki : (k : Int) < (l.length : Int) := by omega
      have h80i : (xs.length : Int) < 80 := by omega
      have ew : wrap64 ((k : Int) + 1) = (k : Int) + 1 := wrapIs (by omega) (by omega)
      obtain ⟨e, he⟩ : ∃ e, l[k]? = some e := ⟨_, List.getElem?_eq_getElem (by omega)⟩
      have hmem : Hid (e ∈ l) := List.mem_of_getElem? he
      have HNX : Hid (bgL (l.take (k + 1)) = bgS (bgL (l.take k)) e) := bgL_next he
      rcases hu.later hB with ⟨h0, _⟩ | ⟨g, o_, c, hvv, hc⟩
      · exfalso; subst h0; simp at he
      simp only [Value.slice.injEq] at hvv
      obtain ⟨rfl, _, rfl⟩ := hvv
      have hce := hc k e he
      have HE := hid_of' hE
      cases hwk : wrK xs e with
      | some kk =>
        have HI := hid_of' (refInsert_bad hE.sl 0 e (Nat.zero_le _) (by omega) kk hwk)
        rw [show ((0 : Nat) : Int) = 0 from rfl] at HI
        have hnz : (((kk : Int) + 1) == 0) = false := by rw [beq_eq_false_iff_ne]; omega
        have HKK := hid_of' hwk
        clear hc he hE hwk
        go_upto_region 6 with (first | (refine wpL_loadE rfl _ rfl rfl hce ?_) | (go_at_call 27; refine HI.out.mono ?_; rintro r w1 ⟨g2, g3, rfl, hb1⟩; clear HI) | (refine wpL_storeNo rfl _ _ rfl rfl rfl (row_new w1 _ _) ?_))
        have r8 := (row_new w1 (nov 0 none 0 0 none 0 0) 38).put (nov ((kk : Int) + 1) (some ⟨g3, 0, none⟩) 1 1 (some ⟨g2, 0, none⟩) 1 1)
        have k5 : Below w1.heap.size w1 ((w1.alloc (.cells (nov 0 none 0 0 none 0 0) 38)).setRow w1.heap.size (nov ((kk : Int) + 1) (some ⟨g3, 0, none⟩) 1 1 (some ⟨g2, 0, none⟩) 1 1)) := below_row (below_one w1 _) (Nat.le_refl _) _
        change Code.wp _ _ _ _ ((w1.alloc (.cells (nov 0 none 0 0 none 0 0) 38)).setRow w1.heap.size (nov ((kk : Int) + 1) (some ⟨g3, 0, none⟩) 1 1 (some ⟨g2, 0, none⟩) 1 1))
        generalize (w1.alloc (.cells (nov 0 none 0 0 none 0 0) 38)).setRow w1.heap.size (nov ((kk : Int) + 1) (some ⟨g3, 0, none⟩) 1 1 (some ⟨g2, 0, none⟩) 1 1) = w5 at r8 k5 ⊢
        have c8 : w5.cell? ⟨w1.heap.size, 0, none⟩ = some (.int .i64 ((kk : Int) + 1)) := r8.cell 0
        go_wp2
        go_roundw
        case rel => exact ⟨k + 1, xs, by go_num, by omega, hx80, HE.out.later (bgo hb1 k5), hF.out, hsub.out, by rw [HNX.out, ← hXS.out]; unfold bgS; rw [if_neg (fun q => by rw [HKK.out] at q; cases q.2)], bgo hB (bgo hb1 k5)⟩
        case measure => simp [intOf]; omega
      | none =>
        have HI := hid_of' (refInsert_ok (R := R00) (PlAt.of_own hE (Nat.zero_le _)) 0 e (Nat.zero_le _) (by omega) hwk)
        rw [show ((0 : Nat) : Int) = 0 from rfl] at HI
        have HK := hid_of' hwk
        have HL : Hid (xs.length + [e].length ≤ 1099511627776) := by show _ ≤ _; simp; omega
        clear hc he hE hwk
        go_upto_region 6 with (first | (refine wpL_loadE rfl _ rfl rfl hce ?_) | (go_at_call 27; refine HI.out.mono ?_; rintro r w1 ⟨v1, rfl, ho1, hb1⟩; clear HI) | (refine wpL_storeNo rfl _ _ rfl rfl rfl (row_new w1 _ _) ?_))
        have r8 := (row_new w1 (nov 0 none 0 0 none 0 0) 38).put (nov 0 none 0 0 none 0 0)
        have k5 : Below w1.heap.size w1 ((w1.alloc (.cells (nov 0 none 0 0 none 0 0) 38)).setRow w1.heap.size (nov 0 none 0 0 none 0 0)) := below_row (below_one w1 _) (Nat.le_refl _) _
        change Code.wp _ _ _ _ ((w1.alloc (.cells (nov 0 none 0 0 none 0 0) 38)).setRow w1.heap.size (nov 0 none 0 0 none 0 0))
        generalize (w1.alloc (.cells (nov 0 none 0 0 none 0 0) 38)).setRow w1.heap.size (nov 0 none 0 0 none 0 0) = w5 at r8 k5 ⊢
        have c8 : w5.cell? ⟨w1.heap.size, 0, none⟩ = some (.int .i64 0) := r8.cell 0
        have hE5 := hid_of' (HE.out.later (bgo hb1 k5))
        have hB5 := bgo hB (bgo hb1 k5)
        replace hce := hce.later (bgo hb1 k5)
        have hsz := hB5.size
        clear HE hB r8 k5 hb1 ho1
        go_wp2_with (first | (refine wpL_loadE rfl _ rfl rfl hce ?_; unfold ev) | (at_builtin; refine wpL_appE rfl _ _ rfl rfl rfl (hE5.out.later (below_one w5 _)) (sl_new w5 [e] 1 1 rfl) HL.out (by rw [World.size_alloc]; omega) ?_; intro v2 wz ho3 hg3))
        have hBz := (hB5.alloc hsz (.cells (ecells [e]).toArray 66)).grown hg3 (by rw [World.size_alloc]; omega) (fun j hj => (hE5.out.lt j hj).1)
        go_roundw
        case rel => exact ⟨k + 1, xs ++ [e], by go_num, by omega, by simp; omega, ho3, hF.out.snoc HK.out, (fun x hx => by rcases List.mem_append.1 hx with q | q; exact hsub.out x q; rw [List.mem_singleton.1 q]; exact hmem.out), by rw [HNX.out, ← hXS.out]; unfold bgS; rw [if_pos ⟨h80, HK.out⟩], hBz⟩
        case measure => simp [intOf]; omega
    · have hin : ∀ e ∈ xs, e.id.In := fun e he => HIn.out e (hsub.out e he)
      have hin' : ∀ (i : Nat) (e : El), xs[i]? = some e → e.id.In := fun i e he => hin e (List.mem_of_getElem? he)
      have hap : Apart xs := fun i j x y hij hx hy => hF.out.apart i j x y hij (List.getElem?_eq_some_iff.1 hy).1 hx hy
      have HO := hid_of' (of_okX hE.sl (by omega) (fun i e he => hF.out.good hin' i e (List.getElem?_eq_some_iff.1 he).1 he) hap)
      have HR := hid_of' (Rks.of hap)
      replace hin := hid_of' hin
      have HE := hid_of' hE
      clear hap hin' hE
      unfold pv at HO
      by_cases hlt2 : k < l.length
      · have hki : (k : Int) < (l.length : Int) := by omega
        have h80 : ¬ xs.length < 80 := by omega
        have h80i : ¬ (xs.length : Int) < 80 := by omega
        clear hlt
        go_wp2_with (go_at_call 34; refine HO.out.mono ?_; rintro r w1 ⟨mb, tb, kb, n, R, hnl, hno, rfl, q1, q2, q3, hMd, hb1⟩; clear HO)
        go_ret2
        exact ⟨wr.heap.size, mb, _, xs, hB.size, rfl, ⟨⟨tb, kb, n, R, _, hMd, HR.out, hnl, hno, by omega, by omega, by omega⟩, ⟨w.heap.size, HE.out.later hb1, hB.size, fun k hk => (HE.out.lt k hk).2⟩, hF.out, hin.out, hx80⟩, by rw [bgL_full (k := k) (by rw [← hXS.out]; exact h80)]; exact hXS.out, bgo hB hb1⟩
      · have hki : ¬ (k : Int) < (l.length : Int) := by omega
        clear hlt
        go_wp2_with (go_at_call 34; refine HO.out.mono ?_; rintro r w1 ⟨mb, tb, kb, n, R, hnl, hno, rfl, q1, q2, q3, hMd, hb1⟩; clear HO)
        go_ret2
        exact ⟨wr.heap.size, mb, _, xs, hB.size, rfl, ⟨⟨tb, kb, n, R, _, hMd, HR.out, hnl, hno, by omega, by omega, by omega⟩, ⟨w.heap.size, HE.out.later hb1, hB.size, fun k hk => (HE.out.lt k hk).2⟩, hF.out, hin.out, hx80⟩, by rw [hXS.out, List.take_of_length_le (by omega)], bgo hB hb1⟩
theorem Bgn.apart {B mb : Nat} {v : Value} {xs : List El} {w : World} (h : Bgn B mb v xs w) : Apart xs := fun i j x y hij hx hy => h.fine.apart i j x y hij (List.getElem?_eq_some_iff.1 hy).1 hx hy
theorem Bgn.good {B mb : Nat} {v : Value} {xs : List El} {w : World} (h : Bgn B mb v xs w) (i : Nat) (e : El) (he : xs[i]? = some e) : e.Good := h.fine.good (fun _ e he => h.ins e (List.mem_of_getElem? he)) i e (List.getElem?_eq_some_iff.1 he).1 he
theorem gap80 {n : Nat} (h : n ≤ 80) : n = 0 ∨ 18014398509481984 ≤ 4611686018427387904 / (n : Int) / 2 := by
  by_cases h0 : n = 0
  · exact .inl h0
  · refine .inr ?_
    have a2 : (80 : Int) * 57646075230342348 ≤ 4611686018427387904 := by decide
    have : 57646075230342348 ≤ 4611686018427387904 / (n : Int) := by
      refine (Int.le_ediv_iff_mul_le (by omega)).2 ?_
      have : (57646075230342348 : Int) * (n : Int) ≤ 57646075230342348 * 80 := Int.mul_le_mul_of_nonneg_left (by omega) (by decide)
      omega
    omega
theorem Rks.nil {f : Idn → Option Int} {g : Int} (h : Rks f [] g) : Rks f [] 4611686018427387905 := ⟨h.has, fun i hi => by
  have : i = 0 := by simpa using hi
  subst this
  rw [rkA_0, rkB_e (by simp)]
  decide, h.only⟩
theorem Bgn.wide {B mb : Nat} {v : Value} {xs : List El} {w : World} (h : Bgn B mb v xs w) : ∃ tb kb n R f, MdAt mb tb kb n R xs f w ∧ Rks f xs 18014398509481984 ∧ n = xs.length ∧ (∀ x, x < B → R.no x) ∧ B ≤ tb ∧ B ≤ kb ∧ B ≤ mb := by
  obtain ⟨tb, kb, n, R, f, h1, h2, h3⟩ := h.md
  refine ⟨tb, kb, n, R, f, h1, ?_, h3⟩
  rcases gap80 h.len with q | q
  · have := List.eq_nil_of_length_eq_zero q
    subst this
    exact h2.nil.weak (by decide)
  · exact h2.weak q
theorem Bgn.mrk {B mb : Nat} {v : Value} {xs : List El} {w : World} (h : Bgn B mb v xs w) : Mrk mb xs w := by
  obtain ⟨tb, kb, n, R, f, h1, h2, _⟩ := h.wide
  exact ⟨⟨tb, kb, n, R, f, h1, h2.weak (by decide)⟩, fun j e he => h.ins e (List.mem_of_getElem? he), by have := h.len; omega⟩
theorem Bgn.later {B mb : Nat} {v : Value} {xs : List El} {w w' : World} (h : Bgn B mb v xs w) (hb : Below w.heap.size w w') : Bgn B mb v xs w' := by
  obtain ⟨tb, kb, n, R, f, h1, h2⟩ := h.md
  obtain ⟨base, h3, h4⟩ := h.own
  exact ⟨⟨tb, kb, n, R, f, h1.later hb, h2⟩, ⟨base, h3.later hb, h4⟩, h.fine, h.ins, h.len⟩
end Go.Proofs.YtjopeojnlibagaaGreatDoor
namespace Go.Proofs.YtjopeojnlibagaaGreatDoor
open Go.RowKit Go.Extern.Stop Go.Stop Go.Extern
set_option maxRecDepth 100000

def wk13 : List El := [⟨0, 0, 1, 97, 0⟩, ⟨0, 0, 2, 98, 0⟩]
def wk3 : El := ⟨0, 0, 3, 120, 0⟩
theorem wk13_bg : bgL wk13 = wk13 := by kernel_rfl
theorem idn3 {n : Int} (h : In64 n) : (⟨0, 0, n⟩ : Idn).In := ⟨⟨by show (-9223372036854775808 : Int) ≤ 0; decide, by show (0 : Int) ≤ 9223372036854775807; decide⟩, ⟨by show (-9223372036854775808 : Int) ≤ 0; decide, by show (0 : Int) ≤ 9223372036854775807; decide⟩, h⟩
theorem wk3_in : wk3.id.In := idn3 (n := 3) ⟨by decide, by decide⟩
theorem wk13_in : ∀ e ∈ wk13, e.id.In := by
  intro e he
  unfold wk13 at he
  simp only [List.mem_cons, List.not_mem_nil, or_false] at he
  rcases he with rfl | rfl <;> simp [El.id, Idn.In, In64]
theorem wk13_at : AnOf wk13 1 false 0 0 1 := .inr ⟨by decide, ⟨0, 0, 1, 97, 0⟩, rfl, by decide, by decide, rfl, rfl, rfl, rfl⟩
theorem wk13_wh : WhOf (insE wk13 0 wk3) false 0 0 1 2 true := .inr (.inr ⟨rfl, rfl, 1, ⟨0, 0, 1, 97, 0⟩, rfl, rfl, by decide⟩)
set_option maxHeartbeats 4000000 in
theorem wakes13 {ad : Nat → Addr} {w : World} (L : Laid ad w) : Calls Tryz.prog 18 #[] w fun r w' => r = .returned (.bool true) ∧ Below w.heap.size w w' := by
  have hs := sl_new w wk13 2 2 rfl
  have hb0 := below_one w (.cells (ecells wk13).toArray 66)
  have HB := hid_of' (begun13 hs (by decide) wk13_in)
  have HL := hid_of' L
  rw [wk13_bg] at HB
  clear hs L
  unfold pv at HB
  go_enter Tryz.func18, Tryz.ntmps18
  go_upto_region 2 with (go_at_call 8; refine HB.out.mono ?_; rintro r w1 ⟨B, mb, v, xs, hBs, rfl, hbg, hxs, hb1⟩; clear HB)
  subst hxs
  have hB1 := bgo hb0 hb1
  have hBw : w.heap.size ≤ B := Nat.le_trans hb0.size hBs
  clear hb0 hb1 hBs
  have HA := hid_of' (anchorAt_ok hbg.mrk.mv 1 (by decide) (by decide) (by decide) wk13_at)
  unfold pv at HA
  go_upto_region 5 with (first | (go_at_call 9; refine HA.out.mono ?_; rintro r w2 ⟨rfl, hb2⟩; clear HA) | (refine wpL_storeA rfl _ _ rfl rfl rfl (row_new w2 _ _) ?_))
  have r3 := (row_new w2 #[.bool false, .int .i64 0, .int .i64 0, .int .i64 0] 31).put (anc false 0 0 1)
  have hB5 : Below w2.heap.size w2 ((w2.alloc (.cells #[.bool false, .int .i64 0, .int .i64 0, .int .i64 0] 31)).setRow w2.heap.size (anc false 0 0 1)) := below_row (below_one w2 _) (Nat.le_refl _) _
  generalize (w2.alloc (.cells #[.bool false, .int .i64 0, .int .i64 0, .int .i64 0] 31)).setRow w2.heap.size (anc false 0 0 1) = W5 at r3 hB5 ⊢
  obtain ⟨tb, kb, n, R, f, hMd, hK, hnl, hno, ht, hk, hm⟩ := hbg.wide
  have hkl := hMd.map.lt
  have htl : tb < w1.heap.size := by obtain ⟨ls, v, ht, _⟩ := hMd.tree; exact ht.lt
  have hs2 := hb2.size
  have hMd5 := hMd.later (bgo hb2 hB5)
  have hB5w := bgo hB1 (bgo hb2 hB5)
  have hfn : (f wk3.id).isSome = false := by
    cases hq : (f wk3.id).isSome with
    | false => rfl
    | true => exact absurd (hK.only _ hq) (by decide)
  have hin := fun (j : Nat) (e : El) (he : wk13[j]? = some e) => hbg.ins e (List.mem_of_getElem? he)
  have HI := hid_of' (insert_rk hMd5 hK (by decide) 0 wk3 (by decide) ⟨wk3_in, by decide, by decide⟩ hin hfn (by decide) (by rw [hnl]; decide))
  have ne1 : ¬ w2.heap.size = tb := by omega
  have ne2 : ¬ w2.heap.size = kb := by omega
  rw [show ((0 : Nat) : Int) = 0 from rfl] at HI
  generalize w2.heap.size = g3 at *
  have hge1 : w.heap.size ≤ tb := by omega
  have hge2 : w.heap.size ≤ kb := by omega
  clear hMd hMd5 hK hnl hno hfn hbg hs2 hkl htl ht hk hm hb2 hB5 hB1 hBw
  unfold pv ev wk3 at HI
  go_upto_region 7 with (go_at_call 28; (refine HI.out.mono ?_); rintro r w6 ⟨n6, f6, rfl, hn6, hMd6, hK6, hk2⟩; clear HI)
  have hB6 := K2.below hB5w hk2 hge1 hge2 hB5w.size
  have r6 := r3.k2 hk2 ne1 ne2
  have hM6 : Mrk mb (insE wk13 0 wk3) w6 := ⟨⟨tb, kb, n6, R, f6, hMd6, hK6.weak (by decide)⟩, fun j e he => by
    rcases mem_ins (List.mem_of_getElem? he) with q | q
    · subst q; exact wk3_in
    · exact wk13_in e q, by decide⟩
  have HW := hid_of' (where_any (HL.out.below hB6) hM6 (a := 0) (b := 0) (c := 1) (idn3 ⟨by decide, by decide⟩) wk13_wh)
  have HN : Hid (∀ x, Below w.heap.size w x → _) := fun x hx => anchorAt_nil 4 (HL.out.below hx)
  have HO := hid_of' (where_nil false 0 0 1)
  have HS := hid_of' (fun x => say_any bAnchor bAt 4 1 x (by decide))
  rw [show place 4 = 4 from rfl] at HN HS
  have HR : Hid (∀ (x : World) (b g g' : Nat), Below w.heap.size w x → FaultAt ad b bAnchor bAt 4 0 x → CsIn g' 0 #[.string bAnchor, .string bAt, .int .i64 4] x → CsIn g 0 #[.int .i64 1] x → _) := fun x b g g' hx h1 h2 h3 => refused_some (HL.out.below hx) h1 (by decide) h2 h3
  rw [show (((0 : Nat) : Int) + 1) = 1 from rfl] at HR
  clear hMd6 hK6 hk2 hM6 hB5w r3
  unfold pv at HW
  go_upto_region 8 with (first | (refine wpL_loadA rfl _ rfl rfl r6.in ?_) | (go_at_call 12; (refine HW.out.mono ?_); rintro r w7 ⟨rfl, hb7⟩; clear HW))
  have hB7 := bgo hB6 hb7
  replace r6 := r6.later hb7
  go_upto_region 9 with (first | (go_at_call 9; refine (HN.out _ hB7).mono ?_; rintro r w8 ⟨g8, rfl, hf8, hb8⟩; clear HN) | (refine wpL_storeA rfl _ _ rfl rfl rfl (row_new w8 _ _) ?_))
  have hB9 : Below w8.heap.size w8 ((w8.alloc (.cells #[.bool false, .int .i64 0, .int .i64 0, .int .i64 0] 31)).setRow w8.heap.size (anc false 0 0 0)) := below_row (below_one w8 _) (Nat.le_refl _) _
  generalize (w8.alloc (.cells #[.bool false, .int .i64 0, .int .i64 0, .int .i64 0] 31)).setRow w8.heap.size (anc false 0 0 0) = W9 at hB9 ⊢
  have hf9 : FaultAt ad g8 bAnchor bAt 4 0 W9 := RowAt.later hf8 hB9
  replace r6 := r6.later (bgo hb8 hB9)
  have hB9w := bgo hB7 (bgo hb8 hB9)
  clear hB9 hb8 hf8
  go_upto_region 10 with (first | (refine wpL_loadA rfl _ rfl rfl r6.in ?_) | (go_at_call 12; (refine (HO.out _).mono ?_); rintro r w10 ⟨rfl, hb10⟩; clear HO))
  have hf10 : FaultAt ad g8 bAnchor bAt 4 0 w10 := RowAt.later hf9 hb10
  have hB10 := bgo hB9w hb10
  unfold fvA
  go_wp2_with (first | (go_at_call 38; refine (HS.out _).mono ?_; rintro r w11 ⟨g2, g3, rfl, k1, k2, k3, k4, hb11⟩; clear HS; have hR := HR.out _ _ _ _ (bgo hB10 hb11) (RowAt.later hf10 hb11) k3 k4) | (go_at_call 11; refine hR.mono ?_; rintro r w12 ⟨rfl, hb12⟩))
  go_ret
  exact ⟨rfl, bgo hB10 (bgo hb11 hb12)⟩
end Go.Proofs.YtjopeojnlibagaaGreatDoor
namespace Go.Proofs.YtjopeojnlibagaaGreatDoor
open Go.RowKit
set_option maxRecDepth 100000

set_option maxHeartbeats 1000000 in
theorem live_any (e : El) (w : World) : Calls Tryz.prog 29 #[.agg (ev e)] w fun r w' => r = .returned (.bool (decide (e.hd ≤ 0))) ∧ Below w.heap.size w w' := by
  unfold ev
  go_enter Tryz.func29, Tryz.ntmps29
  go_wp2
  go_ret
  exact ⟨rfl, below_one _ _⟩
set_option maxHeartbeats 1000000 in
theorem refWeigh_any (e : El) (w : World) : Calls Tryz.prog 31 #[.agg (ev e)] w fun r w' => r = .returned (wv (wLive e) (wLine e)) ∧ Below w.heap.size w w' := by
  have HL := hid_of' (live_any e)
  have hr2 := row_new2 w (.cells (ev e) 66) #[.int .i64 0, .int .i64 0] 60
  have hr1 := (row_new w (ev e) 66).later (below_one _ (.cells #[.int .i64 0, .int .i64 0] 60))
  have hB := below_two w (.cells (ev e) 66) (.cells #[.int .i64 0, .int .i64 0] 60)
  unfold wLive wLine
  by_cases h : e.hd > 0
  · rw [if_pos h, if_pos h]
    have hd : decide (e.hd ≤ 0) = false := decide_eq_false (by omega)
    rw [hd] at HL
    go_enter Tryz.func31, Tryz.ntmps31
    go_wp2_with (first | (refine wpL_loadE rfl _ rfl rfl hr1.in ?_) | (go_at_call 29; refine (HL.out _).mono ?_; rintro r w1 ⟨rfl, hb1⟩) | (refine wpL_storeW rfl _ _ rfl rfl rfl (hr2.later hb1) ?_))
    exact bodyPost_ret (v := wv 0 0) (results_w (fn := Tryz.f31) (p := 2) rfl rfl ((hr2.later hb1).put _)) rfl ⟨rfl, below_row (bgo hB hb1) (by omega) _⟩
  · rw [if_neg h, if_neg h]
    have hd : decide (e.hd ≤ 0) = true := decide_eq_true (by omega)
    rw [hd] at HL
    by_cases h2 : e.ch = 10
    · rw [if_pos h2]
      have h3 : (e.ch == 10) = true := by rw [beq_iff_eq]; exact h2
      go_enter Tryz.func31, Tryz.ntmps31
      go_wp2_with (first | (refine wpL_loadE rfl _ rfl rfl hr1.in ?_) | (go_at_call 29; refine (HL.out _).mono ?_; rintro r w1 ⟨rfl, hb1⟩; have c3 : w1.cell? ⟨w.heap.size, 3, none⟩ = some (.int .i32 e.ch) := (hr1.later hb1).cell 3) | (refine wpL_storeW rfl _ _ rfl rfl rfl (hr2.later hb1) ?_))
      exact bodyPost_ret (v := wv 1 1) (results_w (fn := Tryz.f31) (p := 2) rfl rfl ((hr2.later hb1).put _)) rfl ⟨rfl, below_row (bgo hB hb1) (by omega) _⟩
    · rw [if_neg h2]
      have h3 : (e.ch == 10) = false := by rw [beq_eq_false_iff_ne]; exact h2
      go_enter Tryz.func31, Tryz.ntmps31
      go_wp2_with (first | (refine wpL_loadE rfl _ rfl rfl hr1.in ?_) | (go_at_call 29; refine (HL.out _).mono ?_; rintro r w1 ⟨rfl, hb1⟩; have c3 : w1.cell? ⟨w.heap.size, 3, none⟩ = some (.int .i32 e.ch) := (hr1.later hb1).cell 3) | (refine wpL_storeW rfl _ _ rfl rfl rfl (hr2.later hb1) ?_))
      exact bodyPost_ret (v := wv 1 0) (results_w (fn := Tryz.f31) (p := 2) rfl rfl ((hr2.later hb1).put _)) rfl ⟨rfl, below_row (bgo hB hb1) (by omega) _⟩
end Go.Proofs.YtjopeojnlibagaaGreatDoor
namespace Go.Proofs.YtjopeojnlibagaaGreatDoor
open Go.RowKit Go.Extern.Stop Go.Stop Go.Extern
set_option maxRecDepth 100000

set_option maxHeartbeats 2000000 in
theorem refSum_any {w : World} {u : Value} {l : List El} (hu : SlE w u l) (hn : l.length ≤ 1000000) :
    Calls Tryz.prog 24 #[u] w fun r w' => r = .returned (wv (liveL l) (lineL l)) ∧ Below w.heap.size w w' := by
  obtain ⟨a', c', rfl⟩ := hu.form
  have r2 := (row_new w #[.int .i64 0, .int .i64 0] 60).later (below_one _ (.cells #[.int .i64 0, .int .i64 0] 60))
  have r3 := row_new2 w (.cells #[.int .i64 0, .int .i64 0] 60) #[.int .i64 0, .int .i64 0] 60
  have hB0 := below_two w (.cells #[.int .i64 0, .int .i64 0] 60) (.cells #[.int .i64 0, .int .i64 0] 60)
  go_enter Tryz.func24, Tryz.ntmps24
  go_upto_region 2 with fail
  generalize (w.alloc (.cells #[.int .i64 0, .int .i64 0] 60)).alloc (.cells #[.int .i64 0, .int .i64 0] 60) = W0 at r2 r3 hB0 ⊢
  go_wp2
  go_loopw [4] (fun iv wr => ∃ k : Nat, iv = .int .i64 (k : Int) ∧ k ≤ l.length ∧ RowAt w.heap.size #[.int .i64 0, .int .i64 0] 60 wr ∧ RowAt (w.heap.size + 1) #[.int .i64 (liveL (l.take k)), .int .i64 (lineL (l.take k))] 60 wr ∧ Below w.heap.size w wr) (fun iv _ => l.length - (intOf iv).toNat)
  case atStart => exact ⟨0, rfl, Nat.zero_le _, r2, r3, hB0⟩
  case round =>
    clear r2 r3 hB0
    obtain ⟨k, rfl, hk, r2, r3, hB⟩ := hrel
    by_cases hlt : k < l.length
    · have hki : (k : Int) < (l.length : Int) := by omega
      obtain ⟨e, he⟩ : ∃ e, l[k]? = some e := ⟨_, List.getElem?_eq_getElem (by omega)⟩
      have ht : l.take (k + 1) = l.take k ++ [e] := by rw [List.take_add_one, he]; rfl
      have t1 : liveL (l.take (k + 1)) = liveL (l.take k) + wLive e := by rw [ht, liveL_app]; simp [liveL]
      have t2 : lineL (l.take (k + 1)) = lineL (l.take k) + wLine e := by rw [ht, lineL_app]; simp [lineL]
      have b1 := liveL_b (l.take k)
      have b2 := lineL_b (l.take k)
      have b3 := wLive_b e
      have b4 := wLine_b e
      have hkl : (l.take k).length ≤ 1000000 := by rw [List.length_take]; omega
      have x1 : wrap64 (liveL (l.take k) + wLive e) = liveL (l.take k) + wLive e := wrapIs (by omega) (by omega)
      have x2 : wrap64 (lineL (l.take k) + wLine e) = lineL (l.take k) + wLine e := wrapIs (by omega) (by omega)
      rcases hu.later hB with ⟨h0, _⟩ | ⟨g, o_, c, hvv, hc⟩
      · exfalso; subst h0; simp at he
      simp only [Value.slice.injEq] at hvv
      obtain ⟨rfl, _, rfl⟩ := hvv
      have hce := hc k e he
      have HW := hid_of' (refWeigh_any e)
      replace t1 := hid_of' t1
      replace t2 := hid_of' t2
      clear hc he ht b1 b2 b3 b4 hkl
      generalize liveL (l.take k) = p at *
      generalize lineL (l.take k) = q at *
      generalize wLive e = x at *
      generalize wLine e = y at *
      unfold wv at HW
      go_upto_region 6 with (first | (refine wpL_loadE rfl _ rfl rfl hce ?_) | (go_at_call 31; refine (HW.out _).mono ?_; rintro r w1 ⟨rfl, hb1⟩; clear HW) | (refine wpL_storeW rfl _ _ rfl rfl rfl (row_new w1 _ _) ?_))
      have r5 := (row_new w1 #[.int .i64 0, .int .i64 0] 60).put #[.int .i64 x, .int .i64 y]
      have hB5 : Below w1.heap.size w1 ((w1.alloc (.cells #[.int .i64 0, .int .i64 0] 60)).setRow w1.heap.size #[.int .i64 x, .int .i64 y]) := below_row (below_one w1 _) (Nat.le_refl _) _
      generalize (w1.alloc (.cells #[.int .i64 0, .int .i64 0] 60)).setRow w1.heap.size #[.int .i64 x, .int .i64 y] = W5 at r5 hB5 ⊢
      replace r2 := r2.later (bgo hb1 hB5)
      have hr3 := r3.lt
      replace r3 := r3.later (bgo hb1 hB5)
      replace hB := bgo hB (bgo hb1 hB5)
      have hs1 := hb1.size
      have ne1 : ¬ w1.heap.size = w.heap.size + 1 := by omega
      generalize w1.heap.size = g5 at *
      clear hb1 hB5 hce
      have c1 : W5.cell? ⟨w.heap.size + 1, 0, none⟩ = some (.int .i64 p) := r3.cell 0
      have c2 : W5.cell? ⟨g5, 0, none⟩ = some (.int .i64 x) := r5.cell 0
      have f1 : W5.frozen? ⟨w.heap.size + 1, 0, none⟩ = false := Lib.frozen_of_heap r3 0
      go_upto_region 7 with fail
      have k6 : Kp (w.heap.size + 1) W5 (W5.setCell ⟨w.heap.size + 1, 0, none⟩ (.int .i64 (p + x))) := Kp.cell _ 0 _
      have h6 : RowAt (w.heap.size + 1) #[.int .i64 (p + x), .int .i64 q] 60 (W5.setCell ⟨w.heap.size + 1, 0, none⟩ (.int .i64 (p + x))) := heap_setCell_at r3 0 _
      generalize W5.setCell ⟨w.heap.size + 1, 0, none⟩ (.int .i64 (p + x)) = W6 at k6 h6 ⊢
      have d1 : W6.cell? ⟨w.heap.size + 1, 1, none⟩ = some (.int .i64 q) := h6.cell 1
      have d2 : W6.cell? ⟨g5, 1, none⟩ = some (.int .i64 y) := (r5.kp k6 ne1).cell 1
      have f2 : W6.frozen? ⟨w.heap.size + 1, 1, none⟩ = false := Lib.frozen_of_heap h6 1
      clear c1 c2 f1
      go_upto_region 4 with fail
      have k7 : Kp (w.heap.size + 1) W6 (W6.setCell ⟨w.heap.size + 1, 1, none⟩ (.int .i64 (q + y))) := Kp.cell _ 1 _
      have h7 : RowAt (w.heap.size + 1) #[.int .i64 (p + x), .int .i64 (q + y)] 60 (W6.setCell ⟨w.heap.size + 1, 1, none⟩ (.int .i64 (q + y))) := heap_setCell_at h6 1 _
      generalize W6.setCell ⟨w.heap.size + 1, 1, none⟩ (.int .i64 (q + y)) = W7 at k7 h7 ⊢
      go_wp2
      go_roundw
      case rel => exact ⟨k + 1, by go_num, by omega, r2.kp (k6.trans k7) (by omega), by rw [t1.out, t2.out]; exact h7, (k6.trans k7).new hB (Nat.le_succ _)⟩
      case measure => simp [intOf]; omega
    · obtain rfl : k = l.length := by omega
      rw [List.take_length] at r3
      go_wp2_with (first | (refine wpL_loadW rfl _ rfl rfl r3.in ?_) | (refine wpL_storeW rfl _ _ rfl rfl rfl r2 ?_))
      exact bodyPost_ret (v := wv (liveL l) (lineL l)) (results_w (fn := Tryz.f24) (p := 2) rfl rfl (r2.put _)) rfl ⟨rfl, below_row hB (Nat.le_refl _) _⟩
/-- Where of the anchor of a gap is the gap. -/
theorem anOf_wh {l : List El} {p : Int} {f : Bool} {a b c : Int} (h : AnOf l p f a b c) : WhOf l f a b c p true := by
  rcases h with ⟨rfl, rfl, _⟩ | ⟨h0, e, he, h1, h2, rfl, rfl, rfl, rfl⟩
  · exact .inl ⟨rfl, rfl, rfl⟩
  · refine .inr (.inr ⟨rfl, rfl, _, e, he, rfl, ?_⟩)
    rw [List.take_add_one, he]
    show p = liveL (l.take (idxL l (p - 1)) ++ [e])
    rw [liveL_app, h2]
    have : wLive e = 1 := by unfold wLive; rw [if_neg h1]
    simp only [liveL, this]
    omega
theorem anOf_in {l : List El} {p : Int} {f : Bool} {a b c : Int} (h : AnOf l p f a b c) (hin : ∀ (j : Nat) (e : El), l[j]? = some e → e.id.In) : (⟨a, b, c⟩ : Idn).In := by
  rcases h with ⟨_, _, rfl, rfl, rfl⟩ | ⟨_, e, he, _, _, _, rfl, rfl, rfl⟩
  · exact idn3 ⟨by decide, by decide⟩
  · exact hin _ e he
end Go.Proofs.YtjopeojnlibagaaGreatDoor
namespace Go.Proofs.YtjopeojnlibagaaGreatDoor
open Go.RowKit Go.Extern.Stop Go.Stop Go.Extern
set_option maxRecDepth 100000

theorem idxL_at : ∀ (l : List El) (k : Nat) (e : El), l[k]? = some e → 0 < wLive e → idxL l (liveL (l.take k)) = k
  | [], k, e, h, _ => by simp at h
  | a :: l, 0, e, h, hp => by
    simp at h
    subst h
    simp only [List.take_zero, liveL, idxL]
    rw [if_pos hp]
  | a :: l, k + 1, e, h, hp => by
    simp at h
    have ih := idxL_at l k e h hp
    have := liveL_b (l.take k)
    simp only [List.take_succ_cons, liveL, idxL]
    rw [if_neg (by omega), show wLive a + liveL (l.take k) - wLive a = liveL (l.take k) by omega, ih]
    omega
theorem live_take {l : List El} {k : Nat} {e : El} (h : l[k]? = some e) : liveL (l.take (k + 1)) = liveL (l.take k) + wLive e := by
  rw [List.take_add_one, h]
  show liveL (l.take k ++ [e]) = _
  rw [liveL_app]
  simp [liveL]
theorem live_mono (l : List El) {i j : Nat} (h : i ≤ j) : liveL (l.take i) ≤ liveL (l.take j) := by
  have h1 := liveL_app (l.take i) ((l.take j).drop i)
  have h2 : l.take i ++ (l.take j).drop i = l.take j := by
    have := List.take_append_drop i (l.take j)
    rwa [List.take_take, Nat.min_eq_left h] at this
  rw [h2] at h1
  have := (liveL_b ((l.take j).drop i)).1
  omega
set_option maxHeartbeats 2000000 in
theorem refFind_ok {w : World} {u : Value} {l : List El} (hu : SlE w u l) (hn : l.length ≤ 1000000) (p : Int) (h0 : 0 ≤ p) (h1 : p < liveL l) :
    Calls Tryz.prog 39 #[u, .int .i64 p, .bool false] w fun r w' => r = .returned (.int .i64 (idxL l p : Int)) ∧ Below w.heap.size w w' := by
  obtain ⟨e0, he0, hl0, ht0⟩ := idxL_spec l p h0 h1
  generalize hm : idxL l p = m at *
  clear hm
  obtain ⟨a', c', rfl⟩ := hu.form
  have hpb : p ≤ 1000000 := by have := liveL_b l; omega
  have HT : Hid (liveL (l.take m) = p) := ht0
  have HE : Hid (l[m]? = some e0) := he0
  have hml := (List.getElem?_eq_some_iff.1 he0).1
  have hw0 : Hid (wLive e0 = 1) := by show _ = _; unfold wLive; rw [if_neg hl0]
  clear ht0 he0 hl0 h1
  go_enter Tryz.func39, Tryz.ntmps39
  go_wp2
  go_loopw [1, 7] (fun kv iv wr => ∃ (j : Nat) (q : Int), iv = .int .i64 (j : Int) ∧ kv = .int .i64 q ∧ j ≤ m ∧ q = p - liveL (l.take j) ∧ 0 ≤ q ∧ Below w.heap.size w wr) (fun _ iv _ => l.length - (intOf iv).toNat)
  case atStart => exact ⟨0, p, rfl, rfl, Nat.zero_le _, by simp [liveL], h0, Below.refl _ _⟩
  case round =>
    obtain ⟨j, q, rfl, rfl, hj, hq, hq0, hB⟩ := hrel
    have hji : (j : Int) < (l.length : Int) := by omega
    have hjl : j < l.length := by omega
    obtain ⟨e, he⟩ : ∃ e, l[j]? = some e := ⟨_, List.getElem?_eq_getElem hjl⟩
    have ht := live_take he
    rcases hu.later hB with ⟨h0, _⟩ | ⟨g, o_, c, hvv, hc⟩
    · exfalso; subst h0; simp at he
    simp only [Value.slice.injEq] at hvv
    obtain ⟨rfl, _, rfl⟩ := hvv
    have hce := hc j e he
    have HW := hid_of' (refWeigh_any e)
    have hqb : q ≤ 1000000 := by have := liveL_b (l.take j); omega
    by_cases hjm : j = m
    · subst hjm
      have e1 := hw0.out
      rw [HE.out] at he
      cases he
      have hz : q = 0 := by rw [hq, HT.out]; omega
      rw [e1] at HW
      clear hc hq ht e1
      subst hz
      generalize wLine e0 = y at *
      unfold wv at HW
      go_upto_region 5 with (first | (refine wpL_loadE rfl _ rfl rfl hce ?_) | (go_at_call 31; refine (HW.out _).mono ?_; rintro r w1 ⟨rfl, hb1⟩; clear HW) | (refine wpL_storeW rfl _ _ rfl rfl rfl (row_new w1 _ _) ?_))
      have r5 := (row_new w1 #[.int .i64 0, .int .i64 0] 60).put #[.int .i64 1, .int .i64 y]
      have hB5 : Below w1.heap.size w1 ((w1.alloc (.cells #[.int .i64 0, .int .i64 0] 60)).setRow w1.heap.size #[.int .i64 1, .int .i64 y]) := below_row (below_one w1 _) (Nat.le_refl _) _
      generalize (w1.alloc (.cells #[.int .i64 0, .int .i64 0] 60)).setRow w1.heap.size #[.int .i64 1, .int .i64 y] = W5 at r5 hB5 ⊢
      have c5 : W5.cell? ⟨w1.heap.size, 0, none⟩ = some (.int .i64 1) := r5.cell 0
      go_wp2
      go_ret
      exact ⟨rfl, bgo hB (bgo hb1 hB5)⟩
    · have hmono := live_mono l (show j + 1 ≤ m by omega)
      rw [HT.out, ht] at hmono
      have HTk := hid_of' ht
      by_cases hx : e.hd > 0
      · have e1 : wLive e = 0 := by unfold wLive; rw [if_pos hx]
        rw [e1] at HW HTk
        clear hc ht hmono e1 hx
        replace hq := hid_of' hq
        generalize wLine e = y at *
        unfold wv at HW
        go_upto_region 5 with (first | (refine wpL_loadE rfl _ rfl rfl hce ?_) | (go_at_call 31; refine (HW.out _).mono ?_; rintro r w1 ⟨rfl, hb1⟩; clear HW) | (refine wpL_storeW rfl _ _ rfl rfl rfl (row_new w1 _ _) ?_))
        have r5 := (row_new w1 #[.int .i64 0, .int .i64 0] 60).put #[.int .i64 0, .int .i64 y]
        have hB5 : Below w1.heap.size w1 ((w1.alloc (.cells #[.int .i64 0, .int .i64 0] 60)).setRow w1.heap.size #[.int .i64 0, .int .i64 y]) := below_row (below_one w1 _) (Nat.le_refl _) _
        generalize (w1.alloc (.cells #[.int .i64 0, .int .i64 0] 60)).setRow w1.heap.size #[.int .i64 0, .int .i64 y] = W5 at r5 hB5 ⊢
        have c5 : W5.cell? ⟨w1.heap.size, 0, none⟩ = some (.int .i64 0) := r5.cell 0
        go_wp2
        go_roundw
        case rel => exact ⟨j + 1, q, by go_num, rfl, by omega, by rw [HTk.out, hq.out]; omega, hq0, bgo hB (bgo hb1 hB5)⟩
        case measure => simp [intOf]; omega
      · have e1 : wLive e = 1 := by unfold wLive; rw [if_neg hx]
        rw [e1] at HW HTk hmono
        have hqp : 0 < q := by rw [hq]; omega
        have hqz : (q == 0) = false := by rw [beq_eq_false_iff_ne]; omega
        have hqw : wrap64 (q - 1) = q - 1 := wrapIs (by omega) (by omega)
        clear hc ht hmono e1 hx
        replace hq := hid_of' hq
        generalize wLine e = y at *
        unfold wv at HW
        go_upto_region 5 with (first | (refine wpL_loadE rfl _ rfl rfl hce ?_) | (go_at_call 31; refine (HW.out _).mono ?_; rintro r w1 ⟨rfl, hb1⟩; clear HW) | (refine wpL_storeW rfl _ _ rfl rfl rfl (row_new w1 _ _) ?_))
        have r5 := (row_new w1 #[.int .i64 0, .int .i64 0] 60).put #[.int .i64 1, .int .i64 y]
        have hB5 : Below w1.heap.size w1 ((w1.alloc (.cells #[.int .i64 0, .int .i64 0] 60)).setRow w1.heap.size #[.int .i64 1, .int .i64 y]) := below_row (below_one w1 _) (Nat.le_refl _) _
        generalize (w1.alloc (.cells #[.int .i64 0, .int .i64 0] 60)).setRow w1.heap.size #[.int .i64 1, .int .i64 y] = W5 at r5 hB5 ⊢
        have c5 : W5.cell? ⟨w1.heap.size, 0, none⟩ = some (.int .i64 1) := r5.cell 0
        go_wp2
        go_roundw
        case rel => exact ⟨j + 1, q - 1, by go_num, rfl, by omega, by rw [HTk.out, hq.out]; omega, by omega, bgo hB (bgo hb1 hB5)⟩
        case measure => simp [intOf]; omega
theorem ixI_out {l : List El} {i : Idn} (h : hasI l i = false) : ixI l i = -1 := by
  have h1 := ixI_has l i
  have h2 := ixI_b l i
  rw [h, decide_eq_false_iff_not] at h1
  omega
theorem ixI_in {l : List El} {i : Idn} {k : Nat} {e : El} (hd : Apart l) (he : l[k]? = some e) (h : e.id = i) : ixI l i = (k : Int) :=
  ixI_at he h (fun m x hm hx q => hd m k x e hm hx he (q.trans h.symm))
set_option maxHeartbeats 2000000 in
theorem refWhere13 {base : Nat} {w : World} {v : Value} {l : List El} (hO : OwnE base v l w) (hn : l.length ≤ 1000000) (hd : Apart l) {f : Bool} {a b c q : Int} {ok : Bool} (hW : WhOf l f a b c q ok) :
    Calls Tryz.prog 13 #[v, .agg (anc f a b c)] w fun r w' => r = .returned (.tuple #[.int .i64 q, .bool ok]) ∧ Below w.heap.size w w' := by
  have r0 := row_new w (anc f a b c) 31
  have b0 := below_one w (.cells (anc f a b c) 31)
  have c0 : (w.alloc (.cells (anc f a b c) 31)).cell? ⟨w.heap.size, 0, none⟩ = some (.bool f) := r0.cell 0
  have hE := anc_id r0.in
  have HI := hid_of' (refIndex_any (hO.sl.later b0) ⟨a, b, c⟩ hn)
  rcases hW with ⟨rfl, rfl, rfl⟩ | ⟨rfl, hh, rfl, rfl⟩ | ⟨rfl, rfl, k, e, he, hid, rfl⟩
  · obtain ⟨a4, c4, rfl⟩ := hO.form
    clear hO HI
    go_enter Tryz.func13, Tryz.ntmps13
    go_upto_region 1 with fail
    generalize w.alloc (.cells (anc true a b c) 31) = W0 at c0 b0 ⊢
    go_wp2
    go_ret2
    exact ⟨rfl, b0⟩
  · obtain ⟨a4, c4, rfl⟩ := hO.form
    rw [ixI_out hh] at HI
    clear hO hh
    go_enter Tryz.func13, Tryz.ntmps13
    go_upto_region 1 with fail
    generalize w.alloc (.cells (anc false a b c) 31) = W0 at c0 b0 hE HI ⊢
    go_wp2_with (first | (refine wpL_loadI rfl _ rfl rfl hE ?_) | (go_at_call 26; refine HI.out.mono ?_; rintro r w1 ⟨rfl, hb1⟩))
    go_ret2
    exact ⟨rfl, bgo b0 hb1⟩
  · have hk := (List.getElem?_eq_some_iff.1 he).1
    obtain ⟨g4, c4, _, rfl, hEl, hlc, hcc⟩ := hO.room (fun q => by subst q; simp at he)
    rw [ixI_in hd he hid] at HI
    have hlt : (l.take (k + 1)).length = k + 1 := by rw [List.length_take]; omega
    have HS : Hid (∀ x, Below w.heap.size w x → _) := fun x hx => refSum_any (l := l.take (k + 1)) (w := x) (u := .slice (some ⟨g4, 0, none⟩) (k + 1) c4) (.inr ⟨g4, 0, c4, by rw [hlt], (hEl.later hx).take (k + 1)⟩) (by omega)
    have hfl := field_live (liveL (l.take (k + 1))) (lineL (l.take (k + 1)))
    have e1 : ¬ (k : Int) < 0 := by omega
    have e4 : k + 1 ≤ c4 := by omega
    have e5 : (k : Int) + 1 ≤ (c4 : Int) := by omega
    have e6 : 0 ≤ (k : Int) + 1 := by omega
    have e7 : ((k : Int) + 1).toNat = k + 1 := by omega
    generalize liveL (l.take (k + 1)) = p at *
    generalize lineL (l.take (k + 1)) = y at *
    clear hO he hid hEl hlt
    unfold wv at HS
    go_enter Tryz.func13, Tryz.ntmps13
    go_upto_region 1 with fail
    generalize w.alloc (.cells (anc false a b c) 31) = W0 at c0 b0 hE HI ⊢
    go_wp2_with (first | (refine wpL_loadI rfl _ rfl rfl hE ?_) | (go_at_call 26; refine HI.out.mono ?_; rintro r w1 ⟨rfl, hb1⟩) | (go_at_call 24; refine (HS.out _ (bgo b0 hb1)).mono ?_; rintro r w2 ⟨rfl, hb2⟩))
    go_ret2
    exact ⟨rfl, bgo b0 (bgo hb1 hb2)⟩
end Go.Proofs.YtjopeojnlibagaaGreatDoor
namespace Go.Proofs.YtjopeojnlibagaaGreatDoor
open Go.RowKit Go.Extern.Stop Go.Stop Go.Extern
set_option maxRecDepth 100000

theorem anOf_zero {l : List El} {F : Bool} {A B C : Int} (h : AnOf l 0 F A B C) : F = true ∧ A = 0 ∧ B = 0 ∧ C = 0 := by
  rcases h with ⟨_, h⟩ | ⟨h, _⟩
  · exact h
  · exact absurd h (by omega)
theorem anOf_live {l : List El} {m : Nat} {e : El} {F : Bool} {A B C : Int} (he : l[m]? = some e) (hl : ¬ e.hd > 0) (h : AnOf l (liveL (l.take (m + 1))) F A B C) : F = false ∧ A = e.ep ∧ B = e.rp ∧ C = e.no := by
  have e1 : wLive e = 1 := by unfold wLive; rw [if_neg hl]
  have ht := live_take he
  have hb := (liveL_b (l.take m)).1
  have hx := idxL_at l m e he (by omega)
  rcases h with ⟨h, _⟩ | ⟨_, x, hx1, _, _, h1, h2, h3, h4⟩
  · exact absurd h (by omega)
  · rw [ht, show liveL (l.take m) + wLive e - 1 = liveL (l.take m) by omega, hx, he] at hx1
    cases hx1
    exact ⟨h1, h2, h3, h4⟩
set_option maxHeartbeats 2000000 in
theorem refRebase13 {base : Nat} {w : World} {v : Value} {l : List El} (hO : OwnE base v l w) (hn : l.length ≤ 1000000) (hd : Apart l) {f F : Bool} {a b c q A B C : Int} {ok : Bool} (hW : WhOf l f a b c q ok) (hA : ok = true → AnOf l q F A B C) (hN : ok = false → F = false ∧ A = 0 ∧ B = 0 ∧ C = 0) :
    Calls Tryz.prog 15 #[v, .agg (anc f a b c)] w fun r w' => r = .returned (.tuple #[.agg (anc F A B C), .bool ok]) ∧ Below w.heap.size w w' := by
  have r1 := row_new w (anc f a b c) 31
  have b1 := below_one w (.cells (anc f a b c) 31)
  have r0 := row_new (w.alloc (.cells (anc f a b c) 31)) #[.bool false, .int .i64 0, .int .i64 0, .int .i64 0] 31
  have b0 := below_one (w.alloc (.cells (anc f a b c) 31)) (.cells #[.bool false, .int .i64 0, .int .i64 0, .int .i64 0] 31)
  rw [show (w.alloc (.cells (anc f a b c) 31)).heap.size = w.heap.size + 1 by simp] at r0
  replace r1 := r1.later b0
  have hB := bgo b1 b0
  clear b1 b0
  have HI : Hid (∀ x, Below w.heap.size w x → _) := fun x hx => refIndex_any (hO.sl.later hx) ⟨a, b, c⟩ hn
  rcases hW with ⟨rfl, rfl, rfl⟩ | ⟨rfl, hh, rfl, rfl⟩ | ⟨rfl, rfl, k, e, he, hid, rfl⟩
  · obtain ⟨rfl, rfl, rfl, rfl⟩ := anOf_zero (hA rfl)
    obtain ⟨a4, c4, rfl⟩ := hO.form
    clear hO HI hA hN
    go_enter Tryz.func15, Tryz.ntmps15
    go_upto_region 1 with fail
    generalize (w.alloc (.cells (anc true a b c) 31)).alloc (.cells #[.bool false, .int .i64 0, .int .i64 0, .int .i64 0] 31) = W0 at r0 r1 hB ⊢
    have c0 : W0.cell? ⟨w.heap.size, 0, none⟩ = some (.bool true) := r1.cell 0
    go_wp2_with (refine wpL_storeA rfl _ _ rfl rfl rfl r0 ?_)
    exact bodyPost_ret (v := .tuple #[.agg (anc true 0 0 0), .bool true]) (results_ctA (fn := Tryz.f15) (t := 4) (u := 5) rfl rfl (r0.put (anc true 0 0 0))) rfl ⟨rfl, below_row hB (Nat.le_succ _) _⟩
  · obtain ⟨rfl, rfl, rfl, rfl⟩ := hN rfl
    obtain ⟨a4, c4, rfl⟩ := hO.form
    rw [ixI_out hh] at HI
    clear hO hh hA hN
    go_enter Tryz.func15, Tryz.ntmps15
    go_upto_region 1 with fail
    generalize (w.alloc (.cells (anc false a b c) 31)).alloc (.cells #[.bool false, .int .i64 0, .int .i64 0, .int .i64 0] 31) = W0 at r0 r1 hB ⊢
    have c0 : W0.cell? ⟨w.heap.size, 0, none⟩ = some (.bool false) := r1.cell 0
    have hE := anc_id r1.in
    go_wp2_with (first | (refine wpL_loadI rfl _ rfl rfl hE ?_) | (go_at_call 26; refine (HI.out _ hB).mono ?_; rintro r w1 ⟨rfl, hb1⟩) | (refine wpL_storeA rfl _ _ rfl rfl rfl (r0.later hb1) ?_))
    exact bodyPost_ret (v := .tuple #[.agg (anc false 0 0 0), .bool false]) (results_ctA (fn := Tryz.f15) (t := 4) (u := 5) rfl rfl ((r0.later hb1).put (anc false 0 0 0))) rfl ⟨rfl, below_row (bgo hB hb1) (Nat.le_succ _) _⟩
  · have hk := (List.getElem?_eq_some_iff.1 he).1
    rw [ixI_in hd he hid] at HI
    have HA : Hid (AnOf l (liveL (l.take (k + 1))) F A B C) := hA rfl
    have hsl := hO.sl
    obtain ⟨a4, c4, rfl⟩ := hO.form
    have e1 : ¬ (k : Int) < 0 := by omega
    clear hO he hid hA hN hd
    go_enter Tryz.func15, Tryz.ntmps15
    go_upto_region 1 with fail
    generalize (w.alloc (.cells (anc false a b c) 31)).alloc (.cells #[.bool false, .int .i64 0, .int .i64 0, .int .i64 0] 31) = W0 at r0 r1 hB ⊢
    have c0 : W0.cell? ⟨w.heap.size, 0, none⟩ = some (.bool false) := r1.cell 0
    have hE := anc_id r1.in
    go_upto_region 4 with (first | (refine wpL_loadI rfl _ rfl rfl hE ?_) | (go_at_call 26; refine (HI.out _ hB).mono ?_; rintro r w1 ⟨rfl, hb1⟩))
    clear HI
    replace r0 := r0.later hb1
    replace hB := bgo hB hb1
    clear hb1 c0 hE r1
    go_wp2
    go_loopw [6] (fun iv wr => ∃ j : Nat, iv = .int .i64 ((j : Int) - 1) ∧ j ≤ k + 1 ∧ liveL (l.take j) = liveL (l.take (k + 1)) ∧ RowAt (w.heap.size + 1) #[.bool false, .int .i64 0, .int .i64 0, .int .i64 0] 31 wr ∧ Below w.heap.size w wr) (fun iv _ => (intOf iv + 1).toNat)
    case atStart => exact ⟨k + 1, by simp, Nat.le_refl _, rfl, r0, hB⟩
    case round =>
      clear r0 hB
      obtain ⟨j, rfl, hj, hlj, r0, hB⟩ := hrel
      replace hlj := hid_of' hlj
      cases j with
      | zero =>
        have hq : liveL (l.take (k + 1)) = 0 := by rw [← hlj.out]; simp [liveL]
        have hA0 := HA.out
        rw [hq] at hA0
        obtain ⟨rfl, rfl, rfl, rfl⟩ := anOf_zero hA0
        clear hA0 hq HA
        rw [show ((0 : Nat) : Int) - 1 = -1 from rfl]
        go_wp2_with (refine wpL_storeA rfl _ _ rfl rfl rfl r0 ?_)
        exact bodyPost_ret (v := .tuple #[.agg (anc true 0 0 0), .bool true]) (results_ctA (fn := Tryz.f15) (t := 4) (u := 5) rfl rfl (r0.put (anc true 0 0 0))) rfl ⟨rfl, below_row hB (Nat.le_succ _) _⟩
      | succ m =>
        rw [show ((m + 1 : Nat) : Int) - 1 = (m : Int) by omega]
        have hm : m < l.length := by omega
        have hmi : (m : Int) < (l.length : Int) := by omega
        have hm0 : 0 ≤ (m : Int) := by omega
        obtain ⟨x, hx⟩ : ∃ x, l[m]? = some x := ⟨_, List.getElem?_eq_getElem hm⟩
        have ht := live_take hx
        have HLv := hid_of' (live_any x)
        rcases hsl.later hB with ⟨h0, _⟩ | ⟨g, o_, cc, hvv, hc⟩
        · exfalso; subst h0; simp at hx
        simp only [Value.slice.injEq] at hvv
        obtain ⟨rfl, _, rfl⟩ := hvv
        have hce := hc m x hx
        by_cases hl : x.hd > 0
        · have e0 : wLive x = 0 := by unfold wLive; rw [if_pos hl]
          have hd0 : decide (x.hd ≤ 0) = false := decide_eq_false (by omega)
          rw [hd0] at HLv
          have HT : Hid (liveL (l.take m) = liveL (l.take (k + 1))) := by show _ = _; rw [← hlj.out, ht, e0]; omega
          clear hc hx ht e0 hd0 hl
          go_wp2_with (first | (refine wpL_loadE rfl _ rfl rfl hce ?_) | (go_at_call 29; refine (HLv.out _).mono ?_; rintro r w1 ⟨rfl, hb1⟩))
          go_roundw
          case rel => exact ⟨m, rfl, by omega, HT.out, r0.later hb1, bgo hB hb1⟩
          case measure => simp [intOf]
        · have hd0 : decide (x.hd ≤ 0) = true := decide_eq_true (by omega)
          rw [hd0] at HLv
          have hA0 := HA.out
          rw [← hlj.out] at hA0
          obtain ⟨rfl, rfl, rfl, rfl⟩ := anOf_live hx hl hA0
          clear hc hx ht hd0 hl hA0 HA
          have hI := id_at hce
          go_upto_region 9 with (first | (refine wpL_loadE rfl _ rfl rfl hce ?_) | (go_at_call 29; refine (HLv.out _).mono ?_; rintro r w1 ⟨rfl, hb1⟩))
          have hI1 := hI.later hb1
          go_wp2_with (first | (refine wpL_loadI rfl _ rfl rfl hI1 ?_; unfold idc) | (refine wpL_storeA rfl _ _ rfl rfl rfl (r0.later hb1) ?_))
          exact bodyPost_ret (v := .tuple #[.agg (anc false x.ep x.rp x.no), .bool true]) (results_ctA (fn := Tryz.f15) (t := 4) (u := 5) rfl rfl ((r0.later hb1).put (anc false x.ep x.rp x.no))) rfl ⟨rfl, below_row (bgo hB hb1) (Nat.le_succ _) _⟩
theorem results_cANo {fn : Func} {t u : Tmp} {tmps : Array Value} {w : World} {g g' : Nat} {f : Bool} {a b c : Int} {cs : Array Value} (h : fn.results = #[.cell t 31, .cell u 38]) (hp : tmps.getD t undef = .pointer (some ⟨g, 0, none⟩)) (hg : RowAt g (anc f a b c) 31 w) (hu : tmps.getD u undef = .pointer (some ⟨g', 0, none⟩)) (hg' : RowAt g' cs 38 w) (hs : cs.size = 3) :
    (results fn tmps).run Tryz.prog w = .ok (.tuple #[.agg (anc f a b c), .agg cs]) w := by
  have hp' : tmps[t]?.getD undef = .pointer (some ⟨g, 0, none⟩) := by simpa using hp
  have hu' : tmps[u]?.getD undef = .pointer (some ⟨g', 0, none⟩) := by simpa using hu
  have hi : (Tryz.prog.info? 38).map (·.size) = some cs.size := by rw [hs]; exact no_size
  simp [results, h, hp', hu', asAddr, run_loadVar_row w g _ _ _ _ _ hg Tryz.underlying31 rfl (anc_size f a b c), run_loadVar_row w g' _ _ _ _ _ hg' Tryz.underlying38 rfl hi]
set_option maxHeartbeats 2000000 in
theorem refAt13_ok {base : Nat} {w : World} {v : Value} {l : List El} (hO : OwnE base v l w) (hn : l.length ≤ 1000000) (p : Int) (h0 : 0 ≤ p) (h1 : p ≤ liveL l) {F : Bool} {A B C : Int} (hA : AnOf l p F A B C) :
    Calls Tryz.prog 10 #[v, .int .i64 p] w fun r w' => r = .returned (.tuple #[.agg (anc F A B C), .agg (nov 0 none 0 0 none 0 0)]) ∧ Below w.heap.size w w' := by
  have r4 := row_new w #[.bool false, .int .i64 0, .int .i64 0, .int .i64 0] 31
  have b4 := below_one w (.cells #[.bool false, .int .i64 0, .int .i64 0, .int .i64 0] 31)
  have r5 := row_new2 w (.cells #[.bool false, .int .i64 0, .int .i64 0, .int .i64 0] 31) (nov 0 none 0 0 none 0 0) 38
  have hB := below_two w (.cells #[.bool false, .int .i64 0, .int .i64 0, .int .i64 0] 31) (.cells (nov 0 none 0 0 none 0 0) 38)
  replace r4 := r4.later (below_one _ (.cells (nov 0 none 0 0 none 0 0) 38))
  have HS : Hid (∀ x, Below w.heap.size w x → _) := fun x hx => refSum_any (hO.sl.later hx) hn
  have hfl := field_live (liveL l) (lineL l)
  have e1 : ¬ p < 0 := by omega
  have e2 : ¬ liveL l < p := by omega
  have hlb := liveL_b l
  have hsl := hO.sl
  have HF : 0 < p → Hid (∀ x, Below w.heap.size w x → Calls Tryz.prog 39 #[v, .int .i64 (p - 1), .bool false] x fun r w' => r = .returned (.int .i64 (idxL l (p - 1) : Int)) ∧ Below x.heap.size x w') := fun hp x hx => refFind_ok (hsl.later hx) hn (p - 1) (by omega) (by omega)
  have ew : wrap64 (p - 1) = p - 1 := wrapIs (by omega) (by omega)
  obtain ⟨a4, c4, rfl⟩ := hO.form
  generalize liveL l = q at *
  generalize lineL l = y at *
  unfold wv at HS
  clear hO b4
  rcases hA with ⟨rfl, rfl, rfl, rfl, rfl⟩ | ⟨hp, e, he, _, _, rfl, rfl, rfl, rfl⟩
  · clear HF ew
    go_enter Tryz.func10, Tryz.ntmps10
    go_upto_region 1 with fail
    change Code.wp _ _ _ _ ((w.alloc (.cells #[.bool false, .int .i64 0, .int .i64 0, .int .i64 0] 31)).alloc (.cells (nov 0 none 0 0 none 0 0) 38))
    generalize (w.alloc (.cells #[.bool false, .int .i64 0, .int .i64 0, .int .i64 0] 31)).alloc (.cells (nov 0 none 0 0 none 0 0) 38) = W0 at r4 r5 hB ⊢
    go_upto_region 4 with (go_at_call 24; refine (HS.out _ hB).mono ?_; rintro r w1 ⟨rfl, hb1⟩)
    have ra := r4.later hb1
    have rb := (r5.later hb1).other w.heap.size (anc true 0 0 0) (by omega)
    go_wp2_with (first | (refine wpL_storeA rfl _ _ rfl rfl rfl ra ?_) | (refine wpL_storeNo rfl _ _ rfl rfl rfl rb ?_))
    exact bodyPost_ret (v := .tuple #[.agg (anc true 0 0 0), .agg (nov 0 none 0 0 none 0 0)]) (results_cANo (fn := Tryz.f10) (t := 4) (u := 5) rfl rfl ((ra.put (anc true 0 0 0)).other _ _ (by omega)) rfl (rb.put (nov 0 none 0 0 none 0 0)) rfl) rfl ⟨rfl, below_row (below_row (bgo hB hb1) (Nat.le_refl _) _) (Nat.le_succ _) _⟩
  · replace HF := HF hp
    have hz : (p == 0) = false := by rw [beq_eq_false_iff_ne]; omega
    have hk := (List.getElem?_eq_some_iff.1 he).1
    generalize idxL l (p - 1) = k at *
    have hki : (k : Int) < (l.length : Int) := by omega
    go_enter Tryz.func10, Tryz.ntmps10
    go_upto_region 1 with fail
    change Code.wp _ _ _ _ ((w.alloc (.cells #[.bool false, .int .i64 0, .int .i64 0, .int .i64 0] 31)).alloc (.cells (nov 0 none 0 0 none 0 0) 38))
    generalize (w.alloc (.cells #[.bool false, .int .i64 0, .int .i64 0, .int .i64 0] 31)).alloc (.cells (nov 0 none 0 0 none 0 0) 38) = W0 at r4 r5 hB ⊢
    go_upto_region 5 with (go_at_call 24; refine (HS.out _ hB).mono ?_; rintro r w1 ⟨rfl, hb1⟩)
    have hB1 := bgo hB hb1
    rcases hsl.later hB1 with ⟨h0, _⟩ | ⟨g, o_, cc, hvv, hc⟩
    · exfalso; subst h0; simp at he
    simp only [Value.slice.injEq] at hvv
    obtain ⟨rfl, _, rfl⟩ := hvv
    have hce := id_at (hc k e he)
    have ra := r4.later hb1
    have rb := r5.later hb1
    clear hc he
    go_wp2_with (first | (go_at_call 39; (with_reducible refine (HF.out _ hB1).mono ?_); rintro r w2 ⟨rfl, hb2⟩; have hI := hce.later hb2; have ra2 := ra.later hb2; have rb2 := (rb.later hb2).other w.heap.size (anc false e.ep e.rp e.no) (by omega)) | (refine wpL_loadI rfl _ rfl rfl hI ?_; unfold idc) | (refine wpL_storeA rfl _ _ rfl rfl rfl ra2 ?_) | (refine wpL_storeNo rfl _ _ rfl rfl rfl rb2 ?_))
    exact bodyPost_ret (v := .tuple #[.agg (anc false e.ep e.rp e.no), .agg (nov 0 none 0 0 none 0 0)]) (results_cANo (fn := Tryz.f10) (t := 4) (u := 5) rfl rfl ((ra2.put (anc false e.ep e.rp e.no)).other _ _ (by omega)) rfl (rb2.put (nov 0 none 0 0 none 0 0)) rfl) rfl ⟨rfl, below_row (below_row (bgo hB1 hb2) (Nat.le_refl _) _) (Nat.le_succ _) _⟩
set_option maxHeartbeats 2000000 in
theorem refAt13_out {base : Nat} {w : World} {v : Value} {l : List El} (hO : OwnE base v l w) (hn : l.length ≤ 1000000) (p : Int) (ho : p < 0 ∨ liveL l < p) :
    Calls Tryz.prog 10 #[v, .int .i64 p] w fun r w' => ∃ g g', r = .returned (.tuple #[.agg (anc false 0 0 0), .agg (nov 2 (some ⟨g', 0, none⟩) 1 1 (some ⟨g, 0, none⟩) 1 1)]) ∧ CsIn g' 0 #[.string bAnchor, .string bAt, .int .i64 (place p)] w' ∧ CsIn g 0 #[.int .i64 2] w' ∧ Below w.heap.size w w' := by
  have r4 := row_new w #[.bool false, .int .i64 0, .int .i64 0, .int .i64 0] 31
  have r5 := row_new2 w (.cells #[.bool false, .int .i64 0, .int .i64 0, .int .i64 0] 31) (nov 0 none 0 0 none 0 0) 38
  have hB := below_two w (.cells #[.bool false, .int .i64 0, .int .i64 0, .int .i64 0] 31) (.cells (nov 0 none 0 0 none 0 0) 38)
  replace r4 := r4.later (below_one _ (.cells (nov 0 none 0 0 none 0 0) 38))
  have HS : Hid (∀ x, Below w.heap.size w x → _) := fun x hx => refSum_any (hO.sl.later hx) hn
  have HY := hid_of' (fun x => say_any bAnchor bAt p 2 x (by decide))
  have hfl := field_live (liveL l) (lineL l)
  obtain ⟨a4, c4, rfl⟩ := hO.form
  unfold wv at HS
  clear hO
  by_cases hneg : p < 0
  · clear HS
    go_enter Tryz.func10, Tryz.ntmps10
    go_upto_region 1 with fail
    change Code.wp _ _ _ _ ((w.alloc (.cells #[.bool false, .int .i64 0, .int .i64 0, .int .i64 0] 31)).alloc (.cells (nov 0 none 0 0 none 0 0) 38))
    generalize (w.alloc (.cells #[.bool false, .int .i64 0, .int .i64 0, .int .i64 0] 31)).alloc (.cells (nov 0 none 0 0 none 0 0) 38) = W0 at r4 r5 hB ⊢
    have hl5 := r5.lt
    go_wp2_with (first | (go_at_call 38; refine (HY.out _).mono ?_; rintro r w2 ⟨g2, g3, rfl, k1, k2, k3, k4, hb2⟩; have ra := r4.later hb2; have rb := (r5.later hb2).other w.heap.size (anc false 0 0 0) (by omega)) | (refine wpL_storeA rfl _ _ rfl rfl rfl ra ?_) | (refine wpL_storeNo rfl _ _ rfl rfl rfl rb ?_))
    exact bodyPost_ret (v := .tuple #[.agg (anc false 0 0 0), .agg (nov 2 (some ⟨g3, 0, none⟩) 1 1 (some ⟨g2, 0, none⟩) 1 1)]) (results_cANo (fn := Tryz.f10) (t := 4) (u := 5) rfl rfl ((ra.put (anc false 0 0 0)).other _ _ (by omega)) rfl (rb.put (nov 2 (some ⟨g3, 0, none⟩) 1 1 (some ⟨g2, 0, none⟩) 1 1)) rfl) rfl ⟨g2, g3, rfl, (k3.other _ _ (by omega)).other _ _ (by omega), (k4.other _ _ (by omega)).other _ _ (by omega), below_row (below_row (bgo hB hb2) (Nat.le_refl _) _) (Nat.le_succ _) _⟩
  · have hgt : liveL l < p := by omega
    generalize liveL l = q at *
    generalize lineL l = y at *
    clear ho
    go_enter Tryz.func10, Tryz.ntmps10
    go_upto_region 1 with fail
    change Code.wp _ _ _ _ ((w.alloc (.cells #[.bool false, .int .i64 0, .int .i64 0, .int .i64 0] 31)).alloc (.cells (nov 0 none 0 0 none 0 0) 38))
    generalize (w.alloc (.cells #[.bool false, .int .i64 0, .int .i64 0, .int .i64 0] 31)).alloc (.cells (nov 0 none 0 0 none 0 0) 38) = W0 at r4 r5 hB ⊢
    go_upto_region 2 with (go_at_call 24; refine (HS.out _ hB).mono ?_; rintro r w1 ⟨rfl, hb1⟩)
    replace r4 := r4.later hb1
    have hl5 := r5.lt
    have hs1 := hb1.size
    replace r5 := r5.later hb1
    replace hB := bgo hB hb1
    go_wp2_with (first | (go_at_call 38; refine (HY.out _).mono ?_; rintro r w2 ⟨g2, g3, rfl, k1, k2, k3, k4, hb2⟩; have ra := r4.later hb2; have rb := (r5.later hb2).other w.heap.size (anc false 0 0 0) (by omega)) | (refine wpL_storeA rfl _ _ rfl rfl rfl ra ?_) | (refine wpL_storeNo rfl _ _ rfl rfl rfl rb ?_))
    exact bodyPost_ret (v := .tuple #[.agg (anc false 0 0 0), .agg (nov 2 (some ⟨g3, 0, none⟩) 1 1 (some ⟨g2, 0, none⟩) 1 1)]) (results_cANo (fn := Tryz.f10) (t := 4) (u := 5) rfl rfl ((ra.put (anc false 0 0 0)).other _ _ (by omega)) rfl (rb.put (nov 2 (some ⟨g3, 0, none⟩) 1 1 (some ⟨g2, 0, none⟩) 1 1)) rfl) rfl ⟨g2, g3, rfl, (k3.other _ _ (by omega)).other _ _ (by omega), (k4.other _ _ (by omega)).other _ _ (by omega), below_row (below_row (bgo hB hb2) (Nat.le_refl _) _) (Nat.le_succ _) _⟩
/-- Two anchors that are alike. -/
theorem eqA_same (f : Bool) (a b c : Int) (w : World) : (Op.equalIn 10000 31 (.agg (anc f a b c)) (.agg (anc f a b c))).run Tryz.prog w = .ok true w := by
  unfold anc
  cases f <;> simp [go_sem]
end Go.Proofs.YtjopeojnlibagaaGreatDoor
namespace Go.Proofs.YtjopeojnlibagaaGreatDoor
open Go.RowKit Go.Extern.Stop Go.Stop Go.Extern
set_option maxRecDepth 100000

/-- A row of numbers. -/
def SlG (w : World) (v : Value) (l : List Int) : Prop := (l = [] ∧ ∃ a c, v = .slice a 0 c) ∨ ∃ g o_ c, v = .slice (some ⟨g, o_, none⟩) l.length c ∧ g < w.heap.size ∧ ∀ (i : Nat) (x : Int), l[i]? = some x → w.cell? ⟨g, o_ + i, none⟩ = some (.int .i64 x)
theorem SlG.form {w : World} {v : Value} {l : List Int} (h : SlG w v l) : ∃ a c, v = .slice a l.length c := by
  rcases h with ⟨rfl, a, c, h⟩ | ⟨g, o_, c, h, _⟩
  · exact ⟨a, c, h⟩
  · exact ⟨_, c, h⟩
theorem SlG.later {w w' : World} {v : Value} {l : List Int} (h : SlG w v l) (hb : Below w.heap.size w w') : SlG w' v l := by
  rcases h with h | ⟨g, o_, c, h, hg, hx⟩
  · exact .inl h
  · exact .inr ⟨g, o_, c, h, Nat.lt_of_lt_of_le hg hb.size, fun i x hi => by rw [hb.cell (p := ⟨g, o_ + i, none⟩) hg]; exact hx i x hi⟩
/-- An anchor. -/
structure Anx where
  f : Bool
  a : Int
  b : Int
  c : Int
def av (x : Anx) : Array Value := anc x.f x.a x.b x.c
def Anx.In (x : Anx) : Prop := (⟨x.a, x.b, x.c⟩ : Idn).In
def AnsAt (g o_ : Nat) (l : List Anx) (w : World) : Prop := ∀ (i : Nat) (x : Anx), l[i]? = some x → CsIn g (o_ + i * 4) (av x) w
theorem AnsAt.later {g o_ : Nat} {l : List Anx} {w w' : World} (h : AnsAt g o_ l w) (hb : Below w.heap.size w w') : AnsAt g o_ l w' := fun i x hx => (h i x hx).later hb
/-- A row of anchors. -/
def SlX (w : World) (v : Value) (l : List Anx) : Prop := (l = [] ∧ ∃ a c, v = .slice a 0 c) ∨ ∃ g o_ c, v = .slice (some ⟨g, o_, none⟩) l.length c ∧ AnsAt g o_ l w
theorem SlX.form {w : World} {v : Value} {l : List Anx} (h : SlX w v l) : ∃ a c, v = .slice a l.length c := by
  rcases h with ⟨rfl, a, c, h⟩ | ⟨g, o_, c, h, _⟩
  · exact ⟨a, c, h⟩
  · exact ⟨_, c, h⟩
theorem SlX.later {w w' : World} {v : Value} {l : List Anx} (h : SlX w v l) (hb : Below w.heap.size w w') : SlX w' v l := by
  rcases h with h | ⟨g, o_, c, h, hx⟩
  · exact .inl h
  · exact .inr ⟨g, o_, c, h, hx.later hb⟩
theorem rbOf_ex {l : List El} {f : Bool} {a b c q : Int} {ok : Bool} (h : WhOf l f a b c q ok) : ∃ F A B C, (ok = true → AnOf l q F A B C) ∧ (ok = false → F = false ∧ A = 0 ∧ B = 0 ∧ C = 0) := by
  cases ok with
  | true =>
    obtain ⟨F, A, B, C, hA⟩ := anOf_ex (whOf_b h).1 (whOf_b h).2
    exact ⟨F, A, B, C, fun _ => hA, fun q => by cases q⟩
  | false => exact ⟨false, 0, 0, 0, fun q => (by cases q), fun _ => ⟨rfl, rfl, rfl, rfl⟩⟩
theorem zA (x : World) (cs : Array Value) : Below x.heap.size x ((x.alloc (.cells #[.bool false, .int .i64 0, .int .i64 0, .int .i64 0] 31)).setRow x.heap.size cs) := below_row (below_one x _) (Nat.le_refl _) _
theorem rA (x : World) (cs : Array Value) : RowAt x.heap.size cs 31 ((x.alloc (.cells #[.bool false, .int .i64 0, .int .i64 0, .int .i64 0] 31)).setRow x.heap.size cs) := (row_new x #[.bool false, .int .i64 0, .int .i64 0, .int .i64 0] 31).put cs
/-- Two new blocks, an anchor and a refusal, and both written. -/
def twoW (x : World) (cs ns : Array Value) : World := (((x.alloc (.cells #[.bool false, .int .i64 0, .int .i64 0, .int .i64 0] 31)).alloc (.cells (nov 0 none 0 0 none 0 0) 38)).setRow x.heap.size cs).setRow (x.heap.size + 1) ns
theorem twoW_b (x : World) (cs ns : Array Value) : Below x.heap.size x (twoW x cs ns) := below_row (below_row (below_two x _ _) (Nat.le_refl _) _) (Nat.le_succ _) _
theorem twoW_a (x : World) (cs ns : Array Value) : RowAt x.heap.size cs 31 (twoW x cs ns) := RowAt.other (RowAt.put ((row_new x #[.bool false, .int .i64 0, .int .i64 0, .int .i64 0] 31).later (below_one _ _)) cs) _ _ (by omega)
theorem twoW_n (x : World) (cs ns : Array Value) : RowAt (x.heap.size + 1) ns 38 (twoW x cs ns) := RowAt.put (RowAt.other (row_new2 x _ (nov 0 none 0 0 none 0 0) 38) _ _ (by omega)) ns
end Go.Proofs.YtjopeojnlibagaaGreatDoor
