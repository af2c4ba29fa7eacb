
/-
  barrowref05: Copy, Put, Cut. barrowref07.T: an operation as it must be behind another one, by the document. barrowlaw07.XformT: T of any two operations.
-/
import Derived.Test.YtjalehlmldlooaaGreatDoorZap38
import Derived.Test.YtjalehlmldlooaaGreatDoorZap27
import Derived.Test.YtjalehlmldlooaaGreatDoorZap30
namespace Go.Proofs.YtjalehlmldlooaaGreatDoor
open Go.RowKit
set_option maxRecDepth 100000

/-- A row of one's own, or none, that lies in none of these blocks. -/
def PlAt (R : Rows) (w : World) (u : Value) (l : List El) : Prop := (l = [] ∧ u = .slice none 0 0) ∨ ∃ g c, u = .slice (some ⟨g, 0, none⟩) l.length c ∧ ElsAt g 0 l w ∧ Rk R g ∧ l.length ≤ c ∧ c ≤ 9223372036854775807
theorem PlAt.sl {R : Rows} {w : World} {u : Value} {l : List El} (h : PlAt R w u l) : SlE w u l := by
  rcases h with ⟨h1, h2⟩ | ⟨g, c, h1, h2, _⟩
  · exact .inl ⟨h1, _, _, h2⟩
  · exact .inr ⟨g, 0, c, h1, h2⟩
theorem PlAt.later {R : Rows} {w w' : World} {u : Value} {l : List El} (h : PlAt R w u l) (hb : Below w.heap.size w w') : PlAt R w' u l := by
  rcases h with h | ⟨g, c, h1, h2, h3⟩
  · exact .inl h
  · exact .inr ⟨g, c, h1, h2.later hb, h3⟩
theorem PlAt.kp {R : Rows} {x : Nat} {w w' : World} {u : Value} {l : List El} (h : PlAt R w u l) (k : Kp x w w') (hx : R.no x) : PlAt R w' u l := by
  rcases h with h | ⟨g, c, h1, h2, h3, h4⟩
  · exact .inl h
  · exact .inr ⟨g, c, h1, h2.kp k (fun e => by subst e; exact h3 hx), h3, h4⟩
theorem PlAt.widen {R R' : Rows} {w : World} {u : Value} {l : List El} (h : PlAt R w u l) (hl : l ≠ []) (hr : ∀ g, R'.no g → R.no g ∨ w.heap.size ≤ g) : PlAt R' w u l := by
  rcases h with h | ⟨g, c, h1, h2, h3, h4⟩
  · exact .inl h
  · exact .inr ⟨g, c, h1, h2, fun k => (hr g k).elim h3 (fun e => by have := h2.lt hl; omega), h4⟩
theorem PlAt.weak {R R' : Rows} {w : World} {u : Value} {l : List El} (h : PlAt R w u l) (hr : ∀ g, R'.no g → R.no g) : PlAt R' w u l := by
  rcases h with h | ⟨g, c, h1, h2, h3, h4⟩
  · exact .inl h
  · exact .inr ⟨g, c, h1, h2, fun k => h3 (hr g k), h4⟩
theorem PlAt.of_own {R : Rows} {base : Nat} {v : Value} {l : List El} {w : World} (h : OwnE base v l w) (hb : R.hi ≤ base) : PlAt R w v l := by
  by_cases hl : l = []
  · subst hl
    rcases h.2 with ⟨h1, _⟩ | ⟨g, cap, cur, h1, h2, h3, h4, h5, _⟩
    · exact .inl ⟨rfl, h1⟩
    · exact .inr ⟨g, cap, h1, fun i e he => (by simp at he), Rk.new (Nat.le_trans hb h2), Nat.zero_le _, Nat.le_trans h5 (by decide)⟩
  · obtain ⟨g, c, h1, h2, h3, h4, h5⟩ := h.room hl
    exact .inr ⟨g, c, h2, h3, Rk.new (Nat.le_trans hb h1), h4, h5⟩
theorem PlAt.form {R : Rows} {w : World} {u : Value} {l : List El} (h : PlAt R w u l) : ∃ a c, u = .slice a l.length c := h.sl.form
set_option maxHeartbeats 1000000 in
theorem copy_ok {w : World} {u : Value} {l : List El} (hu : SlE w u l) (hn : l.length ≤ 1073741824) :
    Calls Tryz.prog 50 #[u] w fun r w' => ∃ v, r = .returned v ∧ OwnE w.heap.size v l w' ∧ Below w.heap.size w w' := by
  obtain ⟨a', c', rfl⟩ := hu.form
  have HU := hid_of' (hu.later (below_one w (.cells #[] 49)))
  clear hu
  go_enter Tryz.func50, Tryz.ntmps50
  go_wp2_with (at_builtin; refine wpL_appE rfl _ _ rfl rfl rfl (own_empty w) HU.out (by simpa using (by omega : l.length ≤ 1099511627776)) (by simp) ?_; intro v' w1 ho hg)
  have hB0 := (below_one w (.cells #[] 49)).grown hg (by simp) (fun k hk => ((own_empty w).lt k hk).1)
  rw [List.nil_append] at ho
  go_ret
  exact ⟨_, rfl, ho, hB0⟩

set_option maxHeartbeats 4000000 in
theorem put_none {w : World} (l m : List El) (a' : Option Addr) (c' : Nat) (hm : SlE w (.slice a' m.length c') m) (ip : Nat) (hn : l.length + m.length ≤ 1073741824) (hl : l = []) (h0 : ip = 0) :
    Calls Tryz.prog 48 #[.slice none 0 0, .int .i64 (ip : Int), .slice a' m.length c'] w fun r w' => ∃ v, r = .returned v ∧ OwnE w.heap.size v (l.take ip ++ (m ++ l.drop ip)) w' ∧ Below w.heap.size w w' := by
  have q1 : SlE w (.slice none 0 0) (l.take ip) := .inl ⟨by rw [hl]; simp, _, _, rfl⟩
  have q2 : SlE w (.slice none 0 0) (l.drop ip) := .inl ⟨by rw [hl]; simp, _, _, rfl⟩
  have hi0 : (ip : Int) = 0 := by omega
  clear h0
  have HC := hid_of' (copy_ok q1 (by rw [List.length_take]; omega))
  have HM := hid_of' hm
  have H2 := hid_of' q2
  have b1 : (l.take ip).length + m.length ≤ 1099511627776 := by rw [List.length_take]; omega
  have b2 : (l.take ip ++ m).length + (l.drop ip).length ≤ 1099511627776 := by rw [List.length_append, List.length_take, List.length_drop]; omega
  clear q1 q2 hm
  go_enter Tryz.func48, Tryz.ntmps48
  go_wp2_with (first | (go_at_call 50; (with_reducible refine HC.out.mono ?_); rintro r w1 ⟨v1, rfl, ho1, hb1⟩; clear HC) | (at_builtin; first | (refine wpL_appE rfl _ _ rfl rfl rfl ho1 (HM.out.later hb1) b1 hb1.size ?_; intro v2 w2 ho2 hg2; have hb2 := hb1.grown hg2 hb1.size (fun k hk => (ho1.lt k hk).1); clear ho1) | (refine wpL_appE rfl _ _ rfl rfl rfl ho2 (H2.out.later hb2) b2 hb2.size ?_; intro v3 w3 ho3 hg3; have hb3 := hb2.grown hg3 hb2.size (fun k hk => (ho2.lt k hk).1))))
  go_ret
  rw [List.append_assoc] at ho3
  exact ⟨_, rfl, ho3, hb3⟩

set_option maxHeartbeats 4000000 in
theorem put_end {w : World} (l m : List El) (a' : Option Addr) (c' : Nat) (hm : SlE w (.slice a' m.length c') m) (ip : Nat) (hn : l.length + m.length ≤ 1073741824) (g : Nat) (hE : ElsAt g 0 l w) (e3 : l.length = ip) (hc9 : ip ≤ 9223372036854775807) :
    Calls Tryz.prog 48 #[.slice (some ⟨g, 0, none⟩) ip ip, .int .i64 (ip : Int), .slice a' m.length c'] w fun r w' => ∃ v, r = .returned v ∧ OwnE w.heap.size v (l.take ip ++ (m ++ l.drop ip)) w' ∧ Below w.heap.size w w' := by
  have e0 : 0 ≤ (ip : Int) := by omega
  have q1 : SlE w (.slice (some ⟨g, 0, none⟩) ip ip) (l.take ip) := .inr ⟨g, 0, ip, by rw [List.length_take, Nat.min_eq_left (by omega)], hE.take ip⟩
  have q2 : SlE w (.slice (some ⟨g, 0, none⟩) 0 0) (l.drop ip) := .inl ⟨List.drop_eq_nil_of_le (by omega), _, _, rfl⟩
  have HC := hid_of' (copy_ok q1 (by rw [List.length_take]; omega))
  have HM := hid_of' hm
  have H2 := hid_of' q2
  have b1 : (l.take ip).length + m.length ≤ 1099511627776 := by rw [List.length_take]; omega
  have b2 : (l.take ip ++ m).length + (l.drop ip).length ≤ 1099511627776 := by rw [List.length_append, List.length_take, List.length_drop]; omega
  clear q1 q2 hm e3 hE
  go_enter Tryz.func48, Tryz.ntmps48
  go_wp2_with (first | (go_at_call 50; (with_reducible refine HC.out.mono ?_); rintro r w1 ⟨v1, rfl, ho1, hb1⟩; clear HC) | (at_builtin; first | (refine wpL_appE rfl _ _ rfl rfl rfl ho1 (HM.out.later hb1) b1 hb1.size ?_; intro v2 w2 ho2 hg2; have hb2 := hb1.grown hg2 hb1.size (fun k hk => (ho1.lt k hk).1); clear ho1) | (refine wpL_appE rfl _ _ rfl rfl rfl ho2 (H2.out.later hb2) b2 hb2.size ?_; intro v3 w3 ho3 hg3; have hb3 := hb2.grown hg3 hb2.size (fun k hk => (ho2.lt k hk).1))))
  go_ret
  rw [List.append_assoc] at ho3
  exact ⟨_, rfl, ho3, hb3⟩

set_option maxHeartbeats 4000000 in
theorem put_mid {w : World} (l m : List El) (a' : Option Addr) (c' : Nat) (hm : SlE w (.slice a' m.length c') m) (ip : Nat) (hn : l.length + m.length ≤ 1073741824) (g c : Nat) (hE : ElsAt g 0 l w) (hip : ip ≤ l.length) (hlc : l.length ≤ c) (_hc9 : c ≤ 9223372036854775807) (hc : ¬ c = ip) :
    Calls Tryz.prog 48 #[.slice (some ⟨g, 0, none⟩) l.length c, .int .i64 (ip : Int), .slice a' m.length c'] w fun r w' => ∃ v, r = .returned v ∧ OwnE w.heap.size v (l.take ip ++ (m ++ l.drop ip)) w' ∧ Below w.heap.size w w' := by
  have e1 : (ip : Int) ≤ (c : Int) := by omega
  have e0 : 0 ≤ (ip : Int) := by omega
  have e2 : (ip : Int) ≤ (l.length : Int) := by omega
  have q1 : SlE w (.slice (some ⟨g, 0, none⟩) ip c) (l.take ip) := .inr ⟨g, 0, c, by rw [List.length_take, Nat.min_eq_left (by omega)], hE.take ip⟩
  have q2 : SlE w (.slice (some ⟨g, ip * 5, none⟩) (l.length - ip) (c - ip)) (l.drop ip) := .inr ⟨g, ip * 5, c - ip, by rw [List.length_drop], by have := hE.drop ip; rwa [Nat.zero_add] at this⟩
  have e3 : ip ≤ l.length := hip
  have HC := hid_of' (copy_ok q1 (by rw [List.length_take]; omega))
  have HM := hid_of' hm
  have H2 := hid_of' q2
  have b1 : (l.take ip).length + m.length ≤ 1099511627776 := by rw [List.length_take]; omega
  have b2 : (l.take ip ++ m).length + (l.drop ip).length ≤ 1099511627776 := by rw [List.length_append, List.length_take, List.length_drop]; omega
  clear q1 q2 hm
  go_enter Tryz.func48, Tryz.ntmps48
  go_wp2_with (first | (go_at_call 50; (with_reducible refine HC.out.mono ?_); rintro r w1 ⟨v1, rfl, ho1, hb1⟩; clear HC) | (at_builtin; first | (refine wpL_appE rfl _ _ rfl rfl rfl ho1 (HM.out.later hb1) b1 hb1.size ?_; intro v2 w2 ho2 hg2; have hb2 := hb1.grown hg2 hb1.size (fun k hk => (ho1.lt k hk).1); clear ho1) | (refine wpL_appE rfl _ _ rfl rfl rfl ho2 (H2.out.later hb2) b2 hb2.size ?_; intro v3 w3 ho3 hg3; have hb3 := hb2.grown hg3 hb2.size (fun k hk => (ho2.lt k hk).1))))
  go_ret
  rw [List.append_assoc] at ho3
  exact ⟨_, rfl, ho3, hb3⟩

theorem put_ok {R : Rows} {w : World} {u um : Value} {l m : List El} (hl : PlAt R w u l) (hm : SlE w um m) (ip : Nat) (hip : ip ≤ l.length) (hn : l.length + m.length ≤ 1073741824) :
    Calls Tryz.prog 48 #[u, .int .i64 (ip : Int), um] w fun r w' => ∃ v, r = .returned v ∧ OwnE w.heap.size v (l.take ip ++ (m ++ l.drop ip)) w' ∧ Below w.heap.size w w' := by
  obtain ⟨a', c', rfl⟩ := hm.form
  rcases hl with ⟨h1, rfl⟩ | ⟨g, c, rfl, hE, _, h4, h5⟩
  · exact put_none l m a' c' hm ip hn h1 (by rw [h1] at hip; simpa using hip)
  · by_cases hc : c = ip
    · have e3 : l.length = ip := by omega
      rw [e3, hc]
      exact put_end l m a' c' hm ip hn g hE e3 (by omega)
    · exact put_mid l m a' c' hm ip hn g c hE hip h4 h5 hc
end Go.Proofs.YtjalehlmldlooaaGreatDoor
namespace Go.Proofs.YtjalehlmldlooaaGreatDoor
open Go.RowKit
set_option maxRecDepth 100000

end Go.Proofs.YtjalehlmldlooaaGreatDoor
namespace Go.Proofs.YtjalehlmldlooaaGreatDoor
open Go.RowKit
set_option maxRecDepth 100000

/-- Numbers of Go's int. -/
def Xo.In (o : Xo) : Prop := In64 o.k ∧ In64 o.p ∧ In64 o.r
theorem eq_O (o : Xo) (w : World) : (Op.equalIn 10000 40 (.agg (ov o)) (.agg (ov o))).run Tryz.prog w = .ok true w := by
  unfold ov
  simp [go_sem]
theorem SlO.some {w : World} {a : Option Addr} {c : Nat} {l : List Xo} (h : SlO w (.slice a l.length c) l) (h0 : 0 < l.length) : ∃ g o_, a = Option.some ⟨g, o_, none⟩ ∧ OsAt g o_ l w := by
  rcases h with ⟨h, _⟩ | ⟨g, o_, c', hv, hc⟩
  · subst h; simp at h0
  · simp only [Value.slice.injEq] at hv
    exact ⟨g, o_, hv.1, hc⟩

end Go.Proofs.YtjalehlmldlooaaGreatDoor
