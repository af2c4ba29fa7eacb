
/-
  tree.packed, tree.spliced of no tree, and what they go through there. Trees: Len, Weight, New, Insert into an empty one.
-/
import Derived.Test.YtjalehlmldlooaaGreatDoorZap07
namespace Go.Proofs.YtjalehlmldlooaaGreatDoor
open Go.RowKit
set_option maxRecDepth 100000

/-- How many leaves. -/
def pkN (ch len : Nat) : Nat := (len + ch - 1) / ch
theorem pkN_b {ch len : Nat} (h1 : 0 < ch) (h2 : 0 < len) : 1 ≤ pkN ch len ∧ pkN ch len ≤ len := by
  unfold pkN
  refine ⟨(Nat.le_div_iff_mul_le h1).2 (by omega), Nat.div_le_of_le_mul ?_⟩
  obtain ⟨a, rfl⟩ : ∃ a, len = a + 1 := ⟨len - 1, by omega⟩
  obtain ⟨b, rfl⟩ : ∃ b, ch = b + 1 := ⟨ch - 1, by omega⟩
  rw [Nat.add_mul, Nat.mul_add]
  omega
set_option maxHeartbeats 1000000 in
theorem packed_some {R : Rows} (ch : Nat) (l : List El) (g o_ c : Nat) (w : World) (hl : ElsAt g o_ l w) (hlc : l.length ≤ c) (hc : c ≤ 9223372036854775807) (hn : l.length ≤ 1073741824) (h0 : l ≠ []) (h1 : 1 ≤ ch) (h2 : ch ≤ 64) (hz : R.hi ≤ w.heap.size) :
    Calls Tryz.prog 68 #[.int .i64 (ch : Int), .slice (some ⟨g, o_, none⟩) l.length c] w fun r w' => ∃ v, r = .returned v ∧ TreeOf R l (cutL (pkN ch l.length) l) v w' ∧ Below w.heap.size w w' := by
  have hp : 0 < l.length := List.length_pos_iff.2 h0
  obtain ⟨b1, b2⟩ := pkN_b (ch := ch) (len := l.length) (by omega) hp
  have HC := hid_of' (cut_any g (pkN ch l.length) l o_ c w hl hz hlc hc hn b1 b2)
  have q1 : ((l.length : Int) + (ch : Int) - 1).tdiv (ch : Int) = ((pkN ch l.length : Nat) : Int) := by
    rw [Int.tdiv_eq_ediv_of_nonneg (by omega)]
    unfold pkN
    rw [show (l.length : Int) + (ch : Int) - 1 = ((l.length + ch - 1 : Nat) : Int) by omega]
    simp
  have n0 : ((l.length : Int) == 0) = false := by rw [beq_eq_false_iff_ne]; omega
  have c0 : ((ch : Int) == 0) = false := by rw [beq_eq_false_iff_ne]; omega
  have n2 : (pkN ch l.length : Int) ≤ 1073741824 := by omega
  go_enter Tryz.func68, Tryz.ntmps68
  go_wp2_with (go_at_call 83; refine HC.out.mono ?_; rintro r w1 ⟨v, rfl, ht, hb1⟩)
  go_ret
  exact ⟨_, rfl, ht, hb1⟩
set_option maxHeartbeats 400000 in
theorem front_nil (i : Int) (w : World) : Calls Tryz.prog 66 #[.pointer none, .int .i64 i] w fun r w' => r = .returned (.tuple #[.pointer none, .slice none 0 0]) ∧ w' = w := by
  go_enter Tryz.func66, Tryz.ntmps66
  go_wp2
  go_ret2
  exact ⟨rfl, rfl⟩
set_option maxHeartbeats 400000 in
theorem back_nil (i : Int) (w : World) : Calls Tryz.prog 67 #[.pointer none, .int .i64 i] w fun r w' => r = .returned (.tuple #[.slice none 0 0, .pointer none]) ∧ w' = w := by
  go_enter Tryz.func67, Tryz.ntmps67
  go_wp2
  go_ret2
  exact ⟨rfl, rfl⟩
set_option maxHeartbeats 400000 in
theorem joined_nil1 (v : Option Addr) (w : World) : Calls Tryz.prog 82 #[.pointer none, .pointer v] w fun r w' => r = .returned (.pointer v) ∧ w' = w := by
  go_enter Tryz.func82, Tryz.ntmps82
  go_wp2
  go_ret
  exact ⟨rfl, rfl⟩
set_option maxHeartbeats 400000 in
theorem joined_nil2 (b : Nat) (w : World) : Calls Tryz.prog 82 #[pv b, .pointer none] w fun r w' => r = .returned (pv b) ∧ w' = w := by
  unfold pv
  go_enter Tryz.func82, Tryz.ntmps82
  go_wp2
  go_ret
  exact ⟨rfl, rfl⟩
set_option maxHeartbeats 400000 in
theorem glued_nil1 (ch : Int) (v : Option Addr) (w : World) : Calls Tryz.prog 69 #[.int .i64 ch, .pointer none, .pointer v] w fun r w' => r = .returned (.pointer v) ∧ w' = w := by
  go_enter Tryz.func69, Tryz.ntmps69
  go_wp2_with (go_at_call 82; refine (joined_nil1 _ _).mono ?_; rintro r w1 ⟨rfl, rfl⟩)
  go_ret
  exact ⟨rfl, rfl⟩
set_option maxHeartbeats 400000 in
theorem glued_nil2 (ch : Int) (b : Nat) (w : World) : Calls Tryz.prog 69 #[.int .i64 ch, pv b, .pointer none] w fun r w' => r = .returned (pv b) ∧ w' = w := by
  have HJ := hid_of' (joined_nil2 b)
  unfold pv at *
  go_enter Tryz.func69, Tryz.ntmps69
  go_wp2_with (go_at_call 82; refine (HJ.out _).mono ?_; rintro r w1 ⟨rfl, rfl⟩)
  go_ret
  exact ⟨rfl, rfl⟩

theorem glued_nil2' (ch : Int) (b : Nat) (w : World) : Calls Tryz.prog 69 #[.int .i64 ch, .pointer (some ⟨b, 0, none⟩), .pointer none] w fun r w' => r = .returned (.pointer (some ⟨b, 0, none⟩)) ∧ w' = w := glued_nil2 ch b w
set_option maxHeartbeats 2000000 in
/-- A row laid into no tree. -/
theorem spliced_nil {R : Rows} (ch : Nat) (l : List El) (u : Value) (w : World) (hu : SlE w u l) (hn : l.length ≤ 1073741824) (h0 : l ≠ []) (h1 : 1 ≤ ch) (h2 : ch ≤ 64) (hz : R.hi ≤ w.heap.size) :
    Calls Tryz.prog 46 #[.int .i64 (ch : Int), .pointer none, .int .i64 0, .int .i64 0, u] w fun r w' => ∃ v, r = .returned v ∧ TreeOf R l (cutL (pkN ch l.length) l) v w' ∧ Below w.heap.size w w' := by
  obtain ⟨a', c', rfl⟩ := hu.form
  have HC : Hid (Calls Tryz.prog 64 #[.slice (some ⟨w.heap.size, 0, none⟩) 3 3] (w.alloc (.cells #[.slice none 0 0, .slice a' l.length c', .slice none 0 0] 22)) fun r w' => ∃ v, r = .returned v ∧ OwnE (w.heap.size + 1) v l w' ∧ Below (w.heap.size + 1) (w.alloc (.cells #[.slice none 0 0, .slice a' l.length c', .slice none 0 0] 22)) w') := by
    have H := concat_any [(.slice none 0 0, []), (.slice a' l.length c', l), (.slice none 0 0, [])] w.heap.size 0 3 (w.alloc (.cells #[.slice none 0 0, .slice a' l.length c', .slice none 0 0] 22)) (fun i p hp => by
      have hr := row_new w #[.slice none 0 0, .slice a' l.length c', .slice none 0 0] 22
      match i, hp with
      | 0, hp => simp at hp; subst hp; exact ⟨by rw [hr.cell]; rfl, .inl ⟨rfl, _, _, rfl⟩⟩
      | 1, hp => simp at hp; subst hp; exact ⟨by rw [hr.cell]; rfl, hu.later (below_one _ _)⟩
      | 2, hp => simp at hp; subst hp; exact ⟨by rw [hr.cell]; rfl, .inl ⟨rfl, _, _, rfl⟩⟩
      | i + 3, hp => simp at hp) (by simp) (by simp [catE]; omega) (by simp)
    simp only [World.size_alloc, catE, List.flatMap_cons, List.flatMap_nil, List.nil_append, List.append_nil] at H
    exact H
  go_enter Tryz.func46, Tryz.ntmps46
  go_wp2_with (first | (go_at_call 66; refine (front_nil _ _).mono ?_; rintro r w1 ⟨rfl, hw⟩; obtain rfl := hw.symm) | (go_at_call 67; refine (back_nil _ _).mono ?_; rintro r w1 ⟨rfl, hw⟩; obtain rfl := hw.symm) | (go_at_call 64; refine HC.out.mono ?_; rintro r w2 ⟨v, rfl, ho, hb2⟩; obtain ⟨g1, c1, _, rfl, he1, hlc, hc9⟩ := ho.room h0; clear ho HC) | (go_at_call 68; refine (packed_some (R := R) ch l g1 0 c1 _ he1 hlc hc9 hn h0 h1 h2 (by have := hb2.size; rw [World.size_alloc] at this; omega)).mono ?_; rintro r w3 ⟨v, rfl, ht, hb3⟩; obtain ⟨t, rfl, ht⟩ := ht; unfold pv) | (go_at_call 69; first | (with_reducible refine (glued_nil1 _ _ _).mono ?_; rintro r w4 ⟨rfl, hw⟩; obtain rfl := hw.symm) | (with_reducible refine (glued_nil2' _ _ _).mono ?_; rintro r w4 ⟨rfl, hw⟩; obtain rfl := hw.symm)))
  go_ret
  refine ⟨_, rfl, ⟨t, rfl, ht⟩, ?_⟩
  have hb2' : Below w.heap.size w w2 := (below_one w _).trans (hb2.mono (by omega))
  exact bgo hb2' hb3
end Go.Proofs.YtjalehlmldlooaaGreatDoor
namespace Go.Proofs.YtjalehlmldlooaaGreatDoor
open Go.RowKit
set_option maxRecDepth 100000

/-- A tree of a row, in memory. -/
def TrAt (R : Rows) (b : Nat) (ch : Nat) (l : List El) (w : World) : Prop := (l = [] ∧ RowAt b #[.int .i64 (ch : Int), .pointer none] 89 w) ∨ ∃ t : Nd, RowAt b #[.int .i64 (ch : Int), pv t.blk] 89 w ∧ t.At R w ∧ t.Full ∧ t.els = l
theorem TrAt.later {R : Rows} {b ch : Nat} {l : List El} {w w' : World} (h : TrAt R b ch l w) (hb : Below w.heap.size w w') : TrAt R b ch l w' := by
  rcases h with ⟨h1, h2⟩ | ⟨t, h1, h2, h3⟩
  · exact .inl ⟨h1, h2.later hb⟩
  · exact .inr ⟨t, h1.later hb, h2.later hb, h3⟩

set_option maxHeartbeats 400000 in
theorem new_ok (ch : Nat) (w : World) (h1 : 2 ≤ ch) (h2 : ch ≤ 64) :
    Calls Tryz.prog 38 #[.int .i64 (ch : Int)] w fun r w' => r = .returned (.tuple #[pv w.heap.size, .nilIface]) ∧ RowAt w.heap.size #[.int .i64 (ch : Int), .pointer none] 89 w' ∧ Below w.heap.size w w' := by
  have e1 : ¬ (ch : Int) < 2 := by omega
  have e2 : ¬ (64 : Int) < (ch : Int) := by omega
  go_enter Tryz.func38, Tryz.ntmps38
  go_wp2
  go_ret2
  exact ⟨rfl, row_new w _ _, below_one _ _⟩
set_option maxHeartbeats 400000 in
theorem sizeOf_nil (w : World) : Calls Tryz.prog 60 #[.pointer none] w fun r w' => r = .returned (.int .i64 0) ∧ w' = w := by
  go_enter Tryz.func60, Tryz.ntmps60
  go_wp2
  go_ret
  exact ⟨rfl, rfl⟩
set_option maxHeartbeats 400000 in
theorem sizeOf_some {R : Rows} {t : Nd} {w : World} (ht : t.At R w) : Calls Tryz.prog 60 #[pv t.blk] w fun r w' => r = .returned (.int .i64 (t.els.length : Int)) ∧ w' = w := by
  obtain ⟨a1, a2, a3, hr⟩ := ht.row
  have c1 := hr.cell 4
  simp only [ndc] at c1
  unfold pv
  go_enter Tryz.func60, Tryz.ntmps60
  go_wp2
  go_ret
  exact ⟨rfl, rfl⟩
set_option maxHeartbeats 400000 in
theorem len_any {R : Rows} {b ch : Nat} {l : List El} {w : World} (h : TrAt R b ch l w) : Calls Tryz.prog 42 #[pv b] w fun r w' => r = .returned (.int .i64 (l.length : Int)) ∧ w' = w := by
  unfold pv
  rcases h with ⟨rfl, h1⟩ | ⟨t, h1, h2, _, rfl⟩
  · have c1 := h1.cell 1
    go_enter Tryz.func42, Tryz.ntmps42
    go_wp2_with (go_at_call 60; refine (sizeOf_nil _).mono ?_; rintro r w1 ⟨rfl, hw⟩; obtain rfl := hw.symm)
    go_ret
    exact ⟨rfl, rfl⟩
  · have c1 := h1.cell 1
    simp only [pv] at c1
    have HS := hid_of' (sizeOf_some h2)
    unfold pv at HS
    go_enter Tryz.func42, Tryz.ntmps42
    go_wp2_with (go_at_call 60; refine HS.out.mono ?_; rintro r w1 ⟨rfl, hw⟩; obtain rfl := hw.symm)
    go_ret
    exact ⟨rfl, rfl⟩
set_option maxHeartbeats 400000 in
theorem weightT_some {R : Rows} {b ch : Nat} {t : Nd} {w : World} (h1 : RowAt b #[.int .i64 (ch : Int), pv t.blk] 89 w) (h2 : t.At R w) :
    Calls Tryz.prog 124 #[pv b] w fun r w' => r = .returned (wv (liveL t.els) (lineL t.els)) ∧ Below w.heap.size w w' := by
  obtain ⟨a1, a2, a3, hr⟩ := h2.row
  have k1 := h1.later (below_one w (.cells #[.int .i64 0, .int .i64 0] 123))
  have k2 := (hr.later (below_one w (.cells #[.int .i64 0, .int .i64 0] 123))).in.sub 5 (ds := #[.int .i64 (liveL t.els), .int .i64 (lineL t.els)]) (fun j v hv => by match j, hv with | 0, hv => exact hv | 1, hv => exact hv | j + 2, hv => simp at hv)
  have c1 := k1.cell 1
  simp only [pv] at c1
  rw [Nat.zero_add] at k2
  unfold pv
  go_enter Tryz.func124, Tryz.ntmps124
  go_wp2_with (first | (refine wpL_loadW rfl _ rfl rfl k2 ?_; unfold wv) | (refine wpL_storeW rfl _ _ rfl rfl rfl (row_new w _ _) ?_))
  exact bodyPost_ret (v := wv (liveL t.els) (lineL t.els)) (results_w (fn := Tryz.f124) (p := 2) rfl rfl ((row_new w _ _).put _)) rfl ⟨rfl, below_row (below_one _ _) (by omega) _⟩
set_option maxHeartbeats 400000 in
theorem hasRoom_nil {b ch : Nat} {w : World} (i n : Int) (h1 : RowAt b #[.int .i64 (ch : Int), .pointer none] 89 w) :
    Calls Tryz.prog 44 #[pv b, .int .i64 i, .int .i64 n] w fun r w' => r = .returned (.bool false) ∧ w' = w := by
  have c1 := h1.cell 1
  unfold pv
  go_enter Tryz.func44, Tryz.ntmps44
  go_wp2
  go_ret
  exact ⟨rfl, rfl⟩
end Go.Proofs.YtjalehlmldlooaaGreatDoor
