
/-
  What is seen of a row: its characters, its line ends; plain lists.
  What a model tells: Live, Lines, LineEnd; its tree's Find and At.
-/
import Derived.Test.YtjalehlmldlooaaGreatDoorZap10
import Derived.Lib.RuneBytes
import Derived.Test.YtjalehlmldlooaaGreatDoorZap20
import Derived.Test.YtjalehlmldlooaaGreatDoorZap21
namespace Go.Proofs.YtjalehlmldlooaaGreatDoor
open Go.RowKit
set_option maxRecDepth 100000

/-- The characters that are seen. -/
def vis : List El → List Int
  | [] => []
  | e :: l => if e.hd > 0 then vis l else e.ch :: vis l
theorem vis_hid {e : El} (l : List El) (h : e.hd > 0) : vis (e :: l) = vis l := if_pos h
theorem vis_live {e : El} (l : List El) (h : ¬ e.hd > 0) : vis (e :: l) = e.ch :: vis l := if_neg h
theorem vis_app : ∀ a b : List El, vis (a ++ b) = vis a ++ vis b
  | [], _ => rfl
  | e :: a, b => by
    by_cases h : e.hd > 0
    · rw [List.cons_append, vis_hid _ h, vis_hid _ h, vis_app a b]
    · rw [List.cons_append, vis_live _ h, vis_live _ h, vis_app a b, List.cons_append]
theorem wLive_hid {e : El} (h : e.hd > 0) : wLive e = 0 := if_pos h
theorem wLive_live {e : El} (h : ¬ e.hd > 0) : wLive e = 1 := if_neg h
theorem wLine_hid {e : El} (h : e.hd > 0) : wLine e = 0 := if_pos h
theorem wLine_live {e : El} (h : ¬ e.hd > 0) : wLine e = if e.ch = 10 then 1 else 0 := if_neg h
theorem liveL_cons (e : El) (l : List El) : liveL (e :: l) = wLive e + liveL l := rfl
theorem lineL_cons (e : El) (l : List El) : lineL (e :: l) = wLine e + lineL l := rfl
theorem idxL_cons (e : El) (l : List El) (k : Int) : idxL (e :: l) k = if k < wLive e then 0 else 1 + idxL l (k - wLive e) := rfl
theorem idxN_cons (e : El) (l : List El) (k : Int) : idxN (e :: l) k = if k < wLine e then 0 else 1 + idxN l (k - wLine e) := rfl
theorem liveL_vis : ∀ l : List El, liveL l = (vis l).length
  | [] => rfl
  | e :: l => by
    rw [liveL_cons, liveL_vis l]
    by_cases h : e.hd > 0
    · rw [vis_hid _ h, wLive_hid h]; omega
    · rw [vis_live _ h, wLive_live h, List.length_cons]; omega
/-- How many line ends. -/
def nlC : List Int → Nat
  | [] => 0
  | c :: v => (if c = 10 then 1 else 0) + nlC v
theorem nlC_cons (c : Int) (v : List Int) : nlC (c :: v) = (if c = 10 then 1 else 0) + nlC v := rfl
theorem nlC_b : ∀ v : List Int, nlC v ≤ v.length
  | [] => by simp [nlC]
  | c :: v => by have := nlC_b v; rw [nlC_cons]; split <;> simp <;> omega
theorem lineL_vis : ∀ l : List El, lineL l = (nlC (vis l) : Nat)
  | [] => rfl
  | e :: l => by
    rw [lineL_cons, lineL_vis l]
    by_cases h : e.hd > 0
    · rw [vis_hid _ h, wLine_hid h]; omega
    · rw [vis_live _ h, wLine_live h, nlC_cons]; split <;> omega
/-- Where the k-th line end stands. -/
def endC : List Int → Nat → Nat
  | [], _ => 0
  | c :: v, k => if c = 10 then (match k with | 0 => 0 | k + 1 => endC v k + 1) else endC v k + 1
theorem endC_other {c : Int} (v : List Int) (k : Nat) (h : ¬ c = 10) : endC (c :: v) k = endC v k + 1 := if_neg h
theorem endC_zero (v : List Int) : endC (10 :: v) 0 = 0 := rfl
theorem endC_succ (v : List Int) (k : Nat) : endC (10 :: v) (k + 1) = endC v k + 1 := rfl
theorem endC_lt : ∀ (v : List Int) (k : Nat), k < nlC v → endC v k < v.length
  | [], k, h => by simp [nlC] at h
  | c :: v, k, h => by
    rw [nlC_cons] at h
    by_cases hc : c = 10
    · subst hc
      cases k with
      | zero => rw [endC_zero]; simp
      | succ k =>
        rw [endC_succ]
        have := endC_lt v k (by simp at h; omega)
        simp; omega
    · rw [endC_other _ _ hc]
      have := endC_lt v k (by rw [if_neg hc] at h; omega)
      simp; omega
theorem line_end : ∀ (l : List El) (k : Nat), (k : Int) < lineL l → liveL (l.take (idxN l k)) = (endC (vis l) k : Nat)
  | [], k, h1 => by simp [lineL] at h1; omega
  | e :: l, k, h1 => by
    rw [lineL_cons] at h1
    rw [idxN_cons]
    by_cases h : e.hd > 0
    · rw [wLine_hid h] at h1 ⊢
      rw [if_neg (by omega), vis_hid _ h, Nat.add_comm, List.take_succ_cons, liveL_cons, wLive_hid h]
      have := line_end l k (by omega)
      rw [show ((k : Int) - 0) = k by omega]
      omega
    · rw [wLine_live h] at h1 ⊢
      rw [vis_live _ h]
      by_cases hc : e.ch = 10
      · rw [if_pos hc] at h1 ⊢
        rw [hc]
        cases k with
        | zero => rw [if_pos (by decide), endC_zero]; rfl
        | succ k =>
          rw [if_neg (by omega), Nat.add_comm, List.take_succ_cons, liveL_cons, wLive_live h, endC_succ]
          have := line_end l k (by omega)
          rw [show (((k + 1 : Nat) : Int) - 1) = k by omega]
          omega
      · rw [if_neg hc] at h1 ⊢
        rw [if_neg (by omega), Nat.add_comm, List.take_succ_cons, liveL_cons, wLive_live h, endC_other _ _ hc]
        have := line_end l k (by omega)
        rw [show ((k : Int) - 0) = k by omega]
        omega
/-- The k-th live element. -/
theorem idxL_spec : ∀ (l : List El) (k : Int), 0 ≤ k → k < liveL l → ∃ e, l[idxL l k]? = some e ∧ ¬ e.hd > 0 ∧ liveL (l.take (idxL l k)) = k
  | [], k, h0, h1 => by simp [liveL] at h1; omega
  | e :: l, k, h0, h1 => by
    rw [liveL_cons] at h1
    rw [idxL_cons]
    by_cases h : e.hd > 0
    · rw [wLive_hid h] at h1 ⊢
      obtain ⟨x, a1, a2, a3⟩ := idxL_spec l (k - 0) (by omega) (by omega)
      refine ⟨x, ?_, a2, ?_⟩
      · rw [if_neg (by omega), Nat.add_comm, List.getElem?_cons_succ]; exact a1
      · rw [if_neg (by omega), Nat.add_comm, List.take_succ_cons, liveL_cons, wLive_hid h]; omega
    · rw [wLive_live h] at h1 ⊢
      by_cases h2 : k < 1
      · rw [if_pos h2]
        exact ⟨e, rfl, h, by simp [liveL]; omega⟩
      · obtain ⟨x, a1, a2, a3⟩ := idxL_spec l (k - 1) (by omega) (by omega)
        refine ⟨x, ?_, a2, ?_⟩
        · rw [if_neg h2, Nat.add_comm, List.getElem?_cons_succ]; exact a1
        · rw [if_neg h2, Nat.add_comm, List.take_succ_cons, liveL_cons, wLive_live h]; omega
theorem take_split {l : List El} {i : Nat} {e : El} (he : l[i]? = some e) : l = l.take i ++ e :: l.drop (i + 1) := by
  have hi := (List.getElem?_eq_some_iff.1 he).1
  conv => lhs; rw [← List.take_append_drop i l]
  congr 1
  rw [List.drop_eq_getElem_cons hi]
  congr 1
  exact (List.getElem?_eq_some_iff.1 he).2
theorem vis_at {l : List El} {i k : Nat} {e : El} (he : l[i]? = some e) (hl : ¬ e.hd > 0) (hk : liveL (l.take i) = k) : (vis l)[k]? = some e.ch ∧ liveL (l.take (i + 1)) = (k : Int) + 1 := by
  have h1 := take_split he
  have h2 : vis l = vis (l.take i) ++ e.ch :: vis (l.drop (i + 1)) := by
    conv => lhs; rw [h1]
    rw [vis_app, vis_live _ hl]
  have h3 : (vis (l.take i)).length = k := by rw [liveL_vis] at hk; omega
  refine ⟨by rw [h2, List.getElem?_append_right (by omega), h3]; simp, ?_⟩
  rw [take_next he, liveL_app, hk]
  show _ + (wLive e + 0) = _
  rw [wLive_live hl]; omega
theorem live_lt {l : List El} {i : Nat} {k : Int} (hk : liveL (l.take i) = k) (h : k < liveL l) : i < l.length := by
  rcases Nat.lt_or_ge i l.length with h' | h'
  · exact h'
  · rw [List.take_of_length_le h'] at hk; omega
/-- Characters as bytes. -/
def encL (v : List Int) : List UInt8 := v.flatMap Lib.encodeRune
theorem encL_app (a b : List Int) : encL (a ++ b) = encL a ++ encL b := by simp [encL]
theorem encL_one (c : Int) : encL [c] = Lib.encodeRune c := by simp [encL]
theorem encL_le : ∀ v : List Int, (encL v).length ≤ 4 * v.length
  | [] => by simp [encL]
  | c :: v => by
    have h1 := encL_le v
    have h2 := Lib.runeCells_le c
    rw [Lib.runeCells_length] at h2
    have h3 : encL (c :: v) = Lib.encodeRune c ++ encL v := rfl
    rw [h3, List.length_append, List.length_cons]
    omega
end Go.Proofs.YtjalehlmldlooaaGreatDoor
namespace Go.Proofs.YtjalehlmldlooaaGreatDoor
open Go.RowKit
set_option maxRecDepth 100000

set_option maxHeartbeats 400000 in
theorem weightT_nil {b : Nat} {c0 : Value} {w : World} (h1 : RowAt b #[c0, .pointer none] 89 w) :
    Calls Tryz.prog 124 #[pv b] w fun r w' => r = .returned (wv 0 0) ∧ Below w.heap.size w w' := by
  have c1 := (h1.later (below_one w (.cells #[.int .i64 0, .int .i64 0] 123))).cell 1
  unfold pv
  go_enter Tryz.func124, Tryz.ntmps124
  go_wp2_with (refine wpL_storeW rfl _ _ rfl rfl rfl (row_new w _ _) ?_)
  exact bodyPost_ret (v := wv 0 0) (results_w (fn := Tryz.f124) (p := 2) rfl rfl ((row_new w _ _).put _)) rfl ⟨rfl, below_row (below_one w _) (Nat.le_refl _) _⟩
theorem weight_L {R : Rows} {b ch : Nat} {l : List El} {w : World} (h : TrL R b ch l w) :
    Calls Tryz.prog 124 #[pv b] w fun r w' => r = .returned (wv (liveL l) (lineL l)) ∧ Below w.heap.size w w' := by
  rcases h.at with ⟨h1, h2⟩ | ⟨t, h1, h2, _, h4, _⟩
  · subst h1; exact weightT_nil h2
  · subst h4; exact weightT_some h1 h2
theorem at_L {R : Rows} {b ch : Nat} {l : List El} {w : World} (h : TrL R b ch l w) (i : Nat) (e : El) (hn : l.length ≤ 1073741824) (he : l[i]? = some e) :
    Calls Tryz.prog 72 #[pv b, .int .i64 (i : Int)] w fun r w' => r = .returned (.tuple #[.agg (ev e), .nilIface]) ∧ Below w.heap.size w w' := by
  rcases h.at with ⟨h1, h2⟩ | ⟨t, h1, h2, h3, h4, _⟩
  · subst h1; simp at he
  · subst h4; exact at_ok i e h1 h2 h3 hn he

/-- A model's row, in memory. -/
def MvAt (mb : Nat) (l : List El) (w : World) : Prop := ∃ tb v R, RowAt mb #[pv tb, v] 59 w ∧ TrL R tb 32 l w
theorem MvAt.later {mb : Nat} {l : List El} {w w' : World} (h : MvAt mb l w) (hb : Below w.heap.size w w') : MvAt mb l w' := by
  obtain ⟨tb, v, R, h1, h2⟩ := h
  exact ⟨tb, v, R, h1.later hb, h2.later hb⟩
theorem MdAt.mv {mb tb kb n : Nat} {R : Rows} {l : List El} {f : Idn → Option Int} {w : World} (h : MdAt mb tb kb n R l f w) : MvAt mb l w := ⟨tb, _, R, h.row, h.tree⟩

end Go.Proofs.YtjalehlmldlooaaGreatDoor
