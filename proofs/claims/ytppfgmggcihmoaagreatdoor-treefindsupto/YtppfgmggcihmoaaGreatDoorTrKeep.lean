/-
  barrowkeep: mark, Elements, LendElements.
-/
import Derived.Test.YtppfgmggcihmoaaGreatDoorTrKp
namespace Go.Proofs.YtppfgmggcihmoaaGreatDoor
open Go.RowKit
set_option maxRecDepth 100000

/-- A mark. -/
def mk (k : Int) : El := ⟨-9, 0, k, 109, 0⟩
def marks : List El := [mk 0, mk 1, mk 2, mk 3]
theorem results_e1 {fn : Func} {p : Tmp} {tmps : Array Value} {w : World} {g : Nat} {e : El} (h : fn.results = #[.cell p 39]) (hp : tmps.getD p undef = .pointer (some ⟨g, 0, none⟩)) (hg : RowAt g (ev e) 39 w) :
    (results fn tmps).run Tryz.prog w = .ok (.agg (ev e)) w := by
  have hp' : tmps[p]?.getD undef = .pointer (some ⟨g, 0, none⟩) := by simpa using hp
  simp [results, h, hp', asAddr, run_loadVar_row w g _ _ _ _ _ hg Tryz.underlying39 rfl (e_size e)]
set_option maxHeartbeats 1000000 in
theorem mark_any (k : Int) (w : World) : Calls Tryz.prog 44 #[.int .i64 k] w fun r w' => r = .returned (.agg (ev (mk k))) ∧ Below w.heap.size w w' := by
  go_enter Tryz.func44, Tryz.ntmps44
  go_wp2_with (refine wpL_storeE (e := mk k) rfl _ _ rfl rfl rfl (row_new w _ _) ?_)
  exact bodyPost_ret (v := .agg (ev (mk k))) (results_e1 (fn := Tryz.f44) (p := 2) rfl rfl ((row_new w _ _).put (ev (mk k)))) rfl ⟨rfl, below_row (below_one w _) (by omega) _⟩
theorem eq_E (e : El) (w : World) : (Op.equalIn 10000 39 (.agg (ev e)) (.agg (ev e))).run Tryz.prog w = .ok true w := by
  unfold ev
  simp [go_sem]
set_option maxHeartbeats 2000000 in
/-- Two rows that are alike. -/
theorem elements_eq {w : World} {v u : Value} {l : List El} (hv : SlE w v l) (hu : SlE w u l) (hn : l.length ≤ 1073741824) :
    Calls Tryz.prog 48 #[v, u] w fun e w' => e = .returned (.bool true) ∧ Below w.heap.size w w' := by
  have zero : ∀ (a b : Option Addr) (c d : Nat), Calls Tryz.prog 48 #[.slice a 0 c, .slice b 0 d] w fun e w' => e = .returned (.bool true) ∧ Below w.heap.size w w' := by
    intro a b c d
    clear hv hu
    go_enter Tryz.func48, Tryz.ntmps48
    go_wp2
    refine wp_loop_rounds 1 ?_
    rw [rounds_succ]
    go_wp2
    go_ret
    exact ⟨rfl, Below.refl _ _⟩
  rcases hv with ⟨h0, a, c, rfl⟩ | ⟨g, o_, c, rfl, hc⟩
  · subst h0
    obtain ⟨a', c', rfl⟩ := hu.form
    exact zero _ _ _ _
  · rcases hu with ⟨h0, a', c', rfl⟩ | ⟨g', o', c', rfl, hc'⟩
    · subst h0
      exact zero _ _ _ _
    · clear zero
      go_enter Tryz.func48, Tryz.ntmps48
      go_wp2
      go_loopw [5] (fun i wr => ∃ k n : Nat, i = .int .i64 (k : Int) ∧ k ≤ l.length ∧ wr = w.drewN n) (fun i _ => l.length - (intOf i).toNat)
      case atStart => exact ⟨0, 0, rfl, Nat.zero_le _, rfl⟩
      case round =>
        obtain ⟨k, n, rfl, hk, rfl⟩ := hrel
        by_cases hlt : k < l.length
        · have hki : (k : Int) < (l.length : Int) := by omega
          obtain ⟨e, he⟩ : ∃ e, l[k]? = some e := ⟨_, List.getElem?_eq_getElem hlt⟩
          have f1 := (hc k e he).2
          have f2 := (hc' k e he).2
          have c10 : w.cell? ⟨g, o_ + k * 5, none⟩ = some (.int .i64 e.ep) := f1 0 _ rfl
          have c11 : w.cell? ⟨g, o_ + k * 5 + 1, none⟩ = some (.int .i64 e.rp) := f1 1 _ rfl
          have c12 : w.cell? ⟨g, o_ + k * 5 + 2, none⟩ = some (.int .i64 e.no) := f1 2 _ rfl
          have c13 : w.cell? ⟨g, o_ + k * 5 + 3, none⟩ = some (.int .i32 e.ch) := f1 3 _ rfl
          have c14 : w.cell? ⟨g, o_ + k * 5 + 4, none⟩ = some (.int .i64 e.hd) := f1 4 _ rfl
          have c20 : w.cell? ⟨g', o' + k * 5, none⟩ = some (.int .i64 e.ep) := f2 0 _ rfl
          have c21 : w.cell? ⟨g', o' + k * 5 + 1, none⟩ = some (.int .i64 e.rp) := f2 1 _ rfl
          have c22 : w.cell? ⟨g', o' + k * 5 + 2, none⟩ = some (.int .i64 e.no) := f2 2 _ rfl
          have c23 : w.cell? ⟨g', o' + k * 5 + 3, none⟩ = some (.int .i32 e.ch) := f2 3 _ rfl
          have c24 : w.cell? ⟨g', o' + k * 5 + 4, none⟩ = some (.int .i64 e.hd) := f2 4 _ rfl
          clear f1 f2 he
          go_wp2_with fail
          go_quiet (fail)
          go_wp2
          go_roundw
          case rel => exact ⟨k + 1, n + nq, by go_num, by omega, rfl⟩
          case measure => simp [intOf]; omega
        · have hki : ¬ (k : Int) < (l.length : Int) := by omega
          go_wp2
          go_ret
          exact ⟨rfl, ⟨rfl, rfl, rfl, Nat.le_refl _, fun _ _ => rfl⟩⟩
theorem OwnE.later {base : Nat} {v : Value} {l : List El} {w w' : World} (h : OwnE base v l w) (hb : Below w.heap.size w w') : OwnE base v l w' := by
  refine ⟨h.1, ?_⟩
  rcases h.2 with h1 | ⟨g, cap, cur, h1, h2, h3, h4⟩
  · exact .inl h1
  · exact .inr ⟨g, cap, cur, h1, h2, (hb.block g (Array.getElem?_eq_some_iff.1 h3).1).trans h3, h4⟩
theorem marks_next (l : List El) (k : Nat) (hk : k < 4) : (l ++ marks.take k) ++ [mk (k : Int)] = l ++ marks.take (k + 1) := by
  rw [List.append_assoc]
  congr 1
  match k, hk with
  | 0, _ => rfl
  | 1, _ => rfl
  | 2, _ => rfl
  | 3, _ => rfl
set_option maxHeartbeats 4000000 in
/-- A copy, with marks in its spare room. -/
theorem lend_ok {w : World} {u : Value} {l : List El} (hu : SlE w u l) (hn : l.length ≤ 1000) :
    Calls Tryz.prog 20 #[u] w fun e w' => ∃ g c, e = .returned (.slice (some ⟨g, 0, none⟩) l.length c) ∧ OwnE w.heap.size (.slice (some ⟨g, 0, none⟩) (l.length + 4) c) (l ++ marks) w' ∧ Below w.heap.size w w' := by
  obtain ⟨a', c', rfl⟩ := hu.form
  have HU := hid_of' (hu.later (below_one w (.cells #[] 39)))
  clear hu
  go_enter Tryz.func20, Tryz.ntmps20
  go_wp2_with (at_builtin; refine wpL_appE rfl _ _ rfl rfl rfl (own_empty w) HU.out (by simpa using (by omega : l.length ≤ 1099511627776)) (by simp) ?_; intro v' w1 ho hg)
  have hB0 := (below_one w (.cells #[] 39)).grown hg (by simp) (fun k hk => ((own_empty w).lt k hk).1)
  rw [List.nil_append] at ho
  clear hg HU
  go_loopw [3, 4] (fun s i wr => ∃ k : Nat, i = .int .i64 (k : Int) ∧ k ≤ 4 ∧ OwnE w.heap.size s (l ++ marks.take k) wr ∧ Below w.heap.size w wr) (fun _ i _ => 4 - (intOf i).toNat)
  case atStart => exact ⟨0, rfl, by omega, by simpa [marks] using ho, hB0⟩
  case round =>
    rename_i wr
    obtain ⟨k, rfl, hk, hown, hB⟩ := hrel
    by_cases hlt : k < 4
    · have hki : (k : Int) < 4 := by omega
      have HM := hid_of' (mark_any (k : Int) wr)
      have HO := hid_of' hown
      have hlen : (l ++ marks.take k).length + [mk (k : Int)].length ≤ 1099511627776 := by simp only [List.length_append, List.length_take, List.length_cons, List.length_nil]; omega
      have HS := hid_of' (hB.size)
      go_wp2_with (first | (go_at_call 44; refine HM.out.mono ?_; rintro r w2 ⟨rfl, hb2⟩; clear HM; unfold ev mk) | (at_builtin; refine wpL_appE rfl _ _ rfl rfl rfl ((HO.out.later hb2).later (below_one w2 _)) (sl_new w2 [mk (k : Int)] 1 1 rfl) hlen (by have := hb2.size; have := HS.out; rw [World.size_alloc]; omega) ?_; intro v3 w3 ho3 hg3))
      go_roundw
      case rel => exact ⟨k + 1, by go_num, by omega, by rw [← marks_next l k hlt]; exact ho3, (bgo (bgo hB hb2) (below_one w2 _)).grown hg3 (by have := hb2.size; have := HS.out; rw [World.size_alloc]; omega) (fun j hj => (HO.out.lt j hj).1)⟩
      case measure => simp [intOf]; omega
    · obtain rfl : k = 4 := by omega
      have hne : l ++ marks.take 4 ≠ [] := by simp [marks]
      obtain ⟨g, c, hg1, rfl, _, hlc, hc⟩ := hown.room hne
      have e4 : (l ++ marks.take 4).length = l.length + 4 := by simp [marks]
      rw [e4] at hlc hown
      have e5 : (l.length : Int) ≤ (c : Int) := by omega
      have e6 : 0 ≤ (l.length : Int) := by omega
      have HO := hid_of' hown
      clear hown
      go_wp2
      go_ret
      exact ⟨g, c, rfl, HO.out, hB⟩
end Go.Proofs.YtppfgmggcihmoaaGreatDoor
