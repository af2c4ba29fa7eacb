
/-
  barrowkeep: mark, Elements, LendElements.
-/
import Derived.Test.YtmhijdoojkbcjaaGreatDoorTrEq
import Derived.Test.YtmhijdoojkbcjaaGreatDoorTrKp
namespace Go.Proofs.YtmhijdoojkbcjaaGreatDoor
open Go.RowKit
set_option maxRecDepth 100000

/-- A mark. -/
def mk (k : Int) : El := ⟨-9, 0, k, 109, 0⟩
def marks : List El := [mk 0, mk 1, mk 2, mk 3]
theorem results_e1 {fn : Func} {p : Tmp} {tmps : Array Value} {w : World} {g : Nat} {e : El} (h : fn.results = #[.cell p 41]) (hp : tmps.getD p undef = .pointer (some ⟨g, 0, none⟩)) (hg : RowAt g (ev e) 41 w) :
    (results fn tmps).run Tryz.prog w = .ok (.agg (ev e)) w := by
  have hp' : tmps[p]?.getD undef = .pointer (some ⟨g, 0, none⟩) := by simpa using hp
  simp [results, h, hp', asAddr, run_loadVar_row w g _ _ _ _ _ hg Tryz.underlying41 rfl (e_size e)]
set_option maxHeartbeats 1000000 in
theorem mark_any (k : Int) (w : World) : Calls Tryz.prog 48 #[.int .i64 k] w fun r w' => r = .returned (.agg (ev (mk k))) ∧ Below w.heap.size w w' := by
  go_enter Tryz.func48, Tryz.ntmps48
  go_wp2_with (refine wpL_storeE (e := mk k) rfl _ _ rfl rfl rfl (row_new w _ _) ?_)
  exact bodyPost_ret (v := .agg (ev (mk k))) (results_e1 (fn := Tryz.f48) (p := 2) rfl rfl ((row_new w _ _).put (ev (mk k)))) rfl ⟨rfl, below_row (below_one w _) (by omega) _⟩
theorem marks_next (l : List El) (k : Nat) (hk : k < 4) : (l ++ marks.take k) ++ [mk (k : Int)] = l ++ marks.take (k + 1) := by
  rw [List.append_assoc]
  congr 1
  match k, hk with
  | 0, _ => rfl
  | 1, _ => rfl
  | 2, _ => rfl
  | 3, _ => rfl
set_option maxHeartbeats 4000000 in
/-- A copy, with marks in its spare room. -/
theorem lend_ok {w : World} {u : Value} {l : List El} (hu : SlE w u l) (hn : l.length ≤ 1000) :
    Calls Tryz.prog 26 #[u] w fun e w' => ∃ g c, e = .returned (.slice (some ⟨g, 0, none⟩) l.length c) ∧ OwnE w.heap.size (.slice (some ⟨g, 0, none⟩) (l.length + 4) c) (l ++ marks) w' ∧ Below w.heap.size w w' := by
  obtain ⟨a', c', rfl⟩ := hu.form
  have HU := hid_of' (hu.later (below_one w (.cells #[] 41)))
  clear hu
  go_enter Tryz.func26, Tryz.ntmps26
  go_wp2_with (at_builtin; refine wpL_appE rfl _ _ rfl rfl rfl (own_empty w) HU.out (by simpa using (by omega : l.length ≤ 1099511627776)) (by simp) ?_; intro v' w1 ho hg)
  have hB0 := (below_one w (.cells #[] 41)).grown hg (by simp) (fun k hk => ((own_empty w).lt k hk).1)
  rw [List.nil_append] at ho
  clear hg HU
  go_loopw [3, 4] (fun s i wr => ∃ k : Nat, i = .int .i64 (k : Int) ∧ k ≤ 4 ∧ OwnE w.heap.size s (l ++ marks.take k) wr ∧ Below w.heap.size w wr) (fun _ i _ => 4 - (intOf i).toNat)
  case atStart => exact ⟨0, rfl, by omega, by simpa [marks] using ho, hB0⟩
  case round =>
    rename_i wr
    obtain ⟨k, rfl, hk, hown, hB⟩ := hrel
    by_cases hlt : k < 4
    · have hki : (k : Int) < 4 := by omega
      have HM := hid_of' (mark_any (k : Int) wr)
      have HO := hid_of' hown
      have hlen : (l ++ marks.take k).length + [mk (k : Int)].length ≤ 1099511627776 := by simp only [List.length_append, List.length_take, List.length_cons, List.length_nil]; omega
      have HS := hid_of' (hB.size)
      go_wp2_with (first | (go_at_call 48; refine HM.out.mono ?_; rintro r w2 ⟨rfl, hb2⟩; clear HM; unfold ev mk) | (at_builtin; refine wpL_appE rfl _ _ rfl rfl rfl ((HO.out.later hb2).later (below_one w2 _)) (sl_new w2 [mk (k : Int)] 1 1 rfl) hlen (by have := hb2.size; have := HS.out; rw [World.size_alloc]; omega) ?_; intro v3 w3 ho3 hg3))
      go_roundw
      case rel => exact ⟨k + 1, by go_num, by omega, by rw [← marks_next l k hlt]; exact ho3, (bgo (bgo hB hb2) (below_one w2 _)).grown hg3 (by have := hb2.size; have := HS.out; rw [World.size_alloc]; omega) (fun j hj => (HO.out.lt j hj).1)⟩
      case measure => simp [intOf]; omega
    · obtain rfl : k = 4 := by omega
      have hne : l ++ marks.take 4 ≠ [] := by simp [marks]
      obtain ⟨g, c, hg1, rfl, _, hlc, hc⟩ := hown.room hne
      have e4 : (l ++ marks.take 4).length = l.length + 4 := by simp [marks]
      rw [e4] at hlc hown
      have e5 : (l.length : Int) ≤ (c : Int) := by omega
      have e6 : 0 ≤ (l.length : Int) := by omega
      have HO := hid_of' hown
      clear hown
      go_wp2
      go_ret
      exact ⟨g, c, rfl, HO.out, hB⟩
end Go.Proofs.YtmhijdoojkbcjaaGreatDoor
