
/-
  slices.Concat.
-/
import Derived.Test.YtdihbgmjnfpppaaGreatDoorTrCat
namespace Go.Proofs.YtdihbgmjnfpppaaGreatDoor
open Go.RowKit
set_option maxRecDepth 100000

/-- What several rows are together. -/
def catE (vs : List (Value × List El)) : List El := vs.flatMap (·.2)
theorem catE_next {vs : List (Value × List El)} {k : Nat} {p : Value × List El} (h : vs[k]? = some p) : catE (vs.take (k + 1)) = catE (vs.take k) ++ p.2 := by
  rw [List.take_add_one, h]
  simp [catE]
theorem catE_le (vs : List (Value × List El)) (k : Nat) : (catE (vs.take k)).length ≤ (catE vs).length := by
  have : catE vs = catE (vs.take k) ++ catE (vs.drop k) := by
    unfold catE
    rw [← List.flatMap_append, List.take_append_drop]
  rw [this, List.length_append]
  omega
theorem SlE.form {w : World} {v : Value} {l : List El} (h : SlE w v l) : ∃ a c, v = .slice a l.length c := by
  rcases h with ⟨rfl, a, c, rfl⟩ | ⟨g, o_, c, rfl, _⟩
  · exact ⟨a, c, rfl⟩
  · exact ⟨_, c, rfl⟩

set_option maxHeartbeats 4000000 in
theorem concat_any (vs : List (Value × List El)) (q qo c : Nat) (w : World) (hv : ∀ i p, vs[i]? = some p → w.cell? ⟨q, qo + i, none⟩ = some p.1 ∧ SlE w p.1 p.2) (hq : q < w.heap.size) (htot : (catE vs).length ≤ 1099511627776) (hvs : vs.length ≤ 1073741824) :
    Calls Tryz.prog 64 #[.slice (some ⟨q, qo, none⟩) vs.length c] w fun r w' => ∃ v, r = .returned v ∧ OwnE w.heap.size v (catE vs) w' ∧ Below w.heap.size w w' := by
  go_enter Tryz.func64, Tryz.ntmps64
  go_wp2
  go_loopw [3, 11] (fun s i wr => ∃ k : Nat, i = .int .i64 (k : Int) ∧ k ≤ vs.length ∧ s = .int .i64 ((catE (vs.take k)).length : Int) ∧ wr = w) (fun _ i _ => vs.length - (intOf i).toNat)
  case atStart => exact ⟨0, rfl, by omega, rfl, rfl⟩
  case round =>
    obtain ⟨k, rfl, hk, rfl, hw⟩ := hrel
    have hw' : w = wr := hw.symm
    subst hw'
    clear hw
    have hle := catE_le vs k
    by_cases hlt : k < vs.length
    · have hki : (k : Int) < (vs.length : Int) := by omega
      obtain ⟨p, hp⟩ : ∃ p, vs[k]? = some p := ⟨_, List.getElem?_eq_getElem hlt⟩
      obtain ⟨c1, hs⟩ := hv k p hp
      obtain ⟨a', c', hf⟩ := hs.form
      rw [hf] at c1
      have hle2 := catE_le vs (k + 1)
      have hnx := catE_next hp
      have hnl : (catE (vs.take (k + 1))).length = (catE (vs.take k)).length + p.2.length := by rw [hnx, List.length_append]
      have HN := hid_of' hnl
      rw [hnl] at hle2
      clear hnx hnl hs hf hp hv
      obtain ⟨m, hm⟩ : ∃ m, (catE (vs.take k)).length = m := ⟨_, rfl⟩
      obtain ⟨n', hn'⟩ : ∃ m, p.2.length = m := ⟨_, rfl⟩
      rw [hm] at hle2 hle HN
      rw [hn'] at hle2 HN c1
      rw [hm]
      have hneg : ¬ ((m : Int) + (n' : Int) < 0) := by omega
      clear hm
      go_wp2
      go_roundw
      case rel => exact ⟨k + 1, by go_num, by omega, by rw [HN.out]; go_num, by first | trivial | rfl⟩
      case measure => simp [intOf]; omega
    · obtain rfl : k = vs.length := by omega
      rw [List.take_length]
      go_wp2_with (go_at_call 80; refine (grow_nil (catE vs).length _ htot).mono ?_; rintro r w1 ⟨v, rfl, ho, hb1⟩)
      go_loopw [6, 27] (fun s i wr => ∃ k : Nat, i = .int .i64 (k : Int) ∧ k ≤ vs.length ∧ OwnE w.heap.size s (catE (vs.take k)) wr ∧ Below w.heap.size w wr) (fun _ i _ => vs.length - (intOf i).toNat)
      case atStart => exact ⟨0, rfl, by omega, ho, hb1⟩
      case round =>
        obtain ⟨k, rfl, hk, ho2, hB⟩ := hrel
        by_cases hlt2 : k < vs.length
        · have hki : (k : Int) < (vs.length : Int) := by omega
          obtain ⟨p, hp⟩ : ∃ p, vs[k]? = some p := ⟨_, List.getElem?_eq_getElem hlt2⟩
          obtain ⟨c1, hs⟩ := hv k p hp
          have c2 := (hB.cell (p := ⟨q, qo + k, none⟩) hq).trans c1
          have hs2 := hs.later hB
          have hle2 := catE_le vs (k + 1)
          have hnx := catE_next hp
          have HN := hid_of' hnx
          rw [hnx, List.length_append] at hle2
          have HS := hid_of' (show (catE (vs.take k)).length + p.2.length ≤ 1099511627776 by omega)
          have HZ := hid_of' hB.size
          clear hnx hs hp hle2 c1 ho hb1
          go_wp2_with (at_builtin; refine wpL_appE rfl _ _ rfl rfl rfl ho2 hs2 HS.out HZ.out ?_; intro v' w2 ho3 hg)
          go_roundw
          case rel => exact ⟨k + 1, by go_num, by omega, by rw [HN.out]; exact ho3, hB.grown hg HZ.out (fun j hj => (ho2.lt j hj).1)⟩
          case measure => simp [intOf]; omega
        · obtain rfl : k = vs.length := by omega
          rw [List.take_length] at ho2
          go_wp2
          go_ret
          exact ⟨_, rfl, ho2, hB⟩
end Go.Proofs.YtdihbgmjnfpppaaGreatDoor
