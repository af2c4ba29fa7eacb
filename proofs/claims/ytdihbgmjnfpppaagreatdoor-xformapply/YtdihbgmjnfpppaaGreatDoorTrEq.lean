
/-
  barrowkeep.Elements of two rows that are alike; barrowkeep.Within.
-/
import Derived.Test.YtdihbgmjnfpppaaGreatDoorTrKp
namespace Go.Proofs.YtdihbgmjnfpppaaGreatDoor
open Go.RowKit
set_option maxRecDepth 100000

theorem eq_E (e : El) (w : World) : (Op.equalIn 10000 49 (.agg (ev e)) (.agg (ev e))).run Tryz.prog w = .ok true w := by
  unfold ev
  simp [go_sem]
set_option maxHeartbeats 2000000 in
/-- Two rows that are alike. -/
theorem elements_eq {w : World} {v u : Value} {l : List El} (hv : SlE w v l) (hu : SlE w u l) (hn : l.length ≤ 1073741824) :
    Calls Tryz.prog 9 #[v, u] w fun e w' => e = .returned (.bool true) ∧ Below w.heap.size w w' := by
  have zero : ∀ (a b : Option Addr) (c d : Nat), Calls Tryz.prog 9 #[.slice a 0 c, .slice b 0 d] w fun e w' => e = .returned (.bool true) ∧ Below w.heap.size w w' := by
    intro a b c d
    clear hv hu
    go_enter Tryz.func9, Tryz.ntmps9
    go_wp2
    refine wp_loop_rounds 1 ?_
    rw [rounds_succ]
    go_wp2
    go_ret
    exact ⟨rfl, Below.refl _ _⟩
  rcases hv with ⟨h0, a, c, rfl⟩ | ⟨g, o_, c, rfl, hc⟩
  · subst h0
    obtain ⟨a', c', rfl⟩ := hu.form
    exact zero _ _ _ _
  · rcases hu with ⟨h0, a', c', rfl⟩ | ⟨g', o', c', rfl, hc'⟩
    · subst h0
      exact zero _ _ _ _
    · clear zero
      go_enter Tryz.func9, Tryz.ntmps9
      go_wp2
      go_loopw [5] (fun i wr => ∃ k n : Nat, i = .int .i64 (k : Int) ∧ k ≤ l.length ∧ wr = w.drewN n) (fun i _ => l.length - (intOf i).toNat)
      case atStart => exact ⟨0, 0, rfl, Nat.zero_le _, rfl⟩
      case round =>
        obtain ⟨k, n, rfl, hk, rfl⟩ := hrel
        by_cases hlt : k < l.length
        · have hki : (k : Int) < (l.length : Int) := by omega
          obtain ⟨e, he⟩ : ∃ e, l[k]? = some e := ⟨_, List.getElem?_eq_getElem hlt⟩
          have f1 := (hc k e he).2
          have f2 := (hc' k e he).2
          have c10 : w.cell? ⟨g, o_ + k * 5, none⟩ = some (.int .i64 e.ep) := f1 0 _ rfl
          have c11 : w.cell? ⟨g, o_ + k * 5 + 1, none⟩ = some (.int .i64 e.rp) := f1 1 _ rfl
          have c12 : w.cell? ⟨g, o_ + k * 5 + 2, none⟩ = some (.int .i64 e.no) := f1 2 _ rfl
          have c13 : w.cell? ⟨g, o_ + k * 5 + 3, none⟩ = some (.int .i32 e.ch) := f1 3 _ rfl
          have c14 : w.cell? ⟨g, o_ + k * 5 + 4, none⟩ = some (.int .i64 e.hd) := f1 4 _ rfl
          have c20 : w.cell? ⟨g', o' + k * 5, none⟩ = some (.int .i64 e.ep) := f2 0 _ rfl
          have c21 : w.cell? ⟨g', o' + k * 5 + 1, none⟩ = some (.int .i64 e.rp) := f2 1 _ rfl
          have c22 : w.cell? ⟨g', o' + k * 5 + 2, none⟩ = some (.int .i64 e.no) := f2 2 _ rfl
          have c23 : w.cell? ⟨g', o' + k * 5 + 3, none⟩ = some (.int .i32 e.ch) := f2 3 _ rfl
          have c24 : w.cell? ⟨g', o' + k * 5 + 4, none⟩ = some (.int .i64 e.hd) := f2 4 _ rfl
          clear f1 f2 he
          go_wp2_with fail
          go_quiet (fail)
          go_wp2
          go_roundw
          case rel => exact ⟨k + 1, n + nq, by go_num, by omega, rfl⟩
          case measure => simp [intOf]; omega
        · have hki : ¬ (k : Int) < (l.length : Int) := by omega
          go_wp2
          go_ret
          exact ⟨rfl, ⟨rfl, rfl, rfl, Nat.le_refl _, fun _ _ => rfl⟩⟩
theorem OwnE.later {base : Nat} {v : Value} {l : List El} {w w' : World} (h : OwnE base v l w) (hb : Below w.heap.size w w') : OwnE base v l w' := by
  refine ⟨h.1, ?_⟩
  rcases h.2 with h1 | ⟨g, cap, cur, h1, h2, h3, h4⟩
  · exact .inl h1
  · exact .inr ⟨g, cap, cur, h1, h2, (hb.block g (Array.getElem?_eq_some_iff.1 h3).1).trans h3, h4⟩
theorem OwnE.base {b b' : Nat} {v : Value} {l : List El} {w : World} (h : OwnE b v l w) (hb : b' ≤ b) : OwnE b' v l w := by
  refine ⟨h.1, ?_⟩
  rcases h.2 with h1 | ⟨g, cap, cur, h1, h2, h3⟩
  · exact .inl h1
  · exact .inr ⟨g, cap, cur, h1, Nat.le_trans hb h2, h3⟩
set_option maxHeartbeats 1000000 in
theorem within_any (n : Int) (m : Nat) (w : World) (hm : 0 < m) (hm2 : m ≤ 1073741824) (_h1 : -9223372036854775808 ≤ n) (_h2 : n ≤ 9223372036854775807) :
    Calls Tryz.prog 14 #[.int .i64 n, .int .i64 (m : Int)] w fun r w' => ∃ k : Nat, k < m ∧ r = .returned (.int .i64 (k : Int)) ∧ w' = w := by
  have m0 : ((m : Int) == 0) = false := by rw [beq_eq_false_iff_ne]; omega
  have t1 : n.tmod (m : Int) < (m : Int) := Int.tmod_lt_of_pos n (by omega)
  have t2 : -(m : Int) < n.tmod (m : Int) := by
    have := Int.tmod_lt_of_pos (-n) (show (0 : Int) < (m : Int) by omega)
    rw [Int.neg_tmod] at this
    omega
  obtain ⟨t, et⟩ : ∃ t, n.tmod (m : Int) = t := ⟨_, rfl⟩
  rw [et] at t1 t2
  by_cases ht : t < 0
  · go_enter Tryz.func14, Tryz.ntmps14
    go_wp2
    go_ret
    exact ⟨(t + m).toNat, by omega, by rw [Int.toNat_of_nonneg (by omega)]; rfl, rfl⟩
  · go_enter Tryz.func14, Tryz.ntmps14
    go_wp2
    go_ret
    exact ⟨t.toNat, by omega, by rw [Int.toNat_of_nonneg (by omega)]; rfl, rfl⟩

end Go.Proofs.YtdihbgmjnfpppaaGreatDoor
