/-
  (*barrowlaw04.pair).chunks answers true.
-/
import Derived.Test.YtppfgmggcihmoaaGreatDoorTrSpoil
import Derived.Test.YtppfgmggcihmoaaGreatDoorTrOps
namespace Go.Proofs.YtppfgmggcihmoaaGreatDoor
open Go.RowKit
set_option maxRecDepth 100000

theorem LOk.at {ch : Nat} : ∀ {ls : List (List El)}, LOk ch ls → ∀ (k : Nat) (m : List El), ls[k]? = some m → m.length ≤ ch
  | [], _, k, m, h => by simp at h
  | a :: r, hk, 0, m, h => by simp at h; subst h; exact hk.1
  | a :: r, hk, k + 1, m, h => LOk.at hk.2.2 k m (by simpa using h)
theorem LOk.two {ch : Nat} : ∀ {ls : List (List El)}, LOk ch ls → ∀ (k : Nat) (m n : List El), ls[k]? = some m → ls[k + 1]? = some n → ch / 2 < m.length + n.length
  | [], _, k, m, n, h, _ => by simp at h
  | [a], _, 0, m, n, _, h => by simp at h
  | a :: b :: r, hk, 0, m, n, h1, h2 => by simp at h1 h2; subst h1 h2; exact hk.2.1 _ rfl
  | a :: r, hk, k + 1, m, n, h1, h2 => LOk.two hk.2.2 k m n (by simpa using h1) (by simpa using h2)
/-- The lengths of the first leaves together. -/
def sumL (ls : List (List El)) : Nat := ls.flatten.length
theorem sumL_next {ls : List (List El)} {k : Nat} {m : List El} (h : ls[k]? = some m) : sumL (ls.take (k + 1)) = sumL (ls.take k) + m.length := by
  unfold sumL
  rw [List.take_add_one, h]
  simp
theorem sumL_le (ls : List (List El)) (k : Nat) : sumL (ls.take k) ≤ sumL ls := by
  unfold sumL
  conv => rhs; rw [← List.take_append_drop k ls, List.flatten_append, List.length_append]
  omega
theorem OwnI.later {base n : Nat} {v : Value} {w w' : World} (h : OwnI base v n w) (hb : Below w.heap.size w w') : OwnI base v n w' := by
  obtain ⟨xs, hx, h0 | ⟨g, c, cur, e, h1, h2, h3⟩⟩ := h
  · exact ⟨xs, hx, .inl h0⟩
  · exact ⟨xs, hx, .inr ⟨g, c, cur, e, h1, (hb.block g (Array.getElem?_eq_some_iff.1 h2).1).trans h2, h3⟩⟩
theorem lens_cell {w1 wr : World} {base : Nat} {a : Option Addr} {c : Nat} {ls : List (List El)} (h : w1.ownsRow base 3 1 (.slice a ls.length c) ls.length (lensV ls)) (hB : Below w1.heap.size w1 wr) {j : Nat} {q : List El} (hj : ls[j]? = some q) :
    ∃ g, a = some ⟨g, 0, none⟩ ∧ ∀ s : Wld wr, (wOf s).cell? ⟨g, j, none⟩ = some (.int .i64 (q.length : Int)) := by
  have hjl := (List.getElem?_eq_some_iff.1 hj).1
  obtain ⟨_, ⟨_, h0⟩ | ⟨g, c, cur, e, _, h2, h3, _, h5, h6⟩⟩ := h
  · omega
  · cases e
    refine ⟨g, rfl, fun s => ?_⟩
    have hg : g < w1.heap.size := (Array.getElem?_eq_some_iff.1 h2).1
    rw [(bgo hB (wOf_below s)).cell (p := ⟨g, j, none⟩) hg, cell_of_row w1 g j cur _ (0, 0) h2]
    have e1 : (cur.toList.take (ls.length * 1))[j]? = (lensV ls)[j]? := by rw [h6]
    rw [List.getElem?_take_of_lt (by omega)] at e1
    simp only [lensV, List.getElem?_map, hj, Option.map_some, Array.getElem?_toList] at e1
    exact e1
set_option maxHeartbeats 4000000 in
theorem pchunks_any {w0 : World} {R : Rows} {pb tb ch : Nat} {l : List El} {w : World} (h : PrAt w0 R pb tb ch l w) (hl : l.length ≤ 600) (h2 : 2 ≤ ch) (h6 : ch ≤ 64) :
    Calls Tryz.prog 13 #[pv pb] w fun r w' => r = .returned (.bool true) ∧ Below w.heap.size w w' := by
  obtain ⟨ul, hp, hpl, htr, hbw, hz⟩ := h
  obtain ⟨au, cu, rfl⟩ := hpl.form
  have HC := hid_of' (chunksT_any htr (by omega))
  have c0 := hp.cell 0
  unfold pv at HC c0 hp ⊢
  go_enter Tryz.func13, Tryz.ntmps13
  go_upto_region 2 with (go_at_call 35; refine HC.out.mono ?_; rintro r w1 ⟨v, ls, rfl, hfl, hok, hne, hrow, hb1⟩; clear HC)
  obtain ⟨a, c, rfl⟩ := OwnI.form ⟨_, hrow⟩
  have hll : ls.length ≤ 600 := by
    have := len_flat hne
    rw [hfl] at this
    omega
  have hp1 := hp.later hb1
  have p1 := hp1.cell 1
  have p2 := hp1.cell 2
  have p3 := hp1.cls 2 _ rfl
  go_wp2
  go_loopw [4, 5] (fun s i wr => ∃ k : Nat, i = .int .i64 (k : Int) ∧ s = .int .i64 (sumL (ls.take k) : Int) ∧ k ≤ ls.length ∧ Below w1.heap.size w1 wr) (fun _ i _ => ls.length - (intOf i).toNat)
  case atStart => exact ⟨0, rfl, rfl, by omega, Below.refl _ _⟩
  case round =>
    obtain ⟨k, rfl, rfl, hk, hBr⟩ := hrel
    by_cases hlt : k < ls.length
    · have hki : (k : Int) < (ls.length : Int) := by omega
      obtain ⟨m, hm⟩ : ∃ m, ls[k]? = some m := ⟨_, List.getElem?_eq_getElem hlt⟩
      have hm1 := List.length_pos_iff.2 (hne m (List.mem_of_getElem? hm))
      have hm2 := hok.at k m hm
      have hs := sumL_next hm
      have hs6 : sumL (ls.take (k + 1)) ≤ 600 := by have := sumL_le ls (k + 1); unfold sumL at *; rw [hfl] at this; omega
      have g1 : ¬ (m.length : Int) < 1 := by omega
      have g2 : ¬ (ch : Int) < (m.length : Int) := by omega
      have hmk : ∀ (j : Nat) (q : List El), ls[j]? = some q → ∃ g, a = some ⟨g, 0, none⟩ ∧ ∀ s : Wld wr, (wOf s).cell? ⟨g, j, none⟩ = some (.int .i64 (q.length : Int)) := fun j q hj => lens_cell hrow hBr hj
      obtain ⟨g, rfl, hcm⟩ := hmk k m hm
      replace p3 : ∀ s : Wld wr, (wOf s).cell? ⟨pb, 2, none⟩ = some (.int .i64 (ch : Int)) := (hp1.later hBr).cls 2 _ rfl
      have hB := Below.refl wr.heap.size wr
      have e10 : ((m.length : Nat) : Int) ≤ 64 := by omega
      obtain ⟨ml, hml⟩ : ∃ ml : Int, (m.length : Int) = ml := ⟨_, rfl⟩
      obtain ⟨sk, hsk⟩ : ∃ sk : Int, (sumL (ls.take k) : Int) = sk := ⟨_, rfl⟩
      rw [hml] at g1 g2 hcm e10
      rw [hsk]
      have hnx : IntKind.i64.wrap (sk + ml) = (sumL (ls.take (k + 1)) : Int) := by rw [IntKind.wrap_i64, hs]; omega
      clear p1 p2 c0
      cases k with
      | zero =>
        clear hmk
        go_upto_region 6 with fail
        refine wp_region_cls (by kernel_rfl) (by kernel_rfl) ?_
        repeat (first | go_big_quiet_skip | (go_big_quiet_want; first | (go_big_quiet_op; first | go_big_quiet_on | go_big_quiet_call ((fail)))))
        refine wpQuiet_nil ?_
        rintro w1 ⟨s1, e1⟩
        have hb1 := wOf_below s1
        rw [← e1] at hb1
        clear e1 s1
        replace hB := bgo hB hb1
        clear hb1
        have hcw : w1.cell? ⟨g, 0, none⟩ = some (.int .i64 ml) := hcm ⟨w1, hB⟩
        clear hcm p3
        go_wp2
        exact ⟨⟨1, rfl, by rw [show ((sumL (List.take 1 ls) : Nat) : Int) = (sumL ([] : List (List El)) : Int) + ml by rw [← hml, ← Int.natCast_add]; exact congrArg _ hs], by omega, bgo hBr hB⟩, by simp [intOf]; omega⟩
      | succ j =>
        obtain ⟨q, hq⟩ : ∃ q, ls[j]? = some q := ⟨_, List.getElem?_eq_getElem (by omega)⟩
        have hq2 := hok.two j q m hq hm
        have hq1 := hok.at j q hq
        obtain ⟨g', eg, hcq⟩ := hmk j q hq
        cases eg
        clear hmk
        obtain ⟨mq, hmq⟩ : ∃ mq : Int, (q.length : Int) = mq := ⟨_, rfl⟩
        rw [hmq] at hcq
        have g3 : ¬ mq + ml ≤ (ch : Int) / 2 := by omega
        have g4 : (0 : Int) < ((j + 1 : Nat) : Int) := by omega
        have g5 : IntKind.i64.wrap (((j + 1 : Nat) : Int) - 1) = (j : Int) := by rw [IntKind.wrap_i64]; omega
        have g6 : (j : Int) < (ls.length : Int) := by omega
        have g7 : IntKind.i64.wrap (mq + ml) = mq + ml := by rw [IntKind.wrap_i64]; omega
        have g8 : Int.tdiv (ch : Int) 2 = (ch : Int) / 2 := Int.tdiv_eq_ediv_of_nonneg (by omega)
        have g9 : IntKind.i64.wrap ((ch : Int) / 2) = (ch : Int) / 2 := by rw [IntKind.wrap_i64]; omega
        go_upto_region 6 with fail
        refine wp_region_cls (by kernel_rfl) (by kernel_rfl) ?_
        repeat (first | go_big_quiet_skip | (go_big_quiet_want; first | (go_big_quiet_op; first | go_big_quiet_on | go_big_quiet_call ((fail)))))
        refine wpQuiet_nil ?_
        rintro w1 ⟨s1, e1⟩
        have hb1 := wOf_below s1
        rw [← e1] at hb1
        clear e1 s1
        replace hB := bgo hB hb1
        clear hb1
        have hcw : w1.cell? ⟨g, j + 1, none⟩ = some (.int .i64 ml) := hcm ⟨w1, hB⟩
        clear hcm p3 hcq
        go_wp2
        exact ⟨⟨j + 2, by go_num, by rw [show ((sumL (List.take (j + 2) ls) : Nat) : Int) = sk + ml by rw [← hml, ← hsk, ← Int.natCast_add]; exact congrArg _ hs], by omega, bgo hBr hB⟩, by simp [intOf]; omega⟩
    · have hki : ¬ (k : Int) < (ls.length : Int) := by omega
      have hkl : k = ls.length := by omega
      have p1 : wr.cell? ⟨pb, 1, none⟩ = some (.slice au l.length cu) := (hp1.later hBr).cell 1
      have HSp := hid_of' (spoil_any (base := w.heap.size) (n := ls.length) (OwnI.later ⟨_, hrow⟩ hBr) (by omega) (Nat.le_trans hb1.size hBr.size))
      go_upto_region 10 with (go_at_call 36; refine HSp.out.mono ?_; rintro r w5 ⟨⟨z, rfl⟩, hb5⟩; clear HSp)
      have hB5 : Below w.heap.size w w5 := (bgo hb1 hBr).trans hb5
      have p5 : w5.cell? ⟨pb, 1, none⟩ = some (.slice au l.length cu) := (hp.later hB5).cell 1
      have hse : (sumL ls : Int) = (l.length : Int) := by unfold sumL; rw [hfl]
      rw [hse]
      go_wp2
      go_ret
      exact ⟨rfl, hB5⟩
end Go.Proofs.YtppfgmggcihmoaaGreatDoor
