
/-
  tree.glued of trees or none; tree.packed of any row; tree.spliced.
-/
import Derived.Test.YtdihbgmjnfpppaaGreatDoorTrOk
namespace Go.Proofs.YtdihbgmjnfpppaaGreatDoor
open Go.RowKit
set_option maxRecDepth 100000

/-- Glued: a tree, or none. -/
theorem gluedO {R : Rows} {ls ms : List (List El)} {v u : Value} {w : World} (ch : Nat) (h1 : OTree R ls v w) (h2 : OTree R ms u w) (hn : ls.flatten.length + ms.flatten.length ≤ 1073741824) :
    Calls Tryz.prog 69 #[.int .i64 (ch : Int), v, u] w fun r w' => ∃ v' qs, r = .returned v' ∧ OTree R qs v' w' ∧ qs.flatten = ls.flatten ++ ms.flatten ∧ (LOk ch ls → LOk ch ms → LOk ch qs) ∧ Below w.heap.size w w' := by
  rcases h1 with ⟨rfl, rfl⟩ | ⟨t, rfl, a1, a2, rfl⟩
  · obtain ⟨p, rfl⟩ : ∃ p, u = .pointer p := by
      rcases h2 with ⟨_, rfl⟩ | ⟨t, rfl, _⟩
      · exact ⟨_, rfl⟩
      · exact ⟨_, rfl⟩
    refine (glued_nil1 ch p w).mono ?_
    rintro r w1 ⟨rfl, rfl⟩
    exact ⟨_, ms, rfl, h2, rfl, fun _ h => h, Below.refl _ _⟩
  · rcases h2 with ⟨rfl, rfl⟩ | ⟨t', rfl, b1, b2, rfl⟩
    · refine (glued_nil2' ch t.blk w).mono ?_
      rintro r w1 ⟨rfl, rfl⟩
      exact ⟨_, t.leaves, rfl, .inr ⟨t, rfl, a1, a2, rfl⟩, by simp, fun h _ => h, Below.refl _ _⟩
    · rw [← Nd.els_flat, ← Nd.els_flat] at hn
      refine (glued_some ch a1 b1 a2 b2 hn).mono ?_
      rintro r w1 ⟨v', rfl, ht, hb⟩
      refine ⟨_, _, rfl, ht, ?_, fun k1 k2 => LOk.glue k1 k2 b2, hb⟩
      have l1 := Nd.fr_els t t.els.length
      have l2 := Nd.bk_els t' 0
      rw [List.take_length] at l1
      rw [List.drop_zero] at l2
      unfold glueL
      split
      · rw [List.flatten_append]
      · simp only [List.flatten_append, List.flatten_cons, List.flatten_nil, List.append_nil]
        rw [← Nd.els_flat, ← Nd.els_flat]
        have l3 : _ ++ _ = t.els ++ t'.els := congr (congrArg HAppend.hAppend l1) l2
        simpa only [List.append_assoc] using l3
theorem SlE.room {w : World} {a : Option Addr} {n c : Nat} {l : List El} (h : SlE w (.slice a n c) l) (hl : l ≠ []) : ∃ g o_, a = some ⟨g, o_, none⟩ ∧ n = l.length ∧ ElsAt g o_ l w := by
  rcases h with ⟨e, _⟩ | ⟨g, o_, c', e, hE⟩
  · exact absurd e hl
  · cases e
    exact ⟨g, o_, rfl, rfl, hE⟩
set_option maxHeartbeats 400000 in
theorem packed_none (ch : Int) (a : Option Addr) (c : Nat) (w : World) : Calls Tryz.prog 68 #[.int .i64 ch, .slice a 0 c] w fun r w' => r = .returned (.pointer none) ∧ w' = w := by
  go_enter Tryz.func68, Tryz.ntmps68
  go_wp2
  go_ret
  exact ⟨rfl, rfl⟩
theorem packedO {R : Rows} (ch : Nat) (l : List El) (v : Value) {base : Nat} (w : World) (ho : OwnE base v l w) (hn : l.length ≤ 1073741824) (h1 : 2 ≤ ch) (h2 : ch ≤ 64) (hz : R.hi ≤ w.heap.size) :
    Calls Tryz.prog 68 #[.int .i64 (ch : Int), v] w fun r w' => ∃ v' qs, r = .returned v' ∧ OTree R qs v' w' ∧ qs.flatten = l ∧ LOk ch qs ∧ Below w.heap.size w w' := by
  by_cases hl : l = []
  · subst hl
    obtain ⟨a, c, rfl⟩ := ho.form
    refine (packed_none ch a c w).mono ?_
    rintro r w1 ⟨rfl, rfl⟩
    exact ⟨_, [], rfl, .inl ⟨rfl, rfl⟩, rfl, trivial, Below.refl _ _⟩
  · obtain ⟨g, c, _, rfl, hE, hlc, hc⟩ := ho.room hl
    refine (packed_some ch l g 0 c w hE hlc hc hn hl (by omega) h2 hz).mono ?_
    rintro r w1 ⟨v', rfl, ⟨t, rfl, k1, k2, k3, k4⟩, hb⟩
    exact ⟨_, _, rfl, .inr ⟨t, rfl, k1, k2, k4⟩, by rw [← k4, ← Nd.els_flat, k3], LOk.packed h1 l hl, hb⟩

theorem frontO {R : Rows} {ls : List (List El)} {v : Value} {w : World} (h : OTree R ls v w) (i : Nat) (hi : i ≤ ls.flatten.length) (hn : ls.flatten.length ≤ 1073741824) :
    Calls Tryz.prog 66 #[v, .int .i64 (i : Int)] w fun r w' => ∃ v' u qs l, r = .returned (.tuple #[v', u]) ∧ OTree R qs v' w' ∧ SlE w' u l ∧ qs.flatten ++ l = ls.flatten.take i ∧ (∀ ch, LOk ch ls → LOk ch qs) ∧ Below w.heap.size w w' := by
  rcases h with ⟨rfl, rfl⟩ | ⟨t, rfl, a1, a2, rfl⟩
  · refine (front_nil i w).mono ?_
    rintro r w1 ⟨rfl, rfl⟩
    exact ⟨_, _, [], [], rfl, .inl ⟨rfl, rfl⟩, .inl ⟨rfl, _, _, rfl⟩, by simp, fun _ h => h, Below.refl _ _⟩
  · rw [← Nd.els_flat] at hi hn ⊢
    refine (front_any t i w a1 a2 hn hi).mono ?_
    rintro r w1 ⟨v', u, rfl, g1, g2, hb⟩
    exact ⟨_, _, _, _, rfl, g1, g2, Nd.fr_els t i, fun _ h => h.fr i, hb⟩
theorem backO {R : Rows} {ls : List (List El)} {v : Value} {w : World} (h : OTree R ls v w) (i : Nat) (hi : i ≤ ls.flatten.length) (hn : ls.flatten.length ≤ 1073741824) :
    Calls Tryz.prog 67 #[v, .int .i64 (i : Int)] w fun r w' => ∃ u v' l qs, r = .returned (.tuple #[u, v']) ∧ SlE w' u l ∧ OTree R qs v' w' ∧ l ++ qs.flatten = ls.flatten.drop i ∧ (∀ ch, LOk ch ls → LOk ch qs) ∧ Below w.heap.size w w' := by
  rcases h with ⟨rfl, rfl⟩ | ⟨t, rfl, a1, a2, rfl⟩
  · refine (back_nil i w).mono ?_
    rintro r w1 ⟨rfl, rfl⟩
    exact ⟨_, _, [], [], rfl, .inl ⟨rfl, _, _, rfl⟩, .inl ⟨rfl, rfl⟩, by simp, fun _ h => h, Below.refl _ _⟩
  · rw [← Nd.els_flat] at hi hn ⊢
    refine (back_any t i w a1 a2 hn hi).mono ?_
    rintro r w1 ⟨u, v', rfl, g1, g2, hb⟩
    exact ⟨_, _, _, _, rfl, g1, g2, Nd.bk_els t i, fun _ h => h.bk i, hb⟩

set_option maxHeartbeats 4000000 in
theorem splicedO {R : Rows} (ch : Nat) {ls : List (List El)} {v : Value} {w : World} (h : OTree R ls v w) (i n : Nat) (l : List El) (u : Value) (hu : SlE w u l) (hi : i + n ≤ ls.flatten.length) (hn : ls.flatten.length + l.length ≤ 1073741824) (h1 : 2 ≤ ch) (h2 : ch ≤ 64) (hz : R.hi ≤ w.heap.size) :
    Calls Tryz.prog 46 #[.int .i64 (ch : Int), v, .int .i64 (i : Int), .int .i64 (n : Int), u] w fun r w' => ∃ v' qs, r = .returned v' ∧ OTree R qs v' w' ∧ qs.flatten = ls.flatten.take i ++ l ++ ls.flatten.drop (i + n) ∧ (LOk ch ls → LOk ch qs) ∧ Below w.heap.size w w' := by
  obtain ⟨a', c', rfl⟩ := hu.form
  obtain ⟨p, rfl⟩ : ∃ p, v = .pointer p := by
    rcases h with ⟨_, rfl⟩ | ⟨t, rfl, _⟩
    · exact ⟨_, rfl⟩
    · exact ⟨_, rfl⟩
  have HF := hid_of' (frontO h i (by omega) (by omega))
  have HK : Hid (∀ x, Below w.heap.size w x → _) := fun x hx => backO (h.later hx) (i + n) hi (by omega)
  have hs : (i : Int) + (n : Int) = ((i + n : Nat) : Int) := by omega
  have b9 : (i : Int) + (n : Int) ≤ 1073741824 := by omega
  have HU := hid_of' hu
  have HZ := hid_of' (show ls.flatten.length + l.length ≤ 1073741824 ∧ i + n ≤ ls.flatten.length from ⟨hn, hi⟩)
  rw [← hs] at HK
  clear h hu hs hi hn
  go_enter Tryz.func46, Tryz.ntmps46
  go_upto_region 3 with (first | (go_at_call 66; with_reducible refine HF.out.mono ?_; rintro r w1 ⟨v1, u1, q1, m1, rfl, o1, s1, e1, y1, hb1⟩) | (go_at_call 67; with_reducible refine (HK.out _ hb1).mono ?_; rintro r w2 ⟨u2, v2, m2, q2, rfl, s2, o2, e2, y2, hb2⟩))
  replace o1 := o1.later hb2
  replace s1 := s1.later hb2
  have hB := bgo hb1 hb2
  have hu := HU.out.later hB
  obtain ⟨a1', c1', rfl⟩ := s1.form
  obtain ⟨a2', c2', rfl⟩ := s2.form
  have g1 := congrArg List.length e1
  have g2 := congrArg List.length e2
  rw [List.length_append, List.length_take] at g1
  rw [List.length_append, List.length_drop] at g2
  have g3 := HZ.out
  have hcat : (m1 ++ (l ++ m2)).length ≤ 1073741824 := by simp only [List.length_append]; omega
  have HL := hid_of' (show q1.flatten.length + (m1.length + (l.length + m2.length)) + q2.flatten.length ≤ 1073741824 by omega)
  have HC : Hid (Calls Tryz.prog 64 #[.slice (some ⟨w2.heap.size, 0, none⟩) 3 3] (w2.alloc (.cells #[.slice a1' m1.length c1', .slice a' l.length c', .slice a2' m2.length c2'] 22)) fun r w' => ∃ v, r = .returned v ∧ OwnE (w2.heap.size + 1) v (m1 ++ (l ++ m2)) w' ∧ Below (w2.heap.size + 1) (w2.alloc (.cells #[.slice a1' m1.length c1', .slice a' l.length c', .slice a2' m2.length c2'] 22)) w') := by
    have H := concat_any [(.slice a1' m1.length c1', m1), (.slice a' l.length c', l), (.slice a2' m2.length c2', m2)] w2.heap.size 0 3 (w2.alloc (.cells #[.slice a1' m1.length c1', .slice a' l.length c', .slice a2' m2.length c2'] 22)) (fun i p hp => by
      have hr := row_new w2 #[.slice a1' m1.length c1', .slice a' l.length c', .slice a2' m2.length c2'] 22
      match i, hp with
      | 0, hp => simp at hp; subst hp; exact ⟨by rw [hr.cell]; rfl, s1.later (below_one _ _)⟩
      | 1, hp => simp at hp; subst hp; exact ⟨by rw [hr.cell]; rfl, hu.later (below_one _ _)⟩
      | 2, hp => simp at hp; subst hp; exact ⟨by rw [hr.cell]; rfl, s2.later (below_one _ _)⟩
      | i + 3, hp => simp at hp) (by simp) (by simp only [List.length_append] at hcat; simp [catE]; omega) (by simp)
    simp only [World.size_alloc, catE, List.flatMap_cons, List.flatMap_nil, List.append_nil] at H
    exact H
  clear HF HK HU HZ g1 g2 g3 hb1 hb2
  go_wp2_with (go_at_call 64; with_reducible refine HC.out.mono ?_; rintro r w3 ⟨v3, rfl, ho, hb3⟩; have hb3' : Below w2.heap.size w2 w3 := (below_one w2 _).trans (hb3.mono (by omega)); clear HC hb3)
  refine (packedO ch _ v3 w3 ho hcat h1 h2 (Nat.le_trans hz (Nat.le_trans hB.size hb3'.size))).mono ?_
  rintro r w4 ⟨v4, q4, rfl, o4, e4, y4, hb4⟩
  have HG1 := hid_of' (gluedO ch ((o1.later hb3').later hb4) o4 (by have := HL.out; rw [e4]; simp only [List.length_append]; omega))
  have o2' := (o2.later hb3').later hb4
  clear ho
  go_wp2_with (go_at_call 69; with_reducible refine HG1.out.mono ?_; rintro r w5 ⟨v5, q5, rfl, o5, e5, y5, hb5⟩; clear HG1)
  refine (gluedO ch o5 (o2'.later hb5) (by have := HL.out; rw [e5, e4]; simp only [List.length_append]; omega)).mono ?_
  rintro r w6 ⟨v6, q6, rfl, o6, e6, y6, hb6⟩
  go_wp2
  go_ret
  refine ⟨_, q6, rfl, o6, ?_, fun h => y6 (y5 (y1 _ h) y4) (y2 _ h), bgo (bgo (bgo (bgo hB hb3') hb4) hb5) hb6⟩
  rw [e6, e5, e4, ← e1, ← e2]
  simp only [List.append_assoc]
end Go.Proofs.YtdihbgmjnfpppaaGreatDoor
