
/-
  barrowlaw12's world: what is read of it, and how it grows.
-/
import Derived.Test.YtfgcljpiidhfpaaDoorFy2
namespace Go.Proofs.YtfgcljpiidhfpaaDoor
open Go.RowKit
set_option maxRecDepth 100000

section
variable {b0 P n : Nat} {ds : List Nat} {vd vh vs : Value} {Ls : List (List Rnd)} {hs : List (List Int)} {Ss : List (List Rnd)} {w w' : World}
theorem PlAt.c0 (H : PlAt b0 P n ds vd vh vs Ls hs Ss w) : w.cell? ⟨P, 0, none⟩ = some vd := H.p.cell 0
theorem PlAt.c1 (H : PlAt b0 P n ds vd vh vs Ls hs Ss w) : w.cell? ⟨P, 1, none⟩ = some vh := H.p.cell 1
theorem PlAt.c2 (H : PlAt b0 P n ds vd vh vs Ls hs Ss w) : w.cell? ⟨P, 2, none⟩ = some vs := H.p.cell 2
theorem PlAt.pd {g N c : Nat} (H : PlAt b0 P n ds (.slice (some ⟨g, 0, none⟩) N c) vh vs Ls hs Ss w) {a b : Nat} (hb : ds[a]? = some b) : w.cell? ⟨g, a, none⟩ = some (.pointer (some ⟨b, 0, none⟩)) := by
  obtain ⟨a', c', e, _⟩ := H.d.form
  cases e
  have := H.d.cells a (ptV b) (by rw [List.getElem?_map, hb]; rfl)
  rwa [Nat.zero_add] at this
theorem PlAt.hin {g N c : Nat} (H : PlAt b0 P n ds vd (.slice (some ⟨g, 0, none⟩) N c) vs Ls hs Ss w) {a : Nat} {x : List Int} (hx : hs[a]? = some x) : CsIn g (a * 8) (cv x) w := H.h.in hx
theorem PlAt.sin {g N c : Nat} (H : PlAt b0 P n ds vd vh (.slice (some ⟨g, 0, none⟩) N c) Ls hs Ss w) {j : Nat} {m : List Rnd} (hm : Ss[j]? = some m) : CsIn g (j * 144) (cv (rs m)) w := H.s.in (by rw [List.getElem?_map, hm]; rfl)
theorem PlAt.dpos (H : PlAt b0 P n ds vd vh vs Ls hs Ss w) (h0 : 0 < ds.length) : ∃ g c, vd = .slice (some ⟨g, 0, none⟩) ds.length c := by
  rcases H.d.2 with ⟨_, e⟩ | ⟨g, cap, cur, e, _⟩
  · omega
  · exact ⟨g, cap, e⟩
theorem PlAt.hpos (H : PlAt b0 P n ds vd vh vs Ls hs Ss w) (h0 : 0 < hs.length) : ∃ g c, vh = .slice (some ⟨g, 0, none⟩) hs.length c := H.h.pos h0
theorem PlAt.sform (H : PlAt b0 P n ds vd vh vs Ls hs Ss w) : ∃ a c, vs = .slice a Ss.length c := by
  obtain ⟨a, c, e, _⟩ := H.s.1.form
  rw [List.length_map] at e
  exact ⟨a, c, e⟩
theorem PlAt.spos (H : PlAt b0 P n ds vd vh vs Ls hs Ss w) (h0 : 0 < Ss.length) : ∃ g c, vs = .slice (some ⟨g, 0, none⟩) Ss.length c := by
  obtain ⟨g, c, e⟩ := H.s.pos (by rw [List.length_map]; exact h0)
  rw [List.length_map] at e
  exact ⟨g, c, e⟩
theorem PlAt.frz (H : PlAt b0 P n ds vd vh vs Ls hs Ss w) (k : Nat) : w.frozen? ⟨P, k, none⟩ = false := RowAt.frz H.p k
/-- A cell of the record has changed. -/
theorem PlAt.neP (H : PlAt b0 P n ds vd vh vs Ls hs Ss w) : (∀ k, vd.ownBlock = some k ∨ vh.ownBlock = some k ∨ vs.ownBlock = some k → k ≠ P) ∧ ∀ b ∈ ds, b ≠ P := by
  refine ⟨fun k hk => ?_, fun b hb => (H.neD hb).1.symm⟩
  rcases hk with hk | hk | hk
  · obtain ⟨cs, hc⟩ := H.d.obj hk; exact apart_obj hc H.p (by decide)
  · obtain ⟨cs, hc⟩ := H.h.obj hk; exact apart_obj hc H.p (by decide)
  · obtain ⟨cs, hc⟩ := H.s.obj hk; exact apart_obj hc H.p (by decide)
/-- One Desk more. -/
theorem PlAt.addD (H : PlAt b0 P n ds vd vh vs Ls hs Ss w) {d : Nat} {l : List Rnd} (hd : DkAt d (n : Int) (ds.length : Int) l w) (hnew : d ∉ ds) (hb0 : b0 ≤ d) {vd' : Value} {x : World} (hr : Rw 23 1 vd' (ds.length + 1) (ds.map ptV ++ [ptV d]) x) (hg : w.grownBy x vd.ownBlock) (ha : At' w vd vd') :
    PlAt b0 P n (ds ++ [d]) vd' vh vs (Ls ++ [l]) hs Ss (x.setCell ⟨P, 0, none⟩ vd') ∧ Below b0 w (x.setCell ⟨P, 0, none⟩ vd') := by
  have hc : Ch (fun k => vd.ownBlock = some k) w x := grown_ch hg
  obtain ⟨nP, nD⟩ := H.neP
  have hcs : Ch (fun k => k = P) x (x.setCell ⟨P, 0, none⟩ vd') := (Ch.refl (fun k => k = P) x).set (p := ⟨P, 0, none⟩) (.inl rfl) vd'
  have hpx := H.p.ch hc (fun e => nP P (.inl e) rfl)
  have hp2 : RowAt P #[vd', vh, vs] 70 (x.setCell ⟨P, 0, none⟩ vd') := by
    unfold RowAt at hpx ⊢
    exact heap_setCell_at hpx 0 vd'
  have dkx : ∀ (i b : Nat) (l : List Rnd), DkAt b (n : Int) (i : Int) l w → DkAt b (n : Int) (i : Int) l (x.setCell ⟨P, 0, none⟩ vd') := fun i b l h => (h.ch hc (fun e => by
    obtain ⟨cs', h2'⟩ := H.d.obj e; exact apart_obj h.1 h2' (by decide) rfl)).ch hcs (apart_obj h.1 H.p (by decide))
  refine ⟨⟨hp2, ?_, (H.h.ch hc (fun k hk e => ?_)).ch hcs (fun k hk => nP k (.inr (.inl hk))), (H.s.ch hc (fun k hk e => ?_)).ch hcs (fun k hk => nP k (.inr (.inr hk))), by rw [List.length_append, List.length_append, H.ld]; rfl, fun i b l' h1 h2 => ?_, fun i j b h1 h2 => ?_, H.f0, fun b hb => ?_, fun k hk => ?_⟩, ?_⟩
  · rw [List.length_append, List.map_append]
    exact hr.ch hcs (fun k hk e => by
      obtain ⟨cs, hk'⟩ := hr.obj hk
      exact apart_obj hk' hpx (by decide) e)
  · obtain ⟨cs, h1⟩ := H.h.obj hk; obtain ⟨cs', h2⟩ := H.d.obj e; exact apart_obj h1 h2 (by decide) rfl
  · obtain ⟨cs, h1⟩ := H.s.obj hk; obtain ⟨cs', h2⟩ := H.d.obj e; exact apart_obj h1 h2 (by decide) rfl
  · by_cases hi : i < ds.length
    · rw [List.getElem?_append_left hi] at h1
      rw [List.getElem?_append_left (by rw [← H.ld]; exact hi)] at h2
      exact dkx i b l' (H.dk i b l' h1 h2)
    · have hi2 : i = ds.length := by
        have := (List.getElem?_eq_some_iff.1 h1).1
        rw [List.length_append, List.length_singleton] at this
        omega
      subst hi2
      rw [List.getElem?_append_right (Nat.le_refl _), Nat.sub_self] at h1
      rw [H.ld, List.getElem?_append_right (Nat.le_refl _), Nat.sub_self] at h2
      cases h1
      cases h2
      exact dkx _ _ _ hd
  · have key : ∀ i, (ds ++ [d])[i]? = some b → (i < ds.length ∧ ds[i]? = some b) ∨ (i = ds.length ∧ b = d) := fun i h => by
      by_cases hi : i < ds.length
      · rw [List.getElem?_append_left hi] at h; exact .inl ⟨hi, h⟩
      · have hi2 : i = ds.length := by
          have := (List.getElem?_eq_some_iff.1 h).1
          rw [List.length_append, List.length_singleton] at this
          omega
        subst hi2
        rw [List.getElem?_append_right (Nat.le_refl _), Nat.sub_self] at h
        cases h
        exact .inr ⟨rfl, rfl⟩
    rcases key i h1 with ⟨p1, p2⟩ | ⟨p1, p2⟩ <;> rcases key j h2 with ⟨q1, q2⟩ | ⟨q1, q2⟩
    · exact H.nd i j b p2 q2
    · subst q2; exact absurd (List.mem_of_getElem? p2) hnew
    · subst p2; exact absurd (List.mem_of_getElem? q2) hnew
    · omega
  · rcases List.mem_append.1 hb with q | q
    · exact H.fd b q
    · rw [List.mem_singleton.1 q]; exact hb0
  · rcases hk with hk | hk | hk
    · rcases ha k hk with q | q
      · exact H.fv k (.inl q)
      · have := H.p.lt; have := H.f0; omega
    · exact H.fv k (.inr (.inl hk))
    · exact H.fv k (.inr (.inr hk))
  · exact ((Ch.mono (S' := fun k => b0 ≤ k) hc (fun z hz => .inl (H.fv z (.inl hz)))).go hcs (fun z hz => .inl (by have := H.f0; omega))).below (fun z hz e => by omega) (by have := H.p.lt; have := H.f0; omega)
/-- One clock more. -/
theorem PlAt.addH (H : PlAt b0 P n ds vd vh vs Ls hs Ss w) {y : List Int} {vh' : Value} {x : World} (hr : RwI 42 8 vh' (hs ++ [y]) x) (hg : w.grownBy x vh.ownBlock) (ha : At' w vh vh') :
    PlAt b0 P n ds vd vh' vs Ls (hs ++ [y]) Ss (x.setCell ⟨P, 1, none⟩ vh') ∧ Below b0 w (x.setCell ⟨P, 1, none⟩ vh') := by
  have hc : Ch (fun k => vh.ownBlock = some k) w x := grown_ch hg
  obtain ⟨nP, nD⟩ := H.neP
  have hcs : Ch (fun k => k = P) x (x.setCell ⟨P, 1, none⟩ vh') := (Ch.refl (fun k => k = P) x).set (p := ⟨P, 1, none⟩) (.inl rfl) vh'
  have hpx := H.p.ch hc (fun e => nP P (.inr (.inl e)) rfl)
  have hp2 : RowAt P #[vd, vh', vs] 70 (x.setCell ⟨P, 1, none⟩ vh') := by
    unfold RowAt at hpx ⊢
    exact heap_setCell_at hpx 1 vh'
  refine ⟨⟨hp2, (H.d.ch hc (fun k hk e => ?_)).ch hcs (fun k hk => nP k (.inl hk)), hr.ch hcs (fun k hk e => ?_), (H.s.ch hc (fun k hk e => ?_)).ch hcs (fun k hk => nP k (.inr (.inr hk))), H.ld, fun i b l h1 h2 => ((H.dk i b l h1 h2).ch hc (fun e => ?_)).ch hcs (nD b (List.mem_of_getElem? h1)), H.nd, H.f0, H.fd, fun k hk => ?_⟩, ?_⟩
  · obtain ⟨cs, h1⟩ := H.d.obj hk; obtain ⟨cs', h2⟩ := H.h.obj e; exact apart_obj h1 h2 (by decide) rfl
  · obtain ⟨cs, hk'⟩ := hr.obj hk; exact apart_obj hk' hpx (by decide) e
  · obtain ⟨cs, h1⟩ := H.s.obj hk; obtain ⟨cs', h2⟩ := H.h.obj e; exact apart_obj h1 h2 (by decide) rfl
  · obtain ⟨cs', h2'⟩ := H.h.obj e; exact apart_obj (H.dk i b l h1 h2).1 h2' (by decide) rfl
  · rcases hk with hk | hk | hk
    · exact H.fv k (.inl hk)
    · rcases ha k hk with q | q
      · exact H.fv k (.inr (.inl q))
      · have := H.p.lt; have := H.f0; omega
    · exact H.fv k (.inr (.inr hk))
  · exact ((Ch.mono (S' := fun k => b0 ≤ k) hc (fun z hz => .inl (H.fv z (.inr (.inl hz))))).go hcs (fun z hz => .inl (by have := H.f0; omega))).below (fun z hz e => by omega) (by have := H.p.lt; have := H.f0; omega)
end
/-- n taken into 0 to m - 1. -/
def wiN (n : Int) (m : Nat) : Nat := if n.tmod (m : Int) < 0 then (n.tmod (m : Int) + m).toNat else (n.tmod (m : Int)).toNat
theorem wiN_lt {n : Int} {m : Nat} (hm : 0 < m) : wiN n m < m := by
  have t1 : n.tmod (m : Int) < (m : Int) := Int.tmod_lt_of_pos n (by omega)
  unfold wiN
  split <;> omega
theorem within_is (n : Int) (m : Nat) (w : World) (hm : 0 < m) (hm2 : m ≤ 1073741824) (_h : fitsI n) :
    Calls Tryd.prog 23 #[.int .i64 n, .int .i64 (m : Int)] w fun r w' => r = .returned (.int .i64 (wiN n m : Int)) ∧ w' = w := by
  obtain ⟨_h1, _h2⟩ := _h
  have m0 : ((m : Int) == 0) = false := by rw [beq_eq_false_iff_ne]; omega
  have t1 : n.tmod (m : Int) < (m : Int) := Int.tmod_lt_of_pos n (by omega)
  have t2 : -(m : Int) < n.tmod (m : Int) := by
    have := Int.tmod_lt_of_pos (-n) (show (0 : Int) < (m : Int) by omega)
    rw [Int.neg_tmod] at this
    omega
  unfold wiN
  obtain ⟨t, et⟩ : ∃ t, n.tmod (m : Int) = t := ⟨_, rfl⟩
  rw [et] at t1 t2 ⊢
  by_cases ht : t < 0
  · rw [if_pos ht, Int.toNat_of_nonneg (by omega)]
    go_enter Tryd.func23, Tryd.ntmps23
    go_wp2
    go_ret
    exact ⟨rfl, rfl⟩
  · rw [if_neg ht, Int.toNat_of_nonneg (by omega)]
    go_enter Tryd.func23, Tryd.ntmps23
    go_wp2
    go_ret
    exact ⟨rfl, rfl⟩
end Go.Proofs.YtfgcljpiidhfpaaDoor
