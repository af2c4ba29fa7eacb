
/-
  barrowlaw12's world in memory.
-/
import Derived.Test.YtfgcljpiidhfpaaDoorFy1
import Derived.Test.YtfgcljpiidhfpaaDoorFx
namespace Go.Proofs.YtfgcljpiidhfpaaDoor
open Go.RowKit
set_option maxRecDepth 100000

/-- A pointer to a Desk. -/
def ptV (b : Nat) : Value := .pointer (some ⟨b, 0, none⟩)
/-- Desks, clocks and all that was said, laid behind b0. -/
structure PlAt (b0 P n : Nat) (ds : List Nat) (vd vh vs : Value) (Ls : List (List Rnd)) (hs : List (List Int)) (Ss : List (List Rnd)) (w : World) : Prop where
  p : RowAt P #[vd, vh, vs] 70 w
  d : Rw 23 1 vd ds.length (ds.map ptV) w
  h : RwI 42 8 vh hs w
  s : RwI 46 144 vs (Ss.map rs) w
  ld : ds.length = Ls.length
  dk : ∀ (i b : Nat) (l : List Rnd), ds[i]? = some b → Ls[i]? = some l → DkAt b (n : Int) (i : Int) l w
  nd : ∀ (i j b : Nat), ds[i]? = some b → ds[j]? = some b → i = j
  f0 : b0 ≤ P
  fd : ∀ b ∈ ds, b0 ≤ b
  fv : ∀ k, vd.ownBlock = some k ∨ vh.ownBlock = some k ∨ vs.ownBlock = some k → b0 ≤ k
section
variable {b0 P n : Nat} {ds : List Nat} {vd vh vs : Value} {Ls : List (List Rnd)} {hs : List (List Int)} {Ss : List (List Rnd)} {w w' : World}
theorem PlAt.later (H : PlAt b0 P n ds vd vh vs Ls hs Ss w) (hb : Below w.heap.size w w') : PlAt b0 P n ds vd vh vs Ls hs Ss w' :=
  ⟨H.p.later hb, H.d.later hb, H.h.later hb, H.s.later hb, H.ld, fun i b l h1 h2 => (H.dk i b l h1 h2).later hb, H.nd, H.f0, H.fd, H.fv⟩
theorem PlAt.ex (H : PlAt b0 P n ds vd vh vs Ls hs Ss w) {i b : Nat} (hb : ds[i]? = some b) : ∃ l, Ls[i]? = some l ∧ DkAt b (n : Int) (i : Int) l w := by
  have hi := (List.getElem?_eq_some_iff.1 hb).1
  rw [H.ld] at hi
  exact ⟨_, List.getElem?_eq_getElem hi, H.dk i b _ hb (List.getElem?_eq_getElem hi)⟩
theorem PlAt.mem (H : PlAt b0 P n ds vd vh vs Ls hs Ss w) {b : Nat} (hb : b ∈ ds) : ∃ (i : Nat) (l : List Rnd), ds[i]? = some b ∧ DkAt b (n : Int) (i : Int) l w := by
  obtain ⟨i, hi⟩ := List.getElem?_of_mem hb
  obtain ⟨l, _, hd⟩ := H.ex hi
  exact ⟨i, l, hi, hd⟩
/-- A Desk is none of the other blocks. -/
theorem PlAt.neD (H : PlAt b0 P n ds vd vh vs Ls hs Ss w) {b : Nat} (hb : b ∈ ds) : P ≠ b ∧ ∀ k, vd.ownBlock = some k ∨ vh.ownBlock = some k ∨ vs.ownBlock = some k → k ≠ b := by
  obtain ⟨i, l, _, hd⟩ := H.mem hb
  refine ⟨apart_obj H.p hd.1 (by decide), fun k hk => ?_⟩
  rcases hk with hk | hk | hk
  · obtain ⟨cs, hc⟩ := H.d.obj hk; exact apart_obj hc hd.1 (by decide)
  · obtain ⟨cs, hc⟩ := H.h.obj hk; exact apart_obj hc hd.1 (by decide)
  · obtain ⟨cs, hc⟩ := H.s.obj hk; exact apart_obj hc hd.1 (by decide)
/-- A Desk has changed. -/
theorem PlAt.desk (H : PlAt b0 P n ds vd vh vs Ls hs Ss w) {i b : Nat} (hb : ds[i]? = some b) {l' : List Rnd} (hd : DkAt b (n : Int) (i : Int) l' w') (hc : Ch (fun k => k = b) w w') : PlAt b0 P n ds vd vh vs (Ls.set i l') hs Ss w' := by
  obtain ⟨hP, hv⟩ := H.neD (List.mem_of_getElem? hb)
  refine ⟨H.p.ch hc hP, H.d.ch hc (fun k hk => hv k (.inl hk)), H.h.ch hc (fun k hk => hv k (.inr (.inl hk))), H.s.ch hc (fun k hk => hv k (.inr (.inr hk))), by rw [List.length_set]; exact H.ld, fun j c l h1 h2 => ?_, H.nd, H.f0, H.fd, H.fv⟩
  rw [List.getElem?_set] at h2
  by_cases e : i = j
  · subst e
    rw [hb] at h1
    cases h1
    split at h2
    · split at h2
      · cases h2; exact hd
      · cases h2
    · rename_i q; exact absurd rfl q
  · rw [if_neg e] at h2
    exact (H.dk j c l h1 h2).ch hc (fun q => e (H.nd i j c (q ▸ hb) h1))
theorem PlAt.below (H : PlAt b0 P n ds vd vh vs Ls hs Ss w) {b : Nat} (hb : b ∈ ds) (hc : Ch (fun k => k = b) w w') : Below b0 w w' :=
  hc.below (fun s hs e => by have := H.fd b hb; omega) (by have := H.p.lt; have := H.f0; omega)
/-- A clock has changed. -/
theorem PlAt.hgo {g N c : Nat} (H : PlAt b0 P n ds vd (.slice (some ⟨g, 0, none⟩) N c) vs Ls hs Ss w) {hs' : List (List Int)} (hh : RwI 42 8 (.slice (some ⟨g, 0, none⟩) N c) hs' w') (hc : Ch (fun k => k = g) w w') : PlAt b0 P n ds vd (.slice (some ⟨g, 0, none⟩) N c) vs Ls hs' Ss w' ∧ Below b0 w w' := by
  obtain ⟨cs, hg⟩ := H.h.obj (k := g) rfl
  refine ⟨⟨H.p.ch hc (apart_obj H.p hg (by decide)), H.d.ch hc (fun k hk => ?_), hh, H.s.ch hc (fun k hk => ?_), H.ld, fun i b l h1 h2 => (H.dk i b l h1 h2).ch hc (apart_obj (H.dk i b l h1 h2).1 hg (by decide)), H.nd, H.f0, H.fd, H.fv⟩, hc.below (fun s hs e => by have := H.fv g (.inr (.inl rfl)); omega) (by have := H.p.lt; have := H.f0; omega)⟩
  · obtain ⟨cs', hk'⟩ := H.d.obj hk; exact apart_obj hk' hg (by decide)
  · obtain ⟨cs', hk'⟩ := H.s.obj hk; exact apart_obj hk' hg (by decide)
/-- What was said has grown; the record says so. -/
theorem PlAt.said (H : PlAt b0 P n ds vd vh vs Ls hs Ss w) {vs' : Value} {m : List Rnd} {x : World} (hs' : RwI 46 144 vs' (Ss.map rs ++ [rs m]) x) (hg : w.grownBy x vs.ownBlock) (ha : At' w vs vs') : PlAt b0 P n ds vd vh vs' Ls hs (Ss ++ [m]) (x.setCell ⟨P, 2, none⟩ vs') ∧ Below b0 w (x.setCell ⟨P, 2, none⟩ vs') := by
  have hc : Ch (fun k => vs.ownBlock = some k) w x := grown_ch hg
  have hnP : ¬ vs.ownBlock = some P := fun e => by
    obtain ⟨cs, hk⟩ := H.s.obj e
    exact apart_obj H.p hk (by decide) rfl
  have hcs : Ch (fun k => k = P) x (x.setCell ⟨P, 2, none⟩ vs') := (Ch.refl (fun k => k = P) x).set (p := ⟨P, 2, none⟩) (.inl rfl) vs'
  have hpx := H.p.ch hc hnP
  have hp2 : RowAt P #[vd, vh, vs'] 70 (x.setCell ⟨P, 2, none⟩ vs') := by
    unfold RowAt at hpx ⊢
    exact heap_setCell_at hpx 2 vs'
  have hsx : RwI 46 144 vs' (Ss.map rs ++ [rs m]) (x.setCell ⟨P, 2, none⟩ vs') := hs'.ch hcs (fun k hk e => by
    obtain ⟨cs, hk'⟩ := hs'.obj hk
    exact apart_obj hk' hpx (by decide) e)
  refine ⟨⟨hp2, (H.d.ch hc (fun k hk e => ?_)).ch hcs (fun k hk e => ?_), (H.h.ch hc (fun k hk e => ?_)).ch hcs (fun k hk e => ?_), by rw [List.map_append]; exact hsx, H.ld, fun i b l h1 h2 => ((H.dk i b l h1 h2).ch hc (fun e => ?_)).ch hcs (fun e => ?_), H.nd, H.f0, H.fd, fun k hk => ?_⟩, ?_⟩
  · obtain ⟨cs, h1⟩ := H.d.obj hk; obtain ⟨cs', h2⟩ := H.s.obj e; exact apart_obj h1 h2 (by decide) rfl
  · obtain ⟨cs, h1⟩ := H.d.obj hk; exact apart_obj h1 H.p (by decide) e
  · obtain ⟨cs, h1⟩ := H.h.obj hk; obtain ⟨cs', h2⟩ := H.s.obj e; exact apart_obj h1 h2 (by decide) rfl
  · obtain ⟨cs, h1⟩ := H.h.obj hk; exact apart_obj h1 H.p (by decide) e
  · obtain ⟨cs', h2'⟩ := H.s.obj e; exact apart_obj (H.dk i b l h1 h2).1 h2' (by decide) rfl
  · exact apart_obj (H.dk i b l h1 h2).1 H.p (by decide) e
  · rcases hk with hk | hk | hk
    · exact H.fv k (.inl hk)
    · exact H.fv k (.inr (.inl hk))
    · rcases ha k hk with q | q
      · exact H.fv k (.inr (.inr q))
      · have := H.p.lt; have := H.f0; omega
  · exact ((Ch.mono (S' := fun k => b0 ≤ k) hc (fun z hz => .inl (H.fv z (.inr (.inr hz))))).go hcs (fun z hz => .inl (by have := H.f0; omega))).below (fun z hz e => by omega) (by have := H.p.lt; have := H.f0; omega)
end
end Go.Proofs.YtfgcljpiidhfpaaDoor
