
/-
  What everybody knows at the end of a session, as lists: no program.
-/
import Derived.Test.YtfgcljpiidhfpaaDoorFx
namespace Go.Proofs.YtfgcljpiidhfpaaDoor

theorem PlR.kn {n : Nat} {Ls : List (List Rnd)} {hs : List (List Int)} {Ss : List (List Rnd)} (h : PlR n Ls hs Ss) : ∃ G, (∀ m ∈ Ss, ∀ (c : Nat) (r : Rnd), m[c]? = some r → Kn n G c r) := by
  obtain ⟨G, F⟩ := h.fi
  refine ⟨G, fun m hm c r hr => ?_⟩
  have hc : c < 8 := by have := (List.getElem?_eq_some_iff.1 hr).1; rw [(h.okS m hm).1] at this; exact this
  have := (F.sd (fnOf m) (List.mem_map.2 ⟨m, hm, rfl⟩) c hc).1
  rwa [fnOf_at hr] at this
/-- A commit has every Yes. -/
theorem Kn.verd {n : Nat} {G : Gh} {c : Nat} {x : Rnd} (h : Kn n G c x) (hd : x.dec = 1) : verdR x n = 1 := by
  have hall := h.all hd
  unfold verdR
  rw [if_neg, if_pos]
  · exact List.all_eq_true.2 fun i hi => by rw [hall i (List.mem_range.1 hi)]; rfl
  · intro q
    obtain ⟨i, hi, he⟩ := List.any_eq_true.1 q
    rw [hall i (List.mem_range.1 hi)] at he
    cases he
/-- What is known of one round agrees. -/
def Agr (x y : Rnd) : Prop := x.num = y.num → x.cut = y.cut ∧ (x.dec ≠ 0 → y.dec ≠ 0 → x.dec = y.dec) ∧ ∀ v, v < 8 → en x.vot v ≠ 0 → en y.vot v ≠ 0 → en x.vot v = en y.vot v
theorem PlR.agree {n : Nat} {Ls : List (List Rnd)} {hs : List (List Int)} {Ss : List (List Rnd)} (h : PlR n Ls hs Ss) : (∀ m ∈ Ss, ∀ (c : Nat) (r : Rnd), m[c]? = some r → r.dec = 1 → verdR r n = 1) ∧ (∀ m ∈ Ss, ∀ p ∈ Ss, ∀ (c : Nat) (x y : Rnd), m[c]? = some x → p[c]? = some y → Agr x y) := by
  obtain ⟨G, hk⟩ := h.kn
  exact ⟨fun m hm c r hr hd => (hk m hm c r hr).verd hd, fun m hm p hp c x y hx hy e => (hk m hm c x hx).agree (hk p hp c y hy) e⟩
theorem PlR.cuts {n : Nat} {Ls : List (List Rnd)} {hs : List (List Int)} {Ss : List (List Rnd)} (h : PlR n Ls hs Ss) {a c : Nat} {l : List Rnd} {r : Rnd} (hl : Ls[a]? = some l) (hc : c < n) (hr : l[c]? = some r) (hd : r.dec = 1) {b : Nat} {x : List Int} {m : List Rnd} (hx : hs[b]? = some x) (hm : Ls[b]? = some m) : x = r.cut ∧ (b ≠ a → (m.any fun r => openR r && en r.vot b == 1) = true) := by
  have ha : a < n := by have := (List.getElem?_eq_some_iff.1 hl).1; rw [h.lL] at this; exact this
  have hb : b < n := by have := (List.getElem?_eq_some_iff.1 hm).1; rw [h.lL] at this; exact this
  have q := h.cut a c ha hc (by rw [wdOf_d hs hl, fnOf_at hr]; exact hd) b hb
  rw [wdOf_h Ls hx, wdOf_d hs hl, fnOf_at hr, wdOf_d hs hm] at q
  refine ⟨q.1, fun hne => ?_⟩
  obtain ⟨e, he, ho, hv⟩ := q.2 hne
  obtain ⟨s, hs', _⟩ := (h.okL m (List.mem_of_getElem? hm)).at he
  rw [fnOf_at hs'] at ho hv
  exact List.any_eq_true.2 ⟨s, List.mem_of_getElem? hs', by rw [ho, hv]; rfl⟩
end Go.Proofs.YtfgcljpiidhfpaaDoor
