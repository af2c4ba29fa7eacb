
/-
  The document's Order.
-/
import Derived.Test.YtlgdaaofpjpobaaDoorZca25
import Derived.Test.YtlgdaaofpjpobaaDoorZca26
namespace Go.Proofs.YtlgdaaofpjpobaaDoor
open Go.RowKit Go.Maps
set_option maxRecDepth 100000

/-- How far the order has come. -/
structure OrI (h : List Int) (l : List Ac) (w : World) (s : List Ac) (c : List Int) (u : Value) (wr : World) : Prop where
  ck : CkAt w.heap.size c wr
  own : OwnA u s wr
  new : ∀ k, u.ownBlock = some k → w.heap.size < k
  below : Below w.heap.size w wr
  at' : c = dlv h s
  ok : okD h s
  sub : ∀ x ∈ s, x ∈ l
  rest : s ++ ordL l c = ordL l h
theorem OrI.len {h : List Int} {l : List Ac} {w : World} {s : List Ac} {c : List Int} {u : Value} {wr : World} (I : OrI h l w s c u wr) : s.length ≤ l.length := by
  have h1 := congrArg List.length I.rest
  rw [List.length_append] at h1
  have h2 : (ordL l h).length ≤ l.length := by
    unfold ordL
    have : ∀ (n : Nat) (h : List Int), (ordS l n h).length ≤ n := by
      intro n
      induction n with
      | zero => intro h; simp [ordS]
      | succ n ih =>
        intro h
        cases hf : l.find? (fun x => rdyC h x) with
        | none => rw [ordS_none hf]; simp
        | some x =>
          simp only [ordS, hf, List.length_cons]
          have := ih (adv h x)
          omega
    exact this _ _
  omega
theorem OrI.later {h : List Int} {l : List Ac} {w : World} {s : List Ac} {c : List Int} {u : Value} {wr w' : World} (I : OrI h l w s c u wr) (hb : Below wr.heap.size wr w') : OrI h l w s c u w' :=
  ⟨I.ck.later hb, I.own.later hb, I.new, bgo I.below hb, I.at', I.ok, I.sub, I.rest⟩
theorem ch_cell {w : World} {b k : Nat} (v : Value) : Ch (fun j => j = b) w (w.setCell ⟨b, k, none⟩ v) := Ch.set (S := fun j => j = b) (Ch.refl _ w) (p := ⟨b, k, none⟩) (.inl rfl) v
/-- One act more. -/
theorem OrI.next {h : List Int} {l : List Ac} {w : World} {s : List Ac} {c : List Int} {u v' : Value} {wr w' : World} {x : Ac} (I : OrI h l w s c u wr) (hl : h.length = 8) (hf : l.find? (fun x => rdyC c x) = some x)
    (hck : CkAt w.heap.size (adv c x) w') (hown : OwnA v' (s ++ [x]) w') (hnew : ∀ k, v'.ownBlock = some k → w.heap.size < k) (hb : Below w.heap.size w w') : OrI h l w (s ++ [x]) (adv c x) v' w' := by
  have hr : rdyC c x = true := List.find?_some hf
  have hc : c.length = 8 := by rw [I.at']; exact dlv_len hl s
  refine ⟨hck, hown, hnew, hb, ?_, ?_, ?_, ?_⟩
  · rw [dlv_app, ← I.at']; rfl
  · rw [okD_app, ← I.at']; exact ⟨I.ok, hr, trivial⟩
  · intro y hy
    rcases List.mem_append.1 hy with hy | hy
    · exact I.sub y hy
    · rw [List.mem_singleton] at hy; subst hy; exact List.mem_of_find?_eq_some hf
  · rw [← I.rest, ordL_some hc hf, List.append_assoc]; rfl
end Go.Proofs.YtlgdaaofpjpobaaDoor
