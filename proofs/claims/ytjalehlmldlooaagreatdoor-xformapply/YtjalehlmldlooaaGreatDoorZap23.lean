
/-
  A loop over an iterator that writes cells of its own, and that hands its things on in one order: the iterator's contract, and the loop's law.
-/
import Derived.RangeFuncNested
import Derived.RangeFuncBound
import Derived.RangeFuncCalls
import Derived.RangeFuncLeaves
namespace Go.Proofs.YtjalehlmldlooaaGreatDoor
open Go.RowKit
section
variable {F : Fence} {n : Nat} {P : Program}

/-- The iterator's own blocks lie as they lay. -/
def KeepsSet (O : Nat → Prop) (W W' : World) : Prop := ∀ r, O r → W'.heap[r]? = W.heap[r]?
/-- What an invariant bears beside an iterator whose own blocks are O: new blocks, which may become the iterator's own; a turn of a block that is its own, or of one, from B on, that is no cells. -/
def Bears {α : Type} (B : Nat) (J : List α → (Nat → Prop) → World → Prop) : Prop :=
  ∀ pre O O' A A' row, J pre O A → A.grownBy A' row → (∀ r, row = some r → B ≤ r ∧ (O r ∨ ∃ o : Obj, A.heap[r]? = some o ∧ o.isCells = false)) → (∀ r, O' r → O r ∨ (A.heap.size ≤ r ∧ r < A'.heap.size)) → J pre O' A'
/-- An iterator that tells xs: one by one, or as far as the loop lets it. -/
def SeqIt {α : Type} (F : Fence) (n : Nat) (P : Program) (g : Nat) (lb : Array Value) (encs : α → Array Value) (xs : List α) (Kp : World → World → Prop) (w : World) : Prop :=
  ∀ (l : Nat) (J : List α → (Nat → Prop) → World → Prop) (Jx : List α → World → Prop) (W : World), Below w.heap.size w W → Bears W.heap.size J → OwnFrom W.heap.size Jx →
    (∀ pre x O A, J pre O A → (pre ++ [x]) <+: xs → YieldAt F (n - 1) P l (encs x) A fun e A' => KeepsFrom W.heap.size A A' ∧
      ((e = .returned (.bool true) ∧ J (pre ++ [x]) O A' ∧ Kp A A' ∧ KeepsSet O A A') ∨ (e = .returned (.bool false) ∧ Jx (pre ++ [x]) A'))) →
    J [] (fun _ => False) W →
    CallsIn F n P g (#[.func (.yield l) #[] #[]] ++ lb) W fun e W' => (∃ v, e = .returned v) ∧ ((∃ O, J xs O W') ∨ ∃ pre, pre <+: xs ∧ Jx pre W')
/-- How a round may be left. -/
def itPost {α : Type} (B : Nat) (Kp : World → World → Prop) (O : Nat → Prop) (I : List α → (Nat → Prop) → World → Prop) (Ix : Code → List α → World → Prop) (ys : List α) (W : World) : Exit → Act → World → Prop
  | .normal, _, W' => KeepsFrom B W W' ∧ KeepsSet O W W' ∧ Kp W W' ∧ I ys O W'
  | .ret, _, W' => KeepsFrom B W W' ∧ Ix .ret ys W'
  | .exit id, _, W' => KeepsFrom B W W' ∧ Ix (.exit id) ys W'
  | .goto t, _, W' => KeepsFrom B W W' ∧ Ix (.goto t) ys W'
  | .panic _, _, _ => False
  | .outgrown, _, _ => False

theorem Bears.put {α : Type} {B : Nat} {I : List α → (Nat → Prop) → World → Prop} (h : Bears B I) {pre : List α} {O : Nat → Prop} {A : World} {l : Nat} {o : Obj} (o' : Obj) (hi : I pre O A) (hB : B ≤ l) (hl : A.heap[l]? = some o) (ho : o.isCells = false) : I pre O (A.putObj l o') :=
  h pre O O A _ (some l) hi (grownBy_putObj' A l o') (fun r e => by cases e; exact ⟨hB, .inr ⟨o, hl, ho⟩⟩) (fun _ hr => .inl hr)
theorem Bears.new {α : Type} {B : Nat} {I : List α → (Nat → Prop) → World → Prop} (h : Bears B I) {pre : List α} {O O' : Nat → Prop} {A : World} (o : Obj) (hi : I pre O A) (hO : ∀ r, O' r → O r ∨ r = A.heap.size) : I pre O' (A.alloc o) :=
  h pre O O' A _ none hi (World.grownBy_alloc A o none) (fun _ e => by cases e) (fun r hr => (hO r hr).elim .inl (fun e => .inr (by rw [World.size_alloc]; omega)))

theorem wpIn_rangeFunc_it {α : Type} {g : Operand} {ps : Array Tmp} {assign body : Code} {Q : Exit → Act → World → Prop} {a : Act} {w : World}
    (hro : F.round = none) (h1 : 1 ≤ n) {gf : Nat} {lb : Array Value} (hg : a.eval g = .func (.func gf) #[] lb) (hFg : F.fn gf) (eg : ∀ args w, (callFunc gf args).run P w = .ok (.enter gf args) w)
    {encs : α → Array Value} {xs : List α} {Kp : World → World → Prop} {w0 : World} (hseq : SeqIt F (n - 1) P gf lb encs xs Kp w0)
    (hKt : ∀ {A B C : World}, Kp A B → Kp B C → Kp A C) (hKb : ∀ (W : World) (l : Nat) (o o' : Obj), w.heap.size ≤ l → W.heap[l]? = some o → o.isCells = false → Kp W (W.putObj l o')) (hb0 : Below w0.heap.size w0 w) (hps : ∀ x, (encs x).size = ps.size)
    (I : List α → (Nat → Prop) → World → Prop) (Ix : Code → List α → World → Prop) (hI : Bears w.heap.size I) (hIx : ∀ c, OwnFrom w.heap.size (Ix c)) (h0 : I [] (fun _ => False) w) (a₁ : α → Act)
    (hassign : ∀ (l : Nat) (x : α) (W : World) (K : Act → World → Prop), K (a₁ x) W →
      assign.wpIn (F.inRound l) (n - 1 - 1) P (Exit.then K (fun _ _ _ => False)) { tmps := (ps.zip (encs x)).foldl (fun t (p, v) => t.setIfInBounds p v) a.tmps, defers := [] } W)
    (hbody : ∀ (l : Nat) (pre : List α) (x : α) (O : Nat → Prop) (W : World), I pre O W → (pre ++ [x]) <+: xs → (∀ r, O r → w.heap.size + 2 ≤ r ∧ r < W.heap.size) → body.wpIn (F.inRound l) (n - 1 - 1) P (itPost w.heap.size Kp O I Ix (pre ++ [x]) W) (a₁ x) W)
    (hdone : ∀ (D : Nat) (O : Nat → Prop) (W : World), w.heap.size ≤ D → I xs O W → W.heap[D]? = some (.deferred (some [])) → Q .normal { a with defers := { target := .collected D, args := #[] } :: a.defers } W)
    (hstop : ∀ (D : Nat) (c : Code) (pre : List α) (W : World), w.heap.size ≤ D → pre <+: xs → Ix c pre W → W.heap[D]? = some (.deferred (some [])) → c.wpIn F n P Q { a with defers := { target := .collected D, args := #[] } :: a.defers } W) :
    (Code.rangeFunc g ps assign body).wpIn F n P Q a w := by
  refine wpIn_rangeFunc fun fn hfn => ?_
  rw [hro]
  obtain ⟨B, hB⟩ : ∃ B, w.heap.size = B := ⟨_, rfl⟩
  obtain ⟨rc, hrc⟩ : ∃ rc : LoopState → Option Code → Loop, rc = fun st pe => { state := st, pending := pe, fn, tmps := a.tmps, params := ps, assign, body, defers := B } := ⟨_, rfl⟩
  obtain ⟨W1, hW1⟩ : ∃ W1, (w.alloc (.deferred (some []))).alloc (.loop (rc .ready none)) = W1 := ⟨_, rfl⟩
  have hs1 : W1.heap.size = B + 2 := by rw [← hW1, World.size_alloc, World.size_alloc, hB]
  have hL1 : W1.heap[B + 1]? = some (.loop (rc .ready none)) := by
    have := World.alloc_heap_new (w.alloc (.deferred (some []))) (.loop (rc .ready none))
    rw [World.size_alloc, hB, hW1] at this
    exact this
  have hD1 : W1.heap[B]? = some (.deferred (some [])) := by
    have h2 := Below.heap_alloc (w.alloc (.deferred (some []))) (.loop (rc .ready none)) B (by rw [World.size_alloc]; omega)
    have h3 := World.alloc_heap_new w (.deferred (some []))
    rw [hB] at h3
    rw [← hW1]
    exact h2.trans h3
  have hI1 : I [] (fun _ => False) W1 := by
    rw [← hW1]
    have h2 : I [] (fun _ => False) (w.alloc (.deferred (some []))) := hI.new (O := fun _ => False) _ h0 (fun _ h => .inl h)
    exact hI.new (O := fun _ => False) _ h2 (fun _ h => .inl h)
  have hb1 : Below w0.heap.size w0 W1 := by
    rw [← hW1]
    exact hb0.trans ((((Below.refl _ w).alloc (Nat.le_refl _) _).alloc (by simp) _).mono hb0.size)
  refine ⟨B + 1, [{ target := .collected B, args := #[] }], W1, { target := .fn (.func gf) lb, args := #[.func (.yield (B + 1)) #[] #[]] }, W1, gf, #[.func (.yield (B + 1)) #[] #[]] ++ lb, W1, ?_, ?_, ?_, ?_, fun _ => h1, ?_⟩
  · rw [← hW1, hrc, ← hB]; exact run_enterLoop_outer _ _ _ _ _
  · simp only [resolve, hg]
    simp [go_sem]
  · intro f' hf'
    simp [Target.leads] at hf'
    subst hf'
    exact hFg
  · simp [invoke, go_sem, eg]
  rw [hB] at hI hIx hKb hbody hdone hstop
  -- the record and the block for deferred calls, beside the loop's own invariant
  have other : ∀ {A A' : World} {row : Option Nat}, A.grownBy A' row → (∀ r, row = some r → B + 2 ≤ r) → ∀ k, k < B + 2 → k < A.heap.size → A'.heap[k]? = A.heap[k]? := fun hgr hr k hk hk2 => hgr.block k hk2 (fun e => by have := hr k e.symm; omega)
  refine (hseq (B + 1) (fun pre O A => I pre O A ∧ A.heap[B + 1]? = some (.loop (rc .ready none)) ∧ A.heap[B]? = some (.deferred (some [])) ∧ ∀ r, O r → B + 2 ≤ r ∧ r < A.heap.size)
    (fun pre A => ∃ c, Ix c pre A ∧ A.heap[B + 1]? = some (.loop (rc .done (some c))) ∧ A.heap[B]? = some (.deferred (some []))) W1 hb1 ?_ ?_ ?_ ⟨hI1, hL1, hD1, fun _ h => h.elim⟩).mono ?_
  · rintro pre O O' A A' row ⟨hi, hl, hd, ho⟩ hgr hr hO
    rw [hs1] at hr
    have hsz : B + 1 < A.heap.size := (Array.getElem?_eq_some_iff.1 hl).1
    have hrr : ∀ r, row = some r → B + 2 ≤ r := fun r e => (hr r e).1
    refine ⟨hI pre O O' A A' row hi hgr (fun r e => ⟨by have := hrr r e; omega, (hr r e).2⟩) hO, (other hgr hrr _ (by omega) hsz).trans hl, (other hgr hrr _ (by omega) (by omega)).trans hd, fun r h => ?_⟩
    have hgs := hgr.size
    rcases hO r h with h2 | h2
    · have := ho r h2
      omega
    · omega
  · rintro pre A A' row ⟨c, hi, hl, hd⟩ hgr hr
    rw [hs1] at hr
    have hsz : B + 1 < A.heap.size := (Array.getElem?_eq_some_iff.1 hl).1
    have hrr : ∀ r, row = some r → B + 2 ≤ r := fun r e => (hr r e).1
    exact ⟨c, hIx c pre A A' row hi hgr (fun r e => ⟨by have := hrr r e; omega, (hr r e).2⟩), (other hgr hrr _ (by omega) hsz).trans hl, (other hgr hrr _ (by omega) (by omega)).trans hd⟩
  · rintro pre x O A ⟨hi, hl, hd, ho⟩ hpre
    have hsz : B + 1 < A.heap.size := (Array.getElem?_eq_some_iff.1 hl).1
    have hy := run_yield (P := P) (args := encs x) hl (by rw [hrc]; exact hps x)
    rw [hrc] at hy
    refine ⟨fn, _, assign, body, hy, roundIn_of_wpIn hfn (hassign _ x A _ ⟨_, run_beginRound hl (by rw [hrc]), ?_⟩)⟩
    clear hy
    obtain ⟨A2, hA2⟩ : ∃ A2, A.putObj (B + 1) (.loop { rc .ready none with state := .busy }) = A2 := ⟨_, rfl⟩
    have hl2 : A2.heap[B + 1]? = some (.loop { rc .ready none with state := .busy }) := by rw [← hA2]; exact World.putObj_heap_same hsz
    have hoth : ∀ k, k ≠ B + 1 → A2.heap[k]? = A.heap[k]? := fun k hk => by rw [← hA2]; exact World.putObj_heap_other (by omega)
    have hsz2 : A2.heap.size = A.heap.size := by rw [← hA2]; simp
    have hi2 : I pre O A2 := by rw [← hA2]; exact hI.put _ hi (by omega) hl rfl
    have hk2 : Kp A A2 := by rw [← hA2]; exact hKb _ _ _ _ (by omega) hl rfl
    rw [hA2]
    refine wpIn_mono (hbody _ pre x O A2 hi2 hpre (fun r h => by rw [hsz2]; exact ho r h)) ?_
    -- behind the body: the record is turned once more
    have fin : ∀ (jump : Option Code) (W3 : World), KeepsFrom B A2 W3 → ∃ W4, W4 = W3.putObj (B + 1) (.loop (rc (if jump.isNone then .ready else .done) jump)) ∧ (Instr.endRound (B + 1) jump).run P W3 = .ok (.bool jump.isNone) W4 ∧ (∃ o : Obj, W3.heap[B + 1]? = some o ∧ o.isCells = false) ∧
        W4.heap[B + 1]? = some (.loop (rc (if jump.isNone then .ready else .done) jump)) ∧ W4.heap[B]? = some (.deferred (some [])) ∧ KeepsFrom (B + 2) A W4 ∧ ∀ k, k ≠ B + 1 → W4.heap[k]? = W3.heap[k]? := fun jump W3 hk3 => by
      have hl3 := hk3.same _ _ (by omega) hl2 rfl
      have hr := run_endRound (P := P) jump hl3
      have ho4 : ∀ k, k ≠ B + 1 → (W3.putObj (B + 1) (.loop (rc (if jump.isNone then .ready else .done) jump))).heap[k]? = W3.heap[k]? := fun k hk => World.putObj_heap_other (by omega)
      refine ⟨_, rfl, ?_, ⟨_, hl3, rfl⟩, World.putObj_heap_same (Array.getElem?_eq_some_iff.1 hl3).1, ?_, ⟨?_, ?_⟩, ho4⟩
      · rw [hrc] at hr ⊢
        exact hr
      · rw [ho4 B (by omega)]
        exact hk3.same _ _ (Nat.le_refl _) ((hoth B (by omega)).trans hd) rfl
      · simp only [World.putObj_size]
        have := hk3.size
        omega
      · intro k o hk hko hoc
        rw [ho4 k (by omega)]
        exact hk3.same _ _ (by omega) ((hoth k (by omega)).trans hko) hoc
    rintro e a3 W3 hp
    cases e with
    | normal =>
      obtain ⟨hk3, hs3, hkp3, hi3⟩ := hp
      obtain ⟨W4, rfl, hr, ⟨o3, hl3, hc3⟩, hl4, hd4, hkf, ho4⟩ := fin none W3 hk3
      refine ⟨_, _, hr, by rw [hs1]; exact hkf, .inl ⟨rfl, ⟨hI.put _ hi3 (by omega) hl3 hc3, hl4, hd4, fun r h => ⟨(ho r h).1, Nat.lt_of_lt_of_le (ho r h).2 hkf.size⟩⟩, hKt (hKt hk2 hkp3) (hKb _ _ _ _ (by omega) hl3 hc3), fun r hr' => ?_⟩⟩
      have h2 := (ho r hr').1
      rw [ho4 r (by omega), hs3 r hr', hoth r (by omega)]
    | ret =>
      obtain ⟨hk3, hi3⟩ := hp
      obtain ⟨W4, rfl, hr, ⟨o3, hl3, hc3⟩, hl4, hd4, hkf, _⟩ := fin (some .ret) W3 hk3
      exact ⟨_, _, hr, by rw [hs1]; exact hkf, .inr ⟨rfl, .ret, (hIx _).putObj _ hi3 (by omega) hl3 hc3, hl4, hd4⟩⟩
    | exit id =>
      obtain ⟨hk3, hi3⟩ := hp
      obtain ⟨W4, rfl, hr, ⟨o3, hl3, hc3⟩, hl4, hd4, hkf, _⟩ := fin (some (.exit id)) W3 hk3
      exact ⟨_, _, hr, by rw [hs1]; exact hkf, .inr ⟨rfl, .exit id, (hIx _).putObj _ hi3 (by omega) hl3 hc3, hl4, hd4⟩⟩
    | goto t =>
      obtain ⟨hk3, hi3⟩ := hp
      obtain ⟨W4, rfl, hr, ⟨o3, hl3, hc3⟩, hl4, hd4, hkf, _⟩ := fin (some (.goto t)) W3 hk3
      exact ⟨_, _, hr, by rw [hs1]; exact hkf, .inr ⟨rfl, .goto t, (hIx _).putObj _ hi3 (by omega) hl3 hc3, hl4, hd4⟩⟩
    | panic ch => exact hp.elim
    | outgrown => exact hp.elim
  · rintro e W2 ⟨⟨v, rfl⟩, (⟨O, hi, hl, hd, _⟩ | ⟨pre, hpre, c, hi, hl, hd⟩)⟩
    · have he := run_endLoop (P := P) hl (by rw [hrc]; simp)
      have hp : (rc .ready none).pending = none := by rw [hrc]
      rw [hp] at he
      exact ⟨none, _, he, hdone B O _ (Nat.le_refl _) (hI.put _ hi (by omega) hl rfl) ((World.putObj_heap_other (by omega)).trans hd)⟩
    · have he := run_endLoop (P := P) hl (by rw [hrc]; simp)
      have hp : (rc .done (some c)).pending = some c := by rw [hrc]
      rw [hp] at he
      exact ⟨some c, _, he, hstop B c pre _ (Nat.le_refl _) hpre ((hIx c).putObj _ hi (by omega) hl rfl) ((World.putObj_heap_other (by omega)).trans hd)⟩
end
end Go.Proofs.YtjalehlmldlooaaGreatDoor
