
/-
  A loop over an iterator that writes cells of its own, and that hands its things on in one order: the iterator's contract, and the loop's law. tree.eachLeaf, tree.leaves: the leaves of a tree, told to a loop. (*tree.Tree).All: its elements, with their numbers, told to a loop. Operations, rows behind them; the two-way and the three-way law, Back, Cross: plain lists. Ranks: of the element at a place, on both sides of a gap; a rank for a new element, where there is room. A region that draws its order and in which one operation, a call, changes what was there: the law of InvT with that one told apart. (*model.Model).Insert, over what rankFor answers. Ranks are laid out anew: the IDs that have one keep one. A rank for a new element. (*tree.Tree).Set, of a place that there is. (*model.Model).Add, of a place that there is. (*tree.Tree).All's closure as an iterator. The loop's law of Iter, where the assignment lays the loop's variable in a block of its own. (*model.Model).All's closure as an iterator. (*model.Model).Elements. unicode/utf8.AppendRune and (*strings.Builder).WriteRune of a right rune: what is written, and where it lies. (*Model).View: the bytes of what is seen.
-/
import Derived.RangeFuncNested
import Derived.RangeFuncBound
import Derived.RangeFuncCalls
import Derived.RangeFuncLeaves
import Derived.Shelf.Abstract
import Derived.Shelf.RegionOpen
import Derived.WalkKit
import Derived.OwnWalkIn
import Derived.TacticsInMore
import Derived.LoopNIn
import Derived.LoopIn
import Derived.Maps.AppendAt
import Derived.Test.YtjopeojnlibagaaGreatDoorTrFront
import Derived.Test.YtjopeojnlibagaaGreatDoorTrKp
import Derived.Test.YtjopeojnlibagaaGreatDoorMd2
import Derived.Test.YtjopeojnlibagaaGreatDoorMd3
import Derived.Test.YtjopeojnlibagaaGreatDoorInvT
import Derived.Test.YtjopeojnlibagaaGreatDoorMd1
import Derived.Lib.Builder
import Derived.Lib.AppendStr
import Derived.Lib.RuneBytes
import Derived.Lib.UnsafeStr
import Derived.Shelf.Strings.BuilderK
import Derived.Laws.BitsLemmas
namespace Go.Proofs.YtjopeojnlibagaaGreatDoor
open Go.RowKit
section
variable {F : Fence} {n : Nat} {P : Program}

/-- The iterator's own blocks lie as they lay. -/
def KeepsSet (O : Nat → Prop) (W W' : World) : Prop := ∀ r, O r → W'.heap[r]? = W.heap[r]?
/-- What an invariant bears beside an iterator whose own blocks are O: new blocks, which may become the iterator's own; a turn of a block that is its own, or of one, from B on, that is no cells. -/
def Bears {α : Type} (B : Nat) (J : List α → (Nat → Prop) → World → Prop) : Prop :=
  ∀ pre O O' A A' row, J pre O A → A.grownBy A' row → (∀ r, row = some r → B ≤ r ∧ (O r ∨ ∃ o : Obj, A.heap[r]? = some o ∧ o.isCells = false)) → (∀ r, O' r → O r ∨ (A.heap.size ≤ r ∧ r < A'.heap.size)) → J pre O' A'
/-- An iterator that tells xs: one by one, or as far as the loop lets it. -/
def SeqIt {α : Type} (F : Fence) (n : Nat) (P : Program) (g : Nat) (lb : Array Value) (encs : α → Array Value) (xs : List α) (Kp : World → World → Prop) (w : World) : Prop :=
  ∀ (l : Nat) (J : List α → (Nat → Prop) → World → Prop) (Jx : List α → World → Prop) (W : World), Below w.heap.size w W → Bears W.heap.size J → OwnFrom W.heap.size Jx →
    (∀ pre x O A, J pre O A → (pre ++ [x]) <+: xs → YieldAt F (n - 1) P l (encs x) A fun e A' => KeepsFrom W.heap.size A A' ∧
      ((e = .returned (.bool true) ∧ J (pre ++ [x]) O A' ∧ Kp A A' ∧ KeepsSet O A A') ∨ (e = .returned (.bool false) ∧ Jx (pre ++ [x]) A'))) →
    J [] (fun _ => False) W →
    CallsIn F n P g (#[.func (.yield l) #[] #[]] ++ lb) W fun e W' => (∃ v, e = .returned v) ∧ ((∃ O, J xs O W') ∨ ∃ pre, pre <+: xs ∧ Jx pre W')
/-- How a round may be left. -/
def itPost {α : Type} (B : Nat) (Kp : World → World → Prop) (O : Nat → Prop) (I : List α → (Nat → Prop) → World → Prop) (Ix : Code → List α → World → Prop) (ys : List α) (W : World) : Exit → Act → World → Prop
  | .normal, _, W' => KeepsFrom B W W' ∧ KeepsSet O W W' ∧ Kp W W' ∧ I ys O W'
  | .ret, _, W' => KeepsFrom B W W' ∧ Ix .ret ys W'
  | .exit id, _, W' => KeepsFrom B W W' ∧ Ix (.exit id) ys W'
  | .goto t, _, W' => KeepsFrom B W W' ∧ Ix (.goto t) ys W'
  | .panic _, _, _ => False
  | .outgrown, _, _ => False

theorem Bears.put {α : Type} {B : Nat} {I : List α → (Nat → Prop) → World → Prop} (h : Bears B I) {pre : List α} {O : Nat → Prop} {A : World} {l : Nat} {o : Obj} (o' : Obj) (hi : I pre O A) (hB : B ≤ l) (hl : A.heap[l]? = some o) (ho : o.isCells = false) : I pre O (A.putObj l o') :=
  h pre O O A _ (some l) hi (grownBy_putObj' A l o') (fun r e => by cases e; exact ⟨hB, .inr ⟨o, hl, ho⟩⟩) (fun _ hr => .inl hr)
theorem Bears.new {α : Type} {B : Nat} {I : List α → (Nat → Prop) → World → Prop} (h : Bears B I) {pre : List α} {O O' : Nat → Prop} {A : World} (o : Obj) (hi : I pre O A) (hO : ∀ r, O' r → O r ∨ r = A.heap.size) : I pre O' (A.alloc o) :=
  h pre O O' A _ none hi (World.grownBy_alloc A o none) (fun _ e => by cases e) (fun r hr => (hO r hr).elim .inl (fun e => .inr (by rw [World.size_alloc]; omega)))

theorem wpIn_rangeFunc_it {α : Type} {g : Operand} {ps : Array Tmp} {assign body : Code} {Q : Exit → Act → World → Prop} {a : Act} {w : World}
    (hro : F.round = none) (h1 : 1 ≤ n) {gf : Nat} {lb : Array Value} (hg : a.eval g = .func (.func gf) #[] lb) (hFg : F.fn gf) (eg : ∀ args w, (callFunc gf args).run P w = .ok (.enter gf args) w)
    {encs : α → Array Value} {xs : List α} {Kp : World → World → Prop} {w0 : World} (hseq : SeqIt F (n - 1) P gf lb encs xs Kp w0)
    (hKt : ∀ {A B C : World}, Kp A B → Kp B C → Kp A C) (hKb : ∀ (W : World) (l : Nat) (o o' : Obj), w.heap.size ≤ l → W.heap[l]? = some o → o.isCells = false → Kp W (W.putObj l o')) (hb0 : Below w0.heap.size w0 w) (hps : ∀ x, (encs x).size = ps.size)
    (I : List α → (Nat → Prop) → World → Prop) (Ix : Code → List α → World → Prop) (hI : Bears w.heap.size I) (hIx : ∀ c, OwnFrom w.heap.size (Ix c)) (h0 : I [] (fun _ => False) w) (a₁ : α → Act)
    (hassign : ∀ (l : Nat) (x : α) (W : World) (K : Act → World → Prop), K (a₁ x) W →
      assign.wpIn (F.inRound l) (n - 1 - 1) P (Exit.then K (fun _ _ _ => False)) { tmps := (ps.zip (encs x)).foldl (fun t (p, v) => t.setIfInBounds p v) a.tmps, defers := [] } W)
    (hbody : ∀ (l : Nat) (pre : List α) (x : α) (O : Nat → Prop) (W : World), I pre O W → (pre ++ [x]) <+: xs → (∀ r, O r → w.heap.size + 2 ≤ r ∧ r < W.heap.size) → body.wpIn (F.inRound l) (n - 1 - 1) P (itPost w.heap.size Kp O I Ix (pre ++ [x]) W) (a₁ x) W)
    (hdone : ∀ (D : Nat) (O : Nat → Prop) (W : World), w.heap.size ≤ D → I xs O W → W.heap[D]? = some (.deferred (some [])) → Q .normal { a with defers := { target := .collected D, args := #[] } :: a.defers } W)
    (hstop : ∀ (D : Nat) (c : Code) (pre : List α) (W : World), w.heap.size ≤ D → pre <+: xs → Ix c pre W → W.heap[D]? = some (.deferred (some [])) → c.wpIn F n P Q { a with defers := { target := .collected D, args := #[] } :: a.defers } W) :
    (Code.rangeFunc g ps assign body).wpIn F n P Q a w := by
  refine wpIn_rangeFunc fun fn hfn => ?_
  rw [hro]
  obtain ⟨B, hB⟩ : ∃ B, w.heap.size = B := ⟨_, rfl⟩
  obtain ⟨rc, hrc⟩ : ∃ rc : LoopState → Option Code → Loop, rc = fun st pe => { state := st, pending := pe, fn, tmps := a.tmps, params := ps, assign, body, defers := B } := ⟨_, rfl⟩
  obtain ⟨W1, hW1⟩ : ∃ W1, (w.alloc (.deferred (some []))).alloc (.loop (rc .ready none)) = W1 := ⟨_, rfl⟩
  have hs1 : W1.heap.size = B + 2 := by rw [← hW1, World.size_alloc, World.size_alloc, hB]
  have hL1 : W1.heap[B + 1]? = some (.loop (rc .ready none)) := by
    have := World.alloc_heap_new (w.alloc (.deferred (some []))) (.loop (rc .ready none))
    rw [World.size_alloc, hB, hW1] at this
    exact this
  have hD1 : W1.heap[B]? = some (.deferred (some [])) := by
    have h2 := Below.heap_alloc (w.alloc (.deferred (some []))) (.loop (rc .ready none)) B (by rw [World.size_alloc]; omega)
    have h3 := World.alloc_heap_new w (.deferred (some []))
    rw [hB] at h3
    rw [← hW1]
    exact h2.trans h3
  have hI1 : I [] (fun _ => False) W1 := by
    rw [← hW1]
    have h2 : I [] (fun _ => False) (w.alloc (.deferred (some []))) := hI.new (O := fun _ => False) _ h0 (fun _ h => .inl h)
    exact hI.new (O := fun _ => False) _ h2 (fun _ h => .inl h)
  have hb1 : Below w0.heap.size w0 W1 := by
    rw [← hW1]
    exact hb0.trans ((((Below.refl _ w).alloc (Nat.le_refl _) _).alloc (by simp) _).mono hb0.size)
  refine ⟨B + 1, [{ target := .collected B, args := #[] }], W1, { target := .fn (.func gf) lb, args := #[.func (.yield (B + 1)) #[] #[]] }, W1, gf, #[.func (.yield (B + 1)) #[] #[]] ++ lb, W1, ?_, ?_, ?_, ?_, fun _ => h1, ?_⟩
  · rw [← hW1, hrc, ← hB]; exact run_enterLoop_outer _ _ _ _ _
  · simp only [resolve, hg]
    simp [go_sem]
  · intro f' hf'
    simp [Target.leads] at hf'
    subst hf'
    exact hFg
  · simp [invoke, go_sem, eg]
  rw [hB] at hI hIx hKb hbody hdone hstop
  -- the record and the block for deferred calls, beside the loop's own invariant
  have other : ∀ {A A' : World} {row : Option Nat}, A.grownBy A' row → (∀ r, row = some r → B + 2 ≤ r) → ∀ k, k < B + 2 → k < A.heap.size → A'.heap[k]? = A.heap[k]? := fun hgr hr k hk hk2 => hgr.block k hk2 (fun e => by have := hr k e.symm; omega)
  refine (hseq (B + 1) (fun pre O A => I pre O A ∧ A.heap[B + 1]? = some (.loop (rc .ready none)) ∧ A.heap[B]? = some (.deferred (some [])) ∧ ∀ r, O r → B + 2 ≤ r ∧ r < A.heap.size)
    (fun pre A => ∃ c, Ix c pre A ∧ A.heap[B + 1]? = some (.loop (rc .done (some c))) ∧ A.heap[B]? = some (.deferred (some []))) W1 hb1 ?_ ?_ ?_ ⟨hI1, hL1, hD1, fun _ h => h.elim⟩).mono ?_
  · rintro pre O O' A A' row ⟨hi, hl, hd, ho⟩ hgr hr hO
    rw [hs1] at hr
    have hsz : B + 1 < A.heap.size := (Array.getElem?_eq_some_iff.1 hl).1
    have hrr : ∀ r, row = some r → B + 2 ≤ r := fun r e => (hr r e).1
    refine ⟨hI pre O O' A A' row hi hgr (fun r e => ⟨by have := hrr r e; omega, (hr r e).2⟩) hO, (other hgr hrr _ (by omega) hsz).trans hl, (other hgr hrr _ (by omega) (by omega)).trans hd, fun r h => ?_⟩
    have hgs := hgr.size
    rcases hO r h with h2 | h2
    · have := ho r h2
      omega
    · omega
  · rintro pre A A' row ⟨c, hi, hl, hd⟩ hgr hr
    rw [hs1] at hr
    have hsz : B + 1 < A.heap.size := (Array.getElem?_eq_some_iff.1 hl).1
    have hrr : ∀ r, row = some r → B + 2 ≤ r := fun r e => (hr r e).1
    exact ⟨c, hIx c pre A A' row hi hgr (fun r e => ⟨by have := hrr r e; omega, (hr r e).2⟩), (other hgr hrr _ (by omega) hsz).trans hl, (other hgr hrr _ (by omega) (by omega)).trans hd⟩
  · rintro pre x O A ⟨hi, hl, hd, ho⟩ hpre
    have hsz : B + 1 < A.heap.size := (Array.getElem?_eq_some_iff.1 hl).1
    have hy := run_yield (P := P) (args := encs x) hl (by rw [hrc]; exact hps x)
    rw [hrc] at hy
    refine ⟨fn, _, assign, body, hy, roundIn_of_wpIn hfn (hassign _ x A _ ⟨_, run_beginRound hl (by rw [hrc]), ?_⟩)⟩
    clear hy
    obtain ⟨A2, hA2⟩ : ∃ A2, A.putObj (B + 1) (.loop { rc .ready none with state := .busy }) = A2 := ⟨_, rfl⟩
    have hl2 : A2.heap[B + 1]? = some (.loop { rc .ready none with state := .busy }) := by rw [← hA2]; exact World.putObj_heap_same hsz
    have hoth : ∀ k, k ≠ B + 1 → A2.heap[k]? = A.heap[k]? := fun k hk => by rw [← hA2]; exact World.putObj_heap_other (by omega)
    have hsz2 : A2.heap.size = A.heap.size := by rw [← hA2]; simp
    have hi2 : I pre O A2 := by rw [← hA2]; exact hI.put _ hi (by omega) hl rfl
    have hk2 : Kp A A2 := by rw [← hA2]; exact hKb _ _ _ _ (by omega) hl rfl
    rw [hA2]
    refine wpIn_mono (hbody _ pre x O A2 hi2 hpre (fun r h => by rw [hsz2]; exact ho r h)) ?_
    -- behind the body: the record is turned once more
    have fin : ∀ (jump : Option Code) (W3 : World), KeepsFrom B A2 W3 → ∃ W4, W4 = W3.putObj (B + 1) (.loop (rc (if jump.isNone then .ready else .done) jump)) ∧ (Instr.endRound (B + 1) jump).run P W3 = .ok (.bool jump.isNone) W4 ∧ (∃ o : Obj, W3.heap[B + 1]? = some o ∧ o.isCells = false) ∧
        W4.heap[B + 1]? = some (.loop (rc (if jump.isNone then .ready else .done) jump)) ∧ W4.heap[B]? = some (.deferred (some [])) ∧ KeepsFrom (B + 2) A W4 ∧ ∀ k, k ≠ B + 1 → W4.heap[k]? = W3.heap[k]? := fun jump W3 hk3 => by
      have hl3 := hk3.same _ _ (by omega) hl2 rfl
      have hr := run_endRound (P := P) jump hl3
      have ho4 : ∀ k, k ≠ B + 1 → (W3.putObj (B + 1) (.loop (rc (if jump.isNone then .ready else .done) jump))).heap[k]? = W3.heap[k]? := fun k hk => World.putObj_heap_other (by omega)
      refine ⟨_, rfl, ?_, ⟨_, hl3, rfl⟩, World.putObj_heap_same (Array.getElem?_eq_some_iff.1 hl3).1, ?_, ⟨?_, ?_⟩, ho4⟩
      · rw [hrc] at hr ⊢
        exact hr
      · rw [ho4 B (by omega)]
        exact hk3.same _ _ (Nat.le_refl _) ((hoth B (by omega)).trans hd) rfl
      · simp only [World.putObj_size]
        have := hk3.size
        omega
      · intro k o hk hko hoc
        rw [ho4 k (by omega)]
        exact hk3.same _ _ (by omega) ((hoth k (by omega)).trans hko) hoc
    rintro e a3 W3 hp
    cases e with
    | normal =>
      obtain ⟨hk3, hs3, hkp3, hi3⟩ := hp
      obtain ⟨W4, rfl, hr, ⟨o3, hl3, hc3⟩, hl4, hd4, hkf, ho4⟩ := fin none W3 hk3
      refine ⟨_, _, hr, by rw [hs1]; exact hkf, .inl ⟨rfl, ⟨hI.put _ hi3 (by omega) hl3 hc3, hl4, hd4, fun r h => ⟨(ho r h).1, Nat.lt_of_lt_of_le (ho r h).2 hkf.size⟩⟩, hKt (hKt hk2 hkp3) (hKb _ _ _ _ (by omega) hl3 hc3), fun r hr' => ?_⟩⟩
      have h2 := (ho r hr').1
      rw [ho4 r (by omega), hs3 r hr', hoth r (by omega)]
    | ret =>
      obtain ⟨hk3, hi3⟩ := hp
      obtain ⟨W4, rfl, hr, ⟨o3, hl3, hc3⟩, hl4, hd4, hkf, _⟩ := fin (some .ret) W3 hk3
      exact ⟨_, _, hr, by rw [hs1]; exact hkf, .inr ⟨rfl, .ret, (hIx _).putObj _ hi3 (by omega) hl3 hc3, hl4, hd4⟩⟩
    | exit id =>
      obtain ⟨hk3, hi3⟩ := hp
      obtain ⟨W4, rfl, hr, ⟨o3, hl3, hc3⟩, hl4, hd4, hkf, _⟩ := fin (some (.exit id)) W3 hk3
      exact ⟨_, _, hr, by rw [hs1]; exact hkf, .inr ⟨rfl, .exit id, (hIx _).putObj _ hi3 (by omega) hl3 hc3, hl4, hd4⟩⟩
    | goto t =>
      obtain ⟨hk3, hi3⟩ := hp
      obtain ⟨W4, rfl, hr, ⟨o3, hl3, hc3⟩, hl4, hd4, hkf, _⟩ := fin (some (.goto t)) W3 hk3
      exact ⟨_, _, hr, by rw [hs1]; exact hkf, .inr ⟨rfl, .goto t, (hIx _).putObj _ hi3 (by omega) hl3 hc3, hl4, hd4⟩⟩
    | panic ch => exact hp.elim
    | outgrown => exact hp.elim
  · rintro e W2 ⟨⟨v, rfl⟩, (⟨O, hi, hl, hd, _⟩ | ⟨pre, hpre, c, hi, hl, hd⟩)⟩
    · have he := run_endLoop (P := P) hl (by rw [hrc]; simp)
      have hp : (rc .ready none).pending = none := by rw [hrc]
      rw [hp] at he
      exact ⟨none, _, he, hdone B O _ (Nat.le_refl _) (hI.put _ hi (by omega) hl rfl) ((World.putObj_heap_other (by omega)).trans hd)⟩
    · have he := run_endLoop (P := P) hl (by rw [hrc]; simp)
      have hp : (rc .done (some c)).pending = some c := by rw [hrc]
      rw [hp] at he
      exact ⟨some c, _, he, hstop B c pre _ (Nat.le_refl _) hpre ((hIx c).putObj _ hi (by omega) hl rfl) ((World.putObj_heap_other (by omega)).trans hd)⟩
end
end Go.Proofs.YtjopeojnlibagaaGreatDoor
namespace Go.Proofs.YtjopeojnlibagaaGreatDoor
open Go.RowKit Go.Shelf
set_option maxRecDepth 100000
attribute [local go_sem] Oper.semAt_some

theorem calls_in {F : Fence} (hF : F = Fence.wide) {n : Nat} {f : FuncId} {args : Array Value} {w : World} {Q : Ending → World → Prop} (h : Calls Tryz.prog f args w Q) : CallsIn F n Tryz.prog f args w Q := by
  subst hF; exact callsIn_wide.2 h
theorem calls_out {n : Nat} {f : FuncId} {args : Array Value} {w : World} {Q : Ending → World → Prop} (h : ∀ F : Fence, F = Fence.wide → CallsIn F n Tryz.prog f args w Q) : Calls Tryz.prog f args w Q := callsIn_wide.1 (h _ rfl)
theorem fn_wide {F : Fence} (hF : F = Fence.wide) (f : FuncId) : F.fn f := by subst hF; trivial
theorem round_wide {F : Fence} (hF : F = Fence.wide) : F.round = none := by subst hF; rfl
theorem depth_wide {F : Fence} (hF : F = Fence.wide) : F.depth = none := by subst hF; rfl
theorem yield_any {F : Fence} (hF : F = Fence.wide) {m : Nat} (m' : Nat) {P : Program} {l : Nat} {args : Array Value} {W : World} {Q : Ending → World → Prop} (h : YieldAt F m P l args W Q) : YieldAt F m' P l args W Q := by
  obtain ⟨fn, tmps, assign, body, hy, hR⟩ := h
  exact ⟨fn, tmps, assign, body, hy, hR.1, fun c cs _ => hR.2 c cs (fun d h => by rw [depth_wide hF] at h; cases h)⟩

/-- A leaf: where its list lies, and what it holds. -/
structure Lf where
  g : Nat
  o : Nat
  c : Nat
  l : List El
def Lf.v (x : Lf) : Value := .slice (some ⟨x.g, x.o, none⟩) x.l.length x.c
def Nd.lfs : Nd → List Lf
  | .leaf _ g o_ c l => [⟨g, o_, c, l⟩]
  | .inner _ x y => x.lfs ++ y.lfs
theorem Nd.lfs_l : ∀ t : Nd, t.lfs.map Lf.l = t.leaves
  | .leaf .. => rfl
  | .inner _ x y => by simp [Nd.lfs, Nd.leaves, Nd.lfs_l x, Nd.lfs_l y]

set_option maxHeartbeats 4000000 in
theorem eachLeaf_in {F : Fence} (hF : F = Fence.wide) (l N : Nat) (G : World → Prop) (K : World → World → Prop) (hG : ∀ W W', G W → K W W' → G W') (Pq : Lf → Prop) (J Jx : List {x : Lf // Pq x} → World → Prop)
    (hY : ∀ m pre (x : {x : Lf // Pq x}) W, J pre W → pre.length < N → YieldAt F m Tryz.prog l #[x.1.v] W fun e W' =>
      (e = .returned (.bool true) ∧ J (pre ++ [x]) W' ∧ K W W') ∨ (e = .returned (.bool false) ∧ Jx (pre ++ [x]) W')) {R : Rows} (t : Nd) :
    ∀ (n : Nat) (pre : List {x : Lf // Pq x}) (W : World) (hP : ∀ x ∈ t.lfs, Pq x), (∀ W, G W → t.At R W) → G W → J pre W → pre.length + t.lfs.length ≤ N →
      CallsIn F n Tryz.prog 125 #[pv t.blk, .func (.yield l) #[] #[]] W fun e W' =>
        (e = .returned (.bool true) ∧ J (pre ++ t.lfs.attachWith Pq hP) W' ∧ G W') ∨ (e = .returned (.bool false) ∧ ∃ q, q <+: t.lfs.attachWith Pq hP ∧ Jx (pre ++ q) W') := by
  have hdd : ∀ k : Nat, (F.depth.isSome = true → 1 ≤ k) := fun k h => by rw [depth_wide hF] at h; cases h
  have hro := round_wide hF
  have k1 : F.fn 106 := fn_wide hF _
  have k2 : F.fn 125 := fn_wide hF _
  induction t with
  | leaf b g o_ c es =>
    intro n pre W hP hA hg hJ hN
    have hL := hA W hg
    have c2 := hL.1.cell 2
    simp only [ndc] at c2
    have HI := hid_of' (calls_in (n := n - 1) hF (isLeaf_any hL))
    simp only [Nd.lfs, List.length_cons, List.length_nil] at hN
    obtain ⟨fn, tmps, assign, body, hy, hR⟩ := hY (n - 1) pre ⟨⟨g, o_, c, es⟩, hP _ (by simp [Nd.lfs])⟩ W hJ (by omega)
    simp only [Lf.v] at hy
    unfold pv Nd.blk at HI ⊢
    unfold Nd.isL at HI
    clear hF
    refine callsIn_of_wp Tryz.func125 rfl k2 ?_ hro
    simp only [Tryz.ntmps125, List.size_toArray, List.length_cons, List.length_nil, Nat.reduceAdd, Nat.reduceSub, Array.replicate_succ, Array.replicate_zero, List.push_toArray, List.append_toArray, List.nil_append, List.cons_append]
    gi_wp2_with (first
      | ((try refine ⟨hdd _, ?_⟩); gi_at_call 106; refine HI.out.mono ?_; clear HI; rintro e w1 ⟨rfl, hw⟩; obtain rfl := hw.symm)
      | ((try refine ⟨hdd _, ?_⟩); refine hR.mono ?_; clear hR; rintro e W2 (⟨rfl, hJ2, hk2⟩ | ⟨rfl, hx2⟩)))
    · go_ret
      exact .inl ⟨rfl, hJ2, hG _ _ hg hk2⟩
    · go_ret
      exact .inr ⟨rfl, _, List.prefix_refl _, hx2⟩
  | inner b x y ihx ihy =>
    intro n pre W hP hA hg hJ hN
    have hL := hA W hg
    have d0 := hL.1.cell 0
    simp only [ndc, pv] at d0
    have HI := hid_of' (calls_in (n := n - 1) hF (isLeaf_any hL))
    have hPx : ∀ z ∈ x.lfs, Pq z := fun z hz => hP z (by simp [Nd.lfs, hz])
    have hPy : ∀ z ∈ y.lfs, Pq z := fun z hz => hP z (by simp [Nd.lfs, hz])
    simp only [Nd.lfs, List.length_append] at hN
    have e0 : (Nd.inner b x y).lfs.attachWith Pq hP = x.lfs.attachWith Pq hPx ++ y.lfs.attachWith Pq hPy := by
      simp only [Nd.lfs]; exact List.attachWith_append ..
    have ih1 := (ihx (n - 1) pre W hPx (fun W h => (hA W h).2.1) hg hJ (by omega)).mono (R' := fun e W1 =>
        (e = .returned (.bool true) ∧ W1.cell? ⟨b, 1, none⟩ = some (.pointer (some ⟨y.blk, 0, none⟩)) ∧ J (pre ++ x.lfs.attachWith Pq hPx) W1 ∧ G W1) ∨
        (e = .returned (.bool false) ∧ ∃ q, q <+: x.lfs.attachWith Pq hPx ∧ Jx (pre ++ q) W1))
      (fun e W1 h => h.elim (fun ⟨he, hj, hg1⟩ => .inl ⟨he, (hA W1 hg1).1.cell 1, hj, hg1⟩) .inr)
    have ih2 : ∀ W1, J (pre ++ x.lfs.attachWith Pq hPx) W1 → G W1 → CallsIn F (n - 1) Tryz.prog 125 #[.pointer (some ⟨y.blk, 0, none⟩), .func (.yield l) #[] #[]] W1 fun e W' =>
        (e = .returned (.bool true) ∧ J (pre ++ x.lfs.attachWith Pq hPx ++ y.lfs.attachWith Pq hPy) W' ∧ G W') ∨ (e = .returned (.bool false) ∧ ∃ q, q <+: y.lfs.attachWith Pq hPy ∧ Jx (pre ++ x.lfs.attachWith Pq hPx ++ q) W') :=
      fun W1 hj hg1 => ihy (n - 1) _ W1 hPy (fun W h => (hA W h).2.2) hg1 hj (by simp; omega)
    rw [e0]
    unfold pv at ih1
    unfold pv Nd.blk at HI ⊢
    unfold Nd.isL at HI
    clear ihx ihy
    clear hF
    refine callsIn_of_wp Tryz.func125 rfl k2 ?_ hro
    simp only [Tryz.ntmps125, List.size_toArray, List.length_cons, List.length_nil, Nat.reduceAdd, Nat.reduceSub, Array.replicate_succ, Array.replicate_zero, List.push_toArray, List.append_toArray, List.nil_append, List.cons_append]
    gi_wp2_with (first
      | ((try refine ⟨hdd _, ?_⟩); gi_at_call 106; refine HI.out.mono ?_; clear HI; rintro e w1 ⟨rfl, hw⟩; obtain rfl := hw.symm)
      | ((try refine ⟨hdd _, ?_⟩); gi_at_call 125; refine ih1.mono ?_; clear ih1; rintro e W1 (⟨rfl, d1, hj1, hg1⟩ | ⟨rfl, q, hq, hx1⟩))
      | ((try refine ⟨hdd _, ?_⟩); gi_at_call 125; refine (ih2 _ hj1 hg1).mono ?_; rintro e W3 (⟨rfl, hJ3, hg3⟩ | ⟨rfl, q, hq, hx3⟩)))
    · go_ret
      exact .inl ⟨rfl, by simpa [List.append_assoc] using hJ3, hg3⟩
    · go_ret
      obtain ⟨r, hr'⟩ := hq
      exact .inr ⟨rfl, x.lfs.attachWith Pq hPx ++ q, ⟨r, by rw [List.append_assoc, hr']⟩, by simpa [List.append_assoc] using hx3⟩
    · first | skip | refine ⟨fun _ h => (by cases h), ?_⟩
      first | go_ret | (gi_wp2; go_ret)
      exact .inr ⟨rfl, q, hq.trans (List.prefix_append _ _), hx1⟩

/-- The leaves of a tree or none. -/
def lfsO : Option Nd → List Lf
  | none => []
  | some t => t.lfs
/-- A tree or none, as a pointer. -/
def pvO : Option Nd → Value
  | none => .pointer none
  | some t => pv t.blk

set_option maxHeartbeats 2000000 in
theorem leaves1_in {F : Fence} (hF : F = Fence.wide) (n l Bt : Nat) (G : World → Prop) (K : World → World → Prop) (hG : ∀ W W', G W → K W W' → G W') (Pq : Lf → Prop) (J Jx : List {x : Lf // Pq x} → World → Prop) {R : Rows} (t : Option Nd) (hP : ∀ x ∈ lfsO t, Pq x)
    (hY : ∀ pre (x : {x : Lf // Pq x}) W, J pre W → pre.length < (lfsO t).length → YieldAt F (n - 1) Tryz.prog l #[x.1.v] W fun e W' =>
      (e = .returned (.bool true) ∧ J (pre ++ [x]) W' ∧ K W W') ∨ (e = .returned (.bool false) ∧ Jx (pre ++ [x]) W'))
    (W : World) (hB : W.cell? ⟨Bt, 0, none⟩ = some (pvO t)) (hA : ∀ t', t = some t' → ∀ W, G W → t'.At R W) (hg : G W) (h0 : J [] W) :
    CallsIn F n Tryz.prog 124 #[.func (.yield l) #[] #[], .pointer (some ⟨Bt, 0, none⟩)] W fun e W' => (∃ v, e = .returned v) ∧
      ((∃ ys, ys = (lfsO t).attachWith Pq hP ∧ J ys W') ∨ (∃ pre, pre <+: (lfsO t).attachWith Pq hP ∧ Jx pre W')) := by
  have hdd : ∀ k : Nat, (F.depth.isSome = true → 1 ≤ k) := fun k h => by rw [depth_wide hF] at h; cases h
  have k2 : F.fn 125 := fn_wide hF _
  have k3 : F.fn 124 := fn_wide hF _
  have hro := round_wide hF
  cases t with
  | none =>
    simp only [pvO] at hB
    clear hF
    refine callsIn_of_wp Tryz.func124 rfl k3 ?_ hro
    simp only [Tryz.ntmps124, List.size_toArray, List.length_cons, List.length_nil, Nat.reduceAdd, Nat.reduceSub, Array.replicate_succ, Array.replicate_zero, List.push_toArray, List.append_toArray, List.nil_append, List.cons_append]
    gi_wp2
    go_end0
    exact ⟨⟨_, rfl⟩, .inl ⟨_, rfl, by simpa [lfsO] using h0⟩⟩
  | some t =>
    simp only [pvO] at hB
    have hp := eachLeaf_in hF l t.lfs.length G K hG Pq J Jx (fun m pre x W hj hl => yield_any hF m (hY pre x W hj hl)) (R := R) t (n - 1) [] W hP (hA t rfl) hg h0 (by simp)
    unfold pv at hp hB
    clear hF
    refine callsIn_of_wp Tryz.func124 rfl k3 ?_ hro
    simp only [Tryz.ntmps124, List.size_toArray, List.length_cons, List.length_nil, Nat.reduceAdd, Nat.reduceSub, Array.replicate_succ, Array.replicate_zero, List.push_toArray, List.append_toArray, List.nil_append, List.cons_append]
    gi_wp2_with ((try refine ⟨hdd _, ?_⟩); gi_at_call 125; refine hp.mono ?_; clear hp; rintro e W1 (⟨rfl, hJ1, _⟩ | ⟨rfl, q, hq, hx⟩))
    · go_end0
      exact ⟨⟨_, rfl⟩, .inl ⟨_, rfl, hJ1⟩⟩
    · go_end0
      exact ⟨⟨_, rfl⟩, .inr ⟨q, hq, hx⟩⟩

set_option maxHeartbeats 1000000 in
theorem leaves_in {F : Fence} (hF : F = Fence.wide) (n : Nat) (v : Option Addr) (w : World) :
    CallsIn F n Tryz.prog 101 #[.pointer v] w fun e w' => e = .returned (.func (.func 124) #[] #[.pointer (some ⟨w.heap.size, 0, none⟩)]) ∧ w' = w.alloc (.cells #[.pointer v] 148) := by
  have k4 : F.fn 101 := fn_wide hF _
  have hro := round_wide hF
  clear hF
  refine callsIn_of_wp Tryz.func101 rfl k4 ?_ hro
  simp only [Tryz.ntmps101, List.size_toArray, List.length_cons, List.length_nil, Nat.reduceAdd, Nat.reduceSub, Array.replicate_succ, Array.replicate_zero, List.push_toArray, List.append_toArray, List.nil_append, List.cons_append]
  gi_wp2
  go_ret
  exact ⟨rfl, rfl⟩

/-- The leaves of a tree or none, as what a loop goes over. -/
theorem leaves_stops {F : Fence} (hF : F = Fence.wide) (n Bt : Nat) (G : World → Prop) (K : World → World → Prop) (hG : ∀ W W', G W → K W W' → G W') (Pq : Lf → Prop) {R : Rows} (t : Option Nd) (hP : ∀ x ∈ lfsO t, Pq x) (w : World) (hBt : Bt < w.heap.size)
    (hc : w.cell? ⟨Bt, 0, none⟩ = some (pvO t)) (hA : ∀ t', t = some t' → ∀ W, G W → t'.At R W) (hg : ∀ W, Below w.heap.size w W → G W) :
    SeqStopsK F n Tryz.prog 124 #[.pointer (some ⟨Bt, 0, none⟩)] (fun x : {x : Lf // Pq x} => #[x.1.v]) K (fun ys => ys = (lfsO t).attachWith Pq hP) (fun pre => pre <+: (lfsO t).attachWith Pq hP) (lfsO t).length w := fun l J Jx W hW _ _ hY h0 =>
  leaves1_in hF n l Bt G K hG Pq J Jx t hP hY W ((hW.cell (p := ⟨Bt, 0, none⟩) hBt).trans hc) hA (hg W hW) h0
end Go.Proofs.YtjopeojnlibagaaGreatDoor
namespace Go.Proofs.YtjopeojnlibagaaGreatDoor
open Go.RowKit Go.Shelf
set_option maxRecDepth 100000
attribute [local go_sem] Oper.semAt_some

theorem semAt_any {ρ : Operand → Value} {o : Oper} (r : Option Nat) (h : ∀ c, o.op ≠ .defer c) : Oper.semAt r ρ o = execOp ρ o := by
  cases r with
  | none => rfl
  | some l => exact Oper.semAt_some l ρ o h
section
variable {F : Fence} {n : Nat} {ops : Array Oper} {rest : List Oper} {o : Oper} {A : Act} {w : World} {Q : Exit → Act → World → Prop}
theorem wpLIn_loadE (hgd : o.guard = none) (x : Operand) (ho : o.op = .load 66 x) {b off : Nat} (hx : A.eval x = .pointer (some ⟨b, off, none⟩)) {e : El} (h : CsIn b off (ev e) w)
    (k : wpListIn F n Tryz.prog ops Q rest (A.put o.dst (.agg (ev e))) w) : wpListIn F n Tryz.prog ops Q (o :: rest) A w :=
  wpListIn_plain hgd fun _ hK => by
    refine ⟨fun f hf => by simp [Oper.about, ho] at hf, ?_⟩
    rw [semAt_any _ (by rw [ho]; intro c h; cases h)]
    unfold execOp
    simp only [ho, hx, Instr.loadAt, Instr.sureAddr, Sem.run_bind, Sem.run_pure, Result.andThen_ok, run_loadVar_in h Tryz.underlying66 rfl (e_size e)]
    exact hK _ _ k
theorem wpLIn_storeE (hgd : o.guard = none) (x y : Operand) (ho : o.op = .store 66 x y) {g : Nat} (hx : A.eval x = .pointer (some ⟨g, 0, none⟩)) {e : El} (hy : A.eval y = .agg (ev e)) {c0 c1 c2 c3 c4 : Value} (h : RowAt g #[c0, c1, c2, c3, c4] 66 w)
    (k : wpListIn F n Tryz.prog ops Q rest (A.put o.dst undef) (w.setRow g (ev e))) : wpListIn F n Tryz.prog ops Q (o :: rest) A w :=
  wpListIn_plain hgd fun _ hK => by
    refine ⟨fun f hf => by simp [Oper.about, ho] at hf, ?_⟩
    rw [semAt_any _ (by rw [ho]; intro c h; cases h)]
    unfold execOp
    simp only [ho, hx, hy, Instr.storeAt, Instr.sureAddr, Sem.run_bind, Sem.run_pure, Result.andThen_ok, run_storeVar_row w g 66 66 _ (ev e) h (e_size e) rfl (by simp [ev, Value.oneCell'])]
    exact hK _ _ k
end

/-- Cells of w0 outside S lie as they lay. -/
def KC (S : Nat → Prop) (w0 A : World) : Prop := w0.heap.size ≤ A.heap.size ∧ ∀ (g : Nat) (o : Obj), w0.heap[g]? = some o → o.isCells = true → ¬ S g → A.heap[g]? = some o
theorem KC.of_below {S : Nat → Prop} {w0 A : World} (h : Below w0.heap.size w0 A) : KC S w0 A := ⟨h.size, fun g _ hg _ _ => (h.block g (Array.getElem?_eq_some_iff.1 hg).1).trans hg⟩
theorem KC.grown {S : Nat → Prop} {w0 A A' : World} {row : Option Nat} (h : KC S w0 A) (hg : A.grownBy A' row) (hr : ∀ r, row = some r → w0.heap.size ≤ r ∨ S r ∨ ∃ o : Obj, A.heap[r]? = some o ∧ o.isCells = false) : KC S w0 A' := by
  refine ⟨Nat.le_trans h.1 hg.size, fun g o hgo hc hs => ?_⟩
  have h1 := h.2 g o hgo hc hs
  refine (hg.block g (Array.getElem?_eq_some_iff.1 h1).1 (fun e => ?_)).trans h1
  rcases hr g e.symm with h2 | h2 | ⟨o', h2, h3⟩
  · have := (Array.getElem?_eq_some_iff.1 hgo).1; omega
  · exact hs h2
  · rw [h1] at h2; cases h2; rw [hc] at h3; cases h3
theorem KC.later {S : Nat → Prop} {w0 A A' : World} (h : KC S w0 A) (hb : Below A.heap.size A A') : KC S w0 A' :=
  ⟨Nat.le_trans h.1 hb.size, fun g o hgo hc hs => by have h1 := h.2 g o hgo hc hs; exact (hb.block g (Array.getElem?_eq_some_iff.1 h1).1).trans h1⟩
theorem cells_of_cell {w : World} {p : Addr} {v : Value} (h : w.cell? p = some v) : ∃ o : Obj, w.heap[p.block]? = some o ∧ o.isCells = true := by
  cases ho : w.heap[p.block]? with
  | none => simp [World.cell?, ho] at h
  | some o =>
    refine ⟨o, rfl, ?_⟩
    cases o with
    | cells c t z => rfl
    | _ => simp [World.cell?, ho] at h
theorem KC.els {S : Nat → Prop} {w0 A : World} (h : KC S w0 A) {g o_ : Nat} (hs : ¬ S g) {l : List El} (hE : ElsAt g o_ l w0) : ElsAt g o_ l A := fun i x hx => by
  have hc := hE i x hx
  obtain ⟨o, ho, hoc⟩ := cells_of_cell (hc.2 0 _ rfl)
  have e1 := h.2 g o ho hoc hs
  refine ⟨Nat.lt_of_lt_of_le hc.1 h.1, fun j v hv => ?_⟩
  rw [World.cell?_of_block (w := w0) (a := ⟨g, o_ + i * 5 + j, none⟩) (e1.trans ho.symm)]
  exact hc.2 j v hv
/-- What S must be for a tree to stay. -/
def Sok (S : Nat → Prop) (R : Rows) (w0 : World) : Prop := ∀ g, S g → R.no g ∧ ∀ cs, ¬ RowAt g cs 158 w0
theorem Nd.At.kc {S : Nat → Prop} {R : Rows} {w0 A : World} (hS : Sok S R w0) (k : KC S w0 A) : ∀ {t : Nd}, t.At R w0 → t.At R A
  | .leaf b g _o_ _c _l, h => ⟨k.2 b _ h.1 rfl (fun hs => (hS b hs).2 _ h.1), k.els (fun hs => h.2.2.2.2.1 (hS g hs).1) h.2.1, h.2.2.1, h.2.2.2.1, h.2.2.2.2.1, Nat.le_trans h.2.2.2.2.2 k.1⟩
  | .inner b _x _y, h => ⟨k.2 b _ h.1 rfl (fun hs => (hS b hs).2 _ h.1), Nd.At.kc hS k h.2.1, Nd.At.kc hS k h.2.2⟩

set_option maxHeartbeats 4000000 in
theorem eachLeaf_it {F : Fence} (hF : F = Fence.wide) (l B : Nat) (G : World → Prop) (K : World → World → Prop) (hG : ∀ W W', G W → K W W' → G W') (xs : List Lf) (J : List Lf → (Nat → Prop) → World → Prop) (Jx : List Lf → World → Prop)
    (hY : ∀ m pre x O W, J pre O W → (pre ++ [x]) <+: xs → YieldAt F m Tryz.prog l #[x.v] W fun e W' => KeepsFrom B W W' ∧
      ((e = .returned (.bool true) ∧ J (pre ++ [x]) O W' ∧ K W W' ∧ KeepsSet O W W') ∨ (e = .returned (.bool false) ∧ Jx (pre ++ [x]) W'))) {R : Rows} (t : Nd) :
    ∀ (n : Nat) (pre : List Lf) (O : Nat → Prop) (W : World), (∀ W, G W → t.At R W) → G W → J pre O W → (pre ++ t.lfs) <+: xs →
      CallsIn F n Tryz.prog 125 #[pv t.blk, .func (.yield l) #[] #[]] W fun e W' =>
        (e = .returned (.bool true) ∧ J (pre ++ t.lfs) O W' ∧ G W') ∨ (e = .returned (.bool false) ∧ ∃ q, q <+: t.lfs ∧ Jx (pre ++ q) W') := by
  have hdd : ∀ k : Nat, (F.depth.isSome = true → 1 ≤ k) := fun k h => by rw [depth_wide hF] at h; cases h
  have hro := round_wide hF
  have k1 : F.fn 106 := fn_wide hF _
  have k2 : F.fn 125 := fn_wide hF _
  induction t with
  | leaf b g o_ c es =>
    intro n pre O W hA hg hJ hN
    have hL := hA W hg
    have c2 := hL.1.cell 2
    simp only [ndc] at c2
    have HI := hid_of' (calls_in (n := n - 1) hF (isLeaf_any hL))
    obtain ⟨fn, tmps, assign, body, hy, hR⟩ := hY (n - 1) pre ⟨g, o_, c, es⟩ O W hJ hN
    simp only [Lf.v] at hy
    unfold pv Nd.blk at HI ⊢
    unfold Nd.isL at HI
    clear hF
    refine callsIn_of_wp Tryz.func125 rfl k2 ?_ hro
    simp only [Tryz.ntmps125, List.size_toArray, List.length_cons, List.length_nil, Nat.reduceAdd, Nat.reduceSub, Array.replicate_succ, Array.replicate_zero, List.push_toArray, List.append_toArray, List.nil_append, List.cons_append]
    gi_wp2_with (first
      | ((try refine ⟨hdd _, ?_⟩); gi_at_call 106; refine HI.out.mono ?_; clear HI; rintro e w1 ⟨rfl, hw⟩; obtain rfl := hw.symm)
      | ((try refine ⟨hdd _, ?_⟩); refine hR.mono ?_; clear hR; rintro e W2 ⟨_, (⟨rfl, hJ2, hk2, _⟩ | ⟨rfl, hx2⟩)⟩))
    · go_ret
      exact .inl ⟨rfl, hJ2, hG _ _ hg hk2⟩
    · go_ret
      exact .inr ⟨rfl, _, List.prefix_refl _, hx2⟩
  | inner b x y ihx ihy =>
    intro n pre O W hA hg hJ hN
    have hL := hA W hg
    have d0 := hL.1.cell 0
    simp only [ndc, pv] at d0
    have HI := hid_of' (calls_in (n := n - 1) hF (isLeaf_any hL))
    simp only [Nd.lfs] at hN ⊢
    have hN1 : (pre ++ x.lfs) <+: xs := (show pre ++ x.lfs <+: pre ++ (x.lfs ++ y.lfs) from ⟨y.lfs, by simp⟩).trans hN
    have hN2 : (pre ++ x.lfs ++ y.lfs) <+: xs := by rw [List.append_assoc]; exact hN
    have ih1 := (ihx (n - 1) pre O W (fun W h => (hA W h).2.1) hg hJ hN1).mono (R' := fun e W1 =>
        (e = .returned (.bool true) ∧ W1.cell? ⟨b, 1, none⟩ = some (.pointer (some ⟨y.blk, 0, none⟩)) ∧ J (pre ++ x.lfs) O W1 ∧ G W1) ∨
        (e = .returned (.bool false) ∧ ∃ q, q <+: x.lfs ∧ Jx (pre ++ q) W1))
      (fun e W1 h => h.elim (fun ⟨he, hj, hg1⟩ => .inl ⟨he, (hA W1 hg1).1.cell 1, hj, hg1⟩) .inr)
    have ih2 : ∀ W1, J (pre ++ x.lfs) O W1 → G W1 → CallsIn F (n - 1) Tryz.prog 125 #[.pointer (some ⟨y.blk, 0, none⟩), .func (.yield l) #[] #[]] W1 fun e W' =>
        (e = .returned (.bool true) ∧ J (pre ++ x.lfs ++ y.lfs) O W' ∧ G W') ∨ (e = .returned (.bool false) ∧ ∃ q, q <+: y.lfs ∧ Jx (pre ++ x.lfs ++ q) W') :=
      fun W1 hj hg1 => ihy (n - 1) _ O W1 (fun W h => (hA W h).2.2) hg1 hj hN2
    unfold pv at ih1
    unfold pv Nd.blk at HI ⊢
    unfold Nd.isL at HI
    clear ihx ihy hF
    refine callsIn_of_wp Tryz.func125 rfl k2 ?_ hro
    simp only [Tryz.ntmps125, List.size_toArray, List.length_cons, List.length_nil, Nat.reduceAdd, Nat.reduceSub, Array.replicate_succ, Array.replicate_zero, List.push_toArray, List.append_toArray, List.nil_append, List.cons_append]
    gi_wp2_with (first
      | ((try refine ⟨hdd _, ?_⟩); gi_at_call 106; refine HI.out.mono ?_; clear HI; rintro e w1 ⟨rfl, hw⟩; obtain rfl := hw.symm)
      | ((try refine ⟨hdd _, ?_⟩); gi_at_call 125; refine ih1.mono ?_; clear ih1; rintro e W1 (⟨rfl, d1, hj1, hg1⟩ | ⟨rfl, q, hq, hx1⟩))
      | ((try refine ⟨hdd _, ?_⟩); gi_at_call 125; refine (ih2 _ hj1 hg1).mono ?_; rintro e W3 (⟨rfl, hJ3, hg3⟩ | ⟨rfl, q, hq, hx3⟩)))
    · go_ret
      exact .inl ⟨rfl, by rw [← List.append_assoc]; exact hJ3, hg3⟩
    · go_ret
      obtain ⟨r, hr'⟩ := hq
      exact .inr ⟨rfl, x.lfs ++ q, ⟨r, by rw [List.append_assoc, hr']⟩, by rw [← List.append_assoc]; exact hx3⟩
    · first | go_ret | (refine ⟨fun _ h => (by cases h), ?_⟩; gi_wp2; go_ret)
      exact .inr ⟨rfl, q, hq.trans (List.prefix_append _ _), hx1⟩

set_option maxHeartbeats 2000000 in
/-- The leaves of a tree or none, in their order. -/
theorem leaves_it {F : Fence} (hF : F = Fence.wide) (n Bt : Nat) (G : World → Prop) (K : World → World → Prop) (hG : ∀ W W', G W → K W W' → G W') {R : Rows} (t : Option Nd) (w : World) (hBt : Bt < w.heap.size)
    (hc : w.cell? ⟨Bt, 0, none⟩ = some (pvO t)) (hA : ∀ t', t = some t' → ∀ W, G W → t'.At R W) (hg : ∀ W, Below w.heap.size w W → G W) :
    SeqIt F n Tryz.prog 124 #[.pointer (some ⟨Bt, 0, none⟩)] (fun x : Lf => #[x.v]) (lfsO t) K w := by
  intro l J Jx W hW _ _ hY h0
  have hB : W.cell? ⟨Bt, 0, none⟩ = some (pvO t) := (hW.cell (p := ⟨Bt, 0, none⟩) hBt).trans hc
  have hdd : ∀ k : Nat, (F.depth.isSome = true → 1 ≤ k) := fun k h => by rw [depth_wide hF] at h; cases h
  have k2 : F.fn 125 := fn_wide hF _
  have k3 : F.fn 124 := fn_wide hF _
  have hro := round_wide hF
  cases t with
  | none =>
    simp only [pvO] at hB
    clear hF
    refine callsIn_of_wp Tryz.func124 rfl k3 ?_ hro
    simp only [Tryz.ntmps124, List.size_toArray, List.length_cons, List.length_nil, Nat.reduceAdd, Nat.reduceSub, Array.replicate_succ, Array.replicate_zero, List.push_toArray, List.append_toArray, List.nil_append, List.cons_append]
    gi_wp2
    go_end0
    exact ⟨⟨_, rfl⟩, .inl ⟨_, h0⟩⟩
  | some t =>
    simp only [pvO] at hB
    have hp := eachLeaf_it hF l W.heap.size G K hG t.lfs J Jx (fun m pre x O W hj hl => yield_any hF m (hY pre x O W hj hl)) (R := R) t (n - 1) [] (fun _ => False) W (hA t rfl) (hg W hW) h0 (List.prefix_refl _)
    unfold pv at hp hB
    clear hF
    refine callsIn_of_wp Tryz.func124 rfl k3 ?_ hro
    simp only [Tryz.ntmps124, List.size_toArray, List.length_cons, List.length_nil, Nat.reduceAdd, Nat.reduceSub, Array.replicate_succ, Array.replicate_zero, List.push_toArray, List.append_toArray, List.nil_append, List.cons_append]
    gi_wp2_with ((try refine ⟨hdd _, ?_⟩); gi_at_call 125; refine hp.mono ?_; clear hp; rintro e W1 (⟨rfl, hJ1, _⟩ | ⟨rfl, q, hq, hx⟩))
    · go_end0
      exact ⟨⟨_, rfl⟩, .inl ⟨_, hJ1⟩⟩
    · go_end0
      exact ⟨⟨_, rfl⟩, .inr ⟨q, hq, hx⟩⟩
end Go.Proofs.YtjopeojnlibagaaGreatDoor
namespace Go.Proofs.YtjopeojnlibagaaGreatDoor
set_option maxRecDepth 100000

/-- An operation. -/
structure Xo where
  k : Int
  p : Int
  c : Int
  r : Int
deriving DecidableEq
def Xo.up (a : Xo) : Xo := ⟨a.k, a.p + 1, a.c, a.r⟩
/-- Does what b lays in come ahead of what a is about? -/
def pushB (a b : Xo) : Bool := if a.k = 1 then decide (b.p < a.p) || (decide (b.p = a.p) && decide (b.r ≤ a.r)) else if a.k = 3 then decide (b.p ≤ a.p) else if a.k = 2 then decide (b.p ≤ a.p) else false
/-- a xs it must be behind b. -/
def tO (a b : Xo) : Xo := if b.k = 1 ∧ pushB a b = true ∧ a.p < 9223372036854775807 then a.up else a
/-- Is it an operation? -/
def rightO (o : Xo) : Bool := decide (0 ≤ o.r) && decide (o.r < 8) && (if o.k = 1 then rightC o.c else if o.k = 3 then decide (o.c = 0) else if o.k = 2 then decide (o.c = 0) else false)
/-- May it be done on a row of n elements? -/
def validO (o : Xo) (n : Int) : Bool := rightO o && decide (0 ≤ o.p) && (decide (o.p < n) || (decide (o.p = n) && decide (o.k = 1)))

theorem rightO_kind {o : Xo} (h : rightO o = true) : o.k = 1 ∨ o.k = 2 ∨ o.k = 3 := by
  unfold rightO at h
  by_cases h1 : o.k = 1
  · exact .inl h1
  · by_cases h2 : o.k = 3
    · exact .inr (.inr h2)
    · by_cases h3 : o.k = 2
      · exact .inr (.inl h3)
      · simp [h1, h2, h3] at h
theorem validO_right {o : Xo} {n : Int} (h : validO o n = true) : rightO o = true := by
  unfold validO at h
  simp at h
  exact h.1.1
theorem validO_place {o : Xo} {n : Int} (h : validO o n = true) : 0 ≤ o.p ∧ (o.p < n ∨ o.p = n ∧ o.k = 1) := by
  unfold validO at h
  simp at h
  exact ⟨h.1.2, h.2⟩
theorem validO_of {o : Xo} {n : Int} (h : rightO o = true) (h0 : 0 ≤ o.p) (h1 : o.p < n ∨ o.p = n ∧ o.k = 1) : validO o n = true := by
  unfold validO
  simp
  exact ⟨⟨h, h0⟩, h1⟩
theorem tO_k (a b : Xo) : (tO a b).k = a.k := by unfold tO; split <;> rfl
theorem tO_c (a b : Xo) : (tO a b).c = a.c := by unfold tO; split <;> rfl
theorem tO_r (a b : Xo) : (tO a b).r = a.r := by unfold tO; split <;> rfl
theorem tO_other {a b : Xo} (h : ¬ b.k = 1) : tO a b = a := by unfold tO; rw [if_neg (fun k => h k.1)]
theorem tO_right (a b : Xo) : rightO (tO a b) = rightO a := by unfold rightO; rw [tO_k, tO_c, tO_r]
/-- T, by its place. -/
theorem tO_p {a b : Xo} (ha : a.k = 1 ∨ a.k = 2 ∨ a.k = 3) (hp : a.p < 4611686018427387904) (hb : b.k = 1) : (tO a b).p = if b.p < a.p ∨ (b.p = a.p ∧ (a.k = 1 → b.r ≤ a.r)) then a.p + 1 else a.p := by
  unfold tO pushB Xo.up
  rcases ha with h | h | h
  · by_cases q : b.p < a.p ∨ (b.p = a.p ∧ b.r ≤ a.r)
    · rw [if_pos (by simp [h, hb]; omega), if_pos (by simp [h]; omega)]
    · rw [if_neg (by simp [h, hb]; omega), if_neg (by simp [h]; omega)]
  · by_cases q : b.p ≤ a.p
    · rw [if_pos (by simp [h, hb]; omega), if_pos (by simp [h]; omega)]
    · rw [if_neg (by simp [h, hb]; omega), if_neg (by simp [h]; omega)]
  · by_cases q : b.p ≤ a.p
    · rw [if_pos (by simp [h, hb]; omega), if_pos (by simp [h]; omega)]
    · rw [if_neg (by simp [h, hb]; omega), if_neg (by simp [h]; omega)]
theorem Xo.ext4 {a b : Xo} (h1 : a.k = b.k) (h2 : a.p = b.p) (h3 : a.c = b.c) (h4 : a.r = b.r) : a = b := by
  cases a; cases b; simp at h1 h2 h3 h4; simp [h1, h2, h3, h4]
/-- The three-way law. -/
theorem three_way {a b c : Xo} (ha : a.k = 1 ∨ a.k = 2 ∨ a.k = 3) (hb : b.k = 1 ∨ b.k = 2 ∨ b.k = 3) (hc : c.k = 1 ∨ c.k = 2 ∨ c.k = 3) (pa : a.p < 4611686018427387900) (pb : b.p < 4611686018427387900) (pc : c.p < 4611686018427387900)
    (_h1 : a.r ≠ b.r) (_h2 : a.r ≠ c.r) (_h3 : b.r ≠ c.r) : tO (tO c a) (tO b a) = tO (tO c b) (tO a b) := by
  by_cases ka : a.k = 1
  · by_cases kb : b.k = 1
    · refine Xo.ext4 (by simp only [tO_k]) ?_ (by simp only [tO_c]) (by simp only [tO_r])
      have e1 := tO_p hc (by omega) ka
      have e2 := tO_p hc (by omega) kb
      have e3 := tO_p hb (by omega) ka
      have e4 := tO_p ha (by omega) kb
      have b1 : (tO c a).p < 4611686018427387904 := by rw [e1]; split <;> omega
      have b2 : (tO c b).p < 4611686018427387904 := by rw [e2]; split <;> omega
      rw [tO_p (a := tO c a) (b := tO b a) (by rw [tO_k]; exact hc) b1 (by rw [tO_k]; exact kb), tO_p (a := tO c b) (b := tO a b) (by rw [tO_k]; exact hc) b2 (by rw [tO_k]; exact ka)]
      simp only [tO_k, tO_r, e1, e2, e3, e4, ka, kb]
      by_cases kc : c.k = 1
      · simp only [kc, true_implies]
        repeat' split
        all_goals omega
      · simp only [kc, true_implies, false_implies, and_true]
        repeat' split
        all_goals omega
    · rw [tO_other (a := tO c a) (b := tO b a) (by rw [tO_k]; exact kb), tO_other (a := c) kb, tO_other (a := a) kb]
  · by_cases kb : b.k = 1
    · rw [tO_other (a := c) ka, tO_other (a := b) ka, tO_other (a := tO c b) (b := tO a b) (by rw [tO_k]; exact ka)]
    · simp only [tO_other ka, tO_other kb]
def El.add (e : El) (d : Int) : El := ⟨e.ep, e.rp, e.no, e.ch, e.hd + d⟩
/-- An element stands ahead of the i-th one. -/
def insE (l : List El) (i : Nat) (e : El) : List El := l.take i ++ e :: l.drop i
/-- The i-th element's Hides, greater or less. -/
def addE (l : List El) (i : Nat) (d : Int) : List El := l.modify i (fun e => e.add d)
theorem insE_len {l : List El} {i : Nat} {e : El} (h : i ≤ l.length) : (insE l i e).length = l.length + 1 := by
  unfold insE
  simp
  omega
theorem addE_len {l : List El} {i : Nat} {d : Int} : (addE l i d).length = l.length := by unfold addE; simp
theorem insE_at {l : List El} {i : Nat} {e : El} (h : i ≤ l.length) (j : Nat) : (insE l i e)[j]? = if j < i then l[j]? else if j = i then some e else l[j - 1]? := by
  unfold insE
  have h1 : (l.take i).length = i := by simp; omega
  by_cases h2 : j < i
  · rw [if_pos h2, List.getElem?_append_left (by omega), List.getElem?_take, if_pos h2]
  · rw [if_neg h2, List.getElem?_append_right (by omega), h1]
    by_cases h3 : j = i
    · subst h3; simp
    · rw [if_neg h3]
      obtain ⟨m, hm⟩ : ∃ m, j - i = m + 1 := ⟨j - i - 1, by omega⟩
      rw [hm, List.getElem?_cons_succ, List.getElem?_drop]
      congr 1
      omega
theorem addE_at (l : List El) (i : Nat) (d : Int) (j : Nat) : (addE l i d)[j]? = if j = i then (l[j]?).map (fun e => e.add d) else l[j]? := by
  unfold addE
  rw [List.getElem?_modify]
  by_cases h : i = j
  · subst h; simp
  · rw [if_neg (fun e => h e.symm)]
    cases hl : l[j]? <;> simp [h]
theorem ins_ins {l : List El} {i j : Nat} {e f : El} (h : i ≤ j) (hj : j ≤ l.length) : insE (insE l i e) (j + 1) f = insE (insE l j f) i e := by
  refine List.ext_getElem? fun k => ?_
  have a1 : j + 1 ≤ (insE l i e).length := by rw [insE_len (by omega)]; omega
  have a2 : i ≤ (insE l j f).length := by rw [insE_len (by omega)]; omega
  rw [insE_at a1, insE_at a2, insE_at (by omega), insE_at (by omega), insE_at (by omega), insE_at (by omega)]
  repeat' split
  all_goals first | rfl | omega | (congr 1; omega)
theorem add_ins_up {l : List El} {i j : Nat} {e : El} {d : Int} (h : i ≤ j) (hj : j < l.length) : addE (insE l i e) (j + 1) d = insE (addE l j d) i e := by
  refine List.ext_getElem? fun k => ?_
  have a2 : i ≤ (addE l j d).length := by rw [addE_len]; omega
  rw [addE_at, insE_at a2, insE_at (by omega), addE_at, addE_at]
  repeat' split
  all_goals first | rfl | omega | (exfalso; omega)
theorem add_ins_low {l : List El} {i j : Nat} {e : El} {d : Int} (h : j < i) (hi : i ≤ l.length) : addE (insE l i e) j d = insE (addE l j d) i e := by
  refine List.ext_getElem? fun k => ?_
  have a2 : i ≤ (addE l j d).length := by rw [addE_len]; omega
  rw [addE_at, insE_at a2, insE_at (by omega), addE_at, addE_at]
  repeat' split
  all_goals first | rfl | omega | (exfalso; omega)
theorem addE_comm (l : List El) (i j : Nat) (d f : Int) : addE (addE l i d) j f = addE (addE l j f) i d := by
  refine List.ext_getElem? fun k => ?_
  rw [addE_at, addE_at, addE_at, addE_at]
  repeat' split
  · cases l[k]? with
    | none => rfl
    | some e => simp [El.add]; omega
  all_goals rfl
/-- What an Erase or Restore adds. -/
def byO (o : Xo) : Int := if o.k = 3 then -1 else 1
/-- A row behind an operation; the ID of what is laid in. -/
def stepL (l : List El) (o : Xo) (i : Idn) : List El := if o.k = 1 then insE l o.p.toNat ⟨i.a, i.b, i.c, o.c, 0⟩ else addE l o.p.toNat (byO o)
theorem stepL_ins {o : Xo} (l : List El) (i : Idn) (h : o.k = 1) : stepL l o i = insE l o.p.toNat ⟨i.a, i.b, i.c, o.c, 0⟩ := if_pos h
theorem stepL_add {o : Xo} (l : List El) (i : Idn) (h : ¬ o.k = 1) : stepL l o i = addE l o.p.toNat (byO o) := if_neg h
theorem byO_t (a b : Xo) : byO (tO a b) = byO a := by unfold byO; rw [tO_k]
theorem step_len {l : List El} {o : Xo} {i : Idn} (h : validO o l.length = true) : (stepL l o i).length = l.length + (if o.k = 1 then 1 else 0) := by
  obtain ⟨h0, h1⟩ := validO_place h
  by_cases k : o.k = 1
  · rw [stepL_ins _ _ k, insE_len (by omega), if_pos k]
  · rw [stepL_add _ _ k, addE_len, if_neg k]; rfl
/-- What is valid is valid behind another one. -/
theorem valid_t {l : List El} {a b : Xo} {i : Idn} (ha : validO a l.length = true) (hb : validO b l.length = true) (hl : l.length < 4611686018427387900) : validO (tO a b) (stepL l b i).length = true := by
  obtain ⟨a0, a1⟩ := validO_place ha
  obtain ⟨b0, b1⟩ := validO_place hb
  have hr := validO_right ha
  rw [step_len hb]
  by_cases kb : b.k = 1
  · rw [if_pos kb]
    have e := tO_p (rightO_kind hr) (by omega) kb
    refine validO_of (by rw [tO_right]; exact hr) (by rw [e]; split <;> omega) ?_
    rw [e, tO_k]
    split <;> omega
  · rw [if_neg kb, tO_other kb]
    exact ha
/-- The two-way law. -/
theorem two_way {l : List El} {a b : Xo} {i j : Idn} (ha : validO a l.length = true) (hb : validO b l.length = true) (hl : l.length < 4611686018427387900) (hr : a.r ≠ b.r) : stepL (stepL l a i) (tO b a) j = stepL (stepL l b j) (tO a b) i := by
  obtain ⟨a0, a1⟩ := validO_place ha
  obtain ⟨b0, b1⟩ := validO_place hb
  have ka := rightO_kind (validO_right ha)
  have kb := rightO_kind (validO_right hb)
  by_cases ha1 : a.k = 1
  · have e1 := tO_p kb (by omega) ha1
    by_cases hb1 : b.k = 1
    · have e2 := tO_p ka (by omega) hb1
      rw [stepL_ins _ _ ha1, stepL_ins _ _ hb1, stepL_ins _ _ (by rw [tO_k]; exact hb1), stepL_ins _ _ (by rw [tO_k]; exact ha1), tO_c, tO_c, e1, e2]
      by_cases q : a.p < b.p ∨ (a.p = b.p ∧ a.r < b.r)
      · rw [if_pos (by omega), if_neg (by omega), show (b.p + 1).toNat = b.p.toNat + 1 by omega]
        exact ins_ins (by omega) (by omega)
      · rw [if_neg (by omega), if_pos (by omega), show (a.p + 1).toNat = a.p.toNat + 1 by omega]
        exact (ins_ins (by omega) (by omega)).symm
    · rw [stepL_ins _ _ ha1, stepL_add _ _ hb1, stepL_add _ _ (by rw [tO_k]; exact hb1), tO_other hb1, stepL_ins _ _ ha1, byO_t, e1]
      by_cases q : a.p ≤ b.p
      · rw [if_pos (by omega), show (b.p + 1).toNat = b.p.toNat + 1 by omega]
        exact add_ins_up (by omega) (by omega)
      · rw [if_neg (by omega)]
        exact add_ins_low (by omega) (by omega)
  · by_cases hb1 : b.k = 1
    · have e2 := tO_p ka (by omega) hb1
      rw [stepL_add _ _ ha1, tO_other ha1, stepL_ins _ _ hb1, stepL_ins _ _ hb1, stepL_add _ _ (by rw [tO_k]; exact ha1), byO_t, e2]
      by_cases q : b.p ≤ a.p
      · rw [if_pos (by omega), show (a.p + 1).toNat = a.p.toNat + 1 by omega]
        exact (add_ins_up (by omega) (by omega)).symm
      · rw [if_neg (by omega)]
        exact (add_ins_low (by omega) (by omega)).symm
    · rw [stepL_add _ _ ha1, tO_other ha1, stepL_add _ _ hb1, tO_other hb1, stepL_add _ _ hb1, stepL_add _ _ ha1]
      exact addE_comm _ _ _ _ _
def Xo.less (a : Xo) : Xo := ⟨a.k, a.p - 1, a.c, a.r⟩
/-- b taken out of a's way. -/
def bkO (a b : Xo) : Xo × Bool := if tO a b = a then (a, true) else if tO a.less b = a then (a.less, true) else (a, false)
theorem tO_is (a b : Xo) : tO a b = a ∨ tO a b = a.up := by unfold tO; split <;> simp
theorem up_ne (a : Xo) : a.up ≠ a := fun h => by have := congrArg Xo.p h; simp [Xo.up] at this; omega
theorem up_less (a : Xo) : a.up.less = a := by cases a; simp [Xo.up, Xo.less]
theorem less_up (a : Xo) : a.less.up = a := by cases a; simp [Xo.up, Xo.less]
/-- What T has brought about, Back takes back. -/
theorem back_t {a b : Xo} (ha : a.k = 1 ∨ a.k = 2 ∨ a.k = 3) (hp : a.p < 4611686018427387900) : bkO (tO a b) b = (a, true) := by
  unfold bkO
  by_cases h : tO a b = a
  · rw [h, if_pos h]
  · have h2 := (tO_is a b).resolve_left h
    have hb : b.k = 1 := Decidable.byContradiction fun k => h (tO_other k)
    have e := tO_p ha (by omega) hb
    rw [h2] at e ⊢
    have e3 : (tO a.up b).p = a.up.p + 1 := by
      rw [tO_p (a := a.up) (b := b) ha (show a.p + 1 < _ by omega) hb]
      show (if b.p < a.p + 1 ∨ _ then _ else _) = _
      refine if_pos (.inl ?_)
      have e4 : a.p + 1 = _ := e
      split at e4
      · omega
      · omega
    have h4 : ¬ tO a.up b = a.up := fun k => by rw [k] at e3; omega
    rw [if_neg h4, up_less, h2, if_pos rfl]
theorem back_k (a b : Xo) : (bkO a b).1.k = a.k := by
  unfold bkO
  split
  · rfl
  · split <;> rfl
theorem back_r (a b : Xo) : (bkO a b).1.r = a.r := by
  unfold bkO
  split
  · rfl
  · split <;> rfl
theorem back_c (a b : Xo) : (bkO a b).1.c = a.c := by
  unfold bkO
  split
  · rfl
  · split <;> rfl
theorem t_back {a b : Xo} (h : (bkO a b).2 = true) : tO (bkO a b).1 b = a := by
  unfold bkO at h ⊢
  by_cases h1 : tO a b = a
  · rw [if_pos h1]; exact h1
  · rw [if_neg h1] at h ⊢
    by_cases h2 : tO a.less b = a
    · rw [if_pos h2]; exact h2
    · rw [if_neg h2] at h; simp at h
theorem back_no {a b : Xo} (h : (bkO a b).2 = false) : (bkO a b).1 = a := by
  unfold bkO at h ⊢
  by_cases h1 : tO a b = a
  · rw [if_pos h1]
  · rw [if_neg h1] at h ⊢
    by_cases h2 : tO a.less b = a
    · rw [if_pos h2] at h; simp at h
    · rw [if_neg h2]
theorem less_p (a : Xo) : a.less.p = a.p - 1 := rfl
/-- What Back tells is valid ahead of the other. -/
theorem back_valid {l : List El} {a b : Xo} {i : Idn} (ha : validO a l.length = true) (hb : validO b (stepL l a i).length = true) (hl : l.length < 4611686018427387890) (h : (bkO b a).2 = true) : validO (bkO b a).1 l.length = true := by
  obtain ⟨a0, a1⟩ := validO_place ha
  obtain ⟨b0, b1⟩ := validO_place hb
  have hr := validO_right hb
  have kb := rightO_kind hr
  rw [step_len ha] at b1
  have ht := t_back h
  have hrr : rightO (bkO b a).1 = true := by unfold rightO; rw [back_k, back_c, back_r]; exact hr
  by_cases ka : a.k = 1
  · rw [if_pos ka] at b1
    have hx : (bkO b a).1.p = b.p ∨ (bkO b a).1.p = b.p - 1 := by
      unfold bkO
      split
      · exact .inl rfl
      · split
        · exact .inr rfl
        · exact .inl rfl
    have e := tO_p (a := (bkO b a).1) (b := a) (by rw [back_k]; exact kb) (by omega) ka
    rw [ht] at e
    rw [back_k, back_r] at e
    refine validO_of hrr ?_ ?_
    · split at e <;> omega
    · rw [back_k]
      split at e
      · omega
      · rename_i hn
        rcases hx with hx | hx
        · rcases kb with k | k | k
          · by_cases hq : (bkO b a).1.p < l.length
            · exact .inl hq
            · exact .inr ⟨by omega, k⟩
          · refine .inl ?_
            have : ¬ (a.p = (bkO b a).1.p) := fun q => hn (.inr ⟨q, fun k2 => by omega⟩)
            omega
          · refine .inl ?_
            have : ¬ (a.p = (bkO b a).1.p) := fun q => hn (.inr ⟨q, fun k2 => by omega⟩)
            omega
        · omega
  · rw [if_neg ka] at b1
    have e1 : bkO b a = (b, true) := by unfold bkO; rw [if_pos (tO_other ka)]
    rw [e1]
    exact validO_of hr b0 (by simpa using b1)
/-- b goes through a row of others, and they behind it. -/
def passO : List Xo → Xo → List Xo × Xo
  | [], b => ([], b)
  | a :: xs, b => (tO a b :: (passO xs (tO b a)).1, (passO xs (tO b a)).2)
/-- Two rows, each xs it must be behind the other one. -/
def crossO : List Xo → List Xo → List Xo × List Xo
  | xs, [] => (xs, [])
  | xs, b :: bs => ((crossO (passO xs b).1 bs).1, (passO xs b).2 :: (crossO (passO xs b).1 bs).2)
def alongO (a : Xo) (l : List Xo) : Xo := l.foldl tO a
theorem pass_len : ∀ (xs : List Xo) (b : Xo), (passO xs b).1.length = xs.length
  | [], _ => rfl
  | a :: xs, b => by simp [passO, pass_len xs]
theorem cross_len : ∀ (bs xs : List Xo), (crossO xs bs).1.length = xs.length ∧ (crossO xs bs).2.length = bs.length
  | [], _ => ⟨rfl, rfl⟩
  | b :: bs, xs => by
    have h := cross_len bs (passO xs b).1
    simp [crossO, h.1, h.2, pass_len]
/-- Operations with the IDs of what they lay in, one behind the other. -/
def runs : List El → List (Xo × Idn) → List El
  | l, [] => l
  | l, (o, i) :: r => runs (stepL l o i) r
/-- Each is valid where it is done. -/
def okS : List El → List (Xo × Idn) → Prop
  | _, [] => True
  | l, (o, i) :: r => validO o l.length = true ∧ okS (stepL l o i) r
theorem runs_app : ∀ (a b : List (Xo × Idn)) (l : List El), runs l (a ++ b) = runs (runs l a) b
  | [], _, _ => rfl
  | (o, i) :: a, b, l => runs_app a b (stepL l o i)
theorem okS_app : ∀ (a b : List (Xo × Idn)) (l : List El), okS l (a ++ b) ↔ okS l a ∧ okS (runs l a) b
  | [], _, _ => by simp [okS, runs]
  | (o, i) :: a, b, l => by simp [okS, runs, okS_app a b, and_assoc]
theorem runs_len : ∀ (a : List (Xo × Idn)) (l : List El), okS l a → (runs l a).length ≤ l.length + a.length ∧ l.length ≤ (runs l a).length
  | [], _, _ => by simp [runs]
  | (o, i) :: a, l, h => by
    have h1 := runs_len a (stepL l o i) h.2
    rw [step_len h.1] at h1
    simp only [runs, List.length_cons]
    split at h1 <;> omega
/-- One operation and a row of others, both ways. -/
theorem pass_law : ∀ (xs : List Xo) (ia : List Idn) (l : List El) (b : Xo) (j : Idn), xs.length = ia.length → validO b l.length = true → okS l (xs.zip ia) → (∀ a ∈ xs, a.r ≠ b.r) → l.length + xs.length < 4611686018427387800 →
    runs (stepL l b j) ((passO xs b).1.zip ia) = stepL (runs l (xs.zip ia)) (passO xs b).2 j ∧ okS (stepL l b j) ((passO xs b).1.zip ia) ∧ validO (passO xs b).2 (runs l (xs.zip ia)).length = true
  | [], [], l, b, j, _, hb, _, _, _ => by simp [passO, runs, okS, hb]
  | [], _ :: _, _, _, _, h, _, _, _, _ => by simp at h
  | _ :: _, [], _, _, _, h, _, _, _, _ => by simp at h
  | a :: xs, i :: ia, l, b, j, h, hb, hs, hr, hl => by
    simp only [List.zip_cons_cons, okS] at hs
    simp only [List.length_cons] at hl h
    have hab : a.r ≠ b.r := hr a (by simp)
    have ha := hs.1
    have hsl := step_len (i := i) ha
    have hlen : (stepL l a i).length ≤ l.length + 1 := by rw [hsl]; split <;> omega
    have e1 := two_way (i := i) (j := j) ha hb (by omega) hab
    have v1 := valid_t (i := i) hb ha (by omega)
    have v2 := valid_t (i := j) ha hb (by omega)
    have ih := pass_law xs ia (stepL l a i) (tO b a) j (by omega) v1 hs.2 (fun x hx => by rw [tO_r]; exact hr x (by simp [hx])) (by omega)
    simp only [passO, List.zip_cons_cons, runs, okS]
    rw [← e1]
    exact ⟨ih.1, ⟨v2, ih.2.1⟩, ih.2.2⟩
theorem pass_r : ∀ (xs : List Xo) (b : Xo), (passO xs b).1.map Xo.r = xs.map Xo.r ∧ (passO xs b).2.r = b.r
  | [], _ => ⟨rfl, rfl⟩
  | a :: xs, b => by
    have h := pass_r xs (tO b a)
    simp only [passO, List.map_cons, tO_r] at h ⊢
    exact ⟨by rw [h.1], h.2⟩
theorem pass_k : ∀ (xs : List Xo) (b : Xo), (passO xs b).1.map Xo.k = xs.map Xo.k ∧ (passO xs b).2.k = b.k
  | [], _ => ⟨rfl, rfl⟩
  | a :: xs, b => by
    have h := pass_k xs (tO b a)
    simp only [passO, List.map_cons, tO_k] at h ⊢
    exact ⟨by rw [h.1], h.2⟩
theorem cross_k : ∀ (bs xs : List Xo), (crossO xs bs).1.map Xo.k = xs.map Xo.k ∧ (crossO xs bs).2.map Xo.k = bs.map Xo.k
  | [], _ => ⟨rfl, rfl⟩
  | b :: bs, xs => by
    have h := cross_k bs (passO xs b).1
    simp only [crossO, List.map_cons, h.1, h.2, (pass_k xs b).1, (pass_k xs b).2, and_self]
theorem cross_r : ∀ (bs xs : List Xo), (crossO xs bs).1.map Xo.r = xs.map Xo.r ∧ (crossO xs bs).2.map Xo.r = bs.map Xo.r
  | [], _ => ⟨rfl, rfl⟩
  | b :: bs, xs => by
    have h := cross_r bs (passO xs b).1
    simp only [crossO, List.map_cons, h.1, h.2, (pass_r xs b).1, (pass_r xs b).2, and_self]
/-- Two rows of operations, both ways. -/
theorem cross_law : ∀ (bs : List Xo) (ib : List Idn) (xs : List Xo) (ia : List Idn) (l : List El), xs.length = ia.length → bs.length = ib.length → okS l (xs.zip ia) → okS l (bs.zip ib) → (∀ a ∈ xs, ∀ b ∈ bs, a.r ≠ b.r) → l.length + xs.length + bs.length < 4611686018427387800 →
    runs (runs l (bs.zip ib)) ((crossO xs bs).1.zip ia) = runs (runs l (xs.zip ia)) ((crossO xs bs).2.zip ib) ∧ okS (runs l (bs.zip ib)) ((crossO xs bs).1.zip ia) ∧ okS (runs l (xs.zip ia)) ((crossO xs bs).2.zip ib)
  | [], [], xs, ia, l, _, _, h, _, _, _ => by simp [crossO, runs, okS, h]
  | [], _ :: _, _, _, _, _, h, _, _, _, _ => by simp at h
  | _ :: _, [], _, _, _, _, h, _, _, _, _ => by simp at h
  | b :: bs, j :: ib, xs, ia, l, h1, h2, ha, hb, hr, hl => by
    simp only [List.zip_cons_cons, okS] at hb
    simp only [List.length_cons] at h2 hl
    have hsl := step_len (i := j) hb.1
    have hlen : (stepL l b j).length ≤ l.length + 1 := by rw [hsl]; split <;> omega
    obtain ⟨p1, p2, p3⟩ := pass_law xs ia l b j h1 hb.1 ha (fun a h => hr a h b (by simp)) (by omega)
    have hpl := pass_len xs b
    obtain ⟨c1, c2, c3⟩ := cross_law bs ib (passO xs b).1 ia (stepL l b j) (by omega) (by omega) p2 hb.2 (fun a h x hx => by
      have h3 : a.r ∈ (passO xs b).1.map Xo.r := List.mem_map_of_mem h
      rw [(pass_r xs b).1] at h3
      obtain ⟨a', h4, h5⟩ := List.mem_map.1 h3
      rw [← h5]
      exact hr a' h4 x (by simp [hx])) (by omega)
    rw [p1] at c1 c3
    simp only [crossO, List.zip_cons_cons, runs, okS]
    exact ⟨c1, c2, p3, c3⟩
theorem mem_ins {l : List El} {i : Nat} {e x : El} (h : x ∈ insE l i e) : x = e ∨ x ∈ l := by
  unfold insE at h
  rcases List.mem_append.1 h with h | h
  · exact .inr (List.mem_of_mem_take h)
  · rcases List.mem_cons.1 h with h | h
    · exact .inl h
    · exact .inr (List.mem_of_mem_drop h)
theorem at_add {l : List El} {i j : Nat} {d : Int} {x : El} (h : (addE l i d)[j]? = some x) : ∃ e, l[j]? = some e ∧ x.id = e.id ∧ x.ch = e.ch ∧ (x.hd = e.hd ∨ x.hd = e.hd + d) := by
  rw [addE_at] at h
  split at h
  · cases hl : l[j]? with
    | none => rw [hl] at h; simp at h
    | some e =>
      rw [hl] at h
      simp only [Option.map_some, Option.some.injEq] at h
      subst h
      exact ⟨e, rfl, rfl, rfl, .inr rfl⟩
  · exact ⟨x, h, rfl, rfl, .inl rfl⟩
theorem mem_add {l : List El} {i : Nat} {d : Int} {x : El} (h : x ∈ addE l i d) : ∃ e ∈ l, x.id = e.id ∧ x.ch = e.ch ∧ (x.hd = e.hd ∨ x.hd = e.hd + d) := by
  obtain ⟨j, hj⟩ := List.getElem?_of_mem h
  obtain ⟨e, h1, h2⟩ := at_add hj
  exact ⟨e, List.mem_of_getElem? h1, h2⟩
theorem Apart.ins {l : List El} {i : Nat} {e : El} (h : Apart l) (hi : i ≤ l.length) (hf : ∀ x ∈ l, x.id ≠ e.id) : Apart (insE l i e) := by
  intro a b x y hab hx hy
  rw [insE_at hi] at hx hy
  split at hy
  · rw [if_pos (by omega)] at hx
    exact h a b x y hab hx hy
  · split at hy
    · rw [if_pos (by omega)] at hx
      cases hy
      exact hf x (List.mem_of_getElem? hx)
    · split at hx
      · exact h a (b - 1) x y (by omega) hx hy
      · split at hx
        · cases hx
          exact fun q => hf y (List.mem_of_getElem? hy) q.symm
        · exact h (a - 1) (b - 1) x y (by omega) hx hy
theorem Apart.add {l : List El} {i : Nat} {d : Int} (h : Apart l) : Apart (addE l i d) := by
  intro a b x y hab hx hy
  obtain ⟨e, h1, h2, _⟩ := at_add hx
  obtain ⟨f, h3, h4, _⟩ := at_add hy
  rw [h2, h4]
  exact h a b e f hab h1 h3
/-- A row that a model takes, whose Hides are no further than b from 0. -/
structure RowOk (b : Int) (l : List El) : Prop where
  apart : Apart l
  good : ∀ e ∈ l, e.id.In ∧ rightC e.ch = true ∧ -b ≤ e.hd ∧ e.hd ≤ b
theorem RowOk.is {b : Int} {l : List El} (h : RowOk b l) (hb : b ≤ 1099511627776) : ∀ (i : Nat) (e : El), l[i]? = some e → e.Good := fun _ e he => by
  obtain ⟨h1, h2, h3, h4⟩ := h.good e (List.mem_of_getElem? he)
  refine ⟨h1, h2, ?_⟩
  unfold fairH
  simp
  omega
theorem RowOk.step {b : Int} {l : List El} {o : Xo} {i : Idn} (h : RowOk b l) (hb : 0 ≤ b) (hv : validO o l.length = true) (hi : i.In) (hf : o.k = 1 → ∀ e ∈ l, e.id ≠ i) : RowOk (b + 1) (stepL l o i) := by
  obtain ⟨h0, h1⟩ := validO_place hv
  have hr := validO_right hv
  by_cases k : o.k = 1
  · rw [stepL_ins _ _ k]
    have hc : rightC o.c = true := by
      unfold rightO at hr
      rw [if_pos k] at hr
      simp at hr
      exact hr.2
    refine ⟨h.apart.ins (by omega) (fun x hx => hf k x hx), fun e he => ?_⟩
    rcases mem_ins he with rfl | he
    · refine ⟨hi, hc, ?_, ?_⟩
      · show -(b + 1) ≤ (0 : Int); omega
      · show (0 : Int) ≤ b + 1; omega
    · obtain ⟨h1, h2, h3, h4⟩ := h.good e he
      exact ⟨h1, h2, by omega, by omega⟩
  · rw [stepL_add _ _ k]
    refine ⟨h.apart.add, fun e he => ?_⟩
    obtain ⟨x, hx, e1, e2, e3⟩ := mem_add he
    obtain ⟨h1, h2, h3, h4⟩ := h.good x hx
    rw [e1, e2]
    have hby : byO o = 1 ∨ byO o = -1 := by unfold byO; split <;> simp
    exact ⟨h1, h2, by omega, by omega⟩
/-- What each lays in has an ID that is not there. -/
def frS : List El → List (Xo × Idn) → Prop
  | _, [] => True
  | l, (o, i) :: r => (o.k = 1 → ∀ e ∈ l, e.id ≠ i) ∧ i.In ∧ frS (stepL l o i) r
theorem step_ids {l : List El} {o : Xo} {i : Idn} {x : El} (h : x ∈ stepL l o i) : (o.k = 1 ∧ x.id = i) ∨ ∃ e ∈ l, x.id = e.id := by
  by_cases k : o.k = 1
  · rw [stepL_ins _ _ k] at h
    rcases mem_ins h with rfl | h
    · exact .inl ⟨k, rfl⟩
    · exact .inr ⟨x, h, rfl⟩
  · rw [stepL_add _ _ k] at h
    obtain ⟨e, he, e1, _⟩ := mem_add h
    exact .inr ⟨e, he, e1⟩
theorem fr_of : ∀ (zs : List (Xo × Idn)) (l : List El), (∀ e ∈ l, ∀ z ∈ zs, z.1.k = 1 → e.id ≠ z.2) → zs.Pairwise (fun x y => x.1.k = 1 → y.1.k = 1 → x.2 ≠ y.2) → (∀ z ∈ zs, z.2.In) → frS l zs
  | [], _, _, _, _ => trivial
  | (o, i) :: zs, l, h1, h2, h3 => by
    obtain ⟨p1, p2⟩ := List.pairwise_cons.1 h2
    refine ⟨fun k e he => h1 e he (o, i) (by simp) k, h3 (o, i) (by simp), fr_of zs _ (fun e he z hz k => ?_) p2 (fun z hz => h3 z (by simp [hz]))⟩
    rcases step_ids he with ⟨k1, e1⟩ | ⟨x, hx, e1⟩
    · rw [e1]
      exact p1 z hz k1 k
    · rw [e1]
      exact h1 x hx z (by simp [hz]) k
theorem frS_app : ∀ (a b : List (Xo × Idn)) (l : List El), frS l (a ++ b) ↔ frS l a ∧ frS (runs l a) b
  | [], _, _ => by simp [frS, runs]
  | (o, i) :: a, b, l => by simp [frS, runs, frS_app a b, and_assoc]
theorem rowOk_runs : ∀ (zs : List (Xo × Idn)) {b : Int} {l : List El}, RowOk b l → 0 ≤ b → okS l zs → frS l zs → RowOk (b + zs.length) (runs l zs)
  | [], b, _, h, _, _, _ => by simpa [runs] using h
  | (o, i) :: zs, b, l, h, hb, h1, h2 => by
    have h3 := rowOk_runs zs (h.step hb h1.1 h2.2.1 h2.1) (by omega) h1.2 h2.2.2
    simp only [runs, List.length_cons]
    rw [show b + ((zs.length + 1 : Nat) : Int) = b + 1 + zs.length by omega]
    exact h3
/-- Three operations in two orders: the first two changed about, the last two changed about. -/
theorem six_a {l : List El} {x y z : Xo} {i j k : Idn} (hx : validO x l.length = true) (hy : validO y l.length = true) (hz : validO z l.length = true) (hl : l.length < 4611686018427387800) (h1 : x.r ≠ y.r) (h2 : x.r ≠ z.r) (h3 : y.r ≠ z.r) :
    runs l [(x, i), (tO y x, j), (tO (tO z x) (tO y x), k)] = runs l [(y, j), (tO x y, i), (tO (tO z y) (tO x y), k)] := by
  have px := validO_place hx
  have py := validO_place hy
  have pz := validO_place hz
  simp only [runs]
  rw [two_way hx hy (by omega) h1, three_way (rightO_kind (validO_right hx)) (rightO_kind (validO_right hy)) (rightO_kind (validO_right hz)) (by omega) (by omega) (by omega) h1 h2 h3]
theorem six_b {l : List El} {x y z : Xo} {i j k : Idn} (hx : validO x l.length = true) (hy : validO y l.length = true) (hz : validO z l.length = true) (hl : l.length < 4611686018427387800) (h3 : y.r ≠ z.r) :
    runs l [(x, i), (tO y x, j), (tO (tO z x) (tO y x), k)] = runs l [(x, i), (tO z x, k), (tO (tO y x) (tO z x), j)] := by
  have hsl := step_len (i := i) hx
  have hlen : (stepL l x i).length ≤ l.length + 1 := by rw [hsl]; split <;> omega
  simp only [runs]
  exact two_way (valid_t hy hx (by omega)) (valid_t hz hx (by omega)) (by omega) (by rw [tO_r, tO_r]; exact h3)
theorem six_ok {l : List El} {x y z : Xo} {i j k : Idn} (hx : validO x l.length = true) (hy : validO y l.length = true) (hz : validO z l.length = true) (hl : l.length < 4611686018427387800) : okS l [(x, i), (tO y x, j), (tO (tO z x) (tO y x), k)] := by
  have hsl := step_len (i := i) hx
  have hlen : (stepL l x i).length ≤ l.length + 1 := by rw [hsl]; split <;> omega
  have v1 := valid_t (i := i) hy hx (by omega)
  have v2 := valid_t (i := i) hz hx (by omega)
  exact ⟨hx, v1, valid_t v2 v1 (by omega), trivial⟩
end Go.Proofs.YtjopeojnlibagaaGreatDoor
namespace Go.Proofs.YtjopeojnlibagaaGreatDoor
open Go.RowKit
set_option maxRecDepth 100000

theorem quiet_lookup1 {o : Oper} {a : Act} {C : World → Prop} {K : Act → Prop} (m x : Operand) (ho : o.op = .lookup 105 m x false) {kb n : Nat} {f : Idn → Option Int} {i : Idn} (hi : i.In) (hm : a.eval m = .map (some kb)) (hx : a.eval x = .agg (idc i.a i.b i.c)) (h : ∀ w, C w → MpAt kb n f w)
    (k : K (a.put o.dst (.int .i64 ((f i).getD 0)))) : o.quiet Tryz.prog a C K :=
  ⟨_, fun w hw => by
    unfold Oper.quietAt execOp
    have e := (h w hw).look1 hi
    unfold Idn.v at e
    simp only [ho, hm, hx, e, Sem.run_bind, Sem.run_pure, Result.andThen_ok]
    exact ⟨rfl, rfl⟩, k⟩
theorem MdAt.later {mb tb kb n : Nat} {R : Rows} {l : List El} {f : Idn → Option Int} {w w' : World} (h : MdAt mb tb kb n R l f w) (hb : Below w.heap.size w w') : MdAt mb tb kb n R l f w' :=
  ⟨h.row.later hb, h.tree.later hb, h.map.later hb, h.no, h.nom, Nat.le_trans h.hi hb.size⟩
/-- An element's rank. -/
def rkO (f : Idn → Option Int) (e : El) : Int := (f e.id).getD 0

set_option maxHeartbeats 2000000 in
theorem rankAt_ok {mb tb kb n : Nat} {R : Rows} {l : List El} {f : Idn → Option Int} {w : World} (h : MdAt mb tb kb n R l f w) (i : Nat) (e : El) (he : l[i]? = some e) (hi : e.id.In) (hn : l.length ≤ 1073741824) :
    Calls Tryz.prog 97 #[pv mb, .int .i64 (i : Int)] w fun r w' => r = .returned (.int .i64 (rkO f e)) ∧ Below w.heap.size w w' := by
  have HA := hid_of' (at_L h.tree i e hn he)
  have c0 : w.cell? ⟨mb, 0, none⟩ = some (.pointer (some ⟨tb, 0, none⟩)) := h.row.cell 0
  have hM := h.map
  have hr := h.row
  clear h
  unfold pv at HA ⊢
  go_enter Tryz.func97, Tryz.ntmps97
  go_upto_region 2 with (first | (go_at_call 60; refine HA.out.mono ?_; rintro r w1 ⟨rfl, hb1⟩) | (refine wpL_storeE rfl _ _ rfl rfl rfl (row_new w1 _ _) ?_))
  have hr5 := (row_new w1 #[.int .i64 0, .int .i64 0, .int .i64 0, .int .i32 0, .int .i64 0] 66).put (ev e)
  have hB : Below w.heap.size w ((w1.alloc (.cells #[.int .i64 0, .int .i64 0, .int .i64 0, .int .i32 0, .int .i64 0] 66)).setRow w1.heap.size (ev e)) := bgo hb1 (below_row (below_one w1 _) (Nat.le_refl _) _)
  generalize (w1.alloc (.cells #[.int .i64 0, .int .i64 0, .int .i64 0, .int .i32 0, .int .i64 0] 66)).setRow w1.heap.size (ev e) = W5 at hr5 hB ⊢
  generalize w1.heap.size = g at hr5 ⊢
  have hM5 := hM.later hB
  have hE : CsIn g 0 (idc e.ep e.rp e.no) W5 := id_at hr5.in
  have hmr := hr.later hB
  have c1 : ∀ s : Wld W5, (wOf s).cell? ⟨mb, 1, none⟩ = some (.map (some kb)) := fun s => hmr.cls 1 _ rfl s
  clear hb1 HA hr hmr c0 w1
  refine wp_region_cls (by kernel_rfl) (by kernel_rfl) ?_
  repeat (first | go_big_quiet_skip | (go_big_quiet_want; first | (refine quiet_load_in _ _ rfl rfl hE.cls Tryz.underlying29 rfl (id_size _ _ _) ?_; simp only [Act.put, List.setIfInBounds_toArray, List.set_cons_succ, List.set_cons_zero]; go_big_quiet_on) | (refine quiet_lookup1 _ _ rfl hi rfl rfl hM5.cls ?_; simp only [Act.put, List.setIfInBounds_toArray, List.set_cons_succ, List.set_cons_zero]; go_big_quiet_on) | (go_big_quiet_op; first | go_big_quiet_on | go_big_quiet_call ((fail)))))
  refine wpQuiet_nil ?_
  rintro w1 ⟨s1, e1⟩
  have hb1 := wOf_below s1
  rw [← e1] at hb1
  clear e1 s1
  replace hB := bgo hB hb1
  clear hb1
  go_wp2
  go_ret
  exact ⟨rfl, hB⟩
/-- The rank ahead of a gap. -/
def rkA (f : Idn → Option Int) (l : List El) (i : Nat) : Int := if i = 0 then -1 else match l[i - 1]? with
  | some e => rkO f e
  | none => -1
/-- The rank behind it. -/
def rkB (f : Idn → Option Int) (l : List El) (i : Nat) : Int := match l[i]? with
  | some e => rkO f e
  | none => 4611686018427387904
theorem rkA_0 (f : Idn → Option Int) (l : List El) : rkA f l 0 = -1 := rfl
theorem rkA_s {f : Idn → Option Int} {l : List El} {i : Nat} {e : El} (h0 : 0 < i) (h : l[i - 1]? = some e) : rkA f l i = rkO f e := by unfold rkA; rw [if_neg (by omega), h]
theorem rkB_s {f : Idn → Option Int} {l : List El} {i : Nat} {e : El} (h : l[i]? = some e) : rkB f l i = rkO f e := by unfold rkB; rw [h]
theorem rkB_e {f : Idn → Option Int} {l : List El} {i : Nat} (h : l.length ≤ i) : rkB f l i = 4611686018427387904 := by unfold rkB; rw [List.getElem?_eq_none h]
theorem lenM_ok {mb tb kb n : Nat} {R : Rows} {l : List El} {f : Idn → Option Int} {w : World} (h : MdAt mb tb kb n R l f w) : Calls Tryz.prog 47 #[pv mb] w fun r w' => r = .returned (.int .i64 (l.length : Int)) ∧ w' = w := by
  have HL := hid_of' (len_L h.tree)
  have c0 : w.cell? ⟨mb, 0, none⟩ = some (.pointer (some ⟨tb, 0, none⟩)) := h.row.cell 0
  unfold pv at HL ⊢
  go_enter Tryz.func47, Tryz.ntmps47
  go_wp2_with (go_at_call 76; refine HL.out.mono ?_; rintro r w1 ⟨rfl, hw⟩; obtain rfl := hw.symm)
  go_ret
  exact ⟨rfl, rfl⟩

set_option maxHeartbeats 2000000 in
theorem ranksBeside_ok {mb tb kb n : Nat} {R : Rows} {l : List El} {f : Idn → Option Int} {w : World} (h : MdAt mb tb kb n R l f w) (i : Nat) (hi : i ≤ l.length) (hg : ∀ (j : Nat) (e : El), l[j]? = some e → e.id.In) (hn : l.length ≤ 1073741824) :
    Calls Tryz.prog 83 #[pv mb, .int .i64 (i : Int)] w fun r w' => r = .returned (.tuple #[.int .i64 (rkA f l i), .int .i64 (rkB f l i)]) ∧ Below w.heap.size w w' := by
  have HA : Hid (∀ x, Below w.heap.size w x → ∀ (j : Nat) (e : El), l[j]? = some e → _) := fun x hx j e he => rankAt_ok (h.later hx) j e he (hg j e he) hn
  have HL : Hid (∀ x, Below w.heap.size w x → _) := fun x hx => lenM_ok (h.later hx)
  clear h
  unfold pv at HA HL ⊢
  by_cases h0 : i = 0
  · subst h0
    rw [rkA_0]
    rw [show ((0 : Nat) : Int) = 0 from rfl]
    by_cases h1 : l.length = 0
    · rw [rkB_e (by omega)]
      have e1 : ((l.length : Nat) : Int) = 0 := by omega
      go_enter Tryz.func83, Tryz.ntmps83
      go_wp2_with (go_at_call 47; refine (HL.out _ (Below.refl _ _)).mono ?_; rintro r w1 ⟨rfl, hw⟩; obtain rfl := hw.symm; rw [e1])
      go_ret2
      exact ⟨rfl, Below.refl _ _⟩
    · obtain ⟨e, he⟩ : ∃ e, l[0]? = some e := ⟨_, List.getElem?_eq_getElem (by omega)⟩
      rw [rkB_s he]
      have e1 : (0 : Int) < (l.length : Int) := by omega
      have e2 : 0 < l.length := by omega
      go_enter Tryz.func83, Tryz.ntmps83
      go_wp2_with (first | (go_at_call 47; refine (HL.out _ (Below.refl _ _)).mono ?_; rintro r w1 ⟨rfl, hw⟩; obtain rfl := hw.symm) | (go_at_call 97; refine (HA.out _ (Below.refl _ _) 0 e he).mono ?_; rintro r w1 ⟨rfl, hb1⟩))
      go_ret2
      exact ⟨rfl, hb1⟩
  · obtain ⟨e, he⟩ : ∃ e, l[i - 1]? = some e := ⟨_, List.getElem?_eq_getElem (by omega)⟩
    rw [rkA_s (by omega) he]
    have e0 : 0 < i := by omega
    have e00 : (0 : Int) < (i : Int) := by omega
    have ei : (i : Int) - 1 = ((i - 1 : Nat) : Int) := by omega
    by_cases h1 : i = l.length
    · rw [rkB_e (by omega)]
      have e1 : ¬ (i : Int) < (l.length : Int) := by omega
      have e2 : ¬ i < l.length := by omega
      clear h1
      go_enter Tryz.func83, Tryz.ntmps83
      go_wp2_with (first | (go_at_call 47; refine (HL.out _ hb1).mono ?_; rintro r w2 ⟨rfl, hw⟩; obtain rfl := hw.symm) | (go_at_call 97; (try rw [ei]); refine (HA.out _ (Below.refl _ _) (i - 1) e he).mono ?_; rintro r w1 ⟨rfl, hb1⟩))
      go_ret2
      exact ⟨rfl, hb1⟩
    · obtain ⟨e', he'⟩ : ∃ e, l[i]? = some e := ⟨_, List.getElem?_eq_getElem (by omega)⟩
      rw [rkB_s he']
      have e1 : (i : Int) < (l.length : Int) := by omega
      have e2 : i < l.length := by omega
      go_enter Tryz.func83, Tryz.ntmps83
      go_upto_region 4 with (go_at_call 97; (try rw [ei]); refine (HA.out _ (Below.refl _ _) (i - 1) e he).mono ?_; rintro r w1 ⟨rfl, hb1⟩)
      go_wp2_with (first | (go_at_call 47; refine (HL.out _ hb1).mono ?_; rintro r w2 ⟨rfl, hw⟩; obtain rfl := hw.symm) | (go_at_call 97; refine (HA.out _ hb1 i e' he').mono ?_; rintro r w2 ⟨rfl, hb2⟩))
      go_ret2
      exact ⟨rfl, bgo hb1 hb2⟩

set_option maxHeartbeats 2000000 in
/-- A rank for a new element, where there is room. -/
theorem rankFor_wide {mb tb kb n : Nat} {R : Rows} {l : List El} {f : Idn → Option Int} {w : World} (h : MdAt mb tb kb n R l f w) (i : Nat) (hi : i ≤ l.length) (hg : ∀ (j : Nat) (e : El), l[j]? = some e → e.id.In) (hn : l.length ≤ 1073741824)
    (hA : -1 ≤ rkA f l i) (hB : rkB f l i ≤ 4611686018427387904) (hw : 2 ≤ rkB f l i - rkA f l i) :
    Calls Tryz.prog 56 #[pv mb, .int .i64 (i : Int)] w fun r w' => r = .returned (.int .i64 (rkA f l i + (rkB f l i - rkA f l i) / 2)) ∧ Below w.heap.size w w' := by
  have HR := hid_of' (ranksBeside_ok h i hi hg hn)
  obtain ⟨a, ha⟩ : ∃ a, rkA f l i = a := ⟨_, rfl⟩
  obtain ⟨b, hb⟩ : ∃ b, rkB f l i = b := ⟨_, rfl⟩
  rw [ha, hb] at HR ⊢
  rw [ha] at hA hw
  rw [hb] at hB hw
  have e1 : wrap64 (b - a) = b - a := wrapIs (by omega) (by omega)
  have e2 : ¬ b - a < 2 := by omega
  have e3 : Hid (wrap64 (a + wrap64 ((b - a).tdiv 2)) = a + (b - a) / 2) := by
    show _ = _
    have q : (b - a).tdiv 2 = (b - a) / 2 := Int.tdiv_eq_ediv_of_nonneg (by omega)
    rw [q, wrapIs (a := (b - a) / 2) (by omega) (by omega), wrapIs (by omega) (by omega)]
  clear ha hb hA hB hw h
  unfold pv at HR ⊢
  go_enter Tryz.func56, Tryz.ntmps56
  go_wp2_with (go_at_call 83; refine HR.out.mono ?_; rintro r w1 ⟨rfl, hb1⟩)
  go_ret
  exact ⟨congrArg (fun x => Ending.returned (Value.int .i64 x)) e3.out, hb1⟩
end Go.Proofs.YtjopeojnlibagaaGreatDoor
namespace Go.Proofs.YtjopeojnlibagaaGreatDoor
open Go.RowKit
set_option maxRecDepth 100000

section
variable {P : Program} {Q : Exit → Act → World → Prop}

/-- What holds while the head comes up. -/
structure HeadC (l : List Oper) (n : Nat) (a : Act) (X : World) (R : Nat → Value → World → Prop) (F : Nat → Bool) (c : Nat) (G : World → World → Prop) (listed : Array Bool) (vals : Nat → Value) (b : Act) (x : World) : Prop where
  grow : G X x
  calm : listed.getD c false = false → Below X.heap.size X x
  size : b.tmps.size = a.tmps.size
  defers : b.defers = a.defers
  slots : ∀ (j : Nat) (oj : Oper) (d : Tmp), l[j]? = some oj → oj.dst = some d → listed.getD j false = true → b.tmps[d]? = some (vals j)
  others : ∀ d : Tmp, (∀ (j : Nat) (oj : Oper), j < n → l[j]? = some oj → oj.dst ≠ some d) → b.tmps[d]? = a.tmps[d]?
  rel : ∀ j, j < n → listed.getD j false = true → R j (vals j) x
  fresh : ∀ j, j < n → F j = true → listed.getD j false = true → ∃ g, vals j = .pointer (some ⟨g, 0, none⟩) ∧ g < x.heap.size
  apart : ∀ i j, i < n → j < n → i ≠ j → F i = true → F j = true → listed.getD i false = true → listed.getD j false = true → vals i ≠ vals j
  down : ∀ (k : Nat) (ok : Oper), l.toArray[k]? = some ok → listed.getD k false = true → ∀ e ∈ ok.after, Region.binds .any e = true → listed.getD e.on false = true

/-- What an operation of the head leaves. -/
def CameC (c : Nat) (Gc : World → World → Prop) (R : Nat → Value → World → Prop) (F : Nat → Bool) (i : Nat) (dst : Option Tmp) (b : Act) (x : World) (b' : Act) (x' : World) : Prop :=
  ∃ v, b' = b.put dst v ∧ (i ≠ c → Below x.heap.size x x') ∧ (i = c → Gc x x') ∧ R i v x' ∧ (F i = true → ∃ g, v = .pointer (some ⟨g, 0, none⟩) ∧ x.heap.size ≤ g ∧ g < x'.heap.size)
theorem cameB {c : Nat} {Gc : World → World → Prop} {R : Nat → Value → World → Prop} {F : Nat → Bool} {i : Nat} {dst : Option Tmp} {b : Act} {x : World} {b' : Act} {x' : World} (v : Value) (h1 : b' = b.put dst v) (h0 : i ≠ c) (h2 : Below x.heap.size x x') (h3 : R i v x') (h4 : F i = true → ∃ g, v = .pointer (some ⟨g, 0, none⟩) ∧ x.heap.size ≤ g ∧ g < x'.heap.size) : CameC c Gc R F i dst b x b' x' := ⟨v, h1, fun _ => h2, fun e => absurd e h0, h3, h4⟩
theorem cameX {c : Nat} {Gc : World → World → Prop} {R : Nat → Value → World → Prop} {F : Nat → Bool} {dst : Option Tmp} {b : Act} {x : World} {b' : Act} {x' : World} (v : Value) (h1 : b' = b.put dst v) (h2 : Gc x x') (h3 : R c v x') (h4 : F c = false) : CameC c Gc R F c dst b x b' x' := ⟨v, h1, fun e => absurd rfl e, fun _ => h2, h3, fun e => by rw [h4] at e; cases e⟩

theorem wp_region_once {id : Nat} {a : Act} {X : World} {l : List Oper} (n : Nat) (hm : P.follows .mixedOrders = true) (gv : Nat → Option Bool) (hok : regOkG l.toArray a.tmps.size gv = true) (ht : tailB l.toArray n = true) (hn : n ≤ l.length)
    (R : Nat → Value → World → Prop) (F : Nat → Bool) (hgv : ∀ j v x b, gv j = some b → R j v x → v = .bool b) (c : Nat) (_hcn : c < n) (G Gc : World → World → Prop) (hGB : ∀ x x', G X x → Below x.heap.size x x' → G X x') (hG0 : ∀ x, Below X.heap.size X x → G X x) (hGc : ∀ x x', Below X.heap.size X x → Gc x x' → G X x') (hGs : ∀ x x', Gc x x' → x.heap.size ≤ x'.heap.size)
    (stable : ∀ i v x x', R i v x → Below x.heap.size x x' → R i v x') (stableC : ∀ i v x x', i ≠ c → R i v x → Gc x x' → R i v x')
    (step : ∀ (i : Nat) (o : Oper), i < n → l[i]? = some o → ∀ (b : Act) (x : World) (vals : Nat → Value), G X x → (i = c → Below X.heap.size X x) →
      (∀ (e : Edge), e ∈ o.after → Region.binds .any e = true → ∀ (oj : Oper) (d : Tmp), l[e.on]? = some oj → oj.dst = some d → b.tmps[d]? = some (vals e.on) ∧ R e.on (vals e.on) x) →
      (∀ d : Tmp, writesB l.toArray d = false → b.tmps[d]? = a.tmps[d]?) →
      o.wp P b x (CameC c Gc R F i o.dst b x) Q)
    (rest : ∀ (vals : Nat → Value) (x : World), G X x → (∀ j, j < n → R j (vals j) x) → (∀ i j, i < n → j < n → i ≠ j → F i = true → F j = true → vals i ≠ vals j) →
      wpList P l.toArray Q (l.drop n) ⟨putAll vals (l.take n) 0 a.tmps, a.defers⟩ x) :
    (Code.region id l.toArray true).wp P Q a X := by
  have hsz : l.toArray.size = l.length := by simp
  refine wp_region_any hm (wpAny_inv (fun listed b x => listed.size = l.length ∧ ((∃ vals, (∀ k, n ≤ k → k < l.length → listed.getD k false = false) ∧ HeadC l n a X R F c G listed vals b x) ∨ (∃ m, n ≤ m ∧ m ≤ l.length ∧ (∀ j, j < m → listed.getD j false = true) ∧ (∀ j, m ≤ j → j < l.length → listed.getD j false = false) ∧ wpList P l.toArray Q (l.drop m) b x))) ?_ ?_ _ _ _ _ (by rw [left_start]; exact Nat.le_refl _) ?_)
  · rintro listed b x i ⟨hs, hI⟩ hi
    obtain ⟨hun, o, ho, hall⟩ := mem_ready.1 hi
    have hol : l[i]? = some o := by simpa using ho
    have hil : i < l.length := (List.getElem?_eq_some_iff.1 hol).1
    have hun' : listed.getD i false = false := by
      have hx : i < listed.size := by omega
      simpa [hx] using hun
    have set_at : ∀ j, (listed.setIfInBounds i true).getD j false = if j = i then true else listed.getD j false := fun j => by
      by_cases e : j = i
      · subst e; rw [if_pos rfl]; have hx : j < listed.size := by omega
        simp [hx]
      · rw [if_neg e, getD_set_ne false (fun h => e h.symm)]
    have go_tail : ∀ m, n ≤ m → m ≤ l.length → (∀ j, j < m → listed.getD j false = true) → (∀ j, m ≤ j → j < l.length → listed.getD j false = false) → n ≤ i → wpList P l.toArray Q (l.drop m) b x →
        wpOp P l.toArray Q i (fun b' x' => (listed.setIfInBounds i true).size = l.length ∧ ((∃ vals, (∀ k, n ≤ k → k < l.length → (listed.setIfInBounds i true).getD k false = false) ∧ HeadC l n a X R F c G (listed.setIfInBounds i true) vals b' x') ∨ (∃ m, n ≤ m ∧ m ≤ l.length ∧ (∀ j, j < m → (listed.setIfInBounds i true).getD j false = true) ∧ (∀ j, m ≤ j → j < l.length → (listed.setIfInBounds i true).getD j false = false) ∧ wpList P l.toArray Q (l.drop m) b' x'))) b x := by
      intro m hnm hml h1 h2 hni h
      have hw := tail_waits ht ho hni hall (fun k' hk' hl j hj => h1 j (by
        rcases Nat.lt_or_ge k' m with e | e
        · omega
        · rcases Nat.lt_or_ge k' l.length with e' | e'
          · rw [h2 k' e e'] at hl; cases hl
          · rw [Array.getD_eq_getD_getElem?, Array.getElem?_eq_none (by omega)] at hl; cases hl)) (fun e _ j hj => h1 j (by omega))
      have him : i = m := by
        rcases Nat.lt_trichotomy i m with e | e | e
        · rw [h1 i e] at hun'; cases hun'
        · exact e
        · have := hw m e
          rw [h2 m (Nat.le_refl _) (by omega)] at this; cases this
      subst him
      refine tail_step rfl hol (fun b' x' h' => ⟨by simpa using hs, .inr ⟨i + 1, by omega, by omega, fun j hj => ?_, fun j hj hjl => ?_, h'⟩⟩) h
      · rw [set_at]
        by_cases e : j = i
        · rw [if_pos e]
        · rw [if_neg e]; exact h1 j (by omega)
      · rw [set_at, if_neg (by omega)]; exact h2 j (by omega) hjl
    rcases hI with ⟨vals, htl, hJ⟩ | ⟨m, hnm, hml, h1, h2, h⟩
    · by_cases hin : i < n
      · have h := step i o hin hol b x vals hJ.grow (fun e => hJ.calm (e ▸ hun')) (fun e he hb oj d h1 h2 => by
          have hl := hall e he hb
          have hlt : e.on < n := Nat.lt_trans ((regOkG_at hok i o ho).2.1 e he hb) hin
          exact ⟨hJ.slots e.on oj d h1 h2 hl, hJ.rel e.on hlt hl⟩) (fun d hd => hJ.others d (fun j oj _ hj he => by
            have : writesB l.toArray d = true := Array.any_eq_true'.2 ⟨oj, by simpa using List.mem_of_getElem? hj, by simp [he]⟩
            rw [this] at hd; cases hd))
        unfold wpOp
        simp only [ho]
        have hw : Region.wanted o (yielded l.toArray b.tmps) = true := by
          rcases (regOkG_at hok i o ho).1 with h0 | ⟨j, v, oj, d, e, h1, h2, h3, h4, h5, h6, h7⟩
          · simp [Region.wanted, h0]
          · have hl := hall e h5 h6
            have hlt : e.on < n := Nat.lt_trans ((regOkG_at hok i o ho).2.1 e h5 h6) hin
            rw [h7] at hl hlt
            have hj' : l[j]? = some oj := by simpa using h2
            have hs := hJ.slots j oj d hj' h3 hl
            have hv := hgv j _ _ v h4 (hJ.rel j hlt hl)
            rw [hv] at hs
            simp [Region.wanted, h1, yielded, hj', h3, hs]
        rw [if_pos hw]
        refine .inl (Oper.wp_mono ?_ h)
        rintro b' x' ⟨v, rfl, hb, hgc, hR, hf⟩
        have hsz2 : x.heap.size ≤ x'.heap.size := by
          by_cases e : i = c
          · exact hGs _ _ (hgc e)
          · exact (hb e).size
        refine ⟨by simpa using hs, .inl ⟨upd vals i v, fun k hk hkl => by rw [set_at, if_neg (by omega)]; exact htl k hk hkl, ?_⟩⟩
        have up_self : upd vals i v i = v := if_pos rfl
        have up_ne : ∀ {j}, j ≠ i → upd vals i v j = vals j := fun h => if_neg h
        have frp : ∀ j, j < n → j ≠ i → F j = true → (listed.setIfInBounds i true).getD j false = true → ∃ g, vals j = .pointer (some ⟨g, 0, none⟩) ∧ g < x.heap.size := fun j hj hji hF hl => by
          rw [set_at, if_neg hji] at hl
          exact hJ.fresh j hj hF hl
        refine ⟨?_, ?_, ?_, ?_, ?_, ?_, ?_, ?_, ?_, ?_⟩
        · by_cases e : i = c
          · exact hGc _ _ (hJ.calm (e ▸ hun')) (hgc e)
          · exact hGB _ _ hJ.grow (hb e)
        · intro hl
          have hic : i ≠ c := fun e => by rw [set_at, if_pos e.symm] at hl; cases hl
          rw [set_at, if_neg (fun e => hic e.symm)] at hl
          exact (hJ.calm hl).trans ((hb hic).mono (hJ.calm hl).size)
        · cases hdst : o.dst with
          | none => exact hJ.size
          | some d => simpa [Act.put] using hJ.size
        · cases hdst : o.dst with
          | none => exact hJ.defers
          | some d => simpa [Act.put] using hJ.defers
        · intro j oj d hj hjd hl
          by_cases hij : j = i
          · subst hij
            obtain rfl := Option.some.inj (hol.symm.trans hj)
            rw [hjd, up_self]
            have hlt := ((regOkG_at hok j o ho).2.2 d hjd).1
            have hlt' : d < b.tmps.size := by rw [hJ.size]; exact hlt
            simp [Act.put, hlt']
          · rw [set_at, if_neg hij] at hl
            have hold := hJ.slots j oj d hj hjd hl
            rw [up_ne hij]
            cases hdst : o.dst with
            | none => simpa [Act.put] using hold
            | some d' =>
              have hne : d' ≠ d := fun e => by
                subst e
                have hoj : l.toArray[j]? = some oj := by simpa using hj
                rcases Nat.lt_trichotomy i j with h | h | h
                · exact ((regOkG_at hok j oj hoj).2.2 d' hjd).2 i o h ho hdst
                · exact hij h.symm
                · exact ((regOkG_at hok i o ho).2.2 d' hdst).2 j oj h hoj hjd
              simp [Act.put, Array.getElem?_setIfInBounds_ne hne, hold]
        · intro d hnd
          have hold := hJ.others d hnd
          cases hdst : o.dst with
          | none => simpa [Act.put] using hold
          | some d' =>
            have hne : d' ≠ d := fun e => hnd i o hin hol (by rw [hdst, e])
            simp [Act.put, Array.getElem?_setIfInBounds_ne hne, hold]
        · intro j hj hl
          by_cases hij : j = i
          · subst hij; rw [up_self]; exact hR
          · rw [set_at, if_neg hij] at hl
            rw [up_ne hij]
            by_cases e : i = c
            · exact stableC j _ _ _ (fun q => hij (q.trans e.symm)) (hJ.rel j hj hl) (hgc e)
            · exact stable j _ _ _ (hJ.rel j hj hl) (hb e)
        · intro j hj hF hl
          by_cases hij : j = i
          · subst hij
            obtain ⟨g, e1, _, e3⟩ := hf hF
            exact ⟨g, by rw [up_self]; exact e1, e3⟩
          · obtain ⟨g, e1, e2⟩ := frp j hj hij hF hl
            exact ⟨g, by rw [up_ne hij]; exact e1, Nat.lt_of_lt_of_le e2 hsz2⟩
        · intro j k hj hk hjk hFj hFk hlj hlk
          by_cases hji : j = i
          · have hki : k ≠ i := fun e => hjk (hji.trans e.symm)
            obtain ⟨g, e1, e2⟩ := frp k hk hki hFk hlk
            obtain ⟨g', e3, e4, _⟩ := hf (hji ▸ hFj)
            rw [hji, up_self, up_ne hki, e1, e3]
            intro e
            cases e
            omega
          · by_cases hki : k = i
            · obtain ⟨g, e1, e2⟩ := frp j hj hji hFj hlj
              obtain ⟨g', e3, e4, _⟩ := hf (hki ▸ hFk)
              rw [hki, up_self, up_ne hji, e1, e3]
              intro e
              cases e
              omega
            · rw [set_at, if_neg hji] at hlj
              rw [set_at, if_neg hki] at hlk
              rw [up_ne hji, up_ne hki]
              exact hJ.apart j k hj hk hjk hFj hFk hlj hlk
        · intro k ok hk hl e he hbd
          rw [set_at] at hl ⊢
          by_cases hei : e.on = i
          · rw [if_pos hei]
          · rw [if_neg hei]
            by_cases hki : k = i
            · subst hki
              obtain rfl := Option.some.inj (ho.symm.trans hk)
              exact hall e he hbd
            · rw [if_neg hki] at hl
              exact hJ.down k ok hk hl e he hbd
      · have hni : n ≤ i := by omega
        have hw := tail_waits ht ho hni hall (fun k' hk' hl j hj => by
          rcases Nat.lt_or_ge k' l.length with e' | e'
          · rw [htl k' hk' e'] at hl; cases hl
          · rw [Array.getD_eq_getD_getElem?, Array.getElem?_eq_none (by omega)] at hl; cases hl) (fun _ hA j hj => anc_listed hJ.down 24 j i o ho hall (hA j hj))
        have hhead : ∀ j, j < n → listed.getD j false = true := fun j hj => hw j (by omega)
        refine go_tail n (Nat.le_refl _) hn hhead (fun j hj hjl => htl j hj hjl) hni ?_
        have hb : b = ⟨putAll vals (l.take n) 0 a.tmps, a.defers⟩ := by
          have : putAll vals (l.take n) 0 a.tmps = b.tmps := putAll_is (l.take n) 0 _ (fun j oj d h1 h2 => by
            have hjn : j < n := by have := (List.getElem?_eq_some_iff.1 h1).1; simp at this; omega
            rw [List.getElem?_take_of_lt hjn] at h1
            rw [Nat.zero_add]; exact hJ.slots j oj d h1 h2 (hhead j hjn)) hJ.size.symm fun d => by
            by_cases e : ∃ (j : Nat) (oj : Oper), j < n ∧ l[j]? = some oj ∧ oj.dst = some d
            · obtain ⟨j, oj, hj, h1, h2⟩ := e
              exact .inr ⟨j, oj, by rw [List.getElem?_take_of_lt hj]; exact h1, h2⟩
            · exact .inl (hJ.others d fun j oj hj h1 h2 => e ⟨j, oj, hj, h1, h2⟩).symm
          rw [this, ← hJ.defers]
        rw [hb]
        exact rest vals x hJ.grow (fun j hj => hJ.rel j hj (hhead j hj)) (fun i j hi hj hij h1 h2 => hJ.apart i j hi hj hij h1 h2 (hhead i hi) (hhead j hj))
    · have hni : n ≤ i := by
        rcases Nat.lt_or_ge i m with e | e
        · rw [h1 i e] at hun'; cases hun'
        · omega
      exact go_tail m hnm hml h1 h2 hni h
  · rintro listed b x ⟨hs, hI⟩ h0
    have hall : ∀ i, i < l.length → listed.getD i false = true := fun i hi => ready_nil hok (by omega) h0 i (by omega)
    rcases hI with ⟨vals, htl, hJ⟩ | ⟨m, hnm, hml, h1, h2, h⟩
    · have hnl : n = l.length := by
        rcases Nat.lt_or_ge n l.length with e | e
        · have := htl n (Nat.le_refl _) e
          rw [hall n e] at this; cases this
        · omega
      have hb : b = ⟨putAll vals (l.take n) 0 a.tmps, a.defers⟩ := by
        have : putAll vals (l.take n) 0 a.tmps = b.tmps := putAll_is (l.take n) 0 _ (fun j oj d h1 h2 => by
          have hjn : j < n := by have := (List.getElem?_eq_some_iff.1 h1).1; simp at this; omega
          rw [List.getElem?_take_of_lt hjn] at h1
          rw [Nat.zero_add]; exact hJ.slots j oj d h1 h2 (hall j (by omega))) hJ.size.symm fun d => by
          by_cases e : ∃ (j : Nat) (oj : Oper), j < n ∧ l[j]? = some oj ∧ oj.dst = some d
          · obtain ⟨j, oj, hj, h1, h2⟩ := e
            exact .inr ⟨j, oj, by rw [List.getElem?_take_of_lt hj]; exact h1, h2⟩
          · exact .inl (hJ.others d fun j oj hj h1 h2 => e ⟨j, oj, hj, h1, h2⟩).symm
        rw [this, ← hJ.defers]
      have hr := rest vals x hJ.grow (fun j hj => hJ.rel j hj (hall j (by omega))) (fun i j hi hj hij h1 h2 => hJ.apart i j hi hj hij h1 h2 (hall i (by omega)) (hall j (by omega)))
      rw [← hb, hnl, List.drop_length] at hr
      exact hr
    · have hml' : m = l.length := by
        rcases Nat.lt_or_ge m l.length with e | e
        · have := h2 m (Nat.le_refl _) e
          rw [hall m e] at this; cases this
        · omega
      rw [hml', List.drop_length] at h
      exact h
  · refine ⟨by simp, .inl ⟨fun _ => undef, fun k _ _ => repl_getD _ _, ⟨hG0 _ (Below.refl _ _).drew, fun _ => (Below.refl _ _).drew, rfl, rfl, fun j oj d _ _ h => absurd ((repl_getD _ _).symm.trans h) (by decide), fun _ _ => rfl, fun j _ h => absurd ((repl_getD _ _).symm.trans h) (by decide), fun j _ _ h => absurd ((repl_getD _ _).symm.trans h) (by decide), fun i j _ _ _ _ _ h _ => absurd ((repl_getD _ _).symm.trans h) (by decide), fun k _ _ h => absurd ((repl_getD _ _).symm.trans h) (by decide)⟩⟩⟩
end
end Go.Proofs.YtjopeojnlibagaaGreatDoor
namespace Go.Proofs.YtjopeojnlibagaaGreatDoor
open Go.RowKit
set_option maxRecDepth 100000

/-- All that was there but two blocks is as it was. -/
structure K2 (x y : Nat) (w w' : World) : Prop where
  os : w'.os = w.os
  tape : w'.tape = w.tape
  output : w'.output = w.output
  size : w.heap.size ≤ w'.heap.size
  block : ∀ k, k < w.heap.size → ¬ k = x → ¬ k = y → w'.heap[k]? = w.heap[k]?
theorem K2.of {x y : Nat} {w w' : World} (h : Below w.heap.size w w') : K2 x y w w' := ⟨h.os, h.tape, h.output, h.size, fun k hk _ _ => h.block k hk⟩
theorem K2.one {x y : Nat} {w w' : World} (h : Kp x w w') : K2 x y w w' := ⟨h.os, h.tape, h.output, h.size, fun k hk h1 _ => h.block k hk h1⟩
theorem K2.two {x y : Nat} {w w' : World} (h : Kp y w w') : K2 x y w w' := ⟨h.os, h.tape, h.output, h.size, fun k hk _ h2 => h.block k hk h2⟩
theorem K2.trans {x y : Nat} {a b c : World} (h : K2 x y a b) (k : K2 x y b c) : K2 x y a c :=
  ⟨k.os.trans h.os, k.tape.trans h.tape, k.output.trans h.output, Nat.le_trans h.size k.size, fun i hi h1 h2 => (k.block i (Nat.lt_of_lt_of_le hi h.size) h1 h2).trans (h.block i hi h1 h2)⟩
theorem K2.below {x y B : Nat} {a w w' : World} (h : Below B a w) (k : K2 x y w w') (hx : B ≤ x) (hy : B ≤ y) (hB : B ≤ w.heap.size) : Below B a w' :=
  ⟨k.os.trans h.os, k.tape.trans h.tape, k.output.trans h.output, Nat.le_trans h.size k.size, fun i hi => (k.block i (by omega) (by omega) (by omega)).trans (h.block i hi)⟩
theorem RowAt.k2 {x y b : Nat} {cs : Array Value} {t : TypeId} {w w' : World} (h : RowAt b cs t w) (k : K2 x y w w') (h1 : ¬ b = x) (h2 : ¬ b = y) : RowAt b cs t w' := (k.block b h.lt h1 h2).trans h
theorem CsIn.k2 {x y b off : Nat} {cs : Array Value} {w w' : World} (h : CsIn b off cs w) (k : K2 x y w w') (h1 : ¬ b = x) (h2 : ¬ b = y) : CsIn b off cs w' :=
  ⟨Nat.lt_of_lt_of_le h.1 k.size, fun j v hv => by rw [World.cell?_of_block (w := w) (a := ⟨b, off + j, none⟩) (k.block b h.1 h1 h2)]; exact h.2 j v hv⟩
theorem MpAt.obj {kb n : Nat} {f : Idn → Option Int} {w : World} (h : MpAt kb n f w) : ∃ o : Obj, w.heap[kb]? = some o ∧ o.isCells = false := by
  obtain ⟨D, ⟨es, cl, h1, _⟩, _⟩ := h
  exact ⟨_, h1, rfl⟩
theorem KC.of_kp {x : Nat} {w w' : World} (k : Kp x w w') (hx : ∃ o : Obj, w.heap[x]? = some o ∧ o.isCells = false) : KC (fun _ => False) w w' :=
  ⟨k.size, fun g o hg hc _ => by
    have h1 := (Array.getElem?_eq_some_iff.1 hg).1
    refine (k.block g h1 (fun e => ?_)).trans hg
    obtain ⟨o', h2, h3⟩ := hx
    rw [← e, hg] at h2
    cases h2
    rw [hc] at h3
    cases h3⟩
theorem TrL.kc {R : Rows} {b ch : Nat} {l : List El} {w w' : World} (h : TrL R b ch l w) (k : KC (fun _ => False) w w') : TrL R b ch l w' := by
  obtain ⟨ls, v, h1, h2, h3⟩ := h
  refine ⟨ls, v, k.2 b _ h1 rfl (fun h => h), ?_, h3⟩
  rcases h2 with h2 | ⟨t, e, h4, h5⟩
  · exact .inl h2
  · exact .inr ⟨t, e, Nd.At.kc (fun _ h => h.elim) k h4, h5⟩
theorem MdAt.ne {mb tb kb n : Nat} {R : Rows} {l : List El} {f : Idn → Option Int} {w : World} (h : MdAt mb tb kb n R l f w) : ¬ mb = tb ∧ ¬ mb = kb ∧ ¬ tb = kb := by
  obtain ⟨o, ho, hc⟩ := h.map.obj
  obtain ⟨ls, v, ht, _⟩ := h.tree
  have hr := h.row
  unfold RowAt at hr ht
  refine ⟨fun e => ?_, fun e => ?_, fun e => ?_⟩
  · rw [e, ht] at hr
    simp only [Option.some.injEq, Obj.cells.injEq] at hr
    exact absurd hr.2.1 (by decide)
  · rw [e, ho] at hr
    cases hr
    cases hc
  · rw [e, ho] at ht
    cases ht
    cases hc
/-- The same IDs have ranks. -/
def Kf (f f' : Idn → Option Int) : Prop := ∀ i, (f' i).isSome = (f i).isSome
/-- What rankFor answers, and what it leaves. -/
def RkOut (kb : Nat) (f : Idn → Option Int) (N : Nat) (x : World) (r : Ending) (x' : World) : Prop := ∃ z f' n', r = .returned (.int .i64 z) ∧ In64 z ∧ n' ≤ N ∧ MpAt kb n' f' x' ∧ Kf f f' ∧ Kp kb x x'
/-- A rank came up. -/
def RkV (kb : Nat) (f : Idn → Option Int) (N : Nat) (v : Value) (x : World) : Prop := ∃ z f' n', v = .int .i64 z ∧ In64 z ∧ n' ≤ N ∧ MpAt kb n' f' x ∧ Kf f f'
/-- What Insert answers, and what it leaves. -/
def InO (mb tb kb : Nat) (R : Rows) (l : List El) (f : Idn → Option Int) (N : Nat) (i : Idn) (w : World) (r : Ending) (w' : World) : Prop := ∃ n' f', r = .returned .nilIface ∧ n' ≤ N + 1 ∧ MdAt mb tb kb n' R l f' w' ∧ (∀ j, (f' j).isSome = ((f j).isSome || decide (j = i))) ∧ K2 tb kb w w'

/-- A list of one element has been laid. -/
def BsV (e : El) (v : Value) (x : World) : Prop := SlE x v [e] ∧ ∃ g : Nat, v = .slice (some ⟨g, 0, none⟩) 1 1
theorem BsV.later {e : El} {v : Value} {x x' : World} (h : BsV e v x) (hb : Below x.heap.size x x') : BsV e v x' := ⟨h.1.later hb, h.2⟩
theorem bsv_new (x : World) (e : El) : BsV e (.slice (some ⟨x.heap.size, 0, none⟩) 1 1) (x.alloc (.cells (ev e) 66)) := ⟨sl_new x [e] 1 1 rfl, _, rfl⟩

set_option maxHeartbeats 4000000 in
theorem insert_md {mb tb kb n : Nat} {R : Rows} {l : List El} {f : Idn → Option Int} {w : World} (h : MdAt mb tb kb n R l f w) (ip : Nat) (e : El) (hi : ip ≤ l.length) (hg : e.Good) (hf : (f e.id).isSome = false) (hn : l.length + 1 ≤ 1073741824) {N : Nat} (hN : N ≤ 1000000000000)
    (HR : ∀ x, Below w.heap.size w x → Calls Tryz.prog 56 #[pv mb, .int .i64 (ip : Int)] x (RkOut kb f N x)) :
    Calls Tryz.prog 28 #[pv mb, .int .i64 (ip : Int), .agg (ev e)] w (InO mb tb kb R (insE l ip e) f N e.id w) := by
  obtain ⟨ne1, ne2, ne3⟩ := h.ne
  have hB0 := below_one w (.cells (ev e) 66)
  have hr0 := row_new w (ev e) 66
  have h0 := h.later hB0
  have HL := hid_of' (lenM_ok h0)
  have HF := hid_of' (flaw_ok h0.row h0.map hg.1 hg.2.1 hg.2.2 hf)
  have e1 : ¬ (ip : Int) < 0 := by omega
  have e2 : ¬ (l.length : Int) < (ip : Int) := by omega
  have e3 : ¬ l.length < ip := by omega
  have hlt := h.row.lt
  have htl : tb < w.heap.size := by obtain ⟨ls, v, ht, _⟩ := h.tree; exact ht.lt
  have hkl := h.map.lt
  have HI := hid_of' hg.1
  clear hg hf
  unfold pv at HL HF HR ⊢
  go_enter Tryz.func28, Tryz.ntmps28
  go_upto_region 6 with (first | (go_at_call 47; refine HL.out.mono ?_; clear HL; rintro r w1 ⟨rfl, hw⟩; obtain rfl := hw.symm) | (refine wpL_loadE rfl _ rfl rfl hr0.in ?_) | (go_at_call 55; refine HF.out.mono ?_; clear HF; rintro r w2 ⟨rfl, hb2⟩))
  have hB2 := bgo hB0 hb2
  have h2 := h0.later hb2
  have hr2 := hr0.later hb2
  clear h0 hr0 hb2 hB0 e1 e2 e3 h
  have hI2 : CsIn w.heap.size 0 (idc e.id.a e.id.b e.id.c) w2 := id_at hr2.in
  have hX0 := hB2.size
  refine wp_region_once 9 (by kernel_rfl) (fun _ => none) (by kernel_rfl) (by kernel_rfl) (by decide) (fun i v x => match i with
    | 0 => v = .pointer (some ⟨mb, 0, none⟩)
    | 1 => v = .pointer (some ⟨mb, 0, none⟩)
    | 2 => v = .pointer (some ⟨mb, 1, none⟩)
    | 3 => v = .map (some kb)
    | 4 => v = .pointer (some ⟨w.heap.size, 0, none⟩)
    | 5 => v = .agg (idc e.id.a e.id.b e.id.c)
    | 6 => v = .pointer (some ⟨mb, 0, none⟩)
    | 7 => v = .int .i64 (ip : Int)
    | 8 => RkV kb f N v x
    | _ => True) (fun _ => false) (fun _ _ _ _ h => by cases h) 8 (by decide) (fun a b => Kp kb a b) (fun a b => Kp kb a b) (fun _ _ h hb => h.trans (Kp.of hb)) (fun _ h => Kp.of h) (fun _ _ h k => (Kp.of h).trans k) (fun _ _ k => k.size) ?_ ?_ ?_ ?_
  · intro i v x x' hR hb
    match i, hR with
    | 0, h => exact h
    | 1, h => exact h
    | 2, h => exact h
    | 3, h => exact h
    | 4, h => exact h
    | 5, h => exact h
    | 6, h => exact h
    | 7, h => exact h
    | 8, h => exact by obtain ⟨z, f9, n9, h1, h2, h3, h4, h5⟩ := h; exact ⟨z, f9, n9, h1, h2, h3, h4.later hb, h5⟩
    | m + 9, h => exact h
  · intro i v x x' hne hR hb
    match i, hne, hR with
    | 0, hne, h => exact h
    | 1, hne, h => exact h
    | 2, hne, h => exact h
    | 3, hne, h => exact h
    | 4, hne, h => exact h
    | 5, hne, h => exact h
    | 6, hne, h => exact h
    | 7, hne, h => exact h
    | 8, hne, h => exact absurd rfl hne
    | m + 9, _, h => exact h
  · intro i o hi ho q x vals hX hC hdep hoth
    have t0 : q.tmps[0]? = some (.pointer (some ⟨mb, 0, none⟩)) := by rw [hoth 0 (by kernel_rfl)]; rfl
    have t1 : q.tmps[1]? = some (.int .i64 (ip : Int)) := by rw [hoth 1 (by kernel_rfl)]; rfl
    have t5 : q.tmps[5]? = some (.pointer (some ⟨w.heap.size, 0, none⟩)) := by rw [hoth 5 (by kernel_rfl)]; rfl
    match i, hi, ho, hC with
    | 0, _, ho, hC =>
      simp only [List.getElem?_cons_zero, Option.some.injEq] at ho
      subst ho
      unfold Oper.wp
      simp [execOp, go_sem, t0]
      exact cameB _ rfl (by decide) (Below.refl _ _) rfl (fun h => absurd h (by decide))
    | 1, _, ho, hC =>
      simp only [List.getElem?_cons_succ, List.getElem?_cons_zero, Option.some.injEq] at ho
      subst ho
      obtain ⟨u0, e0⟩ := hdep ⟨0, .data⟩ (by simp) rfl _ 27 rfl rfl
      rw [show vals 0 = .pointer (some ⟨mb, 0, none⟩) from e0] at u0
      unfold Oper.wp
      simp [execOp, go_sem, u0]
      exact cameB _ rfl (by decide) (Below.refl _ _) rfl (fun h => absurd h (by decide))
    | 2, _, ho, hC =>
      simp only [List.getElem?_cons_succ, List.getElem?_cons_zero, Option.some.injEq] at ho
      subst ho
      obtain ⟨u1, e1⟩ := hdep ⟨1, .data⟩ (by simp) rfl _ 28 rfl rfl
      rw [show vals 1 = .pointer (some ⟨mb, 0, none⟩) from e1] at u1
      unfold Oper.wp
      simp [execOp, go_sem, u1]
      exact cameB _ rfl (by decide) (Below.refl _ _) rfl (fun h => absurd h (by decide))
    | 3, _, ho, hC =>
      simp only [List.getElem?_cons_succ, List.getElem?_cons_zero, Option.some.injEq] at ho
      subst ho
      obtain ⟨u2, e2⟩ := hdep ⟨2, .data⟩ (by simp) rfl _ 29 rfl rfl
      rw [show vals 2 = .pointer (some ⟨mb, 1, none⟩) from e2] at u2
      have cc : x.cell? ⟨mb, 1, none⟩ = some (.map (some kb)) := (h2.row.kp hX ne2).cell 1
      unfold Oper.wp
      simp [execOp, go_sem, u2, cc]
      exact cameB _ rfl (by decide) (Below.refl _ _) rfl (fun h => absurd h (by decide))
    | 4, _, ho, hC =>
      simp only [List.getElem?_cons_succ, List.getElem?_cons_zero, Option.some.injEq] at ho
      subst ho
      unfold Oper.wp
      simp [execOp, go_sem, t5]
      exact cameB _ rfl (by decide) (Below.refl _ _) rfl (fun h => absurd h (by decide))
    | 5, _, ho, hC =>
      simp only [List.getElem?_cons_succ, List.getElem?_cons_zero, Option.some.injEq] at ho
      subst ho
      obtain ⟨u4, e4⟩ := hdep ⟨4, .data⟩ (by simp) rfl _ 31 rfl rfl
      rw [show vals 4 = .pointer (some ⟨w.heap.size, 0, none⟩) from e4] at u4
      exact opw_loadI _ rfl (by simp [Act.eval, u4]) (hI2.kp hX (by omega)) (cameB _ rfl (by decide) (Below.refl _ _) rfl (fun h => absurd h (by decide)))
    | 6, _, ho, hC =>
      simp only [List.getElem?_cons_succ, List.getElem?_cons_zero, Option.some.injEq] at ho
      subst ho
      unfold Oper.wp
      simp [execOp, go_sem, t0]
      exact cameB _ rfl (by decide) (Below.refl _ _) rfl (fun h => absurd h (by decide))
    | 7, _, ho, hC =>
      simp only [List.getElem?_cons_succ, List.getElem?_cons_zero, Option.some.injEq] at ho
      subst ho
      unfold Oper.wp
      simp [execOp, go_sem, t1]
      exact cameB _ rfl (by decide) (Below.refl _ _) rfl (fun h => absurd h (by decide))
    | 8, _, ho, hC =>
      simp only [List.getElem?_cons_succ, List.getElem?_cons_zero, Option.some.injEq] at ho
      subst ho
      obtain ⟨u6, e6⟩ := hdep ⟨6, .data⟩ (by simp) rfl _ 33 rfl rfl
      rw [show vals 6 = .pointer (some ⟨mb, 0, none⟩) from e6] at u6
      obtain ⟨u7, e7⟩ := hdep ⟨7, .data⟩ (by simp) rfl _ 34 rfl rfl
      rw [show vals 7 = .int .i64 (ip : Int) from e7] at u7
      unfold Oper.wp
      simp [go_sem, u6, u7]
      refine (HR x (bgo hB2 (hC rfl))).mono ?_
      rintro r x1 ⟨z, f9, n9, rfl, hz, hn9, hM9, hK9, hb1⟩
      exact cameX _ rfl hb1 ⟨z, f9, n9, rfl, hz, hn9, hM9, hK9⟩ rfl
    | m + 9, hi, _, _ => exact absurd hi (by omega)
  · intro vals x' hX hR _
    obtain ⟨z, f9, n9, r8, hz, hn9, hM9, hK9⟩ : RkV kb f N (vals 8) x' := hR 8 (by decide)
    have r3 : vals 3 = .map (some kb) := hR 3 (by decide)
    have r5 : vals 5 = .agg (idc e.id.a e.id.b e.id.c) := hR 5 (by decide)
    simp only [List.take, List.drop, putAll, r3, r5, r8]
    clear r3 r5 r8 hR
    simp only [List.setIfInBounds_toArray, List.set_cons_succ, List.set_cons_zero]
    refine wpL_mapPut rfl _ _ _ rfl hM9 HI.out rfl rfl rfl hz (by omega) ?_
    intro w9 hM' hgr
    simp only [Act.put]
    have hkp := hX.trans (Kp.of_grown hgr)
    have hT9 := h2.tree.kc (KC.of_kp hkp h2.map.obj)
    have hr9 := hr2.kp hkp (by omega)
    have hm9 := h2.row.kp hkp ne2
    have hno := h2.no
    have hnom := h2.nom
    have hhi : R.hi ≤ w9.heap.size := Nat.le_trans h2.hi hkp.size
    have hs9 := hkp.size
    have hl9 := hM'.lt
    clear hM9 hX hgr h2 hr2 hI2 HI
    go_upto_region 7 with fail
    refine wp_region_tail 7 (by kernel_rfl) (fun _ => none) (by kernel_rfl) (by kernel_rfl) (by decide) (fun i v x => match i with
      | 0 => v = .pointer (some ⟨mb, 0, none⟩)
      | 1 => v = .pointer (some ⟨mb, 0, none⟩)
      | 2 => v = .pointer (some ⟨mb, 0, none⟩)
      | 3 => v = .pointer (some ⟨tb, 0, none⟩)
      | 4 => v = .int .i64 (ip : Int)
      | 5 => v = .agg (ev e)
      | 6 => BsV e v x
      | _ => True) (fun _ => false) (fun _ _ _ _ h => by cases h) ?_ ?_ ?_
    · intro i v x x' hR hb
      match i, hR with
      | 0, h => exact h
      | 1, h => exact h
      | 2, h => exact h
      | 3, h => exact h
      | 4, h => exact h
      | 5, h => exact h
      | 6, h => exact h.later hb
      | m + 7, h => exact h
    · intro i o hi ho q x vals hX hdep hoth
      have t0 : q.tmps[0]? = some (.pointer (some ⟨mb, 0, none⟩)) := by rw [hoth 0 (by kernel_rfl)]; rfl
      have t1 : q.tmps[1]? = some (.int .i64 (ip : Int)) := by rw [hoth 1 (by kernel_rfl)]; rfl
      have t5 : q.tmps[5]? = some (.pointer (some ⟨w.heap.size, 0, none⟩)) := by rw [hoth 5 (by kernel_rfl)]; rfl
      match i, hi, ho with
      | 0, _, ho =>
        simp only [List.getElem?_cons_zero, Option.some.injEq] at ho
        subst ho
        unfold Oper.wp
        simp [execOp, go_sem, t0]
        exact came _ rfl (Below.refl _ _) rfl (fun h => absurd h (by decide))
      | 1, _, ho =>
        simp only [List.getElem?_cons_succ, List.getElem?_cons_zero, Option.some.injEq] at ho
        subst ho
        obtain ⟨u0, e0⟩ := hdep ⟨0, .data⟩ (by simp) rfl _ 36 rfl rfl
        rw [show vals 0 = .pointer (some ⟨mb, 0, none⟩) from e0] at u0
        unfold Oper.wp
        simp [execOp, go_sem, u0]
        exact came _ rfl (Below.refl _ _) rfl (fun h => absurd h (by decide))
      | 2, _, ho =>
        simp only [List.getElem?_cons_succ, List.getElem?_cons_zero, Option.some.injEq] at ho
        subst ho
        obtain ⟨u1, e1⟩ := hdep ⟨1, .data⟩ (by simp) rfl _ 37 rfl rfl
        rw [show vals 1 = .pointer (some ⟨mb, 0, none⟩) from e1] at u1
        unfold Oper.wp
        simp [execOp, go_sem, u1]
        exact came _ rfl (Below.refl _ _) rfl (fun h => absurd h (by decide))
      | 3, _, ho =>
        simp only [List.getElem?_cons_succ, List.getElem?_cons_zero, Option.some.injEq] at ho
        subst ho
        obtain ⟨u2, e2⟩ := hdep ⟨2, .data⟩ (by simp) rfl _ 38 rfl rfl
        rw [show vals 2 = .pointer (some ⟨mb, 0, none⟩) from e2] at u2
        have cc : x.cell? ⟨mb, 0, none⟩ = some (.pointer (some ⟨tb, 0, none⟩)) := (hm9.later hX).cell 0
        unfold Oper.wp
        simp [execOp, go_sem, u2, cc]
        exact came _ rfl (Below.refl _ _) rfl (fun h => absurd h (by decide))
      | 4, _, ho =>
        simp only [List.getElem?_cons_succ, List.getElem?_cons_zero, Option.some.injEq] at ho
        subst ho
        unfold Oper.wp
        simp [execOp, go_sem, t1]
        exact came _ rfl (Below.refl _ _) rfl (fun h => absurd h (by decide))
      | 5, _, ho =>
        simp only [List.getElem?_cons_succ, List.getElem?_cons_zero, Option.some.injEq] at ho
        subst ho
        exact opw_loadE _ rfl (by simp [Act.eval, t5]) (hr9.in.later hX) (came _ rfl (Below.refl _ _) rfl (fun h => absurd h (by decide)))
      | 6, _, ho =>
        simp only [List.getElem?_cons_succ, List.getElem?_cons_zero, Option.some.injEq] at ho
        subst ho
        obtain ⟨u5, e5⟩ := hdep ⟨5, .data⟩ (by simp) rfl _ 41 rfl rfl
        rw [show vals 5 = .agg (ev e) from e5] at u5
        unfold ev at u5
        unfold Oper.wp
        simp [execOp, go_sem, u5]
        exact came _ rfl (below_one _ _) (bsv_new x e) (fun h => absurd h (by decide))
      | m + 7, hi, _ => exact absurd hi (by omega)
    · intro vals x9 hX9 hR9 _
      have q3 : vals 3 = .pointer (some ⟨tb, 0, none⟩) := hR9 3 (by decide)
      have q4 : vals 4 = .int .i64 (ip : Int) := hR9 4 (by decide)
      obtain ⟨q6, g6, q7⟩ : BsV e (vals 6) x9 := hR9 6 (by decide)
      rw [q7] at q6
      have HN := hid_of' (insert_any (hT9.later hX9) ip [e] _ q6 hi (by simpa using hn) hno (by decide) (by decide) (Nat.le_trans hhi hX9.size))
      simp only [List.take, List.drop, putAll, q3, q4, q7]
      clear q3 q4 q6 q7 hR9
      simp only [List.setIfInBounds_toArray, List.set_cons_succ, List.set_cons_zero]
      unfold pv at HN
      go_wp2_with (go_at_call 57; refine HN.out.mono ?_; rintro r w10 ⟨rfl, hT10, hk10⟩)
      go_ret
      have hkB := hM'.later hX9
      refine ⟨n9 + 1, putF f9 e.id z, rfl, by omega, ⟨(hm9.later hX9).kp hk10 ne1, hT10, hkB.kp hk10 (fun q => ne3 q.symm), hno, hnom, Nat.le_trans hhi (Nat.le_trans hX9.size hk10.size)⟩, fun j => ?_, ((K2.of hB2).trans (K2.two hkp)).trans ((K2.of hX9).trans (K2.one hk10))⟩
      unfold putF
      by_cases hj : j = e.id
      · rw [if_pos hj]; simp [hj]
      · rw [if_neg hj, hK9 j]; simp [hj]
end Go.Proofs.YtjopeojnlibagaaGreatDoor
namespace Go.Proofs.YtjopeojnlibagaaGreatDoor
open Go.RowKit
set_option maxRecDepth 100000

theorem wrap64_in (a : Int) : In64 (wrap64 a) := by unfold In64 wrap64; omega
theorem Kf.refl (f : Idn → Option Int) : Kf f f := fun _ => rfl
theorem Kf.trans {f g h : Idn → Option Int} (a : Kf f g) (b : Kf g h) : Kf f h := fun i => (b i).trans (a i)
theorem Kf.put {f g : Idn → Option Int} (a : Kf f g) {i : Idn} {z : Int} (h : (f i).isSome = true) : Kf f (putF g i z) := fun j => by
  unfold putF
  by_cases e : j = i
  · rw [if_pos e, e, h]; rfl
  · rw [if_neg e]; exact a j

theorem wrap_pos {a b : Int} (h1 : a < b) (h2 : b - a ≤ 9223372036854775807) : 0 < IntKind.i64.wrap (b - a) := by rw [IntWalk.i64_left, wrapIs (by omega) (by omega)]; omega
/-- A rank. -/
def EvV (v : Value) : Prop := ∃ z, v = .int .i64 z ∧ In64 z
set_option maxHeartbeats 1000000 in
theorem evenRank_any (low bits k c : Int) (w : World) (h0 : 0 ≤ bits) (h1 : bits ≤ 62) (hc : 0 < c) :
    Calls Tryz.prog 65 #[.int .i64 low, .int .i64 bits, .int .i64 k, .int .i64 c] w fun r w' => (∃ z, r = .returned (.int .i64 z) ∧ In64 z) ∧ w' = w := by
  have hn : c ≠ 0 := by omega
  have hS : Op.shift .shl .i64 1 .i64 bits = pure (.int .i64 (IntKind.i64.wrap (1 * 2 ^ bits.toNat))) := shift_shl_i64 _ _ _ h0 (by omega)
  generalize IntKind.i64.wrap (1 * 2 ^ bits.toNat) = S at hS
  clear h0 h1
  go_enter Tryz.func65, Tryz.ntmps65
  go_wp2
  go_ret
  exact ⟨⟨_, rfl, wrap64_in _⟩, rfl⟩

set_option maxHeartbeats 2000000 in
theorem widened_any {mb tb kb n : Nat} {R : Rows} {l : List El} {f : Idn → Option Int} {w : World} (h : MdAt mb tb kb n R l f w) (a b : Nat) (low high : Int) (hb : b ≤ l.length) (ha : a ≤ l.length) (hg : ∀ (j : Nat) (e : El), l[j]? = some e → e.id.In) (hn : l.length ≤ 1073741824) :
    Calls Tryz.prog 104 #[pv mb, .int .i64 (a : Int), .int .i64 (b : Int), .int .i64 low, .int .i64 high] w fun r w' => (∃ a' b' : Nat, r = .returned (.tuple #[.int .i64 (a' : Int), .int .i64 (b' : Int)]) ∧ a' ≤ a ∧ b ≤ b' ∧ b' ≤ l.length) ∧ Below w.heap.size w w' := by
  have HA : Hid (∀ x, Below w.heap.size w x → ∀ (j : Nat) (e : El), l[j]? = some e → _) := fun x hx j e he => rankAt_ok (h.later hx) j e he (hg j e he) hn
  have HL : Hid (∀ x, Below w.heap.size w x → _) := fun x hx => lenM_ok (h.later hx)
  clear h hg
  unfold pv at HA HL ⊢
  go_enter Tryz.func104, Tryz.ntmps104
  go_wp2
  go_loopw [1] (fun i wr => ∃ k : Nat, i = .int .i64 (k : Int) ∧ k ≤ a ∧ Below w.heap.size w wr) (fun i _ => (intOf i).toNat)
  case atStart => exact ⟨a, rfl, Nat.le_refl _, Below.refl _ _⟩
  case round =>
    obtain ⟨k, rfl, hk, hB⟩ := hrel
    by_cases h0 : k = 0
    · subst h0
      rw [show ((0 : Nat) : Int) = 0 from rfl]
      go_wp2
      go_loopw [2] (fun i wr2 => ∃ k2 : Nat, i = .int .i64 (k2 : Int) ∧ b ≤ k2 ∧ k2 ≤ l.length ∧ Below w.heap.size w wr2) (fun i _ => l.length - (intOf i).toNat)
      case atStart => exact ⟨b, rfl, Nat.le_refl _, hb, hB⟩
      case round =>
        obtain ⟨k2, rfl, hk2, hk3, hB2⟩ := hrel
        by_cases g0 : k2 < l.length
        · obtain ⟨e2, he2⟩ : ∃ e, l[k2]? = some e := ⟨_, List.getElem?_eq_getElem g0⟩
          have g1 : (k2 : Int) < (l.length : Int) := by omega
          by_cases g2 : rkO f e2 < high
          · go_wp2_with (first | (go_at_call 47; refine (HL.out _ hB2).mono ?_; rintro r w5 ⟨rfl, hw⟩; obtain rfl := hw.symm) | (go_at_call 97; refine (HA.out _ hB2 k2 e2 he2).mono ?_; rintro r w6 ⟨rfl, hb6⟩))
            go_roundw
            case rel => exact ⟨k2 + 1, by go_num, by omega, by omega, bgo hB2 hb6⟩
            case measure => simp [intOf]; omega
          · go_wp2_with (first | (go_at_call 47; refine (HL.out _ hB2).mono ?_; rintro r w5 ⟨rfl, hw⟩; obtain rfl := hw.symm) | (go_at_call 97; refine (HA.out _ hB2 k2 e2 he2).mono ?_; rintro r w6 ⟨rfl, hb6⟩))
            go_ret2
            exact ⟨⟨0, k2, rfl, Nat.zero_le _, hk2, hk3⟩, bgo hB2 hb6⟩
        · have g1 : ¬ (k2 : Int) < (l.length : Int) := by omega
          go_wp2_with (go_at_call 47; refine (HL.out _ hB2).mono ?_; rintro r w5 ⟨rfl, hw⟩; obtain rfl := hw.symm)
          go_ret2
          exact ⟨⟨0, k2, rfl, Nat.zero_le _, hk2, hk3⟩, hB2⟩
    · obtain ⟨e, he⟩ : ∃ e, l[k - 1]? = some e := ⟨_, List.getElem?_eq_getElem (by omega)⟩
      have q0 : (0 : Int) < (k : Int) := by omega
      have q1 : 0 < k := by omega
      have ei : (k : Int) - 1 = ((k - 1 : Nat) : Int) := by omega
      by_cases g : low ≤ rkO f e
      · go_wp2_with (go_at_call 97; (try rw [ei]); refine (HA.out _ hB (k - 1) e he).mono ?_; rintro r w1 ⟨rfl, hb1⟩)
        go_roundw
        case rel => exact ⟨k - 1, by first | rfl | (rw [ei]) | go_num, by omega, bgo hB hb1⟩
        case measure => simp [intOf]; omega
      · go_wp2_with (go_at_call 97; (try rw [ei]); refine (HA.out _ hB (k - 1) e he).mono ?_; rintro r w1 ⟨rfl, hb1⟩)
        go_loopw [2] (fun i wr2 => ∃ k2 : Nat, i = .int .i64 (k2 : Int) ∧ b ≤ k2 ∧ k2 ≤ l.length ∧ Below w.heap.size w wr2) (fun i _ => l.length - (intOf i).toNat)
        case atStart => exact ⟨b, rfl, Nat.le_refl _, hb, bgo hB hb1⟩
        case round =>
          obtain ⟨k2, rfl, hk2, hk3, hB2⟩ := hrel
          by_cases g0 : k2 < l.length
          · obtain ⟨e2, he2⟩ : ∃ e, l[k2]? = some e := ⟨_, List.getElem?_eq_getElem g0⟩
            have g1 : (k2 : Int) < (l.length : Int) := by omega
            by_cases g2 : rkO f e2 < high
            · go_wp2_with (first | (go_at_call 47; refine (HL.out _ hB2).mono ?_; rintro r w5 ⟨rfl, hw⟩; obtain rfl := hw.symm) | (go_at_call 97; refine (HA.out _ hB2 k2 e2 he2).mono ?_; rintro r w6 ⟨rfl, hb6⟩))
              go_roundw
              case rel => exact ⟨k2 + 1, by go_num, by omega, by omega, bgo hB2 hb6⟩
              case measure => simp [intOf]; omega
            · go_wp2_with (first | (go_at_call 47; refine (HL.out _ hB2).mono ?_; rintro r w5 ⟨rfl, hw⟩; obtain rfl := hw.symm) | (go_at_call 97; refine (HA.out _ hB2 k2 e2 he2).mono ?_; rintro r w6 ⟨rfl, hb6⟩))
              go_ret2
              exact ⟨⟨k, k2, rfl, hk, hk2, hk3⟩, bgo hB2 hb6⟩
          · have g1 : ¬ (k2 : Int) < (l.length : Int) := by omega
            go_wp2_with (go_at_call 47; refine (HL.out _ hB2).mono ?_; rintro r w5 ⟨rfl, hw⟩; obtain rfl := hw.symm)
            go_ret2
            exact ⟨⟨k, k2, rfl, hk, hk2, hk3⟩, hB2⟩

set_option maxHeartbeats 4000000 in
theorem layOut_any {mb tb kb n : Nat} {R : Rows} {l : List El} {f : Idn → Option Int} {w : World} (h : MdAt mb tb kb n R l f w) (a b : Nat) (low bits : Int) (hab : a ≤ b) (hb : b ≤ l.length) (h0 : 0 ≤ bits) (h1 : bits ≤ 62) (hg : ∀ (j : Nat) (e : El), l[j]? = some e → e.id.In ∧ (f e.id).isSome = true) (hn : l.length ≤ 1073741824) (hnn : n + (b - a) ≤ 1000000000000) :
    Calls Tryz.prog 105 #[pv mb, .int .i64 (a : Int), .int .i64 (b : Int), .int .i64 low, .int .i64 bits] w fun r w' => (∃ v, r = .returned v) ∧ ∃ f' n', n' ≤ n + (b - a) ∧ MpAt kb n' f' w' ∧ Kf f f' ∧ Kp kb w w' := by
  obtain ⟨ne1, ne2, ne3⟩ := h.ne
  have HO := hid_of' h.map.obj
  have hrow := h.row
  have htree := h.tree
  have hmap := h.map
  have hkl := hmap.lt
  clear h
  unfold pv
  go_enter Tryz.func105, Tryz.ntmps105
  go_wp2
  go_loopw [10] (fun i wr => ∃ k : Nat, i = .int .i64 (k : Int) ∧ a ≤ k ∧ k ≤ b ∧ ∃ f' n', n' ≤ n + (k - a) ∧ MpAt kb n' f' wr ∧ Kf f f' ∧ Kp kb w wr) (fun i _ => b - (intOf i).toNat)
  case atStart => exact ⟨a, rfl, Nat.le_refl _, hab, f, n, by omega, hmap, Kf.refl _, Kp.of (Below.refl _ _)⟩
  case round =>
    obtain ⟨k, rfl, hk1, hk2, f9, n9, hn9, hM9, hK9, hkp⟩ := hrel
    by_cases hlt : k < b
    · have hki : (k : Int) < (b : Int) := by omega
      obtain ⟨e, he⟩ : ∃ e, l[k]? = some e := ⟨_, List.getElem?_eq_getElem (by omega)⟩
      have hgi := (hg k e he).1
      have hgf := (hg k e he).2
      have hT := htree.kc (KC.of_kp hkp HO.out)
      have hr := hrow.kp hkp ne2
      have HA := hid_of' (at_L hT k e hn he)
      have c0 : wr.cell? ⟨mb, 0, none⟩ = some (.pointer (some ⟨tb, 0, none⟩)) := hr.cell 0
      have hsz := hkp.size
      unfold pv at HA
      go_upto_region 4 with (first | (go_at_call 60; refine HA.out.mono ?_; rintro r w1 ⟨rfl, hb1⟩) | (refine wpL_storeE rfl _ _ rfl rfl rfl (row_new w1 _ _) ?_))
      have hr5 := (row_new w1 #[.int .i64 0, .int .i64 0, .int .i64 0, .int .i32 0, .int .i64 0] 66).put (ev e)
      have hB : Below wr.heap.size wr ((w1.alloc (.cells #[.int .i64 0, .int .i64 0, .int .i64 0, .int .i32 0, .int .i64 0] 66)).setRow w1.heap.size (ev e)) := bgo hb1 (below_row (below_one w1 _) (Nat.le_refl _) _)
      have hg1 := hb1.size
      generalize (w1.alloc (.cells #[.int .i64 0, .int .i64 0, .int .i64 0, .int .i32 0, .int .i64 0] 66)).setRow w1.heap.size (ev e) = W5 at hr5 hB ⊢
      generalize w1.heap.size = g at hr5 hg1 ⊢
      clear hb1 HA c0 w1
      have hI5 : CsIn g 0 (idc e.id.a e.id.b e.id.c) W5 := id_at hr5.in
      have hM5 := hM9.later hB
      have hm5 := hr.later hB
      have HE := hid_of' (fun (x : World) => evenRank_any low bits (IntKind.i64.wrap ((k : Int) - (a : Int))) (IntKind.i64.wrap ((b : Int) - (a : Int))) x h0 h1 (wrap_pos (by omega) (by omega)))
      refine wp_region_tail 15 (by kernel_rfl) (fun _ => none) (by kernel_rfl) (by kernel_rfl) (by decide) (fun i v x => match i with
        | 0 => v = .pointer (some ⟨mb, 0, none⟩)
        | 1 => v = .pointer (some ⟨mb, 0, none⟩)
        | 2 => v = .pointer (some ⟨mb, 1, none⟩)
        | 3 => v = .map (some kb)
        | 4 => v = .pointer (some ⟨g, 0, none⟩)
        | 5 => v = .agg (idc e.id.a e.id.b e.id.c)
        | 6 => v = .int .i64 low
        | 7 => v = .int .i64 bits
        | 8 => v = .int .i64 (k : Int)
        | 9 => v = .int .i64 (a : Int)
        | 10 => v = .int .i64 (IntKind.i64.wrap ((k : Int) - (a : Int)))
        | 11 => v = .int .i64 (b : Int)
        | 12 => v = .int .i64 (a : Int)
        | 13 => v = .int .i64 (IntKind.i64.wrap ((b : Int) - (a : Int)))
        | 14 => EvV v
        | _ => True) (fun _ => false) (fun _ _ _ _ h => by cases h) ?_ ?_ ?_
      · intro i v x x' hR hb
        match i, hR with
        | 0, h => exact h
        | 1, h => exact h
        | 2, h => exact h
        | 3, h => exact h
        | 4, h => exact h
        | 5, h => exact h
        | 6, h => exact h
        | 7, h => exact h
        | 8, h => exact h
        | 9, h => exact h
        | 10, h => exact h
        | 11, h => exact h
        | 12, h => exact h
        | 13, h => exact h
        | 14, h => exact h
        | m + 15, h => exact h
      · intro i o hi ho q x vals hX hdep hoth
        have t0 : q.tmps[0]? = some (.pointer (some ⟨mb, 0, none⟩)) := by rw [hoth 0 (by kernel_rfl)]; rfl
        have t1 : q.tmps[1]? = some (.int .i64 (a : Int)) := by rw [hoth 1 (by kernel_rfl)]; rfl
        have t2 : q.tmps[2]? = some (.int .i64 (b : Int)) := by rw [hoth 2 (by kernel_rfl)]; rfl
        have t3 : q.tmps[3]? = some (.int .i64 low) := by rw [hoth 3 (by kernel_rfl)]; rfl
        have t4 : q.tmps[4]? = some (.int .i64 bits) := by rw [hoth 4 (by kernel_rfl)]; rfl
        have t10 : q.tmps[10]? = some (.int .i64 (k : Int)) := by rw [hoth 10 (by kernel_rfl)]; rfl
        have t11 : q.tmps[11]? = some (.pointer (some ⟨g, 0, none⟩)) := by rw [hoth 11 (by kernel_rfl)]; rfl
        match i, hi, ho with
        | 0, _, ho =>
          simp only [List.getElem?_cons_zero, Option.some.injEq] at ho
          subst ho
          unfold Oper.wp
          simp [execOp, go_sem, t0]
          exact came _ rfl (Below.refl _ _) rfl (fun h => absurd h (by decide))
        | 1, _, ho =>
          simp only [List.getElem?_cons_succ, List.getElem?_cons_zero, Option.some.injEq] at ho
          subst ho
          obtain ⟨u0, e0⟩ := hdep ⟨0, .data⟩ (by simp) rfl _ 28 rfl rfl
          rw [show vals 0 = .pointer (some ⟨mb, 0, none⟩) from e0] at u0
          unfold Oper.wp
          simp [execOp, go_sem, u0]
          exact came _ rfl (Below.refl _ _) rfl (fun h => absurd h (by decide))
        | 2, _, ho =>
          simp only [List.getElem?_cons_succ, List.getElem?_cons_zero, Option.some.injEq] at ho
          subst ho
          obtain ⟨u1, e1⟩ := hdep ⟨1, .data⟩ (by simp) rfl _ 29 rfl rfl
          rw [show vals 1 = .pointer (some ⟨mb, 0, none⟩) from e1] at u1
          unfold Oper.wp
          simp [execOp, go_sem, u1]
          exact came _ rfl (Below.refl _ _) rfl (fun h => absurd h (by decide))
        | 3, _, ho =>
          simp only [List.getElem?_cons_succ, List.getElem?_cons_zero, Option.some.injEq] at ho
          subst ho
          obtain ⟨u2, e2⟩ := hdep ⟨2, .data⟩ (by simp) rfl _ 30 rfl rfl
          rw [show vals 2 = .pointer (some ⟨mb, 1, none⟩) from e2] at u2
          have cc : x.cell? ⟨mb, 1, none⟩ = some (.map (some kb)) := (hm5.later hX).cell 1
          unfold Oper.wp
          simp [execOp, go_sem, u2, cc]
          exact came _ rfl (Below.refl _ _) rfl (fun h => absurd h (by decide))
        | 4, _, ho =>
          simp only [List.getElem?_cons_succ, List.getElem?_cons_zero, Option.some.injEq] at ho
          subst ho
          unfold Oper.wp
          simp [execOp, go_sem, t11]
          exact came _ rfl (Below.refl _ _) rfl (fun h => absurd h (by decide))
        | 5, _, ho =>
          simp only [List.getElem?_cons_succ, List.getElem?_cons_zero, Option.some.injEq] at ho
          subst ho
          obtain ⟨u4, e4⟩ := hdep ⟨4, .data⟩ (by simp) rfl _ 32 rfl rfl
          rw [show vals 4 = .pointer (some ⟨g, 0, none⟩) from e4] at u4
          exact opw_loadI _ rfl (by simp [Act.eval, u4]) (hI5.later hX) (came _ rfl (Below.refl _ _) rfl (fun h => absurd h (by decide)))
        | 6, _, ho =>
          simp only [List.getElem?_cons_succ, List.getElem?_cons_zero, Option.some.injEq] at ho
          subst ho
          unfold Oper.wp
          simp [execOp, go_sem, t3]
          exact came _ rfl (Below.refl _ _) rfl (fun h => absurd h (by decide))
        | 7, _, ho =>
          simp only [List.getElem?_cons_succ, List.getElem?_cons_zero, Option.some.injEq] at ho
          subst ho
          unfold Oper.wp
          simp [execOp, go_sem, t4]
          exact came _ rfl (Below.refl _ _) rfl (fun h => absurd h (by decide))
        | 8, _, ho =>
          simp only [List.getElem?_cons_succ, List.getElem?_cons_zero, Option.some.injEq] at ho
          subst ho
          unfold Oper.wp
          simp [execOp, go_sem, t10]
          exact came _ rfl (Below.refl _ _) rfl (fun h => absurd h (by decide))
        | 9, _, ho =>
          simp only [List.getElem?_cons_succ, List.getElem?_cons_zero, Option.some.injEq] at ho
          subst ho
          unfold Oper.wp
          simp [execOp, go_sem, t1]
          exact came _ rfl (Below.refl _ _) rfl (fun h => absurd h (by decide))
        | 10, _, ho =>
          simp only [List.getElem?_cons_succ, List.getElem?_cons_zero, Option.some.injEq] at ho
          subst ho
          obtain ⟨u8, e8⟩ := hdep ⟨8, .data⟩ (by simp) rfl _ 36 rfl rfl
          rw [show vals 8 = .int .i64 (k : Int) from e8] at u8
          obtain ⟨u9, e9⟩ := hdep ⟨9, .data⟩ (by simp) rfl _ 37 rfl rfl
          rw [show vals 9 = .int .i64 (a : Int) from e9] at u9
          unfold Oper.wp
          simp [execOp, go_sem, u8, u9]
          exact came _ rfl (Below.refl _ _) rfl (fun h => absurd h (by decide))
        | 11, _, ho =>
          simp only [List.getElem?_cons_succ, List.getElem?_cons_zero, Option.some.injEq] at ho
          subst ho
          unfold Oper.wp
          simp [execOp, go_sem, t2]
          exact came _ rfl (Below.refl _ _) rfl (fun h => absurd h (by decide))
        | 12, _, ho =>
          simp only [List.getElem?_cons_succ, List.getElem?_cons_zero, Option.some.injEq] at ho
          subst ho
          unfold Oper.wp
          simp [execOp, go_sem, t1]
          exact came _ rfl (Below.refl _ _) rfl (fun h => absurd h (by decide))
        | 13, _, ho =>
          simp only [List.getElem?_cons_succ, List.getElem?_cons_zero, Option.some.injEq] at ho
          subst ho
          obtain ⟨u11, e11⟩ := hdep ⟨11, .data⟩ (by simp) rfl _ 39 rfl rfl
          rw [show vals 11 = .int .i64 (b : Int) from e11] at u11
          obtain ⟨u12, e12⟩ := hdep ⟨12, .data⟩ (by simp) rfl _ 40 rfl rfl
          rw [show vals 12 = .int .i64 (a : Int) from e12] at u12
          unfold Oper.wp
          simp [execOp, go_sem, u11, u12]
          exact came _ rfl (Below.refl _ _) rfl (fun h => absurd h (by decide))
        | 14, _, ho =>
          simp only [List.getElem?_cons_succ, List.getElem?_cons_zero, Option.some.injEq] at ho
          subst ho
          obtain ⟨u6, e6⟩ := hdep ⟨6, .data⟩ (by simp) rfl _ 34 rfl rfl
          rw [show vals 6 = .int .i64 low from e6] at u6
          obtain ⟨u7, e7⟩ := hdep ⟨7, .data⟩ (by simp) rfl _ 35 rfl rfl
          rw [show vals 7 = .int .i64 bits from e7] at u7
          obtain ⟨u10, e10⟩ := hdep ⟨10, .data⟩ (by simp) rfl _ 38 rfl rfl
          rw [show vals 10 = .int .i64 (IntKind.i64.wrap ((k : Int) - (a : Int))) from e10] at u10
          obtain ⟨u13, e13⟩ := hdep ⟨13, .data⟩ (by simp) rfl _ 41 rfl rfl
          rw [show vals 13 = .int .i64 (IntKind.i64.wrap ((b : Int) - (a : Int))) from e13] at u13
          unfold Oper.wp
          simp [go_sem, u6, u7, u10, u13]
          refine (HE.out x).mono ?_
          rintro r x1 ⟨⟨z, rfl, hz⟩, hw1⟩; have hb1 : Below x.heap.size x x1 := by rw [hw1]; exact Below.refl _ _
          exact came _ rfl hb1 ⟨z, rfl, hz⟩ (fun h => absurd h (by decide))
        | m + 15, hi, _ => exact absurd hi (by omega)
      · intro vals x' hX hR _
        have r3 : vals 3 = .map (some kb) := hR 3 (by decide)
        have r5 : vals 5 = .agg (idc e.id.a e.id.b e.id.c) := hR 5 (by decide)
        obtain ⟨z, r14, hz⟩ : EvV (vals 14) := hR 14 (by decide)
        have hMx := hM5.later hX
        simp only [List.take, List.drop, putAll, r3, r5, r14]
        clear r3 r5 r14 hR
        simp only [List.setIfInBounds_toArray, List.set_cons_succ, List.set_cons_zero]
        refine wpL_mapPut rfl _ _ _ rfl hMx hgi rfl rfl rfl hz (by omega) ?_
        intro w10 hM' hgr
        simp only [Act.put]
        go_wp2
        go_roundw
        case rel => exact ⟨k + 1, by go_num, by omega, by omega, _, _, by omega, hM', hK9.put hgf, (hkp.trans (Kp.of (bgo hB hX))).trans (Kp.of_grown hgr)⟩
        case measure => simp [intOf]; omega
    · obtain rfl : k = b := by omega
      go_wp2
      go_end0
      exact ⟨⟨_, rfl⟩, f9, n9, hn9, hM9, hK9, hkp⟩

set_option maxHeartbeats 4000000 in
theorem respace_any {mb tb kb n : Nat} {R : Rows} {l : List El} {f : Idn → Option Int} {w : World} (h : MdAt mb tb kb n R l f w) (i : Nat) (hi : i < l.length) (hg : ∀ (j : Nat) (e : El), l[j]? = some e → e.id.In ∧ (f e.id).isSome = true) (hn : l.length ≤ 1073741824) (hnn : n + l.length ≤ 1000000000000) :
    Calls Tryz.prog 84 #[pv mb, .int .i64 (i : Int)] w fun r w' => (∃ v, r = .returned v) ∧ ∃ f' n', n' ≤ n + l.length ∧ MpAt kb n' f' w' ∧ Kf f f' ∧ Kp kb w w' := by
  obtain ⟨e, he⟩ : ∃ e, l[i]? = some e := ⟨_, List.getElem?_eq_getElem hi⟩
  have HA := hid_of' (rankAt_ok h i e he (hg i e he).1 hn)
  have HW : Hid (∀ x, Below w.heap.size w x → ∀ (a b : Nat) (low high : Int), b ≤ l.length → a ≤ l.length → _) := fun x hx a b low high hb ha => widened_any (h.later hx) a b low high hb ha (fun j e he => (hg j e he).1) hn
  have HO : Hid (∀ x, Below w.heap.size w x → ∀ (a b : Nat) (low bits : Int), a ≤ b → b ≤ l.length → 0 ≤ bits → bits ≤ 62 → _) := fun x hx a b low bits h1 h2 h3 h4 => layOut_any (h.later hx) a b low bits h1 h2 h3 h4 hg hn (by omega)
  have HM := hid_of' h.map
  clear h
  unfold pv at HA HW HO ⊢
  generalize rkO f e = rk at HA
  go_enter Tryz.func84, Tryz.ntmps84
  go_wp2_with (go_at_call 97; refine HA.out.mono ?_; rintro r w1 ⟨rfl, hb1⟩)
  go_loopw [5, 6, 7] (fun x y z wr => ∃ a b c : Nat, x = .int .i64 (a : Int) ∧ y = .int .i64 (b : Int) ∧ z = .int .i64 (c : Int) ∧ a ≤ i ∧ i < b ∧ b ≤ l.length ∧ 4 ≤ c ∧ c ≤ 63 ∧ Below w.heap.size w wr) (fun _ _ z _ => 63 - (intOf z).toNat)
  case atStart => exact ⟨i, i + 1, 4, rfl, by go_num, rfl, Nat.le_refl _, by omega, by omega, by omega, by omega, hb1⟩
  case round =>
    obtain ⟨a, b, c, rfl, rfl, rfl, h1, h2, h3, h4, h5, hB⟩ := hrel
    by_cases hc : c ≤ 62
    · have hci : (c : Int) ≤ 62 := by omega
      have hc0 : (0 : Int) ≤ (c : Int) := by omega
      obtain ⟨A1, s1⟩ : ∃ A1, Op.shift .shr .i64 rk .i64 (c : Int) = pure (.int .i64 A1) := ⟨_, shift_shr_i64 _ _ _ hc0 (by omega)⟩
      obtain ⟨A2, s2⟩ : ∃ A2, Op.shift .shl .i64 A1 .i64 (c : Int) = pure (.int .i64 A2) := ⟨_, shift_shl_i64 _ _ _ hc0 (by omega)⟩
      obtain ⟨A3, s3⟩ : ∃ A3, Op.shift .shl .i64 1 .i64 (c : Int) = pure (.int .i64 A3) := ⟨_, shift_shl_i64 _ _ _ hc0 (by omega)⟩
      go_upto_region 7 with (go_at_call 104; refine (HW.out _ hB a b _ _ h3 (by omega)).mono ?_; rintro r w2 ⟨⟨a', b', rfl, k1, k2, k3⟩, hb2⟩)
      obtain ⟨A4, s4⟩ : ∃ A4, Op.shift .shl .i64 1 .i64 ((c : Int) / 2) = pure (.int .i64 A4) := ⟨_, shift_shl_i64 _ _ _ (by omega) (by omega)⟩
      clear s1 s2 s3
      have HB2 := hid_of' (bgo hB hb2)
      go_wp2_with (go_at_call 105; refine (HO.out _ HB2.out a' b' _ _ (by omega) k3 hc0 hci).mono ?_; rintro r w3 ⟨⟨v, rfl⟩, f9, n9, q1, q2, q3, q4⟩)
      · exact bodyPost_ret (results_none rfl _ _ _) rfl ⟨⟨_, rfl⟩, f9, n9, by omega, q2, q3, (Kp.of HB2.out).trans q4⟩
      · exact ⟨⟨a', b', c + 1, rfl, rfl, by go_num, by omega, by omega, k3, by omega, by omega, HB2.out⟩, by simp [intOf]; omega⟩
    · obtain rfl : c = 63 := by omega
      go_wp2
      go_end0
      exact ⟨⟨_, rfl⟩, f, n, by omega, HM.out.later hB, Kf.refl _, Kp.of hB⟩

end Go.Proofs.YtjopeojnlibagaaGreatDoor
namespace Go.Proofs.YtjopeojnlibagaaGreatDoor
open Go.RowKit
set_option maxRecDepth 100000

/-- The map has turned, and nothing else of the model. -/
theorem MdAt.re {mb tb kb n n' : Nat} {R : Rows} {l : List El} {f f' : Idn → Option Int} {w w' : World} (h : MdAt mb tb kb n R l f w) (k : Kp kb w w') (hM : MpAt kb n' f' w') : MdAt mb tb kb n' R l f' w' :=
  ⟨h.row.kp k h.ne.2.1, h.tree.kc (KC.of_kp k h.map.obj), hM, h.no, h.nom, Nat.le_trans h.hi k.size⟩
set_option maxHeartbeats 400000 in
theorem rankFor_any {mb tb kb n : Nat} {R : Rows} {l : List El} {f : Idn → Option Int} {w : World} (h : MdAt mb tb kb n R l f w) (ip : Nat) (hi : ip ≤ l.length) (hg : ∀ (j : Nat) (e : El), l[j]? = some e → e.id.In ∧ (f e.id).isSome = true) (hn : l.length ≤ 1073741824) (hnn : n + l.length ≤ 1000000000000) :
    Calls Tryz.prog 56 #[pv mb, .int .i64 (ip : Int)] w (RkOut kb f (n + l.length) w) := by
  have HR := hid_of' (ranksBeside_ok h ip hi (fun j e he => (hg j e he).1) hn)
  have HM := hid_of' h.map
  by_cases h0 : l.length = 0
  · have e1 : rkA f l ip = -1 := by rw [show ip = 0 by omega]; rfl
    have e2 : rkB f l ip = 4611686018427387904 := rkB_e (by omega)
    rw [e1, e2] at HR
    unfold pv at HR ⊢
    clear h hg
    go_enter Tryz.func56, Tryz.ntmps56
    go_wp2_with (go_at_call 83; refine HR.out.mono ?_; rintro r w1 ⟨rfl, hb1⟩)
    go_ret
    exact ⟨_, f, n, rfl, by unfold In64; omega, by omega, HM.out.later hb1, Kf.refl _, Kp.of hb1⟩
  · generalize rkA f l ip = x at HR
    generalize rkB f l ip = y at HR
    by_cases hd : wrap64 (y - x) < 2
    · have HS : Hid (∀ x, Below w.heap.size w x → ∀ j : Nat, j < l.length → _) := fun x hx j hj => respace_any (h.later hx) j hj hg hn hnn
      have HR2 : Hid (∀ x f' n', Kp kb w x → MpAt kb n' f' x → _) := fun x f' n' hk hM => ranksBeside_ok (MdAt.re h hk hM) ip hi (fun j e he => (hg j e he).1) hn
      unfold pv at HR HS HR2 ⊢
      clear h hg
      have hmx : Hid (max ((ip : Int) - 1) 0 = ((ip - 1 : Nat) : Int)) := by show _ = _; omega
      go_enter Tryz.func56, Tryz.ntmps56
      go_wp2_with (first | (go_at_call 83; refine HR.out.mono ?_; clear HR; rintro r w1 ⟨rfl, hb1⟩) | (go_at_call 84; rw [hmx.out]; with_reducible refine (HS.out _ hb1 (ip - 1) (by omega)).mono ?_; rintro r w2 ⟨⟨v, rfl⟩, f9, n9, q1, q2, q3, q4⟩; have q5 := (Kp.of hb1).trans q4) | (go_at_call 83; refine (HR2.out _ _ _ q5 q2).mono ?_; rintro r w3 ⟨rfl, hb3⟩))
      go_ret
      exact ⟨_, f9, n9, rfl, wrap64_in _, q1, q2.later hb3, q3, q5.trans (Kp.of hb3)⟩
    · unfold pv at HR ⊢
      clear h hg
      go_enter Tryz.func56, Tryz.ntmps56
      go_wp2_with (go_at_call 83; refine HR.out.mono ?_; rintro r w1 ⟨rfl, hb1⟩)
      go_ret
      exact ⟨_, f, n, rfl, wrap64_in _, by omega, HM.out.later hb1, Kf.refl _, Kp.of hb1⟩
end Go.Proofs.YtjopeojnlibagaaGreatDoor
namespace Go.Proofs.YtjopeojnlibagaaGreatDoor
open Go.RowKit
set_option maxRecDepth 100000

theorem set_is {l : List El} {i : Nat} (e : El) (h : i < l.length) : l.take i ++ ([e] ++ l.drop (i + 1)) = l.set i e := by
  rw [List.set_eq_take_append_cons_drop, if_pos h]
  rfl
set_option maxHeartbeats 4000000 in
theorem set_ok {R : Rows} {b ch : Nat} {lr : List El} {w : World} (h : TrL R b ch lr w) (ip : Nat) (e : El) (hip : ip < lr.length) (hn : lr.length + 1 ≤ 1073741824) (hno : R.no b) (_c2 : ch ≤ 64) :
    Calls Tryz.prog 62 #[pv b, .int .i64 (ip : Int), .agg (ev e)] w (InsOut R b ch (lr.set ip e) w) := by
  have HL := hid_of' (fun x hx => len_L (h.later (w' := x) hx))
  rcases h.at with ⟨h1, h2⟩ | ⟨t, h1, h2, h3, h4, hok⟩
  · subst h1; simp at hip
  subst h4
  have hfit := Nd.fits_one hip
  have HE := hid_of' (Nd.rp_els [e] hfit)
  obtain ⟨A, m, B, j', g, o_, cc', v1, v2, v3, v4⟩ := Nd.rp_lv t ip 1 [e] hfit
  have HK : Hid (LOk ch (t.rp ip 1 [e])) := by
    show LOk _ _
    rw [v2]
    rw [v1] at hok
    have hm : m.length ≤ ch := (LOk.app.1 hok).2.1.1
    refine hok.rp ?_ ?_
    · simp only [List.length_append, List.length_take, List.length_drop, List.length_singleton]; omega
    · simp only [List.length_append, List.length_take, List.length_drop, List.length_singleton]; omega
  have hB0 := below_one w (.cells (ev e) 66)
  have hr0 := row_new w (ev e) 66
  have hb0 := h1.lt
  have HP := hid_of' (fun (x : World) (hx : Below w.heap.size w x) (g : Nat) (hs : SlE x (.slice (some ⟨g, 0, none⟩) 1 1) [e]) => replaced_any t ip 1 [e] (some ⟨g, 0, none⟩) 1 x (h2.later hx) h3 (by simp) hfit (by simpa using hn) hs)
  have e1 : ¬ (ip : Int) < 0 := by omega
  have e2 : ¬ (t.els.length : Int) ≤ (ip : Int) := by omega
  have e3 : ¬ t.els.length ≤ ip := by omega
  have HIX := hid_of' hip
  have hL1 := hid_of' (HL.out _ hB0)
  rw [show ((1 : Nat) : Int) = 1 from rfl] at HP
  clear HL h v1 v2 v3 v4 hfit hok hip
  unfold pv at h1 hL1 ⊢
  go_enter Tryz.func62, Tryz.ntmps62
  go_upto_region 3 with (go_at_call 76; refine hL1.out.mono ?_; clear hL1; rintro r w1 ⟨rfl, hw⟩; obtain rfl := hw.symm)
  have hr1 := h1.later hB0
  generalize w.alloc (.cells (ev e) 66) = W at hB0 hr0 hr1 ⊢
  refine wp_region_tail 11 (by kernel_rfl) (fun _ => none) (by kernel_rfl) (by kernel_rfl) (by decide) (fun i v x => match i with
    | 0 => v = .pointer (some ⟨b, 0, none⟩)
    | 1 => v = .pointer (some ⟨b, 0, none⟩)
    | 2 => v = .pointer (some ⟨b, 0, none⟩)
    | 3 => v = .pointer (some ⟨b, 1, none⟩)
    | 4 => v = .pointer (some ⟨t.blk, 0, none⟩)
    | 5 => v = .int .i64 (ip : Int)
    | 6 => v = .agg (ev e)
    | 7 => BsV e v x
    | 8 => LTree R (t.rp ip 1 [e]) v x
    | 9 => v = .pointer (some ⟨b, 0, none⟩)
    | 10 => v = .pointer (some ⟨b, 1, none⟩)
    | _ => True) (fun _ => false) (fun _ _ _ _ h => by cases h) ?_ ?_ ?_
  · intro i v x x' hR hb
    match i, hR with
    | 0, h => exact h
    | 1, h => exact h
    | 2, h => exact h
    | 3, h => exact h
    | 4, h => exact h
    | 5, h => exact h
    | 6, h => exact h
    | 7, h => exact h.later hb
    | 8, h => exact h.later hb
    | 9, h => exact h
    | 10, h => exact h
    | m + 11, h => exact h
  · intro i o hi ho q x vals hX hdep hoth
    have t0 : q.tmps[0]? = some (.pointer (some ⟨b, 0, none⟩)) := by rw [hoth 0 (by kernel_rfl)]; rfl
    have t1 : q.tmps[1]? = some (.int .i64 (ip : Int)) := by rw [hoth 1 (by kernel_rfl)]; rfl
    have t5 : q.tmps[5]? = some (.pointer (some ⟨w.heap.size, 0, none⟩)) := by rw [hoth 5 (by kernel_rfl)]; rfl
    match i, hi, ho with
    | 0, _, ho =>
      simp only [List.getElem?_cons_zero, Option.some.injEq] at ho
      subst ho
      unfold Oper.wp
      simp [execOp, go_sem, t0]
      exact came _ rfl (Below.refl _ _) rfl (fun h => absurd h (by decide))
    | 1, _, ho =>
      simp only [List.getElem?_cons_succ, List.getElem?_cons_zero, Option.some.injEq] at ho
      subst ho
      unfold Oper.wp
      simp [execOp, go_sem, t0]
      exact came _ rfl (Below.refl _ _) rfl (fun h => absurd h (by decide))
    | 2, _, ho =>
      simp only [List.getElem?_cons_succ, List.getElem?_cons_zero, Option.some.injEq] at ho
      subst ho
      obtain ⟨u1, e1⟩ := hdep ⟨1, .data⟩ (by simp) rfl _ 18 rfl rfl
      rw [show vals 1 = .pointer (some ⟨b, 0, none⟩) from e1] at u1
      unfold Oper.wp
      simp [execOp, go_sem, u1]
      exact came _ rfl (Below.refl _ _) rfl (fun h => absurd h (by decide))
    | 3, _, ho =>
      simp only [List.getElem?_cons_succ, List.getElem?_cons_zero, Option.some.injEq] at ho
      subst ho
      obtain ⟨u2, e2⟩ := hdep ⟨2, .data⟩ (by simp) rfl _ 19 rfl rfl
      rw [show vals 2 = .pointer (some ⟨b, 0, none⟩) from e2] at u2
      unfold Oper.wp
      simp [execOp, go_sem, u2]
      exact came _ rfl (Below.refl _ _) rfl (fun h => absurd h (by decide))
    | 4, _, ho =>
      simp only [List.getElem?_cons_succ, List.getElem?_cons_zero, Option.some.injEq] at ho
      subst ho
      obtain ⟨u3, e3⟩ := hdep ⟨3, .data⟩ (by simp) rfl _ 20 rfl rfl
      rw [show vals 3 = .pointer (some ⟨b, 1, none⟩) from e3] at u3
      have cc : x.cell? ⟨b, 1, none⟩ = some (.pointer (some ⟨t.blk, 0, none⟩)) := (hr1.later hX).cell 1
      unfold Oper.wp
      simp [execOp, go_sem, u3, cc]
      exact came _ rfl (Below.refl _ _) rfl (fun h => absurd h (by decide))
    | 5, _, ho =>
      simp only [List.getElem?_cons_succ, List.getElem?_cons_zero, Option.some.injEq] at ho
      subst ho
      unfold Oper.wp
      simp [execOp, go_sem, t1]
      exact came _ rfl (Below.refl _ _) rfl (fun h => absurd h (by decide))
    | 6, _, ho =>
      simp only [List.getElem?_cons_succ, List.getElem?_cons_zero, Option.some.injEq] at ho
      subst ho
      exact opw_loadE _ rfl (by simp [Act.eval, t5]) (hr0.in.later hX) (came _ rfl (Below.refl _ _) rfl (fun h => absurd h (by decide)))
    | 7, _, ho =>
      simp only [List.getElem?_cons_succ, List.getElem?_cons_zero, Option.some.injEq] at ho
      subst ho
      obtain ⟨u6, e6⟩ := hdep ⟨6, .data⟩ (by simp) rfl _ 23 rfl rfl
      rw [show vals 6 = .agg (ev e) from e6] at u6
      unfold ev at u6
      unfold Oper.wp
      simp [execOp, go_sem, u6]
      exact came _ rfl (below_one _ _) (bsv_new x e) (fun h => absurd h (by decide))
    | 8, _, ho =>
      simp only [List.getElem?_cons_succ, List.getElem?_cons_zero, Option.some.injEq] at ho
      subst ho
      obtain ⟨u4, e4⟩ := hdep ⟨4, .data⟩ (by simp) rfl _ 21 rfl rfl
      rw [show vals 4 = .pointer (some ⟨t.blk, 0, none⟩) from e4] at u4
      obtain ⟨u5, e5⟩ := hdep ⟨5, .data⟩ (by simp) rfl _ 22 rfl rfl
      rw [show vals 5 = .int .i64 (ip : Int) from e5] at u5
      obtain ⟨u7, e7⟩ := hdep ⟨7, .data⟩ (by simp) rfl _ 24 rfl rfl
      obtain ⟨q6, g6, q7⟩ : BsV e (vals 7) x := e7
      rw [q7] at q6
      rw [show vals (Edge.on ⟨7, .data⟩) = _ from q7] at u7
      unfold Oper.wp
      simp [go_sem, u4, u5, u7]
      refine (HP.out x (bgo hB0 hX) g6 q6).mono ?_
      rintro r x1 ⟨v, rfl, hl9, hb1⟩
      exact came _ rfl hb1 hl9 (fun h => absurd h (by decide))
    | 9, _, ho =>
      simp only [List.getElem?_cons_succ, List.getElem?_cons_zero, Option.some.injEq] at ho
      subst ho
      obtain ⟨u0, e0⟩ := hdep ⟨0, .data⟩ (by simp) rfl _ 17 rfl rfl
      rw [show vals 0 = .pointer (some ⟨b, 0, none⟩) from e0] at u0
      unfold Oper.wp
      simp [execOp, go_sem, u0]
      exact came _ rfl (Below.refl _ _) rfl (fun h => absurd h (by decide))
    | 10, _, ho =>
      simp only [List.getElem?_cons_succ, List.getElem?_cons_zero, Option.some.injEq] at ho
      subst ho
      obtain ⟨u9, e9⟩ := hdep ⟨9, .data⟩ (by simp) rfl _ 26 rfl rfl
      rw [show vals 9 = .pointer (some ⟨b, 0, none⟩) from e9] at u9
      unfold Oper.wp
      simp [execOp, go_sem, u9]
      exact came _ rfl (Below.refl _ _) rfl (fun h => absurd h (by decide))
    | m + 11, hi, _ => exact absurd hi (by omega)
  · intro vals x9 hX9 hR9 _
    have q10 : vals 10 = .pointer (some ⟨b, 1, none⟩) := hR9 10 (by decide)
    obtain ⟨tn, q8, p2, p3, p4⟩ : LTree R (t.rp ip 1 [e]) (vals 8) x9 := hR9 8 (by decide)
    simp only [List.take, List.drop, putAll, q8, q10]
    clear q8 q10 hR9
    simp only [List.setIfInBounds_toArray, List.set_cons_succ, List.set_cons_zero]
    have d1 := (hr1.later hX9).cell 1
    have df : x9.frozen? ⟨b, 1, none⟩ = false := Lib.frozen_of_heap (hr1.later hX9) 1
    go_wp2
    go_ret
    have q := TrL.of_put hno (hr1.later hX9) p2 p3 (by rw [p4]; exact HK.out)
    rw [Nd.els_flat, p4, HE.out, set_is e HIX.out] at q
    exact ⟨rfl, q, (Kp.of (bgo hB0 hX9)).trans (Kp.cell b 1 _)⟩
end Go.Proofs.YtjopeojnlibagaaGreatDoor
namespace Go.Proofs.YtjopeojnlibagaaGreatDoor
open Go.RowKit
set_option maxRecDepth 100000

theorem add_is {l : List El} {i : Nat} {e : El} {d : Int} (h : l[i]? = some e) : addE l i d = l.set i (e.add d) := by
  refine List.ext_getElem? fun j => ?_
  have hi := (List.getElem?_eq_some_iff.1 h).1
  rw [addE_at, List.getElem?_set]
  by_cases q : j = i
  · subst q
    rw [if_pos rfl, if_pos rfl, if_pos hi, h]
    rfl
  · rw [if_neg q, if_neg (fun e => q e.symm)]
set_option maxHeartbeats 4000000 in
theorem add_up {mb tb kb n : Nat} {R : Rows} {l : List El} {f : Idn → Option Int} {w : World} (h : MdAt mb tb kb n R l f w) (ip : Nat) (e0 : El) (he : l[ip]? = some e0) (h1 : -1000000000000 ≤ e0.hd) (h2 : e0.hd ≤ 1000000000000) (hn : l.length + 1 ≤ 1073741824) :
    Calls Tryz.prog 32 #[pv mb, .int .i64 (ip : Int), .int .i64 (1)] w fun r w' => r = .returned .nilIface ∧ MdAt mb tb kb n R (addE l ip (1)) f w' ∧ Kp tb w w' := by
  obtain ⟨ne1, ne2, ne3⟩ := h.ne
  have hfr : fairH (e0.hd + 1) = true := by unfold fairH; simp; omega
  have HA := hid_of' (at_L h.tree ip e0 (by omega) he)
  have HV := hid_of' (fun x => rightHides_any (e0.hd + 1) x)
  rw [hfr] at HV
  have HE := hid_of' (add_is (d := 1) he)
  have hip := (List.getElem?_eq_some_iff.1 he).1
  have c0 : w.cell? ⟨mb, 0, none⟩ = some (.pointer (some ⟨tb, 0, none⟩)) := h.row.cell 0
  clear he hfr
  unfold pv at HA ⊢
  go_enter Tryz.func32, Tryz.ntmps32
  go_upto_region 2 with (first | (go_at_call 60; refine HA.out.mono ?_; rintro r w1 ⟨rfl, hb1⟩) | (refine wpL_storeE rfl _ _ rfl rfl rfl (row_new w1 _ _) ?_))
  have hr5 := (row_new w1 #[.int .i64 0, .int .i64 0, .int .i64 0, .int .i32 0, .int .i64 0] 66).put (ev e0)
  have hB : Below w.heap.size w ((w1.alloc (.cells #[.int .i64 0, .int .i64 0, .int .i64 0, .int .i32 0, .int .i64 0] 66)).setRow w1.heap.size (ev e0)) := bgo hb1 (below_row (below_one w1 _) (Nat.le_refl _) _)
  have hg1 := hb1.size
  generalize (w1.alloc (.cells #[.int .i64 0, .int .i64 0, .int .i64 0, .int .i32 0, .int .i64 0] 66)).setRow w1.heap.size (ev e0) = W5 at hr5 hB ⊢
  generalize w1.heap.size = g at hr5 hg1 ⊢
  clear hb1 HA c0 w1
  have c4 : W5.cell? ⟨g, 4, none⟩ = some (.int .i64 e0.hd) := hr5.cell 4
  have f4 : W5.frozen? ⟨g, 4, none⟩ = false := Lib.frozen_of_heap hr5 4
  go_upto_region 7 with (go_at_call 61; refine (HV.out _).mono ?_; rintro r w2 ⟨rfl, hw⟩; obtain rfl := hw.symm)
  have hr6 : RowAt g (ev (e0.add (1))) 66 (W5.setCell ⟨g, 4, none⟩ (.int .i64 (e0.hd + 1))) := heap_setCell_at hr5 4 _
  have hB6 : Below w.heap.size w (W5.setCell ⟨g, 4, none⟩ (.int .i64 (e0.hd + 1))) := hB.setCell (p := ⟨g, 4, none⟩) hg1 _
  have h6 := h.later hB6
  generalize W5.setCell ⟨g, 4, none⟩ (.int .i64 (e0.hd + 1)) = W6 at hr6 hB6 h6 ⊢
  clear hr5 hB c4 f4 h
  refine wp_region_tail 6 (by kernel_rfl) (fun _ => none) (by kernel_rfl) (by kernel_rfl) (by decide) (fun i v x => match i with
    | 0 => v = .pointer (some ⟨mb, 0, none⟩)
    | 1 => v = .pointer (some ⟨mb, 0, none⟩)
    | 2 => v = .pointer (some ⟨mb, 0, none⟩)
    | 3 => v = .pointer (some ⟨tb, 0, none⟩)
    | 4 => v = .int .i64 (ip : Int)
    | 5 => v = .agg (ev (e0.add (1)))
    | _ => True) (fun _ => false) (fun _ _ _ _ h => by cases h) ?_ ?_ ?_
  · intro i v x x' hR hb
    match i, hR with
    | 0, h => exact h
    | 1, h => exact h
    | 2, h => exact h
    | 3, h => exact h
    | 4, h => exact h
    | 5, h => exact h
    | m + 6, h => exact h
  · intro i o hi ho q x vals hX hdep hoth
    have t0 : q.tmps[0]? = some (.pointer (some ⟨mb, 0, none⟩)) := by rw [hoth 0 (by kernel_rfl)]; rfl
    have t1 : q.tmps[1]? = some (.int .i64 (ip : Int)) := by rw [hoth 1 (by kernel_rfl)]; rfl
    have t7 : q.tmps[7]? = some (.pointer (some ⟨g, 0, none⟩)) := by rw [hoth 7 (by kernel_rfl)]; rfl
    match i, hi, ho with
    | 0, _, ho =>
      simp only [List.getElem?_cons_zero, Option.some.injEq] at ho
      subst ho
      unfold Oper.wp
      simp [execOp, go_sem, t0]
      exact came _ rfl (Below.refl _ _) rfl (fun h => absurd h (by decide))
    | 1, _, ho =>
      simp only [List.getElem?_cons_succ, List.getElem?_cons_zero, Option.some.injEq] at ho
      subst ho
      obtain ⟨u0, e0⟩ := hdep ⟨0, .data⟩ (by simp) rfl _ 45 rfl rfl
      rw [show vals 0 = .pointer (some ⟨mb, 0, none⟩) from e0] at u0
      unfold Oper.wp
      simp [execOp, go_sem, u0]
      exact came _ rfl (Below.refl _ _) rfl (fun h => absurd h (by decide))
    | 2, _, ho =>
      simp only [List.getElem?_cons_succ, List.getElem?_cons_zero, Option.some.injEq] at ho
      subst ho
      obtain ⟨u1, e1⟩ := hdep ⟨1, .data⟩ (by simp) rfl _ 46 rfl rfl
      rw [show vals 1 = .pointer (some ⟨mb, 0, none⟩) from e1] at u1
      unfold Oper.wp
      simp [execOp, go_sem, u1]
      exact came _ rfl (Below.refl _ _) rfl (fun h => absurd h (by decide))
    | 3, _, ho =>
      simp only [List.getElem?_cons_succ, List.getElem?_cons_zero, Option.some.injEq] at ho
      subst ho
      obtain ⟨u2, e2⟩ := hdep ⟨2, .data⟩ (by simp) rfl _ 47 rfl rfl
      rw [show vals 2 = .pointer (some ⟨mb, 0, none⟩) from e2] at u2
      have cc : x.cell? ⟨mb, 0, none⟩ = some (.pointer (some ⟨tb, 0, none⟩)) := (h6.row.later hX).cell 0
      unfold Oper.wp
      simp [execOp, go_sem, u2, cc]
      exact came _ rfl (Below.refl _ _) rfl (fun h => absurd h (by decide))
    | 4, _, ho =>
      simp only [List.getElem?_cons_succ, List.getElem?_cons_zero, Option.some.injEq] at ho
      subst ho
      unfold Oper.wp
      simp [execOp, go_sem, t1]
      exact came _ rfl (Below.refl _ _) rfl (fun h => absurd h (by decide))
    | 5, _, ho =>
      simp only [List.getElem?_cons_succ, List.getElem?_cons_zero, Option.some.injEq] at ho
      subst ho
      exact opw_loadE _ rfl (by simp [Act.eval, t7]) (hr6.in.later hX) (came _ rfl (Below.refl _ _) rfl (fun h => absurd h (by decide)))
    | m + 6, hi, _ => exact absurd hi (by omega)
  · intro vals x9 hX9 hR9 _
    have q3 : vals 3 = .pointer (some ⟨tb, 0, none⟩) := hR9 3 (by decide)
    have q4 : vals 4 = .int .i64 (ip : Int) := hR9 4 (by decide)
    have q5 : vals 5 = .agg (ev (e0.add (1))) := hR9 5 (by decide)
    have h9 := h6.later hX9
    have HN := hid_of' (set_ok h9.tree ip (e0.add (1)) hip hn h9.no (by decide))
    simp only [List.take, List.drop, putAll, q3, q4, q5]
    clear q3 q4 q5 hR9
    simp only [List.setIfInBounds_toArray, List.set_cons_succ, List.set_cons_zero]
    unfold pv at HN
    go_wp2_with (go_at_call 62; refine HN.out.mono ?_; rintro r w10 ⟨rfl, hT10, hk10⟩)
    go_ret
    rw [← HE.out] at hT10
    exact ⟨rfl, ⟨h9.row.kp hk10 ne1, hT10, h9.map.kp hk10 (fun q => ne3 q.symm), h9.no, h9.nom, Nat.le_trans h9.hi hk10.size⟩, (Kp.of (bgo hB6 hX9)).trans hk10⟩
set_option maxHeartbeats 4000000 in
theorem add_down {mb tb kb n : Nat} {R : Rows} {l : List El} {f : Idn → Option Int} {w : World} (h : MdAt mb tb kb n R l f w) (ip : Nat) (e0 : El) (he : l[ip]? = some e0) (h1 : -1000000000000 ≤ e0.hd) (h2 : e0.hd ≤ 1000000000000) (hn : l.length + 1 ≤ 1073741824) :
    Calls Tryz.prog 32 #[pv mb, .int .i64 (ip : Int), .int .i64 (-1)] w fun r w' => r = .returned .nilIface ∧ MdAt mb tb kb n R (addE l ip (-1)) f w' ∧ Kp tb w w' := by
  obtain ⟨ne1, ne2, ne3⟩ := h.ne
  have hfr : fairH (e0.hd + -1) = true := by unfold fairH; simp; omega
  have HA := hid_of' (at_L h.tree ip e0 (by omega) he)
  have HV := hid_of' (fun x => rightHides_any (e0.hd + -1) x)
  rw [hfr] at HV
  have HE := hid_of' (add_is (d := -1) he)
  have hip := (List.getElem?_eq_some_iff.1 he).1
  have c0 : w.cell? ⟨mb, 0, none⟩ = some (.pointer (some ⟨tb, 0, none⟩)) := h.row.cell 0
  clear he hfr
  unfold pv at HA ⊢
  go_enter Tryz.func32, Tryz.ntmps32
  go_upto_region 2 with (first | (go_at_call 60; refine HA.out.mono ?_; rintro r w1 ⟨rfl, hb1⟩) | (refine wpL_storeE rfl _ _ rfl rfl rfl (row_new w1 _ _) ?_))
  have hr5 := (row_new w1 #[.int .i64 0, .int .i64 0, .int .i64 0, .int .i32 0, .int .i64 0] 66).put (ev e0)
  have hB : Below w.heap.size w ((w1.alloc (.cells #[.int .i64 0, .int .i64 0, .int .i64 0, .int .i32 0, .int .i64 0] 66)).setRow w1.heap.size (ev e0)) := bgo hb1 (below_row (below_one w1 _) (Nat.le_refl _) _)
  have hg1 := hb1.size
  generalize (w1.alloc (.cells #[.int .i64 0, .int .i64 0, .int .i64 0, .int .i32 0, .int .i64 0] 66)).setRow w1.heap.size (ev e0) = W5 at hr5 hB ⊢
  generalize w1.heap.size = g at hr5 hg1 ⊢
  clear hb1 HA c0 w1
  have c4 : W5.cell? ⟨g, 4, none⟩ = some (.int .i64 e0.hd) := hr5.cell 4
  have f4 : W5.frozen? ⟨g, 4, none⟩ = false := Lib.frozen_of_heap hr5 4
  go_upto_region 7 with (go_at_call 61; refine (HV.out _).mono ?_; rintro r w2 ⟨rfl, hw⟩; obtain rfl := hw.symm)
  have hr6 : RowAt g (ev (e0.add (-1))) 66 (W5.setCell ⟨g, 4, none⟩ (.int .i64 (e0.hd + -1))) := heap_setCell_at hr5 4 _
  have hB6 : Below w.heap.size w (W5.setCell ⟨g, 4, none⟩ (.int .i64 (e0.hd + -1))) := hB.setCell (p := ⟨g, 4, none⟩) hg1 _
  have h6 := h.later hB6
  generalize W5.setCell ⟨g, 4, none⟩ (.int .i64 (e0.hd + -1)) = W6 at hr6 hB6 h6 ⊢
  clear hr5 hB c4 f4 h
  refine wp_region_tail 6 (by kernel_rfl) (fun _ => none) (by kernel_rfl) (by kernel_rfl) (by decide) (fun i v x => match i with
    | 0 => v = .pointer (some ⟨mb, 0, none⟩)
    | 1 => v = .pointer (some ⟨mb, 0, none⟩)
    | 2 => v = .pointer (some ⟨mb, 0, none⟩)
    | 3 => v = .pointer (some ⟨tb, 0, none⟩)
    | 4 => v = .int .i64 (ip : Int)
    | 5 => v = .agg (ev (e0.add (-1)))
    | _ => True) (fun _ => false) (fun _ _ _ _ h => by cases h) ?_ ?_ ?_
  · intro i v x x' hR hb
    match i, hR with
    | 0, h => exact h
    | 1, h => exact h
    | 2, h => exact h
    | 3, h => exact h
    | 4, h => exact h
    | 5, h => exact h
    | m + 6, h => exact h
  · intro i o hi ho q x vals hX hdep hoth
    have t0 : q.tmps[0]? = some (.pointer (some ⟨mb, 0, none⟩)) := by rw [hoth 0 (by kernel_rfl)]; rfl
    have t1 : q.tmps[1]? = some (.int .i64 (ip : Int)) := by rw [hoth 1 (by kernel_rfl)]; rfl
    have t7 : q.tmps[7]? = some (.pointer (some ⟨g, 0, none⟩)) := by rw [hoth 7 (by kernel_rfl)]; rfl
    match i, hi, ho with
    | 0, _, ho =>
      simp only [List.getElem?_cons_zero, Option.some.injEq] at ho
      subst ho
      unfold Oper.wp
      simp [execOp, go_sem, t0]
      exact came _ rfl (Below.refl _ _) rfl (fun h => absurd h (by decide))
    | 1, _, ho =>
      simp only [List.getElem?_cons_succ, List.getElem?_cons_zero, Option.some.injEq] at ho
      subst ho
      obtain ⟨u0, e0⟩ := hdep ⟨0, .data⟩ (by simp) rfl _ 45 rfl rfl
      rw [show vals 0 = .pointer (some ⟨mb, 0, none⟩) from e0] at u0
      unfold Oper.wp
      simp [execOp, go_sem, u0]
      exact came _ rfl (Below.refl _ _) rfl (fun h => absurd h (by decide))
    | 2, _, ho =>
      simp only [List.getElem?_cons_succ, List.getElem?_cons_zero, Option.some.injEq] at ho
      subst ho
      obtain ⟨u1, e1⟩ := hdep ⟨1, .data⟩ (by simp) rfl _ 46 rfl rfl
      rw [show vals 1 = .pointer (some ⟨mb, 0, none⟩) from e1] at u1
      unfold Oper.wp
      simp [execOp, go_sem, u1]
      exact came _ rfl (Below.refl _ _) rfl (fun h => absurd h (by decide))
    | 3, _, ho =>
      simp only [List.getElem?_cons_succ, List.getElem?_cons_zero, Option.some.injEq] at ho
      subst ho
      obtain ⟨u2, e2⟩ := hdep ⟨2, .data⟩ (by simp) rfl _ 47 rfl rfl
      rw [show vals 2 = .pointer (some ⟨mb, 0, none⟩) from e2] at u2
      have cc : x.cell? ⟨mb, 0, none⟩ = some (.pointer (some ⟨tb, 0, none⟩)) := (h6.row.later hX).cell 0
      unfold Oper.wp
      simp [execOp, go_sem, u2, cc]
      exact came _ rfl (Below.refl _ _) rfl (fun h => absurd h (by decide))
    | 4, _, ho =>
      simp only [List.getElem?_cons_succ, List.getElem?_cons_zero, Option.some.injEq] at ho
      subst ho
      unfold Oper.wp
      simp [execOp, go_sem, t1]
      exact came _ rfl (Below.refl _ _) rfl (fun h => absurd h (by decide))
    | 5, _, ho =>
      simp only [List.getElem?_cons_succ, List.getElem?_cons_zero, Option.some.injEq] at ho
      subst ho
      exact opw_loadE _ rfl (by simp [Act.eval, t7]) (hr6.in.later hX) (came _ rfl (Below.refl _ _) rfl (fun h => absurd h (by decide)))
    | m + 6, hi, _ => exact absurd hi (by omega)
  · intro vals x9 hX9 hR9 _
    have q3 : vals 3 = .pointer (some ⟨tb, 0, none⟩) := hR9 3 (by decide)
    have q4 : vals 4 = .int .i64 (ip : Int) := hR9 4 (by decide)
    have q5 : vals 5 = .agg (ev (e0.add (-1))) := hR9 5 (by decide)
    have h9 := h6.later hX9
    have HN := hid_of' (set_ok h9.tree ip (e0.add (-1)) hip hn h9.no (by decide))
    simp only [List.take, List.drop, putAll, q3, q4, q5]
    clear q3 q4 q5 hR9
    simp only [List.setIfInBounds_toArray, List.set_cons_succ, List.set_cons_zero]
    unfold pv at HN
    go_wp2_with (go_at_call 62; refine HN.out.mono ?_; rintro r w10 ⟨rfl, hT10, hk10⟩)
    go_ret
    rw [← HE.out] at hT10
    exact ⟨rfl, ⟨h9.row.kp hk10 ne1, hT10, h9.map.kp hk10 (fun q => ne3 q.symm), h9.no, h9.nom, Nat.le_trans h9.hi hk10.size⟩, (Kp.of (bgo hB6 hX9)).trans hk10⟩
end Go.Proofs.YtjopeojnlibagaaGreatDoor
namespace Go.Proofs.YtjopeojnlibagaaGreatDoor
open Go.RowKit Go.Shelf
set_option maxRecDepth 100000
attribute [local go_sem] Oper.semAt_some

/-- Elements with their numbers. -/
def enumF : Nat → List El → List (Nat × El)
  | _, [] => []
  | k, e :: r => (k, e) :: enumF (k + 1) r
theorem enumF_app : ∀ (k : Nat) (a b : List El), enumF k (a ++ b) = enumF k a ++ enumF (k + a.length) b
  | _, [], _ => by simp [enumF]
  | k, e :: a, b => by simp only [List.cons_append, enumF, enumF_app (k + 1) a b, List.length_cons]; rw [show k + 1 + a.length = k + (a.length + 1) by omega]
theorem enumF_len : ∀ (k : Nat) (a : List El), (enumF k a).length = a.length
  | _, [] => rfl
  | k, _ :: a => by simp [enumF, enumF_len (k + 1) a]
def encE (p : Nat × El) : Array Value := #[.int .i64 (p.1 : Int), .agg (ev p.2)]
def elsO : Option Nd → List El
  | none => []
  | some t => t.els
def flatL (xs : List Lf) : List El := (xs.map Lf.l).flatten
theorem flatL_all (t : Option Nd) : flatL (lfsO t) = elsO t := by
  cases t with
  | none => rfl
  | some t => show ((t.lfs).map Lf.l).flatten = t.els; rw [t.lfs_l, Nd.els_flat]
theorem lfs_at {R : Rows} {w : World} : ∀ {t : Nd}, t.At R w → ∀ x ∈ t.lfs, ElsAt x.g x.o x.l w ∧ x.l.length ≤ x.c
  | .leaf b g o_ c l, h, x, hx => by
    simp only [Nd.lfs, List.mem_singleton] at hx
    subst hx
    exact ⟨h.2.1, h.2.2.1⟩
  | .inner b y z, h, x, hx => by
    simp only [Nd.lfs, List.mem_append] at hx
    exact hx.elim (lfs_at h.2.1 x) (lfs_at h.2.2 x)
theorem grown_alloc_row {w : World} {o : Obj} {cs : Array Value} : w.grownBy ((w.alloc o).setRow w.heap.size cs) none := by
  have h1 := World.grownBy_alloc w o none
  refine ⟨h1.os, h1.tape, h1.output, by simp, fun k hk hne => ?_⟩
  rw [setRow_other _ _ _ _ (by omega)]
  exact h1.block k hk hne

theorem RoundIn.inRound {F : Fence} {m : Nat} {P : Program} {l : Nat} {f : FuncId} {tmps : Array Value} {assign body : Code} {W : World} {Q : Ending → World → Prop} (l' : Nat) (h : RoundIn F m P l f tmps assign body W Q) : RoundIn (F.inRound l') m P l f tmps assign body W Q := h
/-- What stands between two rounds of the loop over leaves. -/
structure AllI (S : Nat → Prop) (w : World) (J : List (Nat × El) → (Nat → Prop) → World → Prop) (l b0 : Nat) (es : List El) (Oin : Nat → Prop) (A : World) : Prop where
  own : ∃ O : Nat → Prop, (∀ r, Oin r → O r) ∧ O b0 ∧ O (b0 + 1) ∧ J (enumF 0 es) O A
  yl : Boxed A b0 167 (.func (.yield l) #[] #[])
  ix : Boxed A (b0 + 1) 3 (.int .i64 (es.length : Int))
  kc : KC S w A
theorem prefix_flat {pre xs : List Lf} {x : Lf} (h : (pre ++ [x]) <+: xs) : (flatL pre ++ x.l) <+: flatL xs := by
  obtain ⟨r, rfl⟩ := h
  exact ⟨flatL r, by simp [flatL]⟩
theorem prefix_enum {a b : List El} (h : a <+: b) : enumF 0 a <+: enumF 0 b := by
  obtain ⟨r, rfl⟩ := h
  exact ⟨enumF (0 + a.length) r, (enumF_app 0 a r).symm⟩
theorem enum_next (es : List El) (e : El) : enumF 0 (es ++ [e]) = enumF 0 es ++ [(es.length, e)] := by
  rw [enumF_app]
  simp [enumF]
theorem row_set (W : World) (g : Nat) (c : Array Value) (k : Nat) (h : k ≠ g) : (W.setRow g c).heap[k]? = W.heap[k]? := setRow_other W g k c (by omega)

set_option maxHeartbeats 8000000 in
theorem all_it {F : Fence} (hF : F = Fence.wide) (n : Nat) (hn : 1 ≤ n) (Bt tb : Nat) {R : Rows} {S : Nat → Prop} (t : Option Nd) (w0 w : World) (hb00 : Below w0.heap.size w0 w) (hBt : Bt < w.heap.size) (htb : tb < w.heap.size)
    (hc : w.cell? ⟨Bt, 0, none⟩ = some (.pointer (some ⟨tb, 0, none⟩))) (hr : w.cell? ⟨tb, 1, none⟩ = some (pvO t)) (hA : ∀ t', t = some t' → t'.At R w0) (hS : Sok S R w0) (hlen : (elsO t).length ≤ 1048576) :
    SeqIt F n Tryz.prog 100 #[.pointer (some ⟨Bt, 0, none⟩)] encE (enumF 0 (elsO t)) (fun A A' => KC S w0 A → KC S w0 A') w := by
  intro l J Jx W hW hJ hJx hY h0
  obtain ⟨va, hva⟩ : ∃ va, pvO t = .pointer va := by cases t <;> exact ⟨_, rfl⟩
  have hdd : ∀ k : Nat, (F.depth.isSome = true → 1 ≤ k) := fun k h => by rw [depth_wide hF] at h; cases h
  have k1 : F.fn 100 := fn_wide hF _
  have k2 : F.fn 101 := fn_wide hF _
  have k3 : F.fn 124 := fn_wide hF _
  have hro := round_wide hF
  -- the world when the loop over leaves begins
  obtain ⟨X, hX⟩ : ∃ X, (((W.alloc (.cells #[.func (.yield l) #[] #[]] 167)).alloc (.cells #[.int .i64 0] 3)).alloc (.cells #[.pointer va] 148)) = X := ⟨_, rfl⟩
  have x0 := Boxed.new W 167 (.func (.yield l) #[] #[])
  have x1 := Boxed.new (W.alloc (.cells #[.func (.yield l) #[] #[]] 167)) 3 (.int .i64 0)
  have x2 := Boxed.new ((W.alloc (.cells #[.func (.yield l) #[] #[]] 167)).alloc (.cells #[.int .i64 0] 3)) 148 (.pointer va)
  rw [World.size_alloc] at x1
  have hsz : X.heap.size = W.heap.size + 3 := by rw [← hX]; simp
  have y0 : Boxed X W.heap.size 167 (.func (.yield l) #[] #[]) := by rw [← hX]; exact (x0.alloc _).alloc _
  have y1 : Boxed X (W.heap.size + 1) 3 (.int .i64 0) := by
    rw [← hX]
    exact x1.alloc _
  have y2 : X.cell? ⟨W.heap.size + 2, 0, none⟩ = some (.pointer va) := by
    have := x2.cell
    rw [hX] at this
    simpa using this
  have hBX : Below W.heap.size W X := by
    rw [← hX]
    exact (((Below.refl _ W).alloc (Nat.le_refl _) _).alloc (by simp) _).alloc (by simp; omega) _
  have hgX : W.grownBy X none := ⟨hBX.os, hBX.tape, hBX.output, hBX.size, fun k hk _ => hBX.block k hk⟩
  have hWX' : Below w.heap.size w X := hW.trans (hBX.mono hW.size)
  have hWX : Below w0.heap.size w0 X := hb00.trans (hWX'.mono hb00.size)
  have hw00 := hb00.size
  clear hWX'
  have hwW := hW.size
  have HS := hid_of' (leaves_it hF (n - 1) (W.heap.size + 2) (fun A => KC S w0 A) (fun A A' => KC S w0 A → KC S w0 A') (fun _ _ g k => k g) t X (by omega) (by rw [hva]; exact y2) (fun t' e A g => (hA t' e).kc hS g) (fun A h => KC.of_below (hWX.trans (h.mono hWX.size))))
  have HL := hid_of' (fun w' => leaves_in hF (n := n - 1) va w')
  have HF := hid_of' hF
  have d0 : ∀ o, (W.alloc o).cell? ⟨Bt, 0, none⟩ = some (.pointer (some ⟨tb, 0, none⟩)) := fun o => (((Below.refl _ W).alloc (Nat.le_refl _) o).cell (p := ⟨Bt, 0, none⟩) (by show Bt < W.heap.size; omega)).trans ((hW.cell (p := ⟨Bt, 0, none⟩) hBt).trans hc)
  have e0 : ((W.alloc (.cells #[.func (.yield l) #[] #[]] 167)).alloc (.cells #[.int .i64 0] 3)).cell? ⟨Bt, 0, none⟩ = some (.pointer (some ⟨tb, 0, none⟩)) := by
    have h2 : Below W.heap.size W ((W.alloc (.cells #[.func (.yield l) #[] #[]] 167)).alloc (.cells #[.int .i64 0] 3)) := ((Below.refl _ W).alloc (Nat.le_refl _) _).alloc (by simp) _
    exact (h2.cell (p := ⟨Bt, 0, none⟩) (by show Bt < W.heap.size; omega)).trans ((hW.cell (p := ⟨Bt, 0, none⟩) hBt).trans hc)
  have e1 : ((W.alloc (.cells #[.func (.yield l) #[] #[]] 167)).alloc (.cells #[.int .i64 0] 3)).cell? ⟨tb, 1, none⟩ = some (.pointer va) := by
    have h2 : Below W.heap.size W ((W.alloc (.cells #[.func (.yield l) #[] #[]] 167)).alloc (.cells #[.int .i64 0] 3)) := ((Below.refl _ W).alloc (Nat.le_refl _) _).alloc (by simp) _
    rw [← hva]
    exact (h2.cell (p := ⟨tb, 1, none⟩) (by show tb < W.heap.size; omega)).trans ((hW.cell (p := ⟨tb, 1, none⟩) htb).trans hr)
  clear hF d0
  refine callsIn_of_wp_marks Tryz.func100 rfl k1 ?_ hro
  simp only [Tryz.ntmps100, List.size_toArray, List.length_cons, List.length_nil, Nat.reduceAdd, Nat.reduceSub, Array.replicate_succ, Array.replicate_zero, List.push_toArray, List.append_toArray, List.nil_append, List.cons_append]
  gi_wp2_with ((try refine ⟨hdd _, ?_⟩); gi_at_call 101; refine (HL.out _).mono ?_; clear HL; rintro e w' ⟨rfl, rfl⟩)
  have kcX : KC S w0 X := KC.of_below hWX
  refine wpIn_rangeFunc_it hro hn (gf := 124) (lb := #[.pointer (some ⟨W.heap.size + 2, 0, none⟩)]) rfl k3 (enters_of Tryz.func124 (by kernel_rfl) rfl)
    HS.out (fun h k g => k (h g)) (fun A l' o o' _ hl hcc g => g.grown (grownBy_putObj' A l' o') (fun r e => by cases e; exact .inr (.inr ⟨o, hl, hcc⟩))) (Below.refl _ _) (fun _ => rfl)
    (fun pre Oin A => AllI S w0 J l W.heap.size (flatL pre) Oin A) (fun c _ A => c = .ret ∧ ∃ q, q <+: enumF 0 (elsO t) ∧ Jx q A) ?bears ?hIx ?h0
    (fun x => { tmps := #[.func (.yield l) #[] #[], .pointer (some ⟨Bt, 0, none⟩), .pointer (some ⟨W.heap.size, 0, none⟩), .pointer (some ⟨W.heap.size + 1, 0, none⟩), x.v, undef, undef, .pointer (some ⟨tb, 0, none⟩), .pointer (some ⟨tb, 0, none⟩), .pointer (some ⟨tb, 1, none⟩), .pointer va, .func (.func 124) #[] #[.pointer (some ⟨W.heap.size + 1 + 1, 0, none⟩)], x.v, undef, undef, undef, undef, undef, undef, undef, undef, undef, undef, undef, undef, undef, undef], defers := [] }) ?assign ?body ?done ?stop
  case bears =>
    rintro pre O O' A A' row ⟨⟨Oj, h1, h2, h3, h4⟩, yl, ix, kc⟩ hg hr hO
    rw [hsz] at hr
    refine ⟨⟨fun r => Oj r ∨ (A.heap.size ≤ r ∧ r < A'.heap.size), fun r hr' => (hO r hr').elim (fun h => .inl (h1 r h)) .inr, .inl h2, .inl h3, ?_⟩, yl.kept hg (fun e => ?_), ix.kept hg (fun e => ?_), kc.grown hg (fun r e => ?_)⟩
    · refine hJ _ Oj _ A A' row h4 hg (fun r e => ⟨?_, (hr r e).2.elim (fun h => .inl (h1 r h)) .inr⟩) (fun r h => h)
      have := (hr r e).1
      omega
    · have := (hr W.heap.size e.symm).1
      omega
    · have := (hr (W.heap.size + 1) e.symm).1
      omega
    · have := (hr r e).1
      exact .inl (by omega)
  case hIx =>
    rintro c pre A A' row ⟨h1, q, hq, hj⟩ hg hr
    rw [hsz] at hr
    exact ⟨h1, q, hq, hJx q A A' row hj hg (fun r e => ⟨by have := (hr r e).1; omega, (hr r e).2⟩)⟩
  case h0 =>
    refine ⟨⟨fun r => r = W.heap.size ∨ r = W.heap.size + 1, fun _ h => h.elim, .inl rfl, .inr rfl, ?_⟩, y0, y1, kcX⟩
    exact hJ [] (fun _ => False) _ W X none h0 hgX (fun _ e => by cases e) (fun r hr => .inr (by rcases hr with rfl | rfl <;> omega))
  case assign =>
    intro l' x W' K hK
    gi_wp2
    exact hK
  case body =>
    rintro l' pre x Oin A hI0 hpre hOin
    have hmem : x ∈ lfsO t := hpre.subset (by simp)
    have hEx : ∀ A', KC S w0 A' → ElsAt x.g x.o x.l A' ∧ x.l.length ≤ x.c := by
      cases t with
      | none => simp [lfsO] at hmem
      | some t' => exact fun A' g => lfs_at ((hA t' rfl).kc hS g) x hmem
    have hpf := prefix_flat hpre
    rw [flatL_all] at hpf
    have hlx : (flatL pre).length + x.l.length ≤ 1048576 := by
      have := hpf.length_le
      rw [List.length_append] at this
      omega
    have hxc := (hEx A hI0.kc).2
    unfold Lf.v
    gi_wp2
    gi_loopw [15] (fun kv wr => ∃ k : Nat, kv = .int .i64 (k : Int) ∧ k ≤ x.l.length ∧ AllI S w0 J l W.heap.size (flatL pre ++ x.l.take k) Oin wr ∧ KeepsFrom X.heap.size A wr ∧ KeepsSet Oin A wr) (fun kv _ => x.l.length - (intOf kv).toNat)
    case atStart => exact ⟨0, rfl, by omega, by simpa using hI0, KeepsFrom.refl _ _, fun _ _ => rfl⟩
    case round =>
      obtain ⟨k, rfl, hk, hI, hkf, hks⟩ := hrel
      by_cases hlt : k < x.l.length
      · obtain ⟨⟨O, o1, o2, o3, o4⟩, yl, ix, kc⟩ := hI
        obtain ⟨e, he⟩ : ∃ e, x.l[k]? = some e := ⟨_, List.getElem?_eq_getElem hlt⟩
        have hki : (k : Int) < (x.l.length : Int) := by omega
        have hce : CsIn x.g (x.o + k * 5) (ev e) wr := (hEx wr kc).1 k e he
        have hel : (flatL pre ++ x.l.take k).length ≤ 1048576 := by rw [List.length_append, List.length_take]; omega
        have htk : flatL pre ++ x.l.take (k + 1) = (flatL pre ++ x.l.take k) ++ [e] := by rw [List.take_add_one, he]; simp
        have hp1 : (flatL pre ++ x.l.take (k + 1)) <+: elsO t := (show flatL pre ++ x.l.take (k + 1) <+: flatL pre ++ x.l from ⟨x.l.drop (k + 1), by rw [List.append_assoc, List.take_append_drop]⟩).trans hpf
        obtain ⟨es, hes⟩ : ∃ es, flatL pre ++ x.l.take k = es := ⟨_, rfl⟩
        rw [hes] at htk o4 ix hel
        rw [htk] at hp1
        have hp2 : (enumF 0 es ++ [(es.length, e)]) <+: enumF 0 (elsO t) := by rw [← enum_next]; exact prefix_enum hp1
        have HP := hid_of' hp2
        have hgE : wr.grownBy ((wr.alloc (.cells #[.int .i64 0, .int .i64 0, .int .i64 0, .int .i32 0, .int .i64 0] 66)).setRow wr.heap.size (ev e)) none := grown_alloc_row
        have jE := hJ _ O O wr ((wr.alloc (.cells #[.int .i64 0, .int .i64 0, .int .i64 0, .int .i32 0, .int .i64 0] 66)).setRow wr.heap.size (ev e)) none o4 hgE (fun _ h => by cases h) (fun r h => .inl h)
        have rE : RowAt wr.heap.size (ev e) 66 ((wr.alloc (.cells #[.int .i64 0, .int .i64 0, .int .i64 0, .int .i32 0, .int .i64 0] 66)).setRow wr.heap.size (ev e)) := (row_new wr #[.int .i64 0, .int .i64 0, .int .i64 0, .int .i32 0, .int .i64 0] 66).put (ev e)
        have yl1 : Boxed ((wr.alloc (.cells #[.int .i64 0, .int .i64 0, .int .i64 0, .int .i32 0, .int .i64 0] 66)).setRow wr.heap.size (ev e)) W.heap.size 167 (.func (.yield l) #[] #[]) := yl.kept hgE (fun h => by cases h)
        have ix1 : Boxed ((wr.alloc (.cells #[.int .i64 0, .int .i64 0, .int .i64 0, .int .i32 0, .int .i64 0] 66)).setRow wr.heap.size (ev e)) (W.heap.size + 1) 3 (.int .i64 (es.length : Int)) := ix.kept hgE (fun h => by cases h)
        have kcE : KC S w0 ((wr.alloc (.cells #[.int .i64 0, .int .i64 0, .int .i64 0, .int .i32 0, .int .i64 0] 66)).setRow wr.heap.size (ev e)) := kc.grown hgE (fun _ h => by cases h)
        obtain ⟨fn, tmps, assign, body, hy, hR⟩ := yield_any HF.out (n - 1 - 1 - 1) (hY (enumF 0 es) (es.length, e) O ((wr.alloc (.cells #[.int .i64 0, .int .i64 0, .int .i64 0, .int .i32 0, .int .i64 0] 66)).setRow wr.heap.size (ev e)) jE hp2)
        have HR := hid_of' (RoundIn.inRound l' (hR.mono (R' := fun e2 W2 => (e2 = .returned (.bool true) ∧ W2.cell? ⟨W.heap.size + 1, 0, none⟩ = some (.int .i64 (es.length : Int)) ∧ W2.frozen? ⟨W.heap.size + 1, 0, none⟩ = false ∧ J (enumF 0 (es ++ [e])) O W2 ∧ KC S w0 W2 ∧ KeepsSet O ((wr.alloc (.cells #[.int .i64 0, .int .i64 0, .int .i64 0, .int .i32 0, .int .i64 0] 66)).setRow wr.heap.size (ev e)) W2 ∧ KeepsFrom W.heap.size ((wr.alloc (.cells #[.int .i64 0, .int .i64 0, .int .i64 0, .int .i32 0, .int .i64 0] 66)).setRow wr.heap.size (ev e)) W2) ∨
            (e2 = .returned (.bool false) ∧ Jx (enumF 0 (es ++ [e])) W2 ∧ KeepsFrom W.heap.size ((wr.alloc (.cells #[.int .i64 0, .int .i64 0, .int .i64 0, .int .i32 0, .int .i64 0] 66)).setRow wr.heap.size (ev e)) W2)) (fun e2 W2 ⟨g1, g2⟩ => g2.elim
          (fun ⟨a1, a2, a3, a4⟩ => .inl ⟨a1, Boxed.cell (show Boxed W2 (W.heap.size + 1) 3 _ from (a4 _ o3).trans ix1), Boxed.frozen (show Boxed W2 (W.heap.size + 1) 3 _ from (a4 _ o3).trans ix1), by rw [enum_next]; exact a2, a3 kcE, a4, g1⟩) (fun ⟨a1, a2⟩ => .inr ⟨a1, by rw [enum_next]; exact a2, g1⟩))))
        have c0 := yl1.cell
        have c1 := ix1.cell
        simp only [encE] at hy
        clear hR hp1 hp2 jE kcE yl ix hY HS hX x0 x1 x2 hI0
        gi_wp2_with (first | (refine wpLIn_loadE rfl _ rfl rfl hce ?_) | (refine wpLIn_storeE rfl _ _ rfl rfl rfl (row_new wr _ _) ?_) | (refine wpLIn_loadE rfl _ rfl rfl rE.in ?_) | ((try refine ⟨hdd _, ?_⟩); refine HR.out.mono ?_; clear HR; rintro e2 W2 (⟨rfl, c2, f2, hj2, kc2, hks2, hkf2⟩ | ⟨rfl, hx2, hkf2⟩)))
        · have hkA : KeepsFrom X.heap.size A W2 := (hkf.trans (KeepsFrom.of_grownBy hgE (fun _ h => by cases h))).trans ⟨hkf2.size, fun q o hq => hkf2.same q o (by omega)⟩
          have hb2 : Boxed W2 (W.heap.size + 1) 3 (.int .i64 (es.length : Int)) := (hks2 _ o3).trans ix1
          have yl2 : Boxed W2 W.heap.size 167 (.func (.yield l) #[] #[]) := (hks2 _ o2).trans yl1
          refine ⟨⟨k + 1, by go_num, by omega, ?_, hkA.trans ((KeepsOthers.setCell _ _ _).from _), ?_⟩, by simp [intOf]; omega⟩
          · rw [htk]
            refine ⟨⟨O, o1, o2, o3, hJ _ O O W2 _ (some (W.heap.size + 1)) hj2 (grownBy_setCell' W2 _ _) (fun r e => by cases e; exact ⟨by omega, .inl o3⟩) (fun _ h => .inl h)⟩, yl2.other (by omega) _, ?_, kc2.grown (grownBy_setCell' W2 _ _) (fun r e => by cases e; exact .inl (by omega))⟩
            have e3 : ((es ++ [e]).length : Int) = (es.length : Int) + 1 := by simp
            rw [e3]
            exact heap_setCell_at hb2 0 _
          · intro r hr
            have hrl := hOin r hr
            have hr1 : r < wr.heap.size := Nat.lt_of_lt_of_le hrl.2 hkf.size
            rw [Below.heap_setCell _ _ _ _ (by show r ≠ W.heap.size + 1; omega), hks2 r (o1 r hr), hgE.block r hr1 (fun h => by cases h)]
            exact hks r hr
        · have hkA : KeepsFrom X.heap.size A W2 := (hkf.trans (KeepsFrom.of_grownBy hgE (fun _ h => by cases h))).trans ⟨hkf2.size, fun q o hq => hkf2.same q o (by omega)⟩
          exact ⟨hkA, rfl, _, by rw [enum_next]; exact HP.out, hx2⟩
      · have hkl : k = x.l.length := by omega
        have hki : ¬ (k : Int) < (x.l.length : Int) := by omega
        gi_wp2
        refine ⟨hsz ▸ hkf, hks, fun _ => hI.kc, ?_⟩
        rw [hkl, List.take_length] at hI
        have e3 : flatL (pre ++ [x]) = flatL pre ++ x.l := by simp [flatL]
        rw [e3]
        exact hI
  case done =>
    rintro D O W2 hD ⟨⟨Oj, _, _, _, h4⟩, _, _, _⟩ hK
    rw [hsz] at hD
    rw [flatL_all] at h4
    gi_wp2
    refine ⟨by simp, .inl ⟨_, _, rfl, run_takeDeferred hK, ?_⟩⟩
    exact ⟨_, results_none rfl _ _ _, ⟨_, rfl⟩, .inl ⟨Oj, hJ.put _ h4 (by omega) hK rfl⟩⟩
  case stop =>
    rintro D c pre W2 hD hpre ⟨rfl, q, hq, hj⟩ hK
    rw [hsz] at hD
    gi_wp2
    refine ⟨by simp, .inl ⟨_, _, rfl, run_takeDeferred hK, ?_⟩⟩
    exact ⟨_, results_none rfl _ _ _, ⟨_, rfl⟩, .inr ⟨q, hq, hJx.putObj _ hj (by omega) hK rfl⟩⟩
end Go.Proofs.YtjopeojnlibagaaGreatDoor
namespace Go.Proofs.YtjopeojnlibagaaGreatDoor
open Go.RowKit
section
variable {F : Fence} {n : Nat} {P : Program}

theorem wpIn_rangeFunc_itA {α : Type} {g : Operand} {ps : Array Tmp} {assign body : Code} {Q : Exit → Act → World → Prop} {a : Act} {w : World}
    (hro : F.round = none) (h1 : 1 ≤ n) {gf : Nat} {lb : Array Value} (hg : a.eval g = .func (.func gf) #[] lb) (hFg : F.fn gf) (eg : ∀ args w, (callFunc gf args).run P w = .ok (.enter gf args) w)
    {encs : α → Array Value} {xs : List α} {Kp : World → World → Prop} {w0 : World} (hseq : SeqIt F (n - 1) P gf lb encs xs Kp w0)
    (hKt : ∀ {A B C : World}, Kp A B → Kp B C → Kp A C) (hKn : ∀ (W W' : World), W.grownBy W' none → Kp W W') (hKb : ∀ (W : World) (l : Nat) (o o' : Obj), w.heap.size ≤ l → W.heap[l]? = some o → o.isCells = false → Kp W (W.putObj l o')) (hb0 : Below w0.heap.size w0 w) (hps : ∀ x, (encs x).size = ps.size)
    (I : List α → (Nat → Prop) → World → Prop) (Ix : Code → List α → World → Prop) (hI : Bears w.heap.size I) (hIx : ∀ c, OwnFrom w.heap.size (Ix c)) (h0 : I [] (fun _ => False) w) (a₁ : α → Nat → Act) (ob : α → Obj) (Ax : α → World → World) (hAx : ∀ x W, W.grownBy (Ax x W) none ∧ (Ax x W).heap.size = W.heap.size + 1 ∧ (Ax x W).heap[W.heap.size]? = some (ob x))
    (hassign : ∀ (l : Nat) (x : α) (W : World) (K : Act → World → Prop), K (a₁ x W.heap.size) (Ax x W) →
      assign.wpIn (F.inRound l) (n - 1 - 1) P (Exit.then K (fun _ _ _ => False)) { tmps := (ps.zip (encs x)).foldl (fun t (p, v) => t.setIfInBounds p v) a.tmps, defers := [] } W)
    (hbody : ∀ (l : Nat) (pre : List α) (x : α) (O : Nat → Prop) (W : World) (b : Nat), I pre O W → (pre ++ [x]) <+: xs → (∀ r, O r → w.heap.size + 2 ≤ r ∧ r < b) → w.heap.size + 2 ≤ b → b + 1 = W.heap.size → W.heap[b]? = some (ob x) → body.wpIn (F.inRound l) (n - 1 - 1) P (itPost w.heap.size Kp O I Ix (pre ++ [x]) W) (a₁ x b) W)
    (hdone : ∀ (D : Nat) (O : Nat → Prop) (W : World), w.heap.size ≤ D → I xs O W → W.heap[D]? = some (.deferred (some [])) → Q .normal { a with defers := { target := .collected D, args := #[] } :: a.defers } W)
    (hstop : ∀ (D : Nat) (c : Code) (pre : List α) (W : World), w.heap.size ≤ D → pre <+: xs → Ix c pre W → W.heap[D]? = some (.deferred (some [])) → c.wpIn F n P Q { a with defers := { target := .collected D, args := #[] } :: a.defers } W) :
    (Code.rangeFunc g ps assign body).wpIn F n P Q a w := by
  refine wpIn_rangeFunc fun fn hfn => ?_
  rw [hro]
  obtain ⟨B, hB⟩ : ∃ B, w.heap.size = B := ⟨_, rfl⟩
  obtain ⟨rc, hrc⟩ : ∃ rc : LoopState → Option Code → Loop, rc = fun st pe => { state := st, pending := pe, fn, tmps := a.tmps, params := ps, assign, body, defers := B } := ⟨_, rfl⟩
  obtain ⟨W1, hW1⟩ : ∃ W1, (w.alloc (.deferred (some []))).alloc (.loop (rc .ready none)) = W1 := ⟨_, rfl⟩
  have hs1 : W1.heap.size = B + 2 := by rw [← hW1, World.size_alloc, World.size_alloc, hB]
  have hL1 : W1.heap[B + 1]? = some (.loop (rc .ready none)) := by
    have := World.alloc_heap_new (w.alloc (.deferred (some []))) (.loop (rc .ready none))
    rw [World.size_alloc, hB, hW1] at this
    exact this
  have hD1 : W1.heap[B]? = some (.deferred (some [])) := by
    have h2 := Below.heap_alloc (w.alloc (.deferred (some []))) (.loop (rc .ready none)) B (by rw [World.size_alloc]; omega)
    have h3 := World.alloc_heap_new w (.deferred (some []))
    rw [hB] at h3
    rw [← hW1]
    exact h2.trans h3
  have hI1 : I [] (fun _ => False) W1 := by
    rw [← hW1]
    have h2 : I [] (fun _ => False) (w.alloc (.deferred (some []))) := hI.new (O := fun _ => False) _ h0 (fun _ h => .inl h)
    exact hI.new (O := fun _ => False) _ h2 (fun _ h => .inl h)
  have hb1 : Below w0.heap.size w0 W1 := by
    rw [← hW1]
    exact hb0.trans ((((Below.refl _ w).alloc (Nat.le_refl _) _).alloc (by simp) _).mono hb0.size)
  refine ⟨B + 1, [{ target := .collected B, args := #[] }], W1, { target := .fn (.func gf) lb, args := #[.func (.yield (B + 1)) #[] #[]] }, W1, gf, #[.func (.yield (B + 1)) #[] #[]] ++ lb, W1, ?_, ?_, ?_, ?_, fun _ => h1, ?_⟩
  · rw [← hW1, hrc, ← hB]; exact run_enterLoop_outer _ _ _ _ _
  · simp only [resolve, hg]
    simp [go_sem]
  · intro f' hf'
    simp [Target.leads] at hf'
    subst hf'
    exact hFg
  · simp [invoke, go_sem, eg]
  rw [hB] at hI hIx hKb hbody hdone hstop
  -- the record and the block for deferred calls, beside the loop's own invariant
  have other : ∀ {A A' : World} {row : Option Nat}, A.grownBy A' row → (∀ r, row = some r → B + 2 ≤ r) → ∀ k, k < B + 2 → k < A.heap.size → A'.heap[k]? = A.heap[k]? := fun hgr hr k hk hk2 => hgr.block k hk2 (fun e => by have := hr k e.symm; omega)
  refine (hseq (B + 1) (fun pre O A => I pre O A ∧ A.heap[B + 1]? = some (.loop (rc .ready none)) ∧ A.heap[B]? = some (.deferred (some [])) ∧ ∀ r, O r → B + 2 ≤ r ∧ r < A.heap.size)
    (fun pre A => ∃ c, Ix c pre A ∧ A.heap[B + 1]? = some (.loop (rc .done (some c))) ∧ A.heap[B]? = some (.deferred (some []))) W1 hb1 ?_ ?_ ?_ ⟨hI1, hL1, hD1, fun _ h => h.elim⟩).mono ?_
  · rintro pre O O' A A' row ⟨hi, hl, hd, ho⟩ hgr hr hO
    rw [hs1] at hr
    have hsz : B + 1 < A.heap.size := (Array.getElem?_eq_some_iff.1 hl).1
    have hrr : ∀ r, row = some r → B + 2 ≤ r := fun r e => (hr r e).1
    refine ⟨hI pre O O' A A' row hi hgr (fun r e => ⟨by have := hrr r e; omega, (hr r e).2⟩) hO, (other hgr hrr _ (by omega) hsz).trans hl, (other hgr hrr _ (by omega) (by omega)).trans hd, fun r h => ?_⟩
    have hgs := hgr.size
    rcases hO r h with h2 | h2
    · have := ho r h2
      omega
    · omega
  · rintro pre A A' row ⟨c, hi, hl, hd⟩ hgr hr
    rw [hs1] at hr
    have hsz : B + 1 < A.heap.size := (Array.getElem?_eq_some_iff.1 hl).1
    have hrr : ∀ r, row = some r → B + 2 ≤ r := fun r e => (hr r e).1
    exact ⟨c, hIx c pre A A' row hi hgr (fun r e => ⟨by have := hrr r e; omega, (hr r e).2⟩), (other hgr hrr _ (by omega) hsz).trans hl, (other hgr hrr _ (by omega) (by omega)).trans hd⟩
  · rintro pre x O A ⟨hi, hl, hd, ho⟩ hpre
    have hsz : B + 1 < A.heap.size := (Array.getElem?_eq_some_iff.1 hl).1
    have hy := run_yield (P := P) (args := encs x) hl (by rw [hrc]; exact hps x)
    rw [hrc] at hy
    obtain ⟨hgA, hs11, hn1⟩ := hAx x A
    obtain ⟨A1, hA1⟩ : ∃ A1, Ax x A = A1 := ⟨_, rfl⟩
    rw [hA1] at hgA hs11 hn1
    have hold : ∀ k, k < A.heap.size → A1.heap[k]? = A.heap[k]? := fun k hk => hgA.block k hk (fun e => by cases e)
    have hl1 : A1.heap[B + 1]? = some (.loop (rc .ready none)) := (hold _ hsz).trans hl
    have hd1 : A1.heap[B]? = some (.deferred (some [])) := (hold _ (by omega)).trans hd
    have hi1 : I pre O A1 := hI pre O O A A1 none hi hgA (fun _ e => by cases e) (fun _ h => .inl h)
    have hk1 : Kp A A1 := hKn A A1 hgA
    refine ⟨fn, _, assign, body, hy, roundIn_of_wpIn hfn (hassign _ x A _ ?_)⟩
    rw [hA1]
    refine ⟨_, run_beginRound hl1 (by rw [hrc]), ?_⟩
    clear hy
    obtain ⟨A2, hA2⟩ : ∃ A2, A1.putObj (B + 1) (.loop { rc .ready none with state := .busy }) = A2 := ⟨_, rfl⟩
    have hl2 : A2.heap[B + 1]? = some (.loop { rc .ready none with state := .busy }) := by rw [← hA2]; exact World.putObj_heap_same (by omega)
    have hoth1 : ∀ k, k ≠ B + 1 → A2.heap[k]? = A1.heap[k]? := fun k hk => by rw [← hA2]; exact World.putObj_heap_other (by omega)
    have hoth : ∀ k, k ≠ B + 1 → k < A.heap.size → A2.heap[k]? = A.heap[k]? := fun k hk h2 => (hoth1 k hk).trans (hold k h2)
    have hsz2 : A2.heap.size = A.heap.size + 1 := by rw [← hA2]; simp [hs11]
    have hi2 : I pre O A2 := by rw [← hA2]; exact hI.put _ hi1 (by omega) hl1 rfl
    have hk2 : Kp A A2 := hKt hk1 (by rw [← hA2]; exact hKb _ _ _ _ (by omega) hl1 rfl)
    rw [hA2]
    refine wpIn_mono (hbody _ pre x O A2 A.heap.size hi2 hpre ho (by omega) (by omega) ((hoth1 _ (by omega)).trans hn1)) ?_
    -- behind the body: the record is turned once more
    have fin : ∀ (jump : Option Code) (W3 : World), KeepsFrom B A2 W3 → ∃ W4, W4 = W3.putObj (B + 1) (.loop (rc (if jump.isNone then .ready else .done) jump)) ∧ (Instr.endRound (B + 1) jump).run P W3 = .ok (.bool jump.isNone) W4 ∧ (∃ o : Obj, W3.heap[B + 1]? = some o ∧ o.isCells = false) ∧
        W4.heap[B + 1]? = some (.loop (rc (if jump.isNone then .ready else .done) jump)) ∧ W4.heap[B]? = some (.deferred (some [])) ∧ KeepsFrom (B + 2) A W4 ∧ ∀ k, k ≠ B + 1 → W4.heap[k]? = W3.heap[k]? := fun jump W3 hk3 => by
      have hl3 := hk3.same _ _ (by omega) hl2 rfl
      have hr := run_endRound (P := P) jump hl3
      have ho4 : ∀ k, k ≠ B + 1 → (W3.putObj (B + 1) (.loop (rc (if jump.isNone then .ready else .done) jump))).heap[k]? = W3.heap[k]? := fun k hk => World.putObj_heap_other (by omega)
      refine ⟨_, rfl, ?_, ⟨_, hl3, rfl⟩, World.putObj_heap_same (Array.getElem?_eq_some_iff.1 hl3).1, ?_, ⟨?_, ?_⟩, ho4⟩
      · rw [hrc] at hr ⊢
        exact hr
      · rw [ho4 B (by omega)]
        exact hk3.same _ _ (Nat.le_refl _) ((hoth B (by omega) (by omega)).trans hd) rfl
      · simp only [World.putObj_size]
        have := hk3.size
        omega
      · intro k o hk hko hoc
        rw [ho4 k (by omega)]
        exact hk3.same _ _ (by omega) ((hoth k (by omega) (Array.getElem?_eq_some_iff.1 hko).1).trans hko) hoc
    rintro e a3 W3 hp
    cases e with
    | normal =>
      obtain ⟨hk3, hs3, hkp3, hi3⟩ := hp
      obtain ⟨W4, rfl, hr, ⟨o3, hl3, hc3⟩, hl4, hd4, hkf, ho4⟩ := fin none W3 hk3
      refine ⟨_, _, hr, by rw [hs1]; exact hkf, .inl ⟨rfl, ⟨hI.put _ hi3 (by omega) hl3 hc3, hl4, hd4, fun r h => ⟨(ho r h).1, Nat.lt_of_lt_of_le (ho r h).2 hkf.size⟩⟩, hKt (hKt hk2 hkp3) (hKb _ _ _ _ (by omega) hl3 hc3), fun r hr' => ?_⟩⟩
      have h2 := (ho r hr').1
      rw [ho4 r (by omega), hs3 r hr', hoth r (by omega) (ho r hr').2]
    | ret =>
      obtain ⟨hk3, hi3⟩ := hp
      obtain ⟨W4, rfl, hr, ⟨o3, hl3, hc3⟩, hl4, hd4, hkf, _⟩ := fin (some .ret) W3 hk3
      exact ⟨_, _, hr, by rw [hs1]; exact hkf, .inr ⟨rfl, .ret, (hIx _).putObj _ hi3 (by omega) hl3 hc3, hl4, hd4⟩⟩
    | exit id =>
      obtain ⟨hk3, hi3⟩ := hp
      obtain ⟨W4, rfl, hr, ⟨o3, hl3, hc3⟩, hl4, hd4, hkf, _⟩ := fin (some (.exit id)) W3 hk3
      exact ⟨_, _, hr, by rw [hs1]; exact hkf, .inr ⟨rfl, .exit id, (hIx _).putObj _ hi3 (by omega) hl3 hc3, hl4, hd4⟩⟩
    | goto t =>
      obtain ⟨hk3, hi3⟩ := hp
      obtain ⟨W4, rfl, hr, ⟨o3, hl3, hc3⟩, hl4, hd4, hkf, _⟩ := fin (some (.goto t)) W3 hk3
      exact ⟨_, _, hr, by rw [hs1]; exact hkf, .inr ⟨rfl, .goto t, (hIx _).putObj _ hi3 (by omega) hl3 hc3, hl4, hd4⟩⟩
    | panic ch => exact hp.elim
    | outgrown => exact hp.elim
  · rintro e W2 ⟨⟨v, rfl⟩, (⟨O, hi, hl, hd, _⟩ | ⟨pre, hpre, c, hi, hl, hd⟩)⟩
    · have he := run_endLoop (P := P) hl (by rw [hrc]; simp)
      have hp : (rc .ready none).pending = none := by rw [hrc]
      rw [hp] at he
      exact ⟨none, _, he, hdone B O _ (Nat.le_refl _) (hI.put _ hi (by omega) hl rfl) ((World.putObj_heap_other (by omega)).trans hd)⟩
    · have he := run_endLoop (P := P) hl (by rw [hrc]; simp)
      have hp : (rc .done (some c)).pending = some c := by rw [hrc]
      rw [hp] at he
      exact ⟨some c, _, he, hstop B c pre _ (Nat.le_refl _) hpre ((hIx c).putObj _ hi (by omega) hl rfl) ((World.putObj_heap_other (by omega)).trans hd)⟩
end
end Go.Proofs.YtjopeojnlibagaaGreatDoor
namespace Go.Proofs.YtjopeojnlibagaaGreatDoor
open Go.RowKit Go.Shelf
set_option maxRecDepth 100000
attribute [local go_sem] Oper.semAt_some

theorem treeAll_in {F : Fence} (hF : F = Fence.wide) (n : Nat) (v : Option Addr) (w : World) :
    CallsIn F n Tryz.prog 78 #[.pointer v] w fun e w' => e = .returned (.func (.func 100) #[] #[.pointer (some ⟨w.heap.size, 0, none⟩)]) ∧ w' = w.alloc (.cells #[.pointer v] 104) := by
  have k4 : F.fn 78 := fn_wide hF _
  have hro := round_wide hF
  clear hF
  refine callsIn_of_wp Tryz.func78 rfl k4 ?_ hro
  simp only [Tryz.ntmps78, List.size_toArray, List.length_cons, List.length_nil, Nat.reduceAdd, Nat.reduceSub, Array.replicate_succ, Array.replicate_zero, List.push_toArray, List.append_toArray, List.nil_append, List.cons_append]
  gi_wp2
  go_ret
  exact ⟨rfl, rfl⟩
theorem enumF_snd : ∀ (k : Nat) (l : List El), (enumF k l).map Prod.snd = l
  | _, [] => rfl
  | k, e :: l => by simp [enumF, enumF_snd (k + 1) l]
theorem prefix_snd {a : List (Nat × El)} {l : List El} (h : a <+: enumF 0 l) : a.map Prod.snd <+: l := by
  obtain ⟨r, hr⟩ := h
  exact ⟨r.map Prod.snd, by rw [← List.map_append, hr, enumF_snd]⟩
/-- What stands between two rounds of the loop over the tree's elements. -/
structure MAll (S : Nat → Prop) (w0 : World) (J : List El → (Nat → Prop) → World → Prop) (l b0 : Nat) (es : List El) (Oin : Nat → Prop) (A : World) : Prop where
  own : ∃ O : Nat → Prop, (∀ r, Oin r → O r) ∧ O b0 ∧ J es O A
  yl : Boxed A b0 73 (.func (.yield l) #[] #[])
  kc : KC S w0 A
def zeroE : Array Value := #[.int .i64 0, .int .i64 0, .int .i64 0, .int .i32 0, .int .i64 0]

set_option maxHeartbeats 8000000 in
theorem mall_it {F : Fence} (hF : F = Fence.wide) (n : Nat) (hn : 2 ≤ n) (Bm mb tb : Nat) {R : Rows} {S : Nat → Prop} (t : Option Nd) (w0 w : World) (hb00 : Below w0.heap.size w0 w) (hBm : Bm < w.heap.size) (hmb : mb < w.heap.size) (htb : tb < w.heap.size)
    (hc : w.cell? ⟨Bm, 0, none⟩ = some (.pointer (some ⟨mb, 0, none⟩))) (hm : w.cell? ⟨mb, 0, none⟩ = some (.pointer (some ⟨tb, 0, none⟩))) (hr : w.cell? ⟨tb, 1, none⟩ = some (pvO t)) (hA : ∀ t', t = some t' → t'.At R w0) (hS : Sok S R w0) (hlen : (elsO t).length ≤ 1048576) :
    SeqIt F n Tryz.prog 77 #[.pointer (some ⟨Bm, 0, none⟩)] (fun e : El => #[.agg (ev e)]) (elsO t) (fun A A' => KC S w0 A → KC S w0 A') w := by
  intro l J Jx W hW hJ hJx hY h0
  have hdd : ∀ k : Nat, (F.depth.isSome = true → 1 ≤ k) := fun k h => by rw [depth_wide hF] at h; cases h
  have k1 : F.fn 77 := fn_wide hF _
  have k2 : F.fn 78 := fn_wide hF _
  have k3 : F.fn 100 := fn_wide hF _
  have hro := round_wide hF
  obtain ⟨X, hX⟩ : ∃ X, ((W.alloc (.cells #[.func (.yield l) #[] #[]] 73)).alloc (.cells #[.pointer (some ⟨tb, 0, none⟩)] 104)) = X := ⟨_, rfl⟩
  have x0 := Boxed.new W 73 (.func (.yield l) #[] #[])
  have x1 := Boxed.new (W.alloc (.cells #[.func (.yield l) #[] #[]] 73)) 104 (.pointer (some ⟨tb, 0, none⟩))
  rw [World.size_alloc] at x1
  have hsz : X.heap.size = W.heap.size + 2 := by rw [← hX]; simp
  have y0 : Boxed X W.heap.size 73 (.func (.yield l) #[] #[]) := by rw [← hX]; exact x0.alloc _
  have y1 : X.cell? ⟨W.heap.size + 1, 0, none⟩ = some (.pointer (some ⟨tb, 0, none⟩)) := by
    have := x1.cell
    rw [hX] at this
    exact this
  have hBX : Below W.heap.size W X := by
    rw [← hX]
    exact ((Below.refl _ W).alloc (Nat.le_refl _) _).alloc (by simp) _
  have hgX : W.grownBy X none := ⟨hBX.os, hBX.tape, hBX.output, hBX.size, fun k hk _ => hBX.block k hk⟩
  have hWX' : Below w.heap.size w X := hW.trans (hBX.mono hW.size)
  have hWX : Below w0.heap.size w0 X := hb00.trans (hWX'.mono hb00.size)
  have hw00 := hb00.size
  have hwW := hW.size
  have hrX : X.cell? ⟨tb, 1, none⟩ = some (pvO t) := (hWX'.cell (p := ⟨tb, 1, none⟩) htb).trans hr
  have HS := hid_of' (all_it hF (n - 1) (by omega) (W.heap.size + 1) tb t w0 X hWX (by omega) (by omega) y1 hrX hA hS hlen)
  have HL := hid_of' (fun w' => treeAll_in hF (n - 1) (some ⟨tb, 0, none⟩) w')
  have HF := hid_of' hF
  have h2 : Below W.heap.size W (W.alloc (.cells #[.func (.yield l) #[] #[]] 73)) := (Below.refl _ W).alloc (Nat.le_refl _) _
  have e0 : (W.alloc (.cells #[.func (.yield l) #[] #[]] 73)).cell? ⟨Bm, 0, none⟩ = some (.pointer (some ⟨mb, 0, none⟩)) :=
    (h2.cell (p := ⟨Bm, 0, none⟩) (by show Bm < W.heap.size; omega)).trans ((hW.cell (p := ⟨Bm, 0, none⟩) hBm).trans hc)
  have e1 : (W.alloc (.cells #[.func (.yield l) #[] #[]] 73)).cell? ⟨mb, 0, none⟩ = some (.pointer (some ⟨tb, 0, none⟩)) :=
    (h2.cell (p := ⟨mb, 0, none⟩) (by show mb < W.heap.size; omega)).trans ((hW.cell (p := ⟨mb, 0, none⟩) hmb).trans hm)
  clear hF hWX' h2
  refine callsIn_of_wp_marks Tryz.func77 rfl k1 ?_ hro
  simp only [Tryz.ntmps77, List.size_toArray, List.length_cons, List.length_nil, Nat.reduceAdd, Nat.reduceSub, Array.replicate_succ, Array.replicate_zero, List.push_toArray, List.append_toArray, List.nil_append, List.cons_append]
  gi_wp2_with ((try refine ⟨hdd _, ?_⟩); gi_at_call 78; refine (HL.out _).mono ?_; clear HL; rintro e w' ⟨rfl, rfl⟩)
  have kcX : KC S w0 X := KC.of_below hWX
  refine wpIn_rangeFunc_itA hro (by omega) (gf := 100) (lb := #[.pointer (some ⟨W.heap.size + 1, 0, none⟩)]) rfl k3 (enters_of Tryz.func100 (by kernel_rfl) rfl)
    HS.out (fun h k g => k (h g)) (fun A A' hg g => g.grown hg (fun _ e => by cases e)) (fun A l' o o' _ hl hcc g => g.grown (grownBy_putObj' A l' o') (fun r e => by cases e; exact .inr (.inr ⟨o, hl, hcc⟩))) (Below.refl _ _) (fun _ => rfl)
    (fun pre Oin A => MAll S w0 J l W.heap.size (pre.map Prod.snd) Oin A) (fun c _ A => c = .ret ∧ ∃ q, q <+: elsO t ∧ Jx q A) ?bears ?hIx ?h0
    (fun x b => { tmps := #[.func (.yield l) #[] #[], .pointer (some ⟨Bm, 0, none⟩), .pointer (some ⟨W.heap.size, 0, none⟩), undef, .pointer (some ⟨b, 0, none⟩), .pointer (some ⟨mb, 0, none⟩), .pointer (some ⟨mb, 0, none⟩), .pointer (some ⟨mb, 0, none⟩), .pointer (some ⟨tb, 0, none⟩), .func (.func 100) #[] #[.pointer (some ⟨W.heap.size + 1, 0, none⟩)], .int .i64 (x.1 : Int), .agg (ev x.2), undef, undef, undef, undef], defers := [] }) (fun x => .cells (ev x.2) 66)
    (fun x A => (A.alloc (.cells #[.int .i64 0, .int .i64 0, .int .i64 0, .int .i32 0, .int .i64 0] 66)).setRow A.heap.size (ev x.2)) ?ax ?assign ?body ?done ?stop
  case bears =>
    rintro pre O O' A A' row ⟨⟨Oj, h1, h2, h4⟩, yl, kc⟩ hg hr hO
    rw [hsz] at hr
    refine ⟨⟨fun r => Oj r ∨ (A.heap.size ≤ r ∧ r < A'.heap.size), fun r hr' => (hO r hr').elim (fun h => .inl (h1 r h)) .inr, .inl h2, ?_⟩, yl.kept hg (fun e => ?_), kc.grown hg (fun r e => ?_)⟩
    · refine hJ _ Oj _ A A' row h4 hg (fun r e => ⟨?_, (hr r e).2.elim (fun h => .inl (h1 r h)) .inr⟩) (fun r h => h)
      have := (hr r e).1
      omega
    · have := (hr W.heap.size e.symm).1
      omega
    · have := (hr r e).1
      exact .inl (by omega)
  case hIx =>
    rintro c pre A A' row ⟨h1, q, hq, hj⟩ hg hr
    rw [hsz] at hr
    exact ⟨h1, q, hq, hJx q A A' row hj hg (fun r e => ⟨by have := (hr r e).1; omega, (hr r e).2⟩)⟩
  case h0 =>
    refine ⟨⟨fun r => r = W.heap.size, fun _ h => h.elim, rfl, ?_⟩, y0, kcX⟩
    exact hJ [] (fun _ => False) _ W X none h0 hgX (fun _ e => by cases e) (fun r hr => .inr (by rw [hr]; omega))
  case ax =>
    intro x A
    exact ⟨grown_alloc_row, by simp, (row_new A #[.int .i64 0, .int .i64 0, .int .i64 0, .int .i32 0, .int .i64 0] 66).put (ev x.2)⟩
  case assign =>
    intro l' x W' K hK
    simp only [encE]
    gi_wp2_with (refine wpLIn_storeE (e := x.2) rfl _ _ rfl rfl rfl (row_new W' _ _) ?_)
    exact hK
  case body =>
    rintro l' pre x Oin A b ⟨⟨O, o1, o2, o4⟩, yl, kc⟩ hpre hOin hb1 hb2 hbx
    have hp2 : (pre.map Prod.snd ++ [x.2]) <+: elsO t := by
      have := prefix_snd hpre
      rwa [List.map_append] at this
    have rE : RowAt b (ev x.2) 66 A := hbx
    obtain ⟨fn, tmps, assign, body, hy, hR⟩ := yield_any HF.out (n - 1 - 1 - 1) (hY (pre.map Prod.snd) x.2 O A o4 hp2)
    have HR := hid_of' (RoundIn.inRound l' (hR.mono (R' := fun e2 W2 => (e2 = .returned (.bool true) ∧ J (pre.map Prod.snd ++ [x.2]) O W2 ∧ KC S w0 W2 ∧ KeepsSet O A W2 ∧ KeepsFrom W.heap.size A W2) ∨
        (e2 = .returned (.bool false) ∧ Jx (pre.map Prod.snd ++ [x.2]) W2 ∧ KeepsFrom W.heap.size A W2)) (fun e2 W2 ⟨g1, g2⟩ => g2.elim
      (fun ⟨a1, a2, a3, a4⟩ => .inl ⟨a1, a2, a3 kc, a4, g1⟩) (fun ⟨a1, a2⟩ => .inr ⟨a1, a2, g1⟩))))
    have c0 := yl.cell
    have HP := hid_of' hp2
    clear hR hp2 hY HS hX x0 x1
    gi_wp2_with (first | (refine wpLIn_loadE rfl _ rfl rfl rE.in ?_) | ((try refine ⟨hdd _, ?_⟩); refine HR.out.mono ?_; clear HR; rintro e2 W2 (⟨rfl, hj2, kc2, hks2, hkf2⟩ | ⟨rfl, hx2, hkf2⟩)))
    · refine ⟨⟨hkf2.size, fun q o hq => hkf2.same q o (by omega)⟩, fun r hr => hks2 r (o1 r hr), fun _ => kc2, ⟨⟨O, o1, o2, ?_⟩, (hks2 _ o2).trans yl, kc2⟩⟩
      rw [List.map_append]
      exact hj2
    · exact ⟨⟨hkf2.size, fun q o hq => hkf2.same q o (by omega)⟩, rfl, _, HP.out, hx2⟩
  case done =>
    rintro D O W2 hD ⟨⟨Oj, _, _, h4⟩, _, _⟩ hK
    rw [hsz] at hD
    rw [enumF_snd] at h4
    gi_wp2
    refine ⟨by simp, .inl ⟨_, _, rfl, run_takeDeferred hK, ?_⟩⟩
    exact ⟨_, results_none rfl _ _ _, ⟨_, rfl⟩, .inl ⟨Oj, hJ.put _ h4 (by omega) hK rfl⟩⟩
  case stop =>
    rintro D c pre W2 hD hpre ⟨rfl, q, hq, hj⟩ hK
    rw [hsz] at hD
    gi_wp2
    refine ⟨by simp, .inl ⟨_, _, rfl, run_takeDeferred hK, ?_⟩⟩
    exact ⟨_, results_none rfl _ _ _, ⟨_, rfl⟩, .inr ⟨q, hq, hJx.putObj _ hj (by omega) hK rfl⟩⟩
end Go.Proofs.YtjopeojnlibagaaGreatDoor
namespace Go.Proofs.YtjopeojnlibagaaGreatDoor
open Go.RowKit Go.Shelf
set_option maxRecDepth 100000
attribute [local go_sem] Oper.semAt_some

theorem infoEl : (Tryz.prog.info? 66).map (fun i => (i.zero, i.size, i.bytes)) = some (some (.agg #[.int .i64 0, .int .i64 0, .int .i64 0, .int .i32 0, .int .i64 0]), 5, 40) := by kernel_rfl
theorem modelAll_in {F : Fence} (hF : F = Fence.wide) (n : Nat) (v : Option Addr) (w : World) :
    CallsIn F n Tryz.prog 48 #[.pointer v] w fun e w' => e = .returned (.func (.func 77) #[] #[.pointer (some ⟨w.heap.size, 0, none⟩)]) ∧ w' = w.alloc (.cells #[.pointer v] 25) := by
  have k4 : F.fn 48 := fn_wide hF _
  have hro := round_wide hF
  clear hF
  refine callsIn_of_wp Tryz.func48 rfl k4 ?_ hro
  simp only [Tryz.ntmps48, List.size_toArray, List.length_cons, List.length_nil, Nat.reduceAdd, Nat.reduceSub, Array.replicate_succ, Array.replicate_zero, List.push_toArray, List.append_toArray, List.nil_append, List.cons_append]
  gi_wp2
  go_ret
  exact ⟨rfl, rfl⟩
theorem lenMv_ok {mb : Nat} {l : List El} {w : World} (h : MvAt mb l w) : Calls Tryz.prog 47 #[pv mb] w fun r w' => r = .returned (.int .i64 (l.length : Int)) ∧ w' = w := by
  obtain ⟨tb, v, R, hr, ht⟩ := h
  have HL := hid_of' (len_L ht)
  have c0 : w.cell? ⟨mb, 0, none⟩ = some (.pointer (some ⟨tb, 0, none⟩)) := hr.cell 0
  unfold pv at HL ⊢
  go_enter Tryz.func47, Tryz.ntmps47
  go_wp2_with (go_at_call 76; refine HL.out.mono ?_; rintro r w1 ⟨rfl, hw⟩; obtain rfl := hw.symm)
  go_ret
  exact ⟨rfl, rfl⟩
/-- A tree's root. -/
theorem TrL.root {R : Rows} {b ch : Nat} {l : List El} {w : World} (h : TrL R b ch l w) : ∃ t : Option Nd, w.cell? ⟨b, 1, none⟩ = some (pvO t) ∧ b < w.heap.size ∧ (∀ t', t = some t' → t'.At R w) ∧ elsO t = l := by
  obtain ⟨ls, v, hr, hO, hfl, _⟩ := h
  rcases hO with ⟨rfl, rfl⟩ | ⟨t, rfl, h1, h2, rfl⟩
  · exact ⟨none, hr.cell 1, hr.lt, fun _ e => (by cases e), hfl⟩
  · exact ⟨some t, hr.cell 1, hr.lt, fun _ e => (by cases e; exact h1), by rw [← hfl]; exact Nd.els_flat ..⟩

theorem ev_cells (A : World) (x : El) : ∀ (j : Nat) (u : Value), (ev x).toList[j]? = some u → (A.alloc (.cells (ev x) 66)).cell? ((⟨A.heap.size, 0, none⟩ : Addr).add j) = some u := fun j u h => by
  have h1 := (row_new A (ev x) 66).cell j
  rw [show (⟨A.heap.size, 0, none⟩ : Addr).add j = ⟨A.heap.size, j, none⟩ from by simp [Addr.add]; omega, h1]
  simpa using h
set_option maxHeartbeats 2000000 in
theorem elements_ok {mb : Nat} {l : List El} {w : World} (h : MvAt mb l w) (hl : l.length ≤ 1048576) :
    Calls Tryz.prog 17 #[pv mb] w fun r w' => ∃ v, r = .returned v ∧ OwnE w.heap.size v l w' ∧ Below w.heap.size w w' := by
  have HLn := lenMv_ok h
  obtain ⟨tb, v0, R, hr, ht⟩ := h
  obtain ⟨t, hroot, htb, hA, hels⟩ := ht.root
  have hmb := hr.lt
  have hm0 : w.cell? ⟨mb, 0, none⟩ = some (.pointer (some ⟨tb, 0, none⟩)) := hr.cell 0
  refine calls_out (n := 9) fun F hF => ?_
  have hdd : ∀ k : Nat, (F.depth.isSome = true → 1 ≤ k) := fun k h => by rw [depth_wide hF] at h; cases h
  have k1 : F.fn 17 := fn_wide hF _
  have k2 : F.fn 48 := fn_wide hF _
  have k3 : F.fn 77 := fn_wide hF _
  have k4 : F.fn 47 := fn_wide hF _
  have hro := round_wide hF
  obtain ⟨i0, hi, hz0, hz1, hz2⟩ := info_parts infoEl
  have HL := hid_of' (calls_in (n := 8) hF HLn)
  have HAl := hid_of' (fun w' => modelAll_in hF 8 (some ⟨mb, 0, none⟩) w')
  have HS := hid_of' (fun (Bm : Nat) (X : World) (hX : Below w.heap.size w X) (hBm : Bm < X.heap.size) (hc : X.cell? ⟨Bm, 0, none⟩ = some (.pointer (some ⟨mb, 0, none⟩))) =>
    mall_it hF 8 (by omega) Bm mb tb (R := R) (S := fun _ => False) t w X hX hBm (Nat.lt_of_lt_of_le hmb hX.size) (Nat.lt_of_lt_of_le htb hX.size) hc ((hX.cell (p := ⟨mb, 0, none⟩) hmb).trans hm0) ((hX.cell (p := ⟨tb, 1, none⟩) htb).trans hroot) hA (fun _ h => h.elim) (by rw [hels]; exact hl))
  unfold pv at HL ⊢
  clear hF HLn hr ht hm0 hroot
  refine callsIn_of_wp_marks Tryz.func17 rfl k1 ?_ hro
  simp only [Tryz.ntmps17, List.size_toArray, List.length_cons, List.length_nil, Nat.reduceAdd, Nat.reduceSub, Array.replicate_succ, Array.replicate_zero, List.push_toArray, List.append_toArray, List.nil_append, List.cons_append]
  gi_wp2_with (first
    | ((try refine ⟨hdd _, ?_⟩); gi_at_call 47; refine HL.out.mono ?_; clear HL; rintro e w' ⟨rfl, hw⟩; obtain rfl := hw.symm)
    | (refine wpListIn_make_own w rfl _ _ 22 rfl w.heap.size 66 i0 _ 5 Tryz.underlying22 hi hz0 hz1 .i64 .i64 (l.length : Int) l.length rfl rfl rfl (by rw [hz2]; omega) (by have hmx : maxLen = 9223372036854775807 := rfl; omega) (Nat.le_refl _) ?_; intro w1 hown1 hgr1)
    | ((try refine ⟨hdd _, ?_⟩); gi_at_call 48; refine (HAl.out _).mono ?_; clear HAl; rintro e w' ⟨rfl, rfl⟩))
  have hb1 : Below w.heap.size w w1 := ⟨hgr1.os, hgr1.tape, hgr1.output, hgr1.size, fun k hk => hgr1.block k hk (fun e => by cases e)⟩
  have hab : w.heap.size < w1.heap.size := (hown1.lt w.heap.size rfl).2
  have x0 := (Boxed.new w1 22 (.slice (some ⟨w.heap.size, 0, none⟩) 0 l.length)).alloc (.cells #[.pointer (some ⟨mb, 0, none⟩)] 25)
  have x1 := Boxed.new (w1.alloc (.cells #[(.slice (some ⟨w.heap.size, 0, none⟩) 0 l.length)] 22)) 25 (.pointer (some ⟨mb, 0, none⟩))
  rw [World.size_alloc] at x1
  have ho0 := (hown1.alloc (.cells #[(.slice (some ⟨w.heap.size, 0, none⟩) 0 l.length)] 22)).alloc (.cells #[.pointer (some ⟨mb, 0, none⟩)] 25)
  have hBX := bgo hb1 (below_two w1 (.cells #[(.slice (some ⟨w.heap.size, 0, none⟩) 0 l.length)] 22) (.cells #[.pointer (some ⟨mb, 0, none⟩)] 25))
  have hsz : ((w1.alloc (.cells #[(.slice (some ⟨w.heap.size, 0, none⟩) 0 l.length)] 22)).alloc (.cells #[.pointer (some ⟨mb, 0, none⟩)] 25)).heap.size = w1.heap.size + 2 := by simp
  generalize (w1.alloc (.cells #[(.slice (some ⟨w.heap.size, 0, none⟩) 0 l.length)] 22)).alloc (.cells #[.pointer (some ⟨mb, 0, none⟩)] 25) = X at x0 x1 ho0 hBX hsz ⊢
  clear hown1 hgr1
  refine wpIn_rangeFunc_itA hro (by omega) (gf := 77) (lb := #[.pointer (some ⟨w1.heap.size + 1, 0, none⟩)]) rfl k3 (enters_of Tryz.func77 (by kernel_rfl) rfl)
    (HS.out (w1.heap.size + 1) X hBX (by omega) x1.cell) (fun h k g => k (h g)) (fun A A' hg g => g.grown hg (fun _ e => by cases e)) (fun A l' o o' _ hl hcc g => g.grown (grownBy_putObj' A l' o') (fun r e => by cases e; exact .inr (.inr ⟨o, hl, hcc⟩))) (Below.refl _ _) (fun _ => rfl)
    (fun pre _ A => Boxed A w1.heap.size 22 (.slice (some ⟨w.heap.size, 0, none⟩) pre.length l.length) ∧ A.ownsRow w.heap.size 66 5 (.slice (some ⟨w.heap.size, 0, none⟩) pre.length l.length) pre.length (ecells pre) ∧ Below w.heap.size w A) (fun _ _ _ => False) ?bears ?hIx ?h0
    (fun x b => { tmps := #[.pointer (some ⟨mb, 0, none⟩), undef, .slice none 0 0, .pointer (some ⟨w1.heap.size, 0, none⟩), .pointer (some ⟨b, 0, none⟩), .pointer (some ⟨mb, 0, none⟩), .int .i64 (l.length : Int), (.slice (some ⟨w.heap.size, 0, none⟩) 0 l.length), .pointer (some ⟨mb, 0, none⟩), .func (.func 77) #[] #[.pointer (some ⟨w1.heap.size + 1, 0, none⟩)], .agg (ev x), undef, undef, undef, undef, undef], defers := [] }) (fun x => .cells (ev x) 66)
    (fun x A => (A.alloc (.cells #[.int .i64 0, .int .i64 0, .int .i64 0, .int .i32 0, .int .i64 0] 66)).setRow A.heap.size (ev x)) ?ax ?assign ?body ?done ?stop
  case bears =>
    rintro pre O O' A A' row ⟨hb, ho, hB⟩ hg hr hO
    rw [hsz] at hr
    refine ⟨hb.kept hg (fun e => ?_), ho.kept hg (.inr fun e => ?_), hB.grown hg hB.size (fun j e => ?_)⟩
    · have := (hr _ e.symm).1
      omega
    · have h2 : row = some w.heap.size := by simpa [Value.ownBlock] using e.symm
      have := (hr _ h2).1
      omega
    · have := (hr _ e).1
      omega
  case hIx =>
    intro c pre A A' row h
    exact h.elim
  case h0 => exact ⟨x0, ho0, hBX⟩
  case ax =>
    intro x A
    exact ⟨grown_alloc_row, by simp, (row_new A #[.int .i64 0, .int .i64 0, .int .i64 0, .int .i32 0, .int .i64 0] 66).put (ev x)⟩
  case assign =>
    intro l' x W' K hK
    gi_wp2_with (refine wpLIn_storeE (e := x) rfl _ _ rfl rfl rfl (row_new W' _ _) ?_)
    exact hK
  case body =>
    rintro l' pre x O A b ⟨hbx, how, hB⟩ hpre hO hb2 hb3 hbb
    have hlt : pre.length < l.length := by
      have := hpre.length_le
      rw [hels, List.length_append, List.length_singleton] at this
      exact this
    have rE : RowAt b (ev x) 66 A := hbb
    have c0 := hbx.cell
    gi_wp2_with (first | (refine wpLIn_loadE rfl _ rfl rfl rE.in ?_; unfold ev) | (gi_at_builtin; refine wpListIn_append_fits _ rfl _ _ 22 rfl w.heap.size 66 i0 5 Tryz.underlying22 hi hz1 w.heap.size pre.length l.length (ecells pre) rfl (how.alloc _) ⟨A.heap.size, 0, none⟩ 1 1 (ev x).toList rfl rfl (ev_cells A x) (by simp [ev, Value.oneCell']) (by omega) ?_; intro w2 hown2 hgr2; have hbx2 := (hbx.alloc _).kept hgr2 (by simp; omega); have d0 := hbx2.cell; have f0 := hbx2.frozen))
    have hlen : (pre ++ [x]).length = pre.length + 1 := by simp
    have hB2 := ((hB.alloc hB.size (.cells (ev x) 66)).grown hgr2 (by rw [World.size_alloc]; have := hB.size; omega) (fun j e => by cases e; exact Nat.le_refl _)).setCell (p := ⟨w1.heap.size, 0, none⟩) (by show _ ≤ w1.heap.size; omega) (.slice (some ⟨w.heap.size, 0, none⟩) (pre.length + 1) l.length)
    refine ⟨?_, fun r hr => ?_, fun _ => KC.of_below hB2, ?_, ?_, hB2⟩
    · refine (KeepsFrom.of_grownBy (World.grownBy_alloc A _ none) (fun _ h => by cases h)).trans ((KeepsFrom.of_grownBy hgr2 (fun r e => ?_)).trans ((KeepsOthers.setCell _ _ _).from _))
      cases e
      rw [hsz]
      omega
    · have h1 := hO r hr
      rw [hsz] at h1
      rw [Below.heap_setCell _ _ _ _ (by show r ≠ w1.heap.size; omega), hgr2.block r (by rw [World.size_alloc]; omega) (by simp; omega), Below.heap_alloc A _ r (by omega)]
    · rw [hlen]; exact hbx2.set _
    · rw [hlen, ecells_app]
      exact hown2.kept (grownBy_setCell' w2 _ _) (.inr (by simp [Value.ownBlock]; omega))
  case done =>
    rintro D O W2 hD ⟨hb, ho, hB⟩ hK
    rw [hels] at ho
    have c0 := hb.cell
    gi_wp2
    refine ⟨by simp, .inl ⟨_, _, rfl, run_takeDeferred hK, ?_⟩⟩
    exact ⟨_, results_tmp rfl _ _ _, .slice (some ⟨w.heap.size, 0, none⟩) l.length l.length, rfl, ownsRow_putObj ho _ hK rfl, (hB.grown (grownBy_putObj' W2 D _) hB.size (fun j e => by cases e; omega))⟩
  case stop =>
    rintro D c pre W _ _ h _
    exact h.elim
end Go.Proofs.YtjopeojnlibagaaGreatDoor
namespace Go.Proofs.YtjopeojnlibagaaGreatDoor
open Go.RowKit Go.Extern.Stop Go.Stop Go.Extern
set_option maxRecDepth 100000

theorem info_byteV : (Tryz.prog.info? 5).map (fun i => (i.zero, i.size, i.bytes)) = some (some (.int .u8 0), 1, 1) := by kernel_rfl
/-- Bytes were put behind a row: in its block, or in a new one. -/
def ArO (B : Nat) (v : Value) (n : Nat) (xs ys : List Value) (w : World) (e : Ending) (w' : World) : Prop := ∃ v', e = .returned v' ∧ w'.ownsRow B 5 1 v' (n + ys.length) (xs ++ ys) ∧ (∃ o, (w.alloc o).grownBy w' v.ownBlock) ∧ (v'.ownBlock = v.ownBlock ∨ ∃ k, v'.ownBlock = some k ∧ w.heap.size ≤ k)

theorem rightC_is {c : Int} (h : rightC c = true) : 0 ≤ c ∧ c ≤ 1114111 ∧ (c < 55296 ∨ 57343 < c) := by
  unfold rightC at h
  simp at h
  omega
theorem grown_set (W : World) (b i : Nat) (v : Value) : W.grownBy (W.setCell ⟨b, i, none⟩ v) (some b) := ⟨rfl, rfl, rfl, by simp [World.setCell], fun k _ hk => Below.heap_setCell _ _ _ _ (fun e => hk (by simp [e]))⟩
theorem below_grownV {w w' : World} (h : Below w.heap.size w w') : w.grownBy w' none := ⟨h.os, h.tape, h.output, h.size, fun k hk _ => h.block k hk⟩
theorem grown_freeze (w : World) (g n : Nat) : w.grownBy (w.drew.freeze ⟨g, 0, none⟩ n) (some g) := by
  have h := Lib.below_freeze (Below.drew (Below.refl 0 w)) (p := ⟨g, 0, none⟩) (Nat.zero_le _) n
  refine ⟨h.os, h.tape, h.output, h.size, fun k hk hne => ?_⟩
  have hk' : k ≠ g := fun e => hne (by rw [e])
  show (w.drew.freeze ⟨g, 0, none⟩ n).heap[k]? = w.drew.heap[k]?
  unfold World.freeze
  split
  · rfl
  · simp only [Array.getElem?_modify]
    rw [if_neg (fun e => hk' e.symm)]
end Go.Proofs.YtjopeojnlibagaaGreatDoor
namespace Go.Proofs.YtjopeojnlibagaaGreatDoor
open Go.RowKit Go.Shelf
set_option maxRecDepth 100000
attribute [local go_sem] Oper.semAt_some

theorem vis_snoc_hid {pre : List El} {x : El} (h : x.hd > 0) : vis (pre ++ [x]) = vis pre := by rw [vis_app, vis_hid _ h]; simp [vis]
theorem vis_snoc_live {pre : List El} {x : El} (h : ¬ x.hd > 0) : vis (pre ++ [x]) = vis pre ++ [x.ch] := by rw [vis_app, vis_live _ h]; rfl
theorem vis_leV : ∀ l : List El, (vis l).length ≤ l.length
  | [] => Nat.le_refl _
  | e :: l => by
    have := vis_leV l
    by_cases h : e.hd > 0
    · rw [vis_hid _ h, List.length_cons]; omega
    · rw [vis_live _ h, List.length_cons, List.length_cons]; omega
theorem byteCells_app (a b : List UInt8) : Lib.byteCells (a ++ b) = Lib.byteCells a ++ Lib.byteCells b := by simp [Lib.byteCells]
theorem enc_nil {v : List Int} (h : encL v = []) : v = [] := by
  cases v with
  | nil => rfl
  | cons c v =>
    have h1 : encL (c :: v) = Lib.encodeRune c ++ encL v := by simp [encL]
    rw [h1] at h
    have h2 := (List.append_eq_nil_iff.1 h).1
    have h3 := (Lib.runeCells_le c).1
    rw [Lib.runeCells_length, h2] at h3
    simp at h3
theorem byteCells_lenV (a : List UInt8) : (Lib.byteCells a).length = a.length := by simp [Lib.byteCells]

end Go.Proofs.YtjopeojnlibagaaGreatDoor
