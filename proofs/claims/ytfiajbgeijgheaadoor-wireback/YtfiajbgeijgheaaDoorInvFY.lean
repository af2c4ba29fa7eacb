
/-
  A region that draws its order, in which memory is made and what the region itself has laid is written: whatever comes up, in whatever order its edges allow.
-/
import Derived.Test.YtfiajbgeijgheaaDoorInvY
import Derived.Laws.Tables
import Derived.Below
namespace Go.Proofs.YtfiajbgeijgheaaDoor
open Go.RowKit
set_option maxRecDepth 100000

/-- Nothing has turned but what S names. -/
structure KeptP (S : Nat → Prop) (w w' : World) : Prop where
  os : w'.os = w.os
  tape : w'.tape = w.tape
  output : w'.output = w.output
  size : w.heap.size ≤ w'.heap.size
  block : ∀ k, k < w.heap.size → ¬ S k → w'.heap[k]? = w.heap[k]?
theorem KeptP.refl (S : Nat → Prop) (w : World) : KeptP S w w := ⟨rfl, rfl, rfl, Nat.le_refl _, fun _ _ _ => rfl⟩
theorem KeptP.after {S T : Nat → Prop} {a b c : World} (h : Below a.heap.size a b) (k : KeptP T b c) (hs : ∀ s, T s → s < a.heap.size → S s) : KeptP S a c :=
  ⟨k.os.trans h.os, k.tape.trans h.tape, k.output.trans h.output, Nat.le_trans h.size k.size, fun i hi hn => (k.block i (Nat.lt_of_lt_of_le hi h.size) fun ht => hn (hs i ht hi)).trans (h.block i hi)⟩

section
variable {P : Program} {Q : Exit → Act → World → Prop}

/-- No guard; what binds goes behind earlier ones alone; no two write one slot. -/
def regOkF (ops : Array Oper) (n : Nat) : Bool := (List.range ops.size).all fun i => match ops[i]? with
  | none => true
  | some o => o.guard.isNone && o.after.all (fun e => !Region.binds .any e || decide (e.on < i)) && (match o.dst with
    | none => true
    | some d => decide (d < n) && (List.range i).all fun j => match ops[j]? with
      | some oj => oj.dst != some d
      | none => true)
theorem regOkF_at {ops : Array Oper} {n : Nat} (h : regOkF ops n = true) (i : Nat) (o : Oper) (ho : ops[i]? = some o) :
    o.guard = none ∧ (∀ e ∈ o.after, Region.binds .any e = true → e.on < i) ∧ ∀ d, o.dst = some d → d < n ∧ ∀ j oj, j < i → ops[j]? = some oj → oj.dst ≠ some d := by
  have hi : i < ops.size := (Array.getElem?_eq_some_iff.1 ho).1
  have := (List.all_eq_true.1 h) i (List.mem_range.2 hi)
  simp only [ho, Bool.and_eq_true] at this
  obtain ⟨⟨h1, h2⟩, h3⟩ := this
  refine ⟨by simpa using h1, fun e he hb => ?_, fun d hd => ?_⟩
  · have := (Array.all_eq_true_iff_forall_mem.1 h2) e he
    rw [hb] at this
    simpa using this
  · rw [hd] at h3
    simp only [Bool.and_eq_true, decide_eq_true_eq] at h3
    refine ⟨h3.1, fun j oj hj hoj => ?_⟩
    have := (List.all_eq_true.1 h3.2) j (List.mem_range.2 hj)
    simp only [hoj] at this
    simpa using this
theorem ready_nilF {ops : Array Oper} {n : Nat} (hok : regOkF ops n = true) {listed : Array Bool} (hs : listed.size = ops.size) (h0 : Region.ready .any ops listed = []) (i : Nat) (hi : i < ops.size) : listed.getD i false = true := by
  induction i using Nat.strongRecOn with
  | _ i ih =>
    have ho : ops[i]? = some ops[i] := Array.getElem?_eq_getElem hi
    cases hl : listed.getD i false with
    | true => rfl
    | false =>
      exfalso
      have hmem : i ∈ Region.ready .any ops listed := mem_ready.2 ⟨by
        have hil : i < listed.size := by omega
        simp only [Array.getD_eq_getD_getElem?, Array.getElem?_eq_getElem hil, Option.getD_some] at hl ⊢
        exact hl, ops[i], ho, fun e he hb => by
        have hlt := (regOkF_at hok i _ ho).2.1 e he hb
        exact ih e.on hlt (by omega)⟩
      rw [h0] at hmem
      cases hmem
theorem replF (m j : Nat) : (Array.replicate m false).getD j false = false := by
  simp only [Array.getD_eq_getD_getElem?, Array.getElem?_replicate]
  split <;> rfl

/-- The blocks that the region itself has laid. -/
def Laids (A : Nat → Option (TypeId × Nat)) (l : Nat → Bool) (vals : Nat → Value) (b : Nat) : Prop := ∃ f, A f ≠ none ∧ l f = true ∧ vals f = .pointer (some ⟨b, 0, none⟩)

/-- What holds when so much has come up: 'R' what can be said of a plain operation's value; 'A' which operations lay a block, of which type and size; 'K' which ones write, into the block of which, what which has yielded. -/
structure FlJ (X : World) (R : Nat → Value → World → Prop) (A : Nat → Option (TypeId × Nat)) (K : Nat → Option (Nat × Nat)) (l : Nat → Bool) (vals : Nat → Value) (x : World) : Prop where
  below : Below X.heap.size X x
  rel : ∀ j, A j = none → K j = none → l j = true → ∀ x', KeptP (Laids A l vals) x x' → R j (vals j) x'
  blk : ∀ f t n, A f = some (t, n) → l f = true → ∃ b cs, vals f = .pointer (some ⟨b, 0, none⟩) ∧ X.heap.size ≤ b ∧ b < x.heap.size ∧ x.heap[b]? = some (.cells cs t (0, 0)) ∧ cs.size = n ∧ ∀ k s, K k = some (f, s) → l k = true → vals s = .agg cs
  apart : ∀ f f', A f ≠ none → A f' ≠ none → f ≠ f' → l f = true → l f' = true → vals f ≠ vals f'
  src : ∀ k f s, K k = some (f, s) → l k = true → l f = true ∧ l s = true

theorem FlJ.plain {X x x' : World} {R : Nat → Value → World → Prop} {A : Nat → Option (TypeId × Nat)} {K : Nat → Option (Nat × Nat)} {l l' : Nat → Bool} {vals : Nat → Value} (h : FlJ X R A K l vals x) {i : Nat} (hi : l i = false) (hA : A i = none) (hK : K i = none) (hb : Below x.heap.size x x') {v : Value} (hl' : ∀ j, l' j = if j = i then true else l j)
    (hR : ∀ x'', KeptP (Laids A l vals) x' x'' → R i v x'') : FlJ X R A K l' (upd vals i v) x' := by
  have up_ne : ∀ {j}, j ≠ i → upd vals i v j = vals j := fun h => if_neg h
  have up_self : upd vals i v i = v := if_pos rfl
  have l_ne : ∀ {j}, j ≠ i → l' j = l j := fun h => by rw [hl', if_neg h]
  have hLd : ∀ b, Laids A l' (upd vals i v) b → Laids A l vals b := fun b ⟨f, h1, h2, h3⟩ => by
    have hf : f ≠ i := fun e => h1 (e ▸ hA)
    exact ⟨f, h1, by rw [← l_ne hf]; exact h2, by rw [← up_ne hf]; exact h3⟩
  refine ⟨h.below.trans (hb.mono h.below.size), ?_, ?_, ?_, ?_⟩
  · intro j hj1 hj2 hlj x'' hk
    by_cases e : j = i
    · subst e; rw [up_self]; exact hR x'' ⟨hk.os, hk.tape, hk.output, hk.size, fun k hk1 hk2 => hk.block k hk1 fun hs => hk2 (hLd k hs)⟩
    · rw [up_ne e]; exact h.rel j hj1 hj2 (by rw [← l_ne e]; exact hlj) x'' (hk.after hb fun s hs _ => hLd s hs)
  · intro f t n hf hlf
    have hfi : f ≠ i := fun e => by rw [e, hA] at hf; cases hf
    obtain ⟨b, cs, e1, e2, e3, e4, e5, e6⟩ := h.blk f t n hf (by rw [← l_ne hfi]; exact hlf)
    refine ⟨b, cs, by rw [up_ne hfi]; exact e1, e2, Nat.lt_of_lt_of_le e3 hb.size, by rw [hb.block b e3]; exact e4, e5, fun k s hks hlk => ?_⟩
    have hki : k ≠ i := fun e => by rw [e, hK] at hks; cases hks
    rw [l_ne hki] at hlk
    have hsi : s ≠ i := fun e => by have := (h.src k f s hks hlk).2; rw [e, hi] at this; cases this
    rw [up_ne hsi]; exact e6 k s hks hlk
  · intro f f' h1 h2 h3 h4 h5
    have a1 : f ≠ i := fun e => h1 (e ▸ hA)
    have a2 : f' ≠ i := fun e => h2 (e ▸ hA)
    rw [up_ne a1, up_ne a2]
    exact h.apart f f' h1 h2 h3 (by rw [← l_ne a1]; exact h4) (by rw [← l_ne a2]; exact h5)
  · intro k f s hks hlk
    have hki : k ≠ i := fun e => by rw [e, hK] at hks; cases hks
    rw [l_ne hki] at hlk
    obtain ⟨p1, p2⟩ := h.src k f s hks hlk
    exact ⟨by rw [hl']; split; rfl; exact p1, by rw [hl']; split; rfl; exact p2⟩

theorem FlJ.new {X x : World} {R : Nat → Value → World → Prop} {A : Nat → Option (TypeId × Nat)} {K : Nat → Option (Nat × Nat)} {l l' : Nat → Bool} {vals : Nat → Value} (h : FlJ X R A K l vals x) {i n : Nat} {t : TypeId} (hi : l i = false) (hA : A i = some (t, n)) (hK : K i = none) (hl' : ∀ j, l' j = if j = i then true else l j) {cs : Array Value} (hn : cs.size = n) :
    FlJ X R A K l' (upd vals i (.pointer (some ⟨x.heap.size, 0, none⟩))) (x.alloc (.cells cs t)) := by
  have hb : Below x.heap.size x (x.alloc (.cells cs t)) := (Below.refl _ _).alloc (Nat.le_refl _) _
  have hlast : (x.alloc (.cells cs t)).heap[x.heap.size]? = some (.cells cs t (0, 0)) := by show (x.heap.push _)[x.heap.size]? = _; simp
  have hsz : (x.alloc (.cells cs t)).heap.size = x.heap.size + 1 := by show (x.heap.push _).size = _; simp
  have up_ne : ∀ {j}, j ≠ i → upd vals i (.pointer (some ⟨x.heap.size, 0, none⟩)) j = vals j := fun h => if_neg h
  have up_self : upd vals i (.pointer (some ⟨x.heap.size, 0, none⟩)) i = .pointer (some ⟨x.heap.size, 0, none⟩) := if_pos rfl
  have l_ne : ∀ {j}, j ≠ i → l' j = l j := fun h => by rw [hl', if_neg h]
  refine ⟨h.below.trans (hb.mono h.below.size), ?_, ?_, ?_, ?_⟩
  · intro j hj1 hj2 hlj x'' hk
    have e : j ≠ i := fun e => by rw [e, hA] at hj1; cases hj1
    rw [up_ne e]
    refine h.rel j hj1 hj2 (by rw [← l_ne e]; exact hlj) x'' (hk.after hb fun s ⟨f, h1, h2, h3⟩ hs => ?_)
    by_cases hf : f = i
    · rw [hf, up_self] at h3; cases h3; omega
    · exact ⟨f, h1, by rw [← l_ne hf]; exact h2, by rw [← up_ne hf]; exact h3⟩
  · intro f t' n' hf hlf
    by_cases e : f = i
    · subst e
      rw [hA] at hf; cases hf
      refine ⟨x.heap.size, cs, up_self, h.below.size, by omega, hlast, hn, fun k s hks hlk => ?_⟩
      have hki : k ≠ f := fun e => by rw [e, hK] at hks; cases hks
      rw [l_ne hki] at hlk
      have := (h.src k f s hks hlk).1
      rw [hi] at this; cases this
    · obtain ⟨b, ds, e1, e2, e3, e4, e5, e6⟩ := h.blk f t' n' hf (by rw [← l_ne e]; exact hlf)
      refine ⟨b, ds, by rw [up_ne e]; exact e1, e2, by omega, by rw [hb.block b e3]; exact e4, e5, fun k s hks hlk => ?_⟩
      have hki : k ≠ i := fun e => by rw [e, hK] at hks; cases hks
      rw [l_ne hki] at hlk
      have hsi : s ≠ i := fun e => by have := (h.src k f s hks hlk).2; rw [e, hi] at this; cases this
      rw [up_ne hsi]; exact e6 k s hks hlk
  · intro f f' h1 h2 h3 h4 h5
    have lt : ∀ g, A g ≠ none → g ≠ i → l' g = true → ∃ b, vals g = .pointer (some ⟨b, 0, none⟩) ∧ b < x.heap.size := fun g hg hgi hl => by
      cases hq : A g with
      | none => exact absurd hq hg
      | some tn =>
        obtain ⟨b, ds, e1, _, e3, _⟩ := h.blk g tn.1 tn.2 hq (by rw [← l_ne hgi]; exact hl)
        exact ⟨b, e1, e3⟩
    by_cases a1 : f = i
    · have a2 : f' ≠ i := fun e => h3 (a1.trans e.symm)
      obtain ⟨b, e1, e2⟩ := lt f' h2 a2 h5
      rw [a1, up_self, up_ne a2, e1]
      intro e; cases e; omega
    · by_cases a2 : f' = i
      · obtain ⟨b, e1, e2⟩ := lt f h1 a1 h4
        rw [a2, up_self, up_ne a1, e1]
        intro e; cases e; omega
      · rw [up_ne a1, up_ne a2]
        exact h.apart f f' h1 h2 h3 (by rw [← l_ne a1]; exact h4) (by rw [← l_ne a2]; exact h5)
  · intro k f s hks hlk
    have hki : k ≠ i := fun e => by rw [e, hK] at hks; cases hks
    rw [l_ne hki] at hlk
    obtain ⟨p1, p2⟩ := h.src k f s hks hlk
    exact ⟨by rw [hl']; split; rfl; exact p1, by rw [hl']; split; rfl; exact p2⟩

theorem FlJ.put {X x : World} {R : Nat → Value → World → Prop} {A : Nat → Option (TypeId × Nat)} {K : Nat → Option (Nat × Nat)} {l l' : Nat → Bool} {vals : Nat → Value} (h : FlJ X R A K l vals x) {i f s n b : Nat} {t : TypeId} (hi : l i = false) (hA : A i = none) (hK : K i = some (f, s)) (hl' : ∀ j, l' j = if j = i then true else l j) (hf : A f = some (t, n)) (hlf : l f = true) (hls : l s = true) (hfb : vals f = .pointer (some ⟨b, 0, none⟩)) {cs : Array Value} (hs : vals s = .agg cs) (hn : cs.size = n) (one : ∀ k f' s', K k = some (f', s') → f' = f → k = i) (v : Value) :
    FlJ X R A K l' (upd vals i v) (x.setRow b cs) := by
  have up_ne : ∀ {j}, j ≠ i → upd vals i v j = vals j := fun h => if_neg h
  have l_ne : ∀ {j}, j ≠ i → l' j = l j := fun h => by rw [hl', if_neg h]
  obtain ⟨b', ds, e1, e2, e3, e4, e5, e6⟩ := h.blk f t n hf hlf
  have hbb : b' = b := by rw [hfb] at e1; cases e1; rfl
  subst hbb
  have oth : ∀ k, k ≠ b' → (x.setRow b' cs).heap[k]? = x.heap[k]? := fun k hk => setRow_other x b' k cs hk
  refine ⟨⟨h.below.os, h.below.tape, h.below.output, by simpa using h.below.size, fun k hk => by rw [oth k (by omega)]; exact h.below.block k hk⟩, ?_, ?_, ?_, ?_⟩
  · intro j hj1 hj2 hlj x'' hk
    have e : j ≠ i := fun e => by rw [e, hK] at hj2; cases hj2
    rw [up_ne e]
    refine h.rel j hj1 hj2 (by rw [← l_ne e]; exact hlj) x'' ⟨hk.os, hk.tape, hk.output, by simpa using hk.size, fun k hk1 hk2 => ?_⟩
    have hkb : k ≠ b' := fun e => hk2 ⟨f, by rw [hf]; simp, hlf, by rw [e]; exact hfb⟩
    rw [hk.block k (by simpa using hk1) fun ⟨g, g1, g2, g3⟩ => hk2 ⟨g, g1, by
      have hg : g ≠ i := fun e => g1 (e ▸ hA)
      rw [← l_ne hg]; exact g2, by
      have hg : g ≠ i := fun e => g1 (e ▸ hA)
      rw [← up_ne hg]; exact g3⟩]
    exact oth k hkb
  · intro g t' n' hg hlg
    have hgi : g ≠ i := fun e => by rw [e, hA] at hg; cases hg
    rw [l_ne hgi] at hlg
    by_cases e : g = f
    · subst e
      rw [hf] at hg; cases hg
      refine ⟨b', cs, by rw [up_ne hgi]; exact hfb, e2, by simpa using e3, setRow_heap x b' _ _ _ _ e4, hn, fun k s' hks _ => ?_⟩
      have hki := one k g s' hks rfl
      subst hki
      rw [hK] at hks; cases hks
      have hsi : s ≠ k := fun e => by rw [e, hi] at hls; cases hls
      rw [up_ne hsi]; exact hs
    · obtain ⟨b2, d2, p1, p2, p3, p4, p5, p6⟩ := h.blk g t' n' hg hlg
      have hne : b2 ≠ b' := fun e' => h.apart g f (by rw [hg]; simp) (by rw [hf]; simp) e hlg hlf (by rw [p1, hfb, e'])
      refine ⟨b2, d2, by rw [up_ne hgi]; exact p1, p2, by simpa using p3, by rw [oth b2 hne]; exact p4, p5, fun k s' hks hlk => ?_⟩
      have hki : k ≠ i := fun e' => by rw [e', hK] at hks; cases hks; exact e rfl
      rw [l_ne hki] at hlk
      have hsi : s' ≠ i := fun e' => by have := (h.src k g s' hks hlk).2; rw [e', hi] at this; cases this
      rw [up_ne hsi]; exact p6 k s' hks hlk
  · intro g g' h1 h2 h3 h4 h5
    have a1 : g ≠ i := fun e => h1 (e ▸ hA)
    have a2 : g' ≠ i := fun e => h2 (e ▸ hA)
    rw [up_ne a1, up_ne a2]
    exact h.apart g g' h1 h2 h3 (by rw [← l_ne a1]; exact h4) (by rw [← l_ne a2]; exact h5)
  · intro k g s' hks hlk
    by_cases e : k = i
    · subst e
      rw [hK] at hks; cases hks
      exact ⟨by rw [hl']; split; rfl; exact hlf, by rw [hl']; split; rfl; exact hls⟩
    · rw [l_ne e] at hlk
      obtain ⟨p1, p2⟩ := h.src k g s' hks hlk
      exact ⟨by rw [hl']; split; rfl; exact p1, by rw [hl']; split; rfl; exact p2⟩

/-- What a plain operation leaves. -/
def CameF (R : Nat → Value → World → Prop) (S : Nat → Prop) (i : Nat) (dst : Option Tmp) (b : Act) (x : World) (b' : Act) (x' : World) : Prop :=
  ∃ v, b' = b.put dst v ∧ Below x.heap.size x x' ∧ ∀ x'', KeptP S x' x'' → R i v x''
theorem cameF {R : Nat → Value → World → Prop} {S : Nat → Prop} {i : Nat} {dst : Option Tmp} {b : Act} {x : World} {b' : Act} {x' : World} (v : Value) (h1 : b' = b.put dst v) (h2 : Below x.heap.size x x') (h3 : ∀ x'', KeptP S x' x'' → R i v x'') : CameF R S i dst b x b' x' := ⟨v, h1, h2, h3⟩
/-- What one that lays a block leaves. -/
def LaidF (t : TypeId) (n : Nat) (dst : Option Tmp) (b : Act) (x : World) (b' : Act) (x' : World) : Prop := ∃ cs, b' = b.put dst (.pointer (some ⟨x.heap.size, 0, none⟩)) ∧ x' = x.alloc (.cells cs t) ∧ cs.size = n
/-- What one that writes leaves. -/
def PutF (n g : Nat) (sv : Value) (dst : Option Tmp) (b : Act) (x : World) (b' : Act) (x' : World) : Prop := ∃ v cs, b' = b.put dst v ∧ sv = .agg cs ∧ cs.size = n ∧ x' = x.setRow g cs

theorem wp_region_float {id : Nat} {a : Act} {X : World} {l : List Oper} (hm : P.follows .mixedOrders = true) (hok : regOkF l.toArray a.tmps.size = true)
    (R : Nat → Value → World → Prop) (A : Nat → Option (TypeId × Nat)) (K : Nat → Option (Nat × Nat))
    (hK : ∀ k f s, K k = some (f, s) → A k = none ∧ A f ≠ none ∧ A s = none ∧ K s = none ∧ ∃ (o of os : Oper) (df ds : Tmp) (e e' : Edge), l[k]? = some o ∧ l[f]? = some of ∧ l[s]? = some os ∧ of.dst = some df ∧ os.dst = some ds ∧ e ∈ o.after ∧ Region.binds .any e = true ∧ e.on = f ∧ e' ∈ o.after ∧ Region.binds .any e' = true ∧ e'.on = s)
    (hAK : ∀ i t n, A i = some (t, n) → K i = none) (one : ∀ k k' f s s', K k = some (f, s) → K k' = some (f, s') → k = k')
    (plain : ∀ (i : Nat) (o : Oper), l[i]? = some o → A i = none → K i = none → ∀ (b : Act) (x : World) (vals : Nat → Value) (S : Nat → Prop), Below X.heap.size X x → (∀ s, S s → s < x.heap.size ∧ X.heap.size ≤ s) →
      (∀ (e : Edge), e ∈ o.after → Region.binds .any e = true → ∀ (oj : Oper) (d : Tmp), l[e.on]? = some oj → oj.dst = some d → b.tmps[d]? = some (vals e.on) ∧ (A e.on = none → K e.on = none → ∀ x', KeptP S x x' → R e.on (vals e.on) x')) →
      (∀ d : Tmp, writesB l.toArray d = false → b.tmps[d]? = a.tmps[d]?) → o.wp P b x (CameF R S i o.dst b x) Q)
    (lays : ∀ (i : Nat) (o : Oper) (t : TypeId) (n : Nat), l[i]? = some o → A i = some (t, n) → ∀ (b : Act) (x : World), o.wp P b x (LaidF t n o.dst b x) Q)
    (puts : ∀ (i : Nat) (o of os : Oper) (f s n g : Nat) (t : TypeId) (df ds : Tmp) (sv : Value), l[i]? = some o → K i = some (f, s) → A f = some (t, n) → l[f]? = some of → l[s]? = some os → of.dst = some df → os.dst = some ds → ∀ (b : Act) (x : World) (cs0 : Array Value), b.tmps[df]? = some (.pointer (some ⟨g, 0, none⟩)) → b.tmps[ds]? = some sv → R s sv x → x.heap[g]? = some (.cells cs0 t (0, 0)) → cs0.size = n →
      o.wp P b x (PutF n g sv o.dst b x) Q)
    (done : ∀ (vals : Nat → Value) (x : World), Below X.heap.size X x → (∀ j, j < l.length → A j = none → K j = none → R j (vals j) x) →
      (∀ f t n, f < l.length → A f = some (t, n) → ∃ b cs, vals f = .pointer (some ⟨b, 0, none⟩) ∧ X.heap.size ≤ b ∧ x.heap[b]? = some (.cells cs t (0, 0)) ∧ cs.size = n ∧ ∀ k s, k < l.length → K k = some (f, s) → vals s = .agg cs) →
      Q .normal ⟨putAll vals l 0 a.tmps, a.defers⟩ x) :
    (Code.region id l.toArray true).wp P Q a X := by
  refine wp_region_any hm (wpAny_inv (fun listed b x => ∃ vals : Nat → Value, listed.size = l.length ∧ b.tmps.size = a.tmps.size ∧ b.defers = a.defers ∧ (∀ (j : Nat) (oj : Oper) (d : Tmp), l[j]? = some oj → oj.dst = some d → listed.getD j false = true → b.tmps[d]? = some (vals j)) ∧ (∀ d : Tmp, writesB l.toArray d = false → b.tmps[d]? = a.tmps[d]?) ∧ FlJ X R A K (fun j => listed.getD j false) vals x) ?_ ?_ _ _ _ _ (by rw [left_start]; exact Nat.le_refl _) ?_)
  · rintro listed b x i ⟨vals, hs, hz, hd, hv, hr, hJ⟩ hi
    obtain ⟨hun, o, ho, hall⟩ := mem_ready.1 hi
    have hol : l[i]? = some o := by simpa using ho
    have hil : i < l.length := (List.getElem?_eq_some_iff.1 hol).1
    have hun' : listed.getD i false = false := by
      have hx : i < listed.size := by omega
      simpa [hx] using hun
    have set_at : ∀ j, (listed.setIfInBounds i true).getD j false = if j = i then true else listed.getD j false := fun j => by
      by_cases e : j = i
      · subst e; rw [if_pos rfl]; have hx : j < listed.size := by omega
        simp [hx]
      · rw [if_neg e, getD_set_ne false (fun h => e h.symm)]
    have fin : ∀ (v : Value) (x' : World), FlJ X R A K (fun j => (listed.setIfInBounds i true).getD j false) (upd vals i v) x' →
        ∃ vals : Nat → Value, (listed.setIfInBounds i true).size = l.length ∧ (b.put o.dst v).tmps.size = a.tmps.size ∧ (b.put o.dst v).defers = a.defers ∧ (∀ (j : Nat) (oj : Oper) (d : Tmp), l[j]? = some oj → oj.dst = some d → (listed.setIfInBounds i true).getD j false = true → (b.put o.dst v).tmps[d]? = some (vals j)) ∧ (∀ d : Tmp, writesB l.toArray d = false → (b.put o.dst v).tmps[d]? = a.tmps[d]?) ∧ FlJ X R A K (fun j => (listed.setIfInBounds i true).getD j false) vals x' := by
      intro v x' hJ'
      have up_self : upd vals i v i = v := if_pos rfl
      have up_ne : ∀ {j}, j ≠ i → upd vals i v j = vals j := fun h => if_neg h
      refine ⟨upd vals i v, by simpa using hs, ?_, ?_, ?_, ?_, hJ'⟩
      · cases hdst : o.dst with
        | none => exact hz
        | some d => simpa [Act.put] using hz
      · cases hdst : o.dst with
        | none => exact hd
        | some d => simpa [Act.put] using hd
      · intro j oj d hj hjd hl
        by_cases hij : j = i
        · subst hij
          obtain rfl := Option.some.inj (hol.symm.trans hj)
          rw [hjd, up_self]
          have hlt := ((regOkF_at hok j o ho).2.2 d hjd).1
          have hlt' : d < b.tmps.size := by rw [hz]; exact hlt
          simp [Act.put, hlt']
        · rw [set_at, if_neg hij] at hl
          have hold := hv j oj d hj hjd hl
          rw [up_ne hij]
          cases hdst : o.dst with
          | none => simpa [Act.put] using hold
          | some d' =>
            have hne : d' ≠ d := fun e => by
              subst e
              have hoj : l.toArray[j]? = some oj := by simpa using hj
              rcases Nat.lt_trichotomy i j with h | h | h
              · exact ((regOkF_at hok j oj hoj).2.2 d' hjd).2 i o h ho hdst
              · exact hij h.symm
              · exact ((regOkF_at hok i o ho).2.2 d' hdst).2 j oj h hoj hjd
            simp [Act.put, Array.getElem?_setIfInBounds_ne hne, hold]
      · intro d hnd
        have hold := hr d hnd
        cases hdst : o.dst with
        | none => simpa [Act.put] using hold
        | some d' =>
          have hne : d' ≠ d := fun e => by
            subst e
            have : writesB l.toArray d' = true := Array.any_eq_true'.2 ⟨o, by simpa using List.mem_of_getElem? hol, by simp [hdst]⟩
            rw [this] at hnd; cases hnd
          simp [Act.put, Array.getElem?_setIfInBounds_ne hne, hold]
    unfold wpOp
    simp only [ho]
    have hw : Region.wanted o (yielded l.toArray b.tmps) = true := by simp [Region.wanted, (regOkF_at hok i o ho).1]
    rw [if_pos hw]
    cases hAi : A i with
    | some tn =>
      obtain ⟨t, n⟩ := tn
      refine .inl (Oper.wp_mono ?_ (lays i o t n hol hAi b x))
      rintro b' x' ⟨cs, rfl, rfl, hn⟩
      exact fin _ _ (hJ.new hun' hAi (hAK i t n hAi) set_at hn)
    | none =>
      cases hKi : K i with
      | none =>
        refine .inl (Oper.wp_mono ?_ (plain i o hol hAi hKi b x vals (Laids A (fun j => listed.getD j false) vals) hJ.below (fun s ⟨f, h1, h2, h3⟩ => ?_) (fun e he hb oj d h1 h2 => ⟨hv e.on oj d h1 h2 (hall e he hb), fun h3 h4 => hJ.rel e.on h3 h4 (hall e he hb)⟩) hr))
        · rintro b' x' ⟨v, rfl, hb, hR⟩
          exact fin _ _ (hJ.plain hun' hAi hKi hb set_at hR)
        · cases hq : A f with
          | none => exact absurd hq h1
          | some tn =>
            obtain ⟨b2, ds, e1, e2, e3, _⟩ := hJ.blk f tn.1 tn.2 hq h2
            rw [h3] at e1; cases e1
            exact ⟨e3, e2⟩
      | some fs =>
        obtain ⟨f, s⟩ := fs
        obtain ⟨_, hAf, hAs, hKs, o', of, os, df, ds, e, e', q1, q2, q3, q4, q5, q6, q7, q8, q9, q10, q11⟩ := hK i f s hKi
        obtain rfl := Option.some.inj (hol.symm.trans q1)
        have hlf : listed.getD f false = true := by rw [← q8]; exact hall e q6 q7
        have hls : listed.getD s false = true := by rw [← q11]; exact hall e' q9 q10
        cases hq : A f with
        | none => exact absurd hq hAf
        | some tn =>
          obtain ⟨t, n⟩ := tn
          obtain ⟨g, cs0, e1, e2, e3, e4, e5, _⟩ := hJ.blk f t n hq hlf
          have sf := hv f of df q2 q4 hlf
          rw [e1] at sf
          refine .inl (Oper.wp_mono ?_ (puts i o of os f s n g t df ds (vals s) hol hKi hq q2 q3 q4 q5 b x cs0 sf (hv s os ds q3 q5 hls) (hJ.rel s hAs hKs hls x (KeptP.refl _ _)) e4 e5))
          rintro b' x' ⟨v, cs, rfl, hsv, hn, rfl⟩
          exact fin _ _ (hJ.put hun' hAi hKi set_at hq hlf hls e1 hsv hn (fun k f' s' hk hf => by subst hf; exact one k i f' s' s hk hKi) v)
  · rintro listed b x ⟨vals, hs, hz, hd, hv, hr, hJ⟩ h0
    have hall : ∀ i, i < l.length → listed.getD i false = true := fun i hi => ready_nilF hok (by simpa using hs) h0 i (by simpa using hi)
    obtain rfl := frame_is (l := l) hz hd (fun j oj d h1 h2 => hv j oj d (by simpa using h1) h2 (hall j (by have := (Array.getElem?_eq_some_iff.1 h1).1; simpa using this))) hr
    exact done vals x hJ.below (fun j hj h1 h2 => hJ.rel j h1 h2 (hall j hj) x (KeptP.refl _ _)) (fun f t n hf hA => by
      obtain ⟨b, cs, e1, e2, _, e4, e5, e6⟩ := hJ.blk f t n hA (hall f hf)
      exact ⟨b, cs, e1, e2, e4, e5, fun k s hk hks => e6 k s hks (hall k hk)⟩)
  · exact ⟨fun _ => undef, by simp, rfl, rfl, fun j oj d _ _ h => absurd ((replF _ _).symm.trans h) (by decide), fun _ _ => rfl, (Below.refl _ _).drew, fun j _ _ h => absurd ((replF _ _).symm.trans h) (by decide), fun f t n _ h => absurd ((replF _ _).symm.trans h) (by decide), fun f f' _ _ _ h => absurd ((replF _ _).symm.trans h) (by decide), fun k f s _ h => absurd ((replF _ _).symm.trans h) (by decide)⟩
end
end Go.Proofs.YtfiajbgeijgheaaDoor
