
/-
  A region that draws its order: a head whose operations make memory and read it, each yielding something of which a lasting thing can be said, and a tail in one order: the tail is walked as a plain list.
-/
import Derived.Test.YteffpnjgchihpaaGreatDoorPB30
import Derived.Below
namespace Go.Proofs.YteffpnjgchihpaaGreatDoor
open Go.RowKit
set_option maxRecDepth 100000

section
variable {P : Program} {Q : Exit → Act → World → Prop}

/-- Each guard asks for what 'gv' says of an operation that goes ahead; each operation goes behind earlier ones alone, and no two write one slot. -/
def regOkG (ops : Array Oper) (n : Nat) (gv : Nat → Option Bool) : Bool := (List.range ops.size).all fun i => match ops[i]? with
  | none => true
  | some o => (match o.guard with
    | none => true
    | some (j, v) => (gv j == some v) && ((ops[j]?).bind (·.dst)).isSome && o.after.any (fun e => decide (e.on = j) && Region.binds .any e)) && o.after.all (fun e => !Region.binds .any e || decide (e.on < i)) && (match o.dst with
    | none => true
    | some d => decide (d < n) && (List.range i).all fun j => match ops[j]? with
      | some oj => oj.dst != some d
      | none => true)

theorem regOkG_at {ops : Array Oper} {n : Nat} {gv : Nat → Option Bool} (h : regOkG ops n gv = true) (i : Nat) (o : Oper) (ho : ops[i]? = some o) :
    (o.guard = none ∨ ∃ (j : Nat) (v : Bool) (oj : Oper) (d : Tmp) (e : Edge), o.guard = some (j, v) ∧ ops[j]? = some oj ∧ oj.dst = some d ∧ gv j = some v ∧ e ∈ o.after ∧ Region.binds .any e = true ∧ e.on = j) ∧ (∀ e ∈ o.after, Region.binds .any e = true → e.on < i) ∧ ∀ d, o.dst = some d → d < n ∧ ∀ j oj, j < i → ops[j]? = some oj → oj.dst ≠ some d := by
  have hi : i < ops.size := (Array.getElem?_eq_some_iff.1 ho).1
  have := (List.all_eq_true.1 h) i (List.mem_range.2 hi)
  simp only [ho, Bool.and_eq_true] at this
  obtain ⟨⟨h1, h2⟩, h3⟩ := this
  refine ⟨?_, fun e he hbd => by have h4 := (Array.all_eq_true_iff_forall_mem.1 h2) e he; rw [hbd] at h4; simpa using h4, fun d hd => ?_⟩
  · cases hg : o.guard with
    | none => exact .inl rfl
    | some jv =>
      obtain ⟨j, v⟩ := jv
      rw [hg] at h1
      simp only [Bool.and_eq_true] at h1
      obtain ⟨⟨g1, g2⟩, g3⟩ := h1
      obtain ⟨d, hd⟩ := Option.isSome_iff_exists.1 g2
      obtain ⟨oj, hoj, hd⟩ := Option.bind_eq_some_iff.1 hd
      obtain ⟨e, he, hb⟩ := Array.any_eq_true'.1 g3
      simp only [Bool.and_eq_true, decide_eq_true_eq] at hb
      exact .inr ⟨j, v, oj, d, e, rfl, hoj, hd, by simpa using g1, he, hb.2, hb.1⟩
  · rw [hd] at h3
    simp only [Bool.and_eq_true, decide_eq_true_eq] at h3
    refine ⟨h3.1, fun j oj hj hoj => ?_⟩
    have := (List.all_eq_true.1 h3.2) j (List.mem_range.2 hj)
    simp only [hoj] at this
    simpa using this

/-- Operation k waits for operation j, by one edge or by several. -/
def ancB (ops : Array Oper) : Nat → Nat → Nat → Bool
  | 0, _, _ => false
  | f + 1, j, k => match ops[k]? with
    | some o => o.after.any fun e => Region.binds .any e && (e.on == j || ancB ops f j e.on)
    | none => false
theorem anc_listed {ops : Array Oper} {listed : Array Bool} (down : ∀ (k : Nat) (ok : Oper), ops[k]? = some ok → listed.getD k false = true → ∀ e ∈ ok.after, Region.binds .any e = true → listed.getD e.on false = true) :
    ∀ (f j k : Nat) (o : Oper), ops[k]? = some o → (∀ e ∈ o.after, Region.binds .any e = true → listed.getD e.on false = true) → ancB ops f j k = true → listed.getD j false = true
  | 0, _, _, _, _, _, h => by simp [ancB] at h
  | f + 1, j, k, o, ho, hall, h => by
    unfold ancB at h
    simp only [ho] at h
    obtain ⟨e, he, h2⟩ := Array.any_eq_true'.1 h
    rw [Bool.and_eq_true, Bool.or_eq_true] at h2
    have hl := hall e he h2.1
    rcases h2.2 with h3 | h3
    · rw [beq_iff_eq] at h3
      rwa [h3] at hl
    · cases ho2 : ops[e.on]? with
      | none => cases f <;> simp [ancB, ho2] at h3
      | some o2 => exact anc_listed down f j e.on o2 ho2 (fun e' he' hb' => down e.on o2 ho2 hl e' he' hb') h3
/-- From n on each operation waits for all ahead of it. -/
def tailB (ops : Array Oper) (n : Nat) : Bool := (List.range ops.size).all fun k => decide (k < n) || match ops[k]? with
  | some o => (decide (n < k) && o.after.any fun e => e.on + 1 == k && Region.binds .any e) || ((List.range k).all fun j => o.after.any fun e => e.on == j && Region.binds .any e) || (decide (k = n) && (List.range k).all fun j => ancB ops 24 j k)
  | none => true
theorem tail_waits {ops : Array Oper} {n : Nat} (h : tailB ops n = true) {k : Nat} {o : Oper} (ho : ops[k]? = some o) (hk : n ≤ k) {listed : Array Bool} (hall : ∀ e ∈ o.after, Region.binds .any e = true → listed.getD e.on false = true)
    (hdown : ∀ k', n ≤ k' → listed.getD k' false = true → ∀ j, j < k' → listed.getD j false = true) (hanc : k = n → (∀ j, j < k → ancB ops 24 j k = true) → ∀ j, j < k → listed.getD j false = true) : ∀ j, j < k → listed.getD j false = true := fun j hj => by
  have hks : k < ops.size := (Array.getElem?_eq_some_iff.1 ho).1
  have h1 := (List.all_eq_true.1 h) k (List.mem_range.2 hks)
  rw [decide_eq_false (by omega), Bool.false_or] at h1
  simp only [ho] at h1
  rw [Bool.or_eq_true, Bool.or_eq_true] at h1
  rcases h1 with (h2 | h2) | h2
  · rw [Bool.and_eq_true] at h2
    have hnk := of_decide_eq_true h2.1
    obtain ⟨e, he, h3⟩ := Array.any_eq_true'.1 h2.2
    simp only [Bool.and_eq_true, beq_iff_eq] at h3
    have hl := hall e he h3.2
    by_cases hje : j = e.on
    · rw [hje]; exact hl
    · exact hdown e.on (by omega) hl j (by omega)
  · have h3 := (List.all_eq_true.1 h2) j (List.mem_range.2 hj)
    obtain ⟨e, he, h4⟩ := Array.any_eq_true'.1 h3
    simp only [Bool.and_eq_true, beq_iff_eq] at h4
    have := hall e he h4.2
    rwa [h4.1] at this
  · rw [Bool.and_eq_true] at h2
    exact hanc (of_decide_eq_true h2.1) (fun j hj => (List.all_eq_true.1 h2.2) j (List.mem_range.2 hj)) j hj

theorem repl_getD (m j : Nat) : (Array.replicate m false).getD j false = false := by
  simp only [Array.getD_eq_getD_getElem?, Array.getElem?_replicate]
  split <;> rfl
/-- Nothing is left: all have come up. -/
theorem ready_nil {ops : Array Oper} {n : Nat} {gv : Nat → Option Bool} (hok : regOkG ops n gv = true) {listed : Array Bool} (hs : listed.size = ops.size) (h0 : Region.ready .any ops listed = []) (i : Nat) (hi : i < ops.size) : listed.getD i false = true := by
  induction i using Nat.strongRecOn with
  | _ i ih =>
    have ho : ops[i]? = some ops[i] := Array.getElem?_eq_getElem hi
    cases hl : listed.getD i false with
    | true => rfl
    | false =>
      exfalso
      have hmem : i ∈ Region.ready .any ops listed := mem_ready.2 ⟨by
        have hil : i < listed.size := by omega
        simp only [Array.getD_eq_getD_getElem?, Array.getElem?_eq_getElem hil, Option.getD_some] at hl ⊢
        exact hl, ops[i], ho, fun e he hbd => by
        have hlt := (regOkG_at hok i _ ho).2.1 e he hbd
        exact ih e.on hlt (by omega)⟩
      rw [h0] at hmem
      cases hmem

/-- What holds while the head comes up. -/
structure HeadJ (l : List Oper) (n : Nat) (a : Act) (X : World) (R : Nat → Value → World → Prop) (F : Nat → Bool) (listed : Array Bool) (vals : Nat → Value) (b : Act) (x : World) : Prop where
  below : Below X.heap.size X x
  size : b.tmps.size = a.tmps.size
  defers : b.defers = a.defers
  slots : ∀ (j : Nat) (oj : Oper) (d : Tmp), l[j]? = some oj → oj.dst = some d → listed.getD j false = true → b.tmps[d]? = some (vals j)
  others : ∀ d : Tmp, (∀ (j : Nat) (oj : Oper), j < n → l[j]? = some oj → oj.dst ≠ some d) → b.tmps[d]? = a.tmps[d]?
  rel : ∀ j, j < n → listed.getD j false = true → R j (vals j) x
  fresh : ∀ j, j < n → F j = true → listed.getD j false = true → ∃ g, vals j = .pointer (some ⟨g, 0, none⟩) ∧ g < x.heap.size
  apart : ∀ i j, i < n → j < n → i ≠ j → F i = true → F j = true → listed.getD i false = true → listed.getD j false = true → vals i ≠ vals j
  down : ∀ (k : Nat) (ok : Oper), l.toArray[k]? = some ok → listed.getD k false = true → ∀ e ∈ ok.after, Region.binds .any e = true → listed.getD e.on false = true

theorem tail_step {ops : Array Oper} {l : List Oper} (hl : ops = l.toArray) {m : Nat} {o : Oper} (ho : l[m]? = some o) {b : Act} {x : World} {K : Act → World → Prop} (hK : ∀ b' x', wpList P ops Q (l.drop (m + 1)) b' x' → K b' x') (h : wpList P ops Q (l.drop m) b x) : wpOp P ops Q m K b x := by
  have hd : l.drop m = o :: l.drop (m + 1) := by
    obtain ⟨hm, e⟩ := List.getElem?_eq_some_iff.1 ho
    rw [List.drop_eq_getElem_cons hm, e]
  rw [hd] at h
  unfold wpList at h
  unfold wpOp
  have ho' : ops[m]? = some o := by rw [hl]; simpa using ho
  simp only [ho']
  split
  · rename_i hw
    rw [if_pos hw] at h
    rcases h with h | h
    · exact .inl (Oper.wp_mono hK h)
    · exact .inr h
  · rename_i hw
    rw [if_neg hw] at h
    exact hK _ _ h

/-- What an operation of the head leaves. -/
def Came (R : Nat → Value → World → Prop) (F : Nat → Bool) (i : Nat) (dst : Option Tmp) (b : Act) (x : World) (b' : Act) (x' : World) : Prop :=
  ∃ v, b' = b.put dst v ∧ Below x.heap.size x x' ∧ R i v x' ∧ (F i = true → ∃ g, v = .pointer (some ⟨g, 0, none⟩) ∧ x.heap.size ≤ g ∧ g < x'.heap.size)
theorem came {R : Nat → Value → World → Prop} {F : Nat → Bool} {i : Nat} {dst : Option Tmp} {b : Act} {x : World} {b' : Act} {x' : World} (v : Value) (h1 : b' = b.put dst v) (h2 : Below x.heap.size x x') (h3 : R i v x') (h4 : F i = true → ∃ g, v = .pointer (some ⟨g, 0, none⟩) ∧ x.heap.size ≤ g ∧ g < x'.heap.size) : Came R F i dst b x b' x' := ⟨v, h1, h2, h3, h4⟩

theorem wp_region_tail {id : Nat} {a : Act} {X : World} {l : List Oper} (n : Nat) (hm : P.follows .mixedOrders = true) (gv : Nat → Option Bool) (hok : regOkG l.toArray a.tmps.size gv = true) (ht : tailB l.toArray n = true) (hn : n ≤ l.length)
    (R : Nat → Value → World → Prop) (F : Nat → Bool) (hgv : ∀ j v x b, gv j = some b → R j v x → v = .bool b) (stable : ∀ i v x x', R i v x → Below x.heap.size x x' → R i v x')
    (step : ∀ (i : Nat) (o : Oper), i < n → l[i]? = some o → ∀ (b : Act) (x : World) (vals : Nat → Value), Below X.heap.size X x →
      (∀ (e : Edge), e ∈ o.after → Region.binds .any e = true → ∀ (oj : Oper) (d : Tmp), l[e.on]? = some oj → oj.dst = some d → b.tmps[d]? = some (vals e.on) ∧ R e.on (vals e.on) x) →
      (∀ d : Tmp, writesB l.toArray d = false → b.tmps[d]? = a.tmps[d]?) →
      o.wp P b x (Came R F i o.dst b x) Q)
    (rest : ∀ (vals : Nat → Value) (x : World), Below X.heap.size X x → (∀ j, j < n → R j (vals j) x) → (∀ i j, i < n → j < n → i ≠ j → F i = true → F j = true → vals i ≠ vals j) →
      wpList P l.toArray Q (l.drop n) ⟨putAll vals (l.take n) 0 a.tmps, a.defers⟩ x) :
    (Code.region id l.toArray true).wp P Q a X := by
  have hsz : l.toArray.size = l.length := by simp
  refine wp_region_any hm (wpAny_inv (fun listed b x => listed.size = l.length ∧ ((∃ vals, (∀ k, n ≤ k → k < l.length → listed.getD k false = false) ∧ HeadJ l n a X R F listed vals b x) ∨ (∃ m, n ≤ m ∧ m ≤ l.length ∧ (∀ j, j < m → listed.getD j false = true) ∧ (∀ j, m ≤ j → j < l.length → listed.getD j false = false) ∧ wpList P l.toArray Q (l.drop m) b x))) ?_ ?_ _ _ _ _ (by rw [left_start]; exact Nat.le_refl _) ?_)
  · rintro listed b x i ⟨hs, hI⟩ hi
    obtain ⟨hun, o, ho, hall⟩ := mem_ready.1 hi
    have hol : l[i]? = some o := by simpa using ho
    have hil : i < l.length := (List.getElem?_eq_some_iff.1 hol).1
    have hun' : listed.getD i false = false := by
      have hx : i < listed.size := by omega
      simpa [hx] using hun
    have set_at : ∀ j, (listed.setIfInBounds i true).getD j false = if j = i then true else listed.getD j false := fun j => by
      by_cases e : j = i
      · subst e; rw [if_pos rfl]; have hx : j < listed.size := by omega
        simp [hx]
      · rw [if_neg e, getD_set_ne false (fun h => e h.symm)]
    have go_tail : ∀ m, n ≤ m → m ≤ l.length → (∀ j, j < m → listed.getD j false = true) → (∀ j, m ≤ j → j < l.length → listed.getD j false = false) → n ≤ i → wpList P l.toArray Q (l.drop m) b x →
        wpOp P l.toArray Q i (fun b' x' => (listed.setIfInBounds i true).size = l.length ∧ ((∃ vals, (∀ k, n ≤ k → k < l.length → (listed.setIfInBounds i true).getD k false = false) ∧ HeadJ l n a X R F (listed.setIfInBounds i true) vals b' x') ∨ (∃ m, n ≤ m ∧ m ≤ l.length ∧ (∀ j, j < m → (listed.setIfInBounds i true).getD j false = true) ∧ (∀ j, m ≤ j → j < l.length → (listed.setIfInBounds i true).getD j false = false) ∧ wpList P l.toArray Q (l.drop m) b' x'))) b x := by
      intro m hnm hml h1 h2 hni h
      have hw := tail_waits ht ho hni hall (fun k' hk' hl j hj => h1 j (by
        rcases Nat.lt_or_ge k' m with e | e
        · omega
        · rcases Nat.lt_or_ge k' l.length with e' | e'
          · rw [h2 k' e e'] at hl; cases hl
          · rw [Array.getD_eq_getD_getElem?, Array.getElem?_eq_none (by omega)] at hl; cases hl)) (fun e _ j hj => h1 j (by omega))
      have him : i = m := by
        rcases Nat.lt_trichotomy i m with e | e | e
        · rw [h1 i e] at hun'; cases hun'
        · exact e
        · have := hw m e
          rw [h2 m (Nat.le_refl _) (by omega)] at this; cases this
      subst him
      refine tail_step rfl hol (fun b' x' h' => ⟨by simpa using hs, .inr ⟨i + 1, by omega, by omega, fun j hj => ?_, fun j hj hjl => ?_, h'⟩⟩) h
      · rw [set_at]
        by_cases e : j = i
        · rw [if_pos e]
        · rw [if_neg e]; exact h1 j (by omega)
      · rw [set_at, if_neg (by omega)]; exact h2 j (by omega) hjl
    rcases hI with ⟨vals, htl, hJ⟩ | ⟨m, hnm, hml, h1, h2, h⟩
    · by_cases hin : i < n
      · have h := step i o hin hol b x vals hJ.below (fun e he hb oj d h1 h2 => by
          have hl := hall e he hb
          have hlt : e.on < n := Nat.lt_trans ((regOkG_at hok i o ho).2.1 e he hb) hin
          exact ⟨hJ.slots e.on oj d h1 h2 hl, hJ.rel e.on hlt hl⟩) (fun d hd => hJ.others d (fun j oj _ hj he => by
            have : writesB l.toArray d = true := Array.any_eq_true'.2 ⟨oj, by simpa using List.mem_of_getElem? hj, by simp [he]⟩
            rw [this] at hd; cases hd))
        unfold wpOp
        simp only [ho]
        have hw : Region.wanted o (yielded l.toArray b.tmps) = true := by
          rcases (regOkG_at hok i o ho).1 with h0 | ⟨j, v, oj, d, e, h1, h2, h3, h4, h5, h6, h7⟩
          · simp [Region.wanted, h0]
          · have hl := hall e h5 h6
            have hlt : e.on < n := Nat.lt_trans ((regOkG_at hok i o ho).2.1 e h5 h6) hin
            rw [h7] at hl hlt
            have hj' : l[j]? = some oj := by simpa using h2
            have hs := hJ.slots j oj d hj' h3 hl
            have hv := hgv j _ _ v h4 (hJ.rel j hlt hl)
            rw [hv] at hs
            simp [Region.wanted, h1, yielded, hj', h3, hs]
        rw [if_pos hw]
        refine .inl (Oper.wp_mono ?_ h)
        rintro b' x' ⟨v, rfl, hb, hR, hf⟩
        refine ⟨by simpa using hs, .inl ⟨upd vals i v, fun k hk hkl => by rw [set_at, if_neg (by omega)]; exact htl k hk hkl, ?_⟩⟩
        have up_self : upd vals i v i = v := if_pos rfl
        have up_ne : ∀ {j}, j ≠ i → upd vals i v j = vals j := fun h => if_neg h
        have frp : ∀ j, j < n → j ≠ i → F j = true → (listed.setIfInBounds i true).getD j false = true → ∃ g, vals j = .pointer (some ⟨g, 0, none⟩) ∧ g < x.heap.size := fun j hj hji hF hl => by
          rw [set_at, if_neg hji] at hl
          exact hJ.fresh j hj hF hl
        refine ⟨hJ.below.trans (hb.mono hJ.below.size), ?_, ?_, ?_, ?_, ?_, ?_, ?_, ?_⟩
        · cases hdst : o.dst with
          | none => exact hJ.size
          | some d => simpa [Act.put] using hJ.size
        · cases hdst : o.dst with
          | none => exact hJ.defers
          | some d => simpa [Act.put] using hJ.defers
        · intro j oj d hj hjd hl
          by_cases hij : j = i
          · subst hij
            obtain rfl := Option.some.inj (hol.symm.trans hj)
            rw [hjd, up_self]
            have hlt := ((regOkG_at hok j o ho).2.2 d hjd).1
            have hlt' : d < b.tmps.size := by rw [hJ.size]; exact hlt
            simp [Act.put, hlt']
          · rw [set_at, if_neg hij] at hl
            have hold := hJ.slots j oj d hj hjd hl
            rw [up_ne hij]
            cases hdst : o.dst with
            | none => simpa [Act.put] using hold
            | some d' =>
              have hne : d' ≠ d := fun e => by
                subst e
                have hoj : l.toArray[j]? = some oj := by simpa using hj
                rcases Nat.lt_trichotomy i j with h | h | h
                · exact ((regOkG_at hok j oj hoj).2.2 d' hjd).2 i o h ho hdst
                · exact hij h.symm
                · exact ((regOkG_at hok i o ho).2.2 d' hdst).2 j oj h hoj hjd
              simp [Act.put, Array.getElem?_setIfInBounds_ne hne, hold]
        · intro d hnd
          have hold := hJ.others d hnd
          cases hdst : o.dst with
          | none => simpa [Act.put] using hold
          | some d' =>
            have hne : d' ≠ d := fun e => hnd i o hin hol (by rw [hdst, e])
            simp [Act.put, Array.getElem?_setIfInBounds_ne hne, hold]
        · intro j hj hl
          by_cases hij : j = i
          · subst hij; rw [up_self]; exact hR
          · rw [set_at, if_neg hij] at hl
            rw [up_ne hij]
            exact stable j _ _ _ (hJ.rel j hj hl) hb
        · intro j hj hF hl
          by_cases hij : j = i
          · subst hij
            obtain ⟨g, e1, _, e3⟩ := hf hF
            exact ⟨g, by rw [up_self]; exact e1, e3⟩
          · obtain ⟨g, e1, e2⟩ := frp j hj hij hF hl
            exact ⟨g, by rw [up_ne hij]; exact e1, Nat.lt_of_lt_of_le e2 hb.size⟩
        · intro j k hj hk hjk hFj hFk hlj hlk
          by_cases hji : j = i
          · have hki : k ≠ i := fun e => hjk (hji.trans e.symm)
            obtain ⟨g, e1, e2⟩ := frp k hk hki hFk hlk
            obtain ⟨g', e3, e4, _⟩ := hf (hji ▸ hFj)
            rw [hji, up_self, up_ne hki, e1, e3]
            intro e
            cases e
            omega
          · by_cases hki : k = i
            · obtain ⟨g, e1, e2⟩ := frp j hj hji hFj hlj
              obtain ⟨g', e3, e4, _⟩ := hf (hki ▸ hFk)
              rw [hki, up_self, up_ne hji, e1, e3]
              intro e
              cases e
              omega
            · rw [set_at, if_neg hji] at hlj
              rw [set_at, if_neg hki] at hlk
              rw [up_ne hji, up_ne hki]
              exact hJ.apart j k hj hk hjk hFj hFk hlj hlk
        · intro k ok hk hl e he hbd
          rw [set_at] at hl ⊢
          by_cases hei : e.on = i
          · rw [if_pos hei]
          · rw [if_neg hei]
            by_cases hki : k = i
            · subst hki
              obtain rfl := Option.some.inj (ho.symm.trans hk)
              exact hall e he hbd
            · rw [if_neg hki] at hl
              exact hJ.down k ok hk hl e he hbd
      · have hni : n ≤ i := by omega
        have hw := tail_waits ht ho hni hall (fun k' hk' hl j hj => by
          rcases Nat.lt_or_ge k' l.length with e' | e'
          · rw [htl k' hk' e'] at hl; cases hl
          · rw [Array.getD_eq_getD_getElem?, Array.getElem?_eq_none (by omega)] at hl; cases hl) (fun _ hA j hj => anc_listed hJ.down 24 j i o ho hall (hA j hj))
        have hhead : ∀ j, j < n → listed.getD j false = true := fun j hj => hw j (by omega)
        refine go_tail n (Nat.le_refl _) hn hhead (fun j hj hjl => htl j hj hjl) hni ?_
        have hb : b = ⟨putAll vals (l.take n) 0 a.tmps, a.defers⟩ := by
          have : putAll vals (l.take n) 0 a.tmps = b.tmps := putAll_is (l.take n) 0 _ (fun j oj d h1 h2 => by
            have hjn : j < n := by have := (List.getElem?_eq_some_iff.1 h1).1; simp at this; omega
            rw [List.getElem?_take_of_lt hjn] at h1
            rw [Nat.zero_add]; exact hJ.slots j oj d h1 h2 (hhead j hjn)) hJ.size.symm fun d => by
            by_cases e : ∃ (j : Nat) (oj : Oper), j < n ∧ l[j]? = some oj ∧ oj.dst = some d
            · obtain ⟨j, oj, hj, h1, h2⟩ := e
              exact .inr ⟨j, oj, by rw [List.getElem?_take_of_lt hj]; exact h1, h2⟩
            · exact .inl (hJ.others d fun j oj hj h1 h2 => e ⟨j, oj, hj, h1, h2⟩).symm
          rw [this, ← hJ.defers]
        rw [hb]
        exact rest vals x hJ.below (fun j hj => hJ.rel j hj (hhead j hj)) (fun i j hi hj hij h1 h2 => hJ.apart i j hi hj hij h1 h2 (hhead i hi) (hhead j hj))
    · have hni : n ≤ i := by
        rcases Nat.lt_or_ge i m with e | e
        · rw [h1 i e] at hun'; cases hun'
        · omega
      exact go_tail m hnm hml h1 h2 hni h
  · rintro listed b x ⟨hs, hI⟩ h0
    have hall : ∀ i, i < l.length → listed.getD i false = true := fun i hi => ready_nil hok (by omega) h0 i (by omega)
    rcases hI with ⟨vals, htl, hJ⟩ | ⟨m, hnm, hml, h1, h2, h⟩
    · have hnl : n = l.length := by
        rcases Nat.lt_or_ge n l.length with e | e
        · have := htl n (Nat.le_refl _) e
          rw [hall n e] at this; cases this
        · omega
      have hb : b = ⟨putAll vals (l.take n) 0 a.tmps, a.defers⟩ := by
        have : putAll vals (l.take n) 0 a.tmps = b.tmps := putAll_is (l.take n) 0 _ (fun j oj d h1 h2 => by
          have hjn : j < n := by have := (List.getElem?_eq_some_iff.1 h1).1; simp at this; omega
          rw [List.getElem?_take_of_lt hjn] at h1
          rw [Nat.zero_add]; exact hJ.slots j oj d h1 h2 (hall j (by omega))) hJ.size.symm fun d => by
          by_cases e : ∃ (j : Nat) (oj : Oper), j < n ∧ l[j]? = some oj ∧ oj.dst = some d
          · obtain ⟨j, oj, hj, h1, h2⟩ := e
            exact .inr ⟨j, oj, by rw [List.getElem?_take_of_lt hj]; exact h1, h2⟩
          · exact .inl (hJ.others d fun j oj hj h1 h2 => e ⟨j, oj, hj, h1, h2⟩).symm
        rw [this, ← hJ.defers]
      have hr := rest vals x hJ.below (fun j hj => hJ.rel j hj (hall j (by omega))) (fun i j hi hj hij h1 h2 => hJ.apart i j hi hj hij h1 h2 (hall i (by omega)) (hall j (by omega)))
      rw [← hb, hnl, List.drop_length] at hr
      exact hr
    · have hml' : m = l.length := by
        rcases Nat.lt_or_ge m l.length with e | e
        · have := h2 m (Nat.le_refl _) e
          rw [hall m e] at this; cases this
        · omega
      rw [hml', List.drop_length] at h
      exact h
  · refine ⟨by simp, .inl ⟨fun _ => undef, fun k _ _ => repl_getD _ _, ⟨(Below.refl _ _).drew, rfl, rfl, fun j oj d _ _ h => absurd ((repl_getD _ _).symm.trans h) (by decide), fun _ _ => rfl, fun j _ h => absurd ((repl_getD _ _).symm.trans h) (by decide), fun j _ _ h => absurd ((repl_getD _ _).symm.trans h) (by decide), fun i j _ _ _ _ _ h _ => absurd ((repl_getD _ _).symm.trans h) (by decide), fun k _ _ h => absurd ((repl_getD _ _).symm.trans h) (by decide)⟩⟩⟩
end
end Go.Proofs.YteffpnjgchihpaaGreatDoor
