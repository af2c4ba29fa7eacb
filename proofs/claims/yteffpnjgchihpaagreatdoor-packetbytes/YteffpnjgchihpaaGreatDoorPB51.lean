
/-
  A drawn region of which one operation changes what was there.
-/
import Derived.Test.YteffpnjgchihpaaGreatDoorPB31
namespace Go.Proofs.YteffpnjgchihpaaGreatDoor
open Go.RowKit
set_option maxRecDepth 100000

section
variable {P : Program} {Q : Exit → Act → World → Prop}

/-- What holds while the head comes up. -/
structure HeadC (l : List Oper) (n : Nat) (a : Act) (X : World) (R : Nat → Value → World → Prop) (F : Nat → Bool) (c : Nat) (G : World → World → Prop) (listed : Array Bool) (vals : Nat → Value) (b : Act) (x : World) : Prop where
  grow : G X x
  calm : listed.getD c false = false → Below X.heap.size X x
  size : b.tmps.size = a.tmps.size
  defers : b.defers = a.defers
  slots : ∀ (j : Nat) (oj : Oper) (d : Tmp), l[j]? = some oj → oj.dst = some d → listed.getD j false = true → b.tmps[d]? = some (vals j)
  others : ∀ d : Tmp, (∀ (j : Nat) (oj : Oper), j < n → l[j]? = some oj → oj.dst ≠ some d) → b.tmps[d]? = a.tmps[d]?
  rel : ∀ j, j < n → listed.getD j false = true → R j (vals j) x
  fresh : ∀ j, j < n → F j = true → listed.getD j false = true → ∃ g, vals j = .pointer (some ⟨g, 0, none⟩) ∧ g < x.heap.size
  apart : ∀ i j, i < n → j < n → i ≠ j → F i = true → F j = true → listed.getD i false = true → listed.getD j false = true → vals i ≠ vals j
  down : ∀ (k : Nat) (ok : Oper), l.toArray[k]? = some ok → listed.getD k false = true → ∀ e ∈ ok.after, Region.binds .any e = true → listed.getD e.on false = true

/-- What an operation of the head leaves. -/
def CameC (c : Nat) (Gc : World → World → Prop) (R : Nat → Value → World → Prop) (F : Nat → Bool) (i : Nat) (dst : Option Tmp) (b : Act) (x : World) (b' : Act) (x' : World) : Prop :=
  ∃ v, b' = b.put dst v ∧ (i ≠ c → Below x.heap.size x x') ∧ (i = c → Gc x x') ∧ R i v x' ∧ (F i = true → ∃ g, v = .pointer (some ⟨g, 0, none⟩) ∧ x.heap.size ≤ g ∧ g < x'.heap.size)
theorem cameB {c : Nat} {Gc : World → World → Prop} {R : Nat → Value → World → Prop} {F : Nat → Bool} {i : Nat} {dst : Option Tmp} {b : Act} {x : World} {b' : Act} {x' : World} (v : Value) (h1 : b' = b.put dst v) (h0 : i ≠ c) (h2 : Below x.heap.size x x') (h3 : R i v x') (h4 : F i = true → ∃ g, v = .pointer (some ⟨g, 0, none⟩) ∧ x.heap.size ≤ g ∧ g < x'.heap.size) : CameC c Gc R F i dst b x b' x' := ⟨v, h1, fun _ => h2, fun e => absurd e h0, h3, h4⟩
theorem cameX {c : Nat} {Gc : World → World → Prop} {R : Nat → Value → World → Prop} {F : Nat → Bool} {dst : Option Tmp} {b : Act} {x : World} {b' : Act} {x' : World} (v : Value) (h1 : b' = b.put dst v) (h2 : Gc x x') (h3 : R c v x') (h4 : F c = false) : CameC c Gc R F c dst b x b' x' := ⟨v, h1, fun e => absurd rfl e, fun _ => h2, h3, fun e => by rw [h4] at e; cases e⟩

theorem anc_not {ops : Array Oper} {listed : Array Bool} {c i : Nat} (h : ∀ (k : Nat) (ok : Oper), ops[k]? = some ok → listed.getD k false = true → ∀ e ∈ ok.after, Region.binds .any e = true → listed.getD e.on false = true) (ha : ancB ops 24 i c = true) (hi : listed.getD i false = false) : listed.getD c false = false := by
  cases hc : listed.getD c false with
  | false => rfl
  | true =>
    cases ho : ops[c]? with
    | none => simp [ancB, ho] at ha
    | some oc =>
      have := anc_listed h 24 i c oc ho (h c oc ho hc) ha
      rw [hi] at this
      cases this
theorem wp_region_once {id : Nat} {a : Act} {X : World} {l : List Oper} (n : Nat) (hm : P.follows .mixedOrders = true) (gv : Nat → Option Bool) (hok : regOkG l.toArray a.tmps.size gv = true) (ht : tailB l.toArray n = true) (hn : n ≤ l.length)
    (R : Nat → Value → World → Prop) (F : Nat → Bool) (hgv : ∀ j v x b, gv j = some b → R j v x → v = .bool b) (c : Nat) (_hcn : c < n) (G Gc : World → World → Prop) (hGB : ∀ x x', G X x → Below x.heap.size x x' → G X x') (hG0 : ∀ x, Below X.heap.size X x → G X x) (hGc : ∀ x x', Below X.heap.size X x → Gc x x' → G X x') (hGs : ∀ x x', Gc x x' → x.heap.size ≤ x'.heap.size)
    (stable : ∀ i v x x', R i v x → Below x.heap.size x x' → R i v x') (stableC : ∀ i v x x', i ≠ c → R i v x → Gc x x' → R i v x')
    (step : ∀ (i : Nat) (o : Oper), i < n → l[i]? = some o → ∀ (b : Act) (x : World) (vals : Nat → Value), G X x → (i = c ∨ ancB l.toArray 24 i c = true → Below X.heap.size X x) →
      (∀ (e : Edge), e ∈ o.after → Region.binds .any e = true → ∀ (oj : Oper) (d : Tmp), l[e.on]? = some oj → oj.dst = some d → b.tmps[d]? = some (vals e.on) ∧ R e.on (vals e.on) x) →
      (∀ d : Tmp, writesB l.toArray d = false → b.tmps[d]? = a.tmps[d]?) →
      o.wp P b x (CameC c Gc R F i o.dst b x) Q)
    (rest : ∀ (vals : Nat → Value) (x : World), G X x → (∀ j, j < n → R j (vals j) x) → (∀ i j, i < n → j < n → i ≠ j → F i = true → F j = true → vals i ≠ vals j) →
      wpList P l.toArray Q (l.drop n) ⟨putAll vals (l.take n) 0 a.tmps, a.defers⟩ x) :
    (Code.region id l.toArray true).wp P Q a X := by
  have hsz : l.toArray.size = l.length := by simp
  refine wp_region_any hm (wpAny_inv (fun listed b x => listed.size = l.length ∧ ((∃ vals, (∀ k, n ≤ k → k < l.length → listed.getD k false = false) ∧ HeadC l n a X R F c G listed vals b x) ∨ (∃ m, n ≤ m ∧ m ≤ l.length ∧ (∀ j, j < m → listed.getD j false = true) ∧ (∀ j, m ≤ j → j < l.length → listed.getD j false = false) ∧ wpList P l.toArray Q (l.drop m) b x))) ?_ ?_ _ _ _ _ (by rw [left_start]; exact Nat.le_refl _) ?_)
  · rintro listed b x i ⟨hs, hI⟩ hi
    obtain ⟨hun, o, ho, hall⟩ := mem_ready.1 hi
    have hol : l[i]? = some o := by simpa using ho
    have hil : i < l.length := (List.getElem?_eq_some_iff.1 hol).1
    have hun' : listed.getD i false = false := by
      have hx : i < listed.size := by omega
      simpa [hx] using hun
    have set_at : ∀ j, (listed.setIfInBounds i true).getD j false = if j = i then true else listed.getD j false := fun j => by
      by_cases e : j = i
      · subst e; rw [if_pos rfl]; have hx : j < listed.size := by omega
        simp [hx]
      · rw [if_neg e, getD_set_ne false (fun h => e h.symm)]
    have go_tail : ∀ m, n ≤ m → m ≤ l.length → (∀ j, j < m → listed.getD j false = true) → (∀ j, m ≤ j → j < l.length → listed.getD j false = false) → n ≤ i → wpList P l.toArray Q (l.drop m) b x →
        wpOp P l.toArray Q i (fun b' x' => (listed.setIfInBounds i true).size = l.length ∧ ((∃ vals, (∀ k, n ≤ k → k < l.length → (listed.setIfInBounds i true).getD k false = false) ∧ HeadC l n a X R F c G (listed.setIfInBounds i true) vals b' x') ∨ (∃ m, n ≤ m ∧ m ≤ l.length ∧ (∀ j, j < m → (listed.setIfInBounds i true).getD j false = true) ∧ (∀ j, m ≤ j → j < l.length → (listed.setIfInBounds i true).getD j false = false) ∧ wpList P l.toArray Q (l.drop m) b' x'))) b x := by
      intro m hnm hml h1 h2 hni h
      have hw := tail_waits ht ho hni hall (fun k' hk' hl j hj => h1 j (by
        rcases Nat.lt_or_ge k' m with e | e
        · omega
        · rcases Nat.lt_or_ge k' l.length with e' | e'
          · rw [h2 k' e e'] at hl; cases hl
          · rw [Array.getD_eq_getD_getElem?, Array.getElem?_eq_none (by omega)] at hl; cases hl)) (fun e _ j hj => h1 j (by omega))
      have him : i = m := by
        rcases Nat.lt_trichotomy i m with e | e | e
        · rw [h1 i e] at hun'; cases hun'
        · exact e
        · have := hw m e
          rw [h2 m (Nat.le_refl _) (by omega)] at this; cases this
      subst him
      refine tail_step rfl hol (fun b' x' h' => ⟨by simpa using hs, .inr ⟨i + 1, by omega, by omega, fun j hj => ?_, fun j hj hjl => ?_, h'⟩⟩) h
      · rw [set_at]
        by_cases e : j = i
        · rw [if_pos e]
        · rw [if_neg e]; exact h1 j (by omega)
      · rw [set_at, if_neg (by omega)]; exact h2 j (by omega) hjl
    rcases hI with ⟨vals, htl, hJ⟩ | ⟨m, hnm, hml, h1, h2, h⟩
    · by_cases hin : i < n
      · have h := step i o hin hol b x vals hJ.grow (fun e => hJ.calm (e.elim (fun e => e ▸ hun') (fun e => anc_not hJ.down e hun'))) (fun e he hb oj d h1 h2 => by
          have hl := hall e he hb
          have hlt : e.on < n := Nat.lt_trans ((regOkG_at hok i o ho).2.1 e he hb) hin
          exact ⟨hJ.slots e.on oj d h1 h2 hl, hJ.rel e.on hlt hl⟩) (fun d hd => hJ.others d (fun j oj _ hj he => by
            have : writesB l.toArray d = true := Array.any_eq_true'.2 ⟨oj, by simpa using List.mem_of_getElem? hj, by simp [he]⟩
            rw [this] at hd; cases hd))
        unfold wpOp
        simp only [ho]
        have hw : Region.wanted o (yielded l.toArray b.tmps) = true := by
          rcases (regOkG_at hok i o ho).1 with h0 | ⟨j, v, oj, d, e, h1, h2, h3, h4, h5, h6, h7⟩
          · simp [Region.wanted, h0]
          · have hl := hall e h5 h6
            have hlt : e.on < n := Nat.lt_trans ((regOkG_at hok i o ho).2.1 e h5 h6) hin
            rw [h7] at hl hlt
            have hj' : l[j]? = some oj := by simpa using h2
            have hs := hJ.slots j oj d hj' h3 hl
            have hv := hgv j _ _ v h4 (hJ.rel j hlt hl)
            rw [hv] at hs
            simp [Region.wanted, h1, yielded, hj', h3, hs]
        rw [if_pos hw]
        refine .inl (Oper.wp_mono ?_ h)
        rintro b' x' ⟨v, rfl, hb, hgc, hR, hf⟩
        have hsz2 : x.heap.size ≤ x'.heap.size := by
          by_cases e : i = c
          · exact hGs _ _ (hgc e)
          · exact (hb e).size
        refine ⟨by simpa using hs, .inl ⟨upd vals i v, fun k hk hkl => by rw [set_at, if_neg (by omega)]; exact htl k hk hkl, ?_⟩⟩
        have up_self : upd vals i v i = v := if_pos rfl
        have up_ne : ∀ {j}, j ≠ i → upd vals i v j = vals j := fun h => if_neg h
        have frp : ∀ j, j < n → j ≠ i → F j = true → (listed.setIfInBounds i true).getD j false = true → ∃ g, vals j = .pointer (some ⟨g, 0, none⟩) ∧ g < x.heap.size := fun j hj hji hF hl => by
          rw [set_at, if_neg hji] at hl
          exact hJ.fresh j hj hF hl
        refine ⟨?_, ?_, ?_, ?_, ?_, ?_, ?_, ?_, ?_, ?_⟩
        · by_cases e : i = c
          · exact hGc _ _ (hJ.calm (e ▸ hun')) (hgc e)
          · exact hGB _ _ hJ.grow (hb e)
        · intro hl
          have hic : i ≠ c := fun e => by rw [set_at, if_pos e.symm] at hl; cases hl
          rw [set_at, if_neg (fun e => hic e.symm)] at hl
          exact (hJ.calm hl).trans ((hb hic).mono (hJ.calm hl).size)
        · cases hdst : o.dst with
          | none => exact hJ.size
          | some d => simpa [Act.put] using hJ.size
        · cases hdst : o.dst with
          | none => exact hJ.defers
          | some d => simpa [Act.put] using hJ.defers
        · intro j oj d hj hjd hl
          by_cases hij : j = i
          · subst hij
            obtain rfl := Option.some.inj (hol.symm.trans hj)
            rw [hjd, up_self]
            have hlt := ((regOkG_at hok j o ho).2.2 d hjd).1
            have hlt' : d < b.tmps.size := by rw [hJ.size]; exact hlt
            simp [Act.put, hlt']
          · rw [set_at, if_neg hij] at hl
            have hold := hJ.slots j oj d hj hjd hl
            rw [up_ne hij]
            cases hdst : o.dst with
            | none => simpa [Act.put] using hold
            | some d' =>
              have hne : d' ≠ d := fun e => by
                subst e
                have hoj : l.toArray[j]? = some oj := by simpa using hj
                rcases Nat.lt_trichotomy i j with h | h | h
                · exact ((regOkG_at hok j oj hoj).2.2 d' hjd).2 i o h ho hdst
                · exact hij h.symm
                · exact ((regOkG_at hok i o ho).2.2 d' hdst).2 j oj h hoj hjd
              simp [Act.put, Array.getElem?_setIfInBounds_ne hne, hold]
        · intro d hnd
          have hold := hJ.others d hnd
          cases hdst : o.dst with
          | none => simpa [Act.put] using hold
          | some d' =>
            have hne : d' ≠ d := fun e => hnd i o hin hol (by rw [hdst, e])
            simp [Act.put, Array.getElem?_setIfInBounds_ne hne, hold]
        · intro j hj hl
          by_cases hij : j = i
          · subst hij; rw [up_self]; exact hR
          · rw [set_at, if_neg hij] at hl
            rw [up_ne hij]
            by_cases e : i = c
            · exact stableC j _ _ _ (fun q => hij (q.trans e.symm)) (hJ.rel j hj hl) (hgc e)
            · exact stable j _ _ _ (hJ.rel j hj hl) (hb e)
        · intro j hj hF hl
          by_cases hij : j = i
          · subst hij
            obtain ⟨g, e1, _, e3⟩ := hf hF
            exact ⟨g, by rw [up_self]; exact e1, e3⟩
          · obtain ⟨g, e1, e2⟩ := frp j hj hij hF hl
            exact ⟨g, by rw [up_ne hij]; exact e1, Nat.lt_of_lt_of_le e2 hsz2⟩
        · intro j k hj hk hjk hFj hFk hlj hlk
          by_cases hji : j = i
          · have hki : k ≠ i := fun e => hjk (hji.trans e.symm)
            obtain ⟨g, e1, e2⟩ := frp k hk hki hFk hlk
            obtain ⟨g', e3, e4, _⟩ := hf (hji ▸ hFj)
            rw [hji, up_self, up_ne hki, e1, e3]
            intro e
            cases e
            omega
          · by_cases hki : k = i
            · obtain ⟨g, e1, e2⟩ := frp j hj hji hFj hlj
              obtain ⟨g', e3, e4, _⟩ := hf (hki ▸ hFk)
              rw [hki, up_self, up_ne hji, e1, e3]
              intro e
              cases e
              omega
            · rw [set_at, if_neg hji] at hlj
              rw [set_at, if_neg hki] at hlk
              rw [up_ne hji, up_ne hki]
              exact hJ.apart j k hj hk hjk hFj hFk hlj hlk
        · intro k ok hk hl e he hbd
          rw [set_at] at hl ⊢
          by_cases hei : e.on = i
          · rw [if_pos hei]
          · rw [if_neg hei]
            by_cases hki : k = i
            · subst hki
              obtain rfl := Option.some.inj (ho.symm.trans hk)
              exact hall e he hbd
            · rw [if_neg hki] at hl
              exact hJ.down k ok hk hl e he hbd
      · have hni : n ≤ i := by omega
        have hw := tail_waits ht ho hni hall (fun k' hk' hl j hj => by
          rcases Nat.lt_or_ge k' l.length with e' | e'
          · rw [htl k' hk' e'] at hl; cases hl
          · rw [Array.getD_eq_getD_getElem?, Array.getElem?_eq_none (by omega)] at hl; cases hl) (fun _ hA j hj => anc_listed hJ.down 24 j i o ho hall (hA j hj))
        have hhead : ∀ j, j < n → listed.getD j false = true := fun j hj => hw j (by omega)
        refine go_tail n (Nat.le_refl _) hn hhead (fun j hj hjl => htl j hj hjl) hni ?_
        have hb : b = ⟨putAll vals (l.take n) 0 a.tmps, a.defers⟩ := by
          have : putAll vals (l.take n) 0 a.tmps = b.tmps := putAll_is (l.take n) 0 _ (fun j oj d h1 h2 => by
            have hjn : j < n := by have := (List.getElem?_eq_some_iff.1 h1).1; simp at this; omega
            rw [List.getElem?_take_of_lt hjn] at h1
            rw [Nat.zero_add]; exact hJ.slots j oj d h1 h2 (hhead j hjn)) hJ.size.symm fun d => by
            by_cases e : ∃ (j : Nat) (oj : Oper), j < n ∧ l[j]? = some oj ∧ oj.dst = some d
            · obtain ⟨j, oj, hj, h1, h2⟩ := e
              exact .inr ⟨j, oj, by rw [List.getElem?_take_of_lt hj]; exact h1, h2⟩
            · exact .inl (hJ.others d fun j oj hj h1 h2 => e ⟨j, oj, hj, h1, h2⟩).symm
          rw [this, ← hJ.defers]
        rw [hb]
        exact rest vals x hJ.grow (fun j hj => hJ.rel j hj (hhead j hj)) (fun i j hi hj hij h1 h2 => hJ.apart i j hi hj hij h1 h2 (hhead i hi) (hhead j hj))
    · have hni : n ≤ i := by
        rcases Nat.lt_or_ge i m with e | e
        · rw [h1 i e] at hun'; cases hun'
        · omega
      exact go_tail m hnm hml h1 h2 hni h
  · rintro listed b x ⟨hs, hI⟩ h0
    have hall : ∀ i, i < l.length → listed.getD i false = true := fun i hi => ready_nil hok (by omega) h0 i (by omega)
    rcases hI with ⟨vals, htl, hJ⟩ | ⟨m, hnm, hml, h1, h2, h⟩
    · have hnl : n = l.length := by
        rcases Nat.lt_or_ge n l.length with e | e
        · have := htl n (Nat.le_refl _) e
          rw [hall n e] at this; cases this
        · omega
      have hb : b = ⟨putAll vals (l.take n) 0 a.tmps, a.defers⟩ := by
        have : putAll vals (l.take n) 0 a.tmps = b.tmps := putAll_is (l.take n) 0 _ (fun j oj d h1 h2 => by
          have hjn : j < n := by have := (List.getElem?_eq_some_iff.1 h1).1; simp at this; omega
          rw [List.getElem?_take_of_lt hjn] at h1
          rw [Nat.zero_add]; exact hJ.slots j oj d h1 h2 (hall j (by omega))) hJ.size.symm fun d => by
          by_cases e : ∃ (j : Nat) (oj : Oper), j < n ∧ l[j]? = some oj ∧ oj.dst = some d
          · obtain ⟨j, oj, hj, h1, h2⟩ := e
            exact .inr ⟨j, oj, by rw [List.getElem?_take_of_lt hj]; exact h1, h2⟩
          · exact .inl (hJ.others d fun j oj hj h1 h2 => e ⟨j, oj, hj, h1, h2⟩).symm
        rw [this, ← hJ.defers]
      have hr := rest vals x hJ.grow (fun j hj => hJ.rel j hj (hall j (by omega))) (fun i j hi hj hij h1 h2 => hJ.apart i j hi hj hij h1 h2 (hall i (by omega)) (hall j (by omega)))
      rw [← hb, hnl, List.drop_length] at hr
      exact hr
    · have hml' : m = l.length := by
        rcases Nat.lt_or_ge m l.length with e | e
        · have := h2 m (Nat.le_refl _) e
          rw [hall m e] at this; cases this
        · omega
      rw [hml', List.drop_length] at h
      exact h
  · refine ⟨by simp, .inl ⟨fun _ => undef, fun k _ _ => repl_getD _ _, ⟨hG0 _ (Below.refl _ _).drew, fun _ => (Below.refl _ _).drew, rfl, rfl, fun j oj d _ _ h => absurd ((repl_getD _ _).symm.trans h) (by decide), fun _ _ => rfl, fun j _ h => absurd ((repl_getD _ _).symm.trans h) (by decide), fun j _ _ h => absurd ((repl_getD _ _).symm.trans h) (by decide), fun i j _ _ _ _ _ h _ => absurd ((repl_getD _ _).symm.trans h) (by decide), fun k _ _ h => absurd ((repl_getD _ _).symm.trans h) (by decide)⟩⟩⟩
end
end Go.Proofs.YteffpnjgchihpaaGreatDoor
