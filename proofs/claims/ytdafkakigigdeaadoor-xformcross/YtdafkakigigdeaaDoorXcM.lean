
/-
  A drawn region of which one operation changes what was there; what must come ahead of that one sees what was there. Rows of operations: one's own, append, slices.Clone. Rows of operations that are changed in place; Cross, step by step. xform.Cross: two rows of operations, each behind the other one. barrowref07.Cross: two rows of operations, each behind the other one, by the document. xform.Along, barrowref07.Along, barrowkeep.Ops. Rows of operations with the names of what they lay in: plain lists. barrowlaw07.behind, play. barrowkeep.SpoilOps, barrowlaw07.XformCross.
-/
import Derived.Test.YtdafkakigigdeaaDoorMiA
import Derived.Test.YtdafkakigigdeaaDoorXg1
import Derived.Laws.AppendOwn
import Derived.Lib.AppendZeros
import Derived.Lib.AppendZerosOnto
import Derived.Lib.SlFresh
import Derived.Deep.Upon
import Derived.Deep.MidRow
import Derived.Test.YtdafkakigigdeaaDoorXf2
import Derived.Test.YtdafkakigigdeaaDoorXr2
import Derived.Maps.AppendAt
namespace Go.Proofs.YtdafkakigigdeaaDoor
open Go.RowKit
set_option maxRecDepth 100000

section
variable {P : Program} {Q : Exit → Act → World → Prop}

/-- Must i come ahead of c? -/
def aheadB (ops : Array Oper) (c i : Nat) : Bool := match ops[c]? with
  | some oc => oc.after.any fun e => Region.binds .any e && e.on == i
  | none => false
theorem ahead_not {ops : Array Oper} {listed : Array Bool} {c i : Nat} (h : ∀ (k : Nat) (ok : Oper), ops[k]? = some ok → listed.getD k false = true → ∀ e ∈ ok.after, Region.binds .any e = true → listed.getD e.on false = true) (ha : aheadB ops c i = true) (hi : listed.getD i false = false) : listed.getD c false = false := by
  cases hc : listed.getD c false with
  | false => rfl
  | true =>
    unfold aheadB at ha
    cases ho : ops[c]? with
    | none => rw [ho] at ha; cases ha
    | some oc =>
      rw [ho] at ha
      simp only [Array.any_eq_true'] at ha
      obtain ⟨e, he, hb⟩ := ha
      simp only [Bool.and_eq_true, beq_iff_eq] at hb
      have := h c oc ho hc e he hb.1
      rw [hb.2, hi] at this
      cases this
theorem wp_region_onceA {id : Nat} {a : Act} {X : World} {l : List Oper} (n : Nat) (hm : P.follows .mixedOrders = true) (gv : Nat → Option Bool) (hok : regOkG l.toArray a.tmps.size gv = true) (ht : tailB l.toArray n = true) (hn : n ≤ l.length)
    (R : Nat → Value → World → Prop) (F : Nat → Bool) (hgv : ∀ j v x b, gv j = some b → R j v x → v = .bool b) (c : Nat) (_hcn : c < n) (G Gc : World → World → Prop) (hGB : ∀ x x', G X x → Below x.heap.size x x' → G X x') (hG0 : ∀ x, Below X.heap.size X x → G X x) (hGc : ∀ x x', Below X.heap.size X x → Gc x x' → G X x') (hGs : ∀ x x', Gc x x' → x.heap.size ≤ x'.heap.size)
    (stable : ∀ i v x x', R i v x → Below x.heap.size x x' → R i v x') (stableC : ∀ i v x x', i ≠ c → R i v x → Gc x x' → R i v x')
    (step : ∀ (i : Nat) (o : Oper), i < n → l[i]? = some o → ∀ (b : Act) (x : World) (vals : Nat → Value), G X x → (i = c ∨ aheadB l.toArray c i = true → Below X.heap.size X x) →
      (∀ (e : Edge), e ∈ o.after → Region.binds .any e = true → ∀ (oj : Oper) (d : Tmp), l[e.on]? = some oj → oj.dst = some d → b.tmps[d]? = some (vals e.on) ∧ R e.on (vals e.on) x) →
      (∀ d : Tmp, writesB l.toArray d = false → b.tmps[d]? = a.tmps[d]?) →
      o.wp P b x (CameC c Gc R F i o.dst b x) Q)
    (rest : ∀ (vals : Nat → Value) (x : World), G X x → (∀ j, j < n → R j (vals j) x) → (∀ i j, i < n → j < n → i ≠ j → F i = true → F j = true → vals i ≠ vals j) →
      wpList P l.toArray Q (l.drop n) ⟨putAll vals (l.take n) 0 a.tmps, a.defers⟩ x) :
    (Code.region id l.toArray true).wp P Q a X := by
  have hsz : l.toArray.size = l.length := by simp
  refine wp_region_any hm (wpAny_inv (fun listed b x => listed.size = l.length ∧ ((∃ vals, (∀ k, n ≤ k → k < l.length → listed.getD k false = false) ∧ HeadC l n a X R F c G listed vals b x) ∨ (∃ m, n ≤ m ∧ m ≤ l.length ∧ (∀ j, j < m → listed.getD j false = true) ∧ (∀ j, m ≤ j → j < l.length → listed.getD j false = false) ∧ wpList P l.toArray Q (l.drop m) b x))) ?_ ?_ _ _ _ _ (by rw [left_start]; exact Nat.le_refl _) ?_)
  · rintro listed b x i ⟨hs, hI⟩ hi
    obtain ⟨hun, o, ho, hall⟩ := mem_ready.1 hi
    have hol : l[i]? = some o := by simpa using ho
    have hil : i < l.length := (List.getElem?_eq_some_iff.1 hol).1
    have hun' : listed.getD i false = false := by
      have hx : i < listed.size := by omega
      simpa [hx] using hun
    have set_at : ∀ j, (listed.setIfInBounds i true).getD j false = if j = i then true else listed.getD j false := fun j => by
      by_cases e : j = i
      · subst e; rw [if_pos rfl]; have hx : j < listed.size := by omega
        simp [hx]
      · rw [if_neg e, getD_set_ne false (fun h => e h.symm)]
    have go_tail : ∀ m, n ≤ m → m ≤ l.length → (∀ j, j < m → listed.getD j false = true) → (∀ j, m ≤ j → j < l.length → listed.getD j false = false) → n ≤ i → wpList P l.toArray Q (l.drop m) b x →
        wpOp P l.toArray Q i (fun b' x' => (listed.setIfInBounds i true).size = l.length ∧ ((∃ vals, (∀ k, n ≤ k → k < l.length → (listed.setIfInBounds i true).getD k false = false) ∧ HeadC l n a X R F c G (listed.setIfInBounds i true) vals b' x') ∨ (∃ m, n ≤ m ∧ m ≤ l.length ∧ (∀ j, j < m → (listed.setIfInBounds i true).getD j false = true) ∧ (∀ j, m ≤ j → j < l.length → (listed.setIfInBounds i true).getD j false = false) ∧ wpList P l.toArray Q (l.drop m) b' x'))) b x := by
      intro m hnm hml h1 h2 hni h
      have hw := tail_waits ht ho hni hall (fun k' hk' hl j hj => h1 j (by
        rcases Nat.lt_or_ge k' m with e | e
        · omega
        · rcases Nat.lt_or_ge k' l.length with e' | e'
          · rw [h2 k' e e'] at hl; cases hl
          · rw [Array.getD_eq_getD_getElem?, Array.getElem?_eq_none (by omega)] at hl; cases hl)) (fun e _ j hj => h1 j (by omega))
      have him : i = m := by
        rcases Nat.lt_trichotomy i m with e | e | e
        · rw [h1 i e] at hun'; cases hun'
        · exact e
        · have := hw m e
          rw [h2 m (Nat.le_refl _) (by omega)] at this; cases this
      subst him
      refine tail_step rfl hol (fun b' x' h' => ⟨by simpa using hs, .inr ⟨i + 1, by omega, by omega, fun j hj => ?_, fun j hj hjl => ?_, h'⟩⟩) h
      · rw [set_at]
        by_cases e : j = i
        · rw [if_pos e]
        · rw [if_neg e]; exact h1 j (by omega)
      · rw [set_at, if_neg (by omega)]; exact h2 j (by omega) hjl
    rcases hI with ⟨vals, htl, hJ⟩ | ⟨m, hnm, hml, h1, h2, h⟩
    · by_cases hin : i < n
      · have h := step i o hin hol b x vals hJ.grow (fun e => hJ.calm (e.elim (fun e => e ▸ hun') (fun e => ahead_not hJ.down e hun'))) (fun e he hb oj d h1 h2 => by
          have hl := hall e he hb
          have hlt : e.on < n := Nat.lt_trans ((regOkG_at hok i o ho).2.1 e he hb) hin
          exact ⟨hJ.slots e.on oj d h1 h2 hl, hJ.rel e.on hlt hl⟩) (fun d hd => hJ.others d (fun j oj _ hj he => by
            have : writesB l.toArray d = true := Array.any_eq_true'.2 ⟨oj, by simpa using List.mem_of_getElem? hj, by simp [he]⟩
            rw [this] at hd; cases hd))
        unfold wpOp
        simp only [ho]
        have hw : Region.wanted o (yielded l.toArray b.tmps) = true := by
          rcases (regOkG_at hok i o ho).1 with h0 | ⟨j, v, oj, d, e, h1, h2, h3, h4, h5, h6, h7⟩
          · simp [Region.wanted, h0]
          · have hl := hall e h5 h6
            have hlt : e.on < n := Nat.lt_trans ((regOkG_at hok i o ho).2.1 e h5 h6) hin
            rw [h7] at hl hlt
            have hj' : l[j]? = some oj := by simpa using h2
            have hs := hJ.slots j oj d hj' h3 hl
            have hv := hgv j _ _ v h4 (hJ.rel j hlt hl)
            rw [hv] at hs
            simp [Region.wanted, h1, yielded, hj', h3, hs]
        rw [if_pos hw]
        refine .inl (Oper.wp_mono ?_ h)
        rintro b' x' ⟨v, rfl, hb, hgc, hR, hf⟩
        have hsz2 : x.heap.size ≤ x'.heap.size := by
          by_cases e : i = c
          · exact hGs _ _ (hgc e)
          · exact (hb e).size
        refine ⟨by simpa using hs, .inl ⟨upd vals i v, fun k hk hkl => by rw [set_at, if_neg (by omega)]; exact htl k hk hkl, ?_⟩⟩
        have up_self : upd vals i v i = v := if_pos rfl
        have up_ne : ∀ {j}, j ≠ i → upd vals i v j = vals j := fun h => if_neg h
        have frp : ∀ j, j < n → j ≠ i → F j = true → (listed.setIfInBounds i true).getD j false = true → ∃ g, vals j = .pointer (some ⟨g, 0, none⟩) ∧ g < x.heap.size := fun j hj hji hF hl => by
          rw [set_at, if_neg hji] at hl
          exact hJ.fresh j hj hF hl
        refine ⟨?_, ?_, ?_, ?_, ?_, ?_, ?_, ?_, ?_, ?_⟩
        · by_cases e : i = c
          · exact hGc _ _ (hJ.calm (e ▸ hun')) (hgc e)
          · exact hGB _ _ hJ.grow (hb e)
        · intro hl
          have hic : i ≠ c := fun e => by rw [set_at, if_pos e.symm] at hl; cases hl
          rw [set_at, if_neg (fun e => hic e.symm)] at hl
          exact (hJ.calm hl).trans ((hb hic).mono (hJ.calm hl).size)
        · cases hdst : o.dst with
          | none => exact hJ.size
          | some d => simpa [Act.put] using hJ.size
        · cases hdst : o.dst with
          | none => exact hJ.defers
          | some d => simpa [Act.put] using hJ.defers
        · intro j oj d hj hjd hl
          by_cases hij : j = i
          · subst hij
            obtain rfl := Option.some.inj (hol.symm.trans hj)
            rw [hjd, up_self]
            have hlt := ((regOkG_at hok j o ho).2.2 d hjd).1
            have hlt' : d < b.tmps.size := by rw [hJ.size]; exact hlt
            simp [Act.put, hlt']
          · rw [set_at, if_neg hij] at hl
            have hold := hJ.slots j oj d hj hjd hl
            rw [up_ne hij]
            cases hdst : o.dst with
            | none => simpa [Act.put] using hold
            | some d' =>
              have hne : d' ≠ d := fun e => by
                subst e
                have hoj : l.toArray[j]? = some oj := by simpa using hj
                rcases Nat.lt_trichotomy i j with h | h | h
                · exact ((regOkG_at hok j oj hoj).2.2 d' hjd).2 i o h ho hdst
                · exact hij h.symm
                · exact ((regOkG_at hok i o ho).2.2 d' hdst).2 j oj h hoj hjd
              simp [Act.put, Array.getElem?_setIfInBounds_ne hne, hold]
        · intro d hnd
          have hold := hJ.others d hnd
          cases hdst : o.dst with
          | none => simpa [Act.put] using hold
          | some d' =>
            have hne : d' ≠ d := fun e => hnd i o hin hol (by rw [hdst, e])
            simp [Act.put, Array.getElem?_setIfInBounds_ne hne, hold]
        · intro j hj hl
          by_cases hij : j = i
          · subst hij; rw [up_self]; exact hR
          · rw [set_at, if_neg hij] at hl
            rw [up_ne hij]
            by_cases e : i = c
            · exact stableC j _ _ _ (fun q => hij (q.trans e.symm)) (hJ.rel j hj hl) (hgc e)
            · exact stable j _ _ _ (hJ.rel j hj hl) (hb e)
        · intro j hj hF hl
          by_cases hij : j = i
          · subst hij
            obtain ⟨g, e1, _, e3⟩ := hf hF
            exact ⟨g, by rw [up_self]; exact e1, e3⟩
          · obtain ⟨g, e1, e2⟩ := frp j hj hij hF hl
            exact ⟨g, by rw [up_ne hij]; exact e1, Nat.lt_of_lt_of_le e2 hsz2⟩
        · intro j k hj hk hjk hFj hFk hlj hlk
          by_cases hji : j = i
          · have hki : k ≠ i := fun e => hjk (hji.trans e.symm)
            obtain ⟨g, e1, e2⟩ := frp k hk hki hFk hlk
            obtain ⟨g', e3, e4, _⟩ := hf (hji ▸ hFj)
            rw [hji, up_self, up_ne hki, e1, e3]
            intro e
            cases e
            omega
          · by_cases hki : k = i
            · obtain ⟨g, e1, e2⟩ := frp j hj hji hFj hlj
              obtain ⟨g', e3, e4, _⟩ := hf (hki ▸ hFk)
              rw [hki, up_self, up_ne hji, e1, e3]
              intro e
              cases e
              omega
            · rw [set_at, if_neg hji] at hlj
              rw [set_at, if_neg hki] at hlk
              rw [up_ne hji, up_ne hki]
              exact hJ.apart j k hj hk hjk hFj hFk hlj hlk
        · intro k ok hk hl e he hbd
          rw [set_at] at hl ⊢
          by_cases hei : e.on = i
          · rw [if_pos hei]
          · rw [if_neg hei]
            by_cases hki : k = i
            · subst hki
              obtain rfl := Option.some.inj (ho.symm.trans hk)
              exact hall e he hbd
            · rw [if_neg hki] at hl
              exact hJ.down k ok hk hl e he hbd
      · have hni : n ≤ i := by omega
        have hw := tail_waits ht ho hni hall (fun k' hk' hl j hj => by
          rcases Nat.lt_or_ge k' l.length with e' | e'
          · rw [htl k' hk' e'] at hl; cases hl
          · rw [Array.getD_eq_getD_getElem?, Array.getElem?_eq_none (by omega)] at hl; cases hl) (fun _ hA j hj => anc_listed hJ.down 24 j i o ho hall (hA j hj))
        have hhead : ∀ j, j < n → listed.getD j false = true := fun j hj => hw j (by omega)
        refine go_tail n (Nat.le_refl _) hn hhead (fun j hj hjl => htl j hj hjl) hni ?_
        have hb : b = ⟨putAll vals (l.take n) 0 a.tmps, a.defers⟩ := by
          have : putAll vals (l.take n) 0 a.tmps = b.tmps := putAll_is (l.take n) 0 _ (fun j oj d h1 h2 => by
            have hjn : j < n := by have := (List.getElem?_eq_some_iff.1 h1).1; simp at this; omega
            rw [List.getElem?_take_of_lt hjn] at h1
            rw [Nat.zero_add]; exact hJ.slots j oj d h1 h2 (hhead j hjn)) hJ.size.symm fun d => by
            by_cases e : ∃ (j : Nat) (oj : Oper), j < n ∧ l[j]? = some oj ∧ oj.dst = some d
            · obtain ⟨j, oj, hj, h1, h2⟩ := e
              exact .inr ⟨j, oj, by rw [List.getElem?_take_of_lt hj]; exact h1, h2⟩
            · exact .inl (hJ.others d fun j oj hj h1 h2 => e ⟨j, oj, hj, h1, h2⟩).symm
          rw [this, ← hJ.defers]
        rw [hb]
        exact rest vals x hJ.grow (fun j hj => hJ.rel j hj (hhead j hj)) (fun i j hi hj hij h1 h2 => hJ.apart i j hi hj hij h1 h2 (hhead i hi) (hhead j hj))
    · have hni : n ≤ i := by
        rcases Nat.lt_or_ge i m with e | e
        · rw [h1 i e] at hun'; cases hun'
        · omega
      exact go_tail m hnm hml h1 h2 hni h
  · rintro listed b x ⟨hs, hI⟩ h0
    have hall : ∀ i, i < l.length → listed.getD i false = true := fun i hi => ready_nil hok (by omega) h0 i (by omega)
    rcases hI with ⟨vals, htl, hJ⟩ | ⟨m, hnm, hml, h1, h2, h⟩
    · have hnl : n = l.length := by
        rcases Nat.lt_or_ge n l.length with e | e
        · have := htl n (Nat.le_refl _) e
          rw [hall n e] at this; cases this
        · omega
      have hb : b = ⟨putAll vals (l.take n) 0 a.tmps, a.defers⟩ := by
        have : putAll vals (l.take n) 0 a.tmps = b.tmps := putAll_is (l.take n) 0 _ (fun j oj d h1 h2 => by
          have hjn : j < n := by have := (List.getElem?_eq_some_iff.1 h1).1; simp at this; omega
          rw [List.getElem?_take_of_lt hjn] at h1
          rw [Nat.zero_add]; exact hJ.slots j oj d h1 h2 (hall j (by omega))) hJ.size.symm fun d => by
          by_cases e : ∃ (j : Nat) (oj : Oper), j < n ∧ l[j]? = some oj ∧ oj.dst = some d
          · obtain ⟨j, oj, hj, h1, h2⟩ := e
            exact .inr ⟨j, oj, by rw [List.getElem?_take_of_lt hj]; exact h1, h2⟩
          · exact .inl (hJ.others d fun j oj hj h1 h2 => e ⟨j, oj, hj, h1, h2⟩).symm
        rw [this, ← hJ.defers]
      have hr := rest vals x hJ.grow (fun j hj => hJ.rel j hj (hall j (by omega))) (fun i j hi hj hij h1 h2 => hJ.apart i j hi hj hij h1 h2 (hall i (by omega)) (hall j (by omega)))
      rw [← hb, hnl, List.drop_length] at hr
      exact hr
    · have hml' : m = l.length := by
        rcases Nat.lt_or_ge m l.length with e | e
        · have := h2 m (Nat.le_refl _) e
          rw [hall m e] at this; cases this
        · omega
      rw [hml', List.drop_length] at h
      exact h
  · refine ⟨by simp, .inl ⟨fun _ => undef, fun k _ _ => repl_getD _ _, ⟨hG0 _ (Below.refl _ _).drew, fun _ => (Below.refl _ _).drew, rfl, rfl, fun j oj d _ _ h => absurd ((repl_getD _ _).symm.trans h) (by decide), fun _ _ => rfl, fun j _ h => absurd ((repl_getD _ _).symm.trans h) (by decide), fun j _ _ h => absurd ((repl_getD _ _).symm.trans h) (by decide), fun i j _ _ _ _ _ h _ => absurd ((repl_getD _ _).symm.trans h) (by decide), fun k _ _ h => absurd ((repl_getD _ _).symm.trans h) (by decide)⟩⟩⟩
end
end Go.Proofs.YtdafkakigigdeaaDoor
namespace Go.Proofs.YtdafkakigigdeaaDoor
open Go.RowKit
set_option maxRecDepth 100000

theorem ocells_len : ∀ l : List Xo, (ocells l).length = l.length * 4
  | [] => rfl
  | e :: l => by simp only [ocells, List.length_cons, ocells_len l]; omega
theorem ocells_app : ∀ a b : List Xo, ocells (a ++ b) = ocells a ++ ocells b
  | [], _ => rfl
  | x :: r, b => by simp [ocells, ocells_app r b]
theorem ocells_of : ∀ (l : List Xo) (k : Nat) (u : Value), (ocells l)[k]? = some u → ∃ i e j, l[i]? = some e ∧ k = i * 4 + j ∧ (ov e)[j]? = some u
  | [], k, u, h => by simp [ocells] at h
  | y :: r, k, u, h => by
    match k, h with
    | 0, h => exact ⟨0, y, 0, rfl, rfl, by simpa [ov, ocells] using h⟩
    | 1, h => exact ⟨0, y, 1, rfl, rfl, by simpa [ov, ocells] using h⟩
    | 2, h => exact ⟨0, y, 2, rfl, rfl, by simpa [ov, ocells] using h⟩
    | 3, h => exact ⟨0, y, 3, rfl, rfl, by simpa [ov, ocells] using h⟩
    | k + 4, h =>
      obtain ⟨i, e, j, h1, h2, h3⟩ := ocells_of r k u (by simpa [ocells] using h)
      exact ⟨i + 1, e, j, by simpa using h1, by omega, h3⟩
theorem ocells_one (l : List Xo) : ∀ u ∈ ocells l, u.oneCell' = true := by
  induction l with
  | nil => simp [ocells]
  | cons e l ih =>
    intro u hu
    simp only [ocells, List.mem_cons] at hu
    rcases hu with rfl | rfl | rfl | rfl | hu <;> first | rfl | exact ih u hu
theorem OsAt.cells {g o_ : Nat} {l : List Xo} {w : World} (h : OsAt g o_ l w) : ∀ j u, (ocells l)[j]? = some u → w.cell? ((⟨g, o_, none⟩ : Addr).add j) = some u := fun j u hu => by
  obtain ⟨i, e, k, h1, rfl, h3⟩ := ocells_of l j u hu
  rw [Addr.add_lit, ← Nat.add_assoc]
  exact (h i e h1).2 k u h3
theorem os_of_cells {g o_ : Nat} {l : List Xo} {w : World} (hg : g < w.heap.size) (h : ∀ j u, (ocells l)[j]? = some u → w.cell? ⟨g, o_ + j, none⟩ = some u) : OsAt g o_ l w := fun i e he =>
  ⟨hg, fun j v hv => by rw [Nat.add_assoc]; exact h _ _ (ocells_at l i e he j v hv)⟩

/-- A row of elements that is one's own. -/
def OwnO (base : Nat) (v : Value) (l : List Xo) (w : World) : Prop := w.ownsRow base 37 4 v l.length (ocells l)
theorem OwnO.sl {base : Nat} {v : Value} {l : List Xo} {w : World} (h : OwnO base v l w) : SlO w v l := by
  have h0 := h
  rcases h.2 with ⟨rfl, hn⟩ | ⟨g, cap, cur, rfl, _, hg, _⟩
  · exact .inl ⟨List.length_eq_zero_iff.1 hn, none, 0, rfl⟩
  · refine .inr ⟨g, 0, cap, rfl, os_of_cells (Array.getElem?_eq_some_iff.1 hg).1 fun j u hu => ?_⟩
    have := (World.ownsRow.cells h0 (g := g) rfl) j u hu
    simpa [Addr.add_lit] using this
theorem OwnO.block {base : Nat} {v : Value} {l : List Xo} {w : World} (h : OwnO base v l w) (hl : l ≠ []) : ∃ g c, base ≤ g ∧ v = .slice (some ⟨g, 0, none⟩) l.length c ∧ OsAt g 0 l w := by
  have h0 := h
  rcases h.2 with ⟨rfl, hn⟩ | ⟨g, cap, cur, rfl, hb, hg, _⟩
  · exact absurd (List.length_eq_zero_iff.1 hn) hl
  · refine ⟨g, cap, hb, rfl, os_of_cells (Array.getElem?_eq_some_iff.1 hg).1 fun j u hu => ?_⟩
    have := (World.ownsRow.cells h0 (g := g) rfl) j u hu
    simpa [Addr.add_lit] using this

theorem OwnO.room {base : Nat} {v : Value} {l : List Xo} {w : World} (h : OwnO base v l w) (hl : l ≠ []) : ∃ g c, base ≤ g ∧ v = .slice (some ⟨g, 0, none⟩) l.length c ∧ OsAt g 0 l w ∧ l.length ≤ c ∧ c ≤ 9223372036854775807 := by
  obtain ⟨g, c, h1, h2, h3⟩ := h.block hl
  rcases h.2 with ⟨h4, hn⟩ | ⟨g', cap, cur, h4, _, _, h5, h6, _⟩
  · exact absurd (List.length_eq_zero_iff.1 hn) hl
  · rw [h2] at h4
    cases h4
    exact ⟨g, c, h1, h2, h3, h5, h6⟩
theorem info_op : (Tryd.prog.info? 37).map (fun i => (i.zero, i.size, i.bytes)) = some (some (.agg #[.int .i64 0, .int .i64 0, .int .i32 0, .int .i64 0]), 4, 32) := by kernel_rfl
theorem run_appO {base : Nat} {v u : Value} {xs l : List Xo} {w : World} (ty : TypeId) (hown : OwnO base v xs w) (hu : SlO w u l) (hlen : xs.length + l.length ≤ 1099511627776) (hbase : base ≤ w.heap.size) :
    ∃ v' w', (Builtin.append_ #[23, 23] ty #[v, u]).run Tryd.prog w = .ok v' w' ∧ OwnO base v' (xs ++ l) w' ∧ w.grownBy w' v.ownBlock := by
  obtain ⟨i0, hi, hi3⟩ := Option.map_eq_some_iff.1 info_op
  simp only [Prod.mk.injEq] at hi3
  obtain ⟨hz0, hz1, hz2⟩ := hi3
  have key : ∀ (a : Addr) (c : Nat), u = .slice (some a) l.length c → (∀ j x, (ocells l)[j]? = some x → w.cell? (a.add j) = some x) → ∃ v' w', (Builtin.append_ #[23, 23] ty #[v, u]).run Tryd.prog w = .ok v' w' ∧ OwnO base v' (xs ++ l) w' ∧ w.grownBy w' v.ownBlock := by
    intro a c hu hc
    subst hu
    obtain ⟨v', w', h1, h2, h3, _⟩ := run_append_own (P := Tryd.prog) w base 23 ty 37 i0 _ 4 32 Tryd.underlying23 hi hz0 hz1 hz2 rfl (by decide) v xs.length (ocells xs) hown a l.length c (ocells l) (ocells_len l) hc (ocells_one l) (by unfold maxLen; omega) (by omega) hbase
    refine ⟨v', w', h1, ?_, h3⟩
    unfold OwnO
    rw [List.length_append, ocells_app]
    exact h2
  rcases hu with ⟨rfl, a, c, rfl⟩ | ⟨g, o_, c, rfl, hl⟩
  · cases a with
    | some a => exact key a c rfl (fun j x hx => by simp [ocells] at hx)
    | none =>
      rw [List.append_nil]
      obtain ⟨a', n', c', rfl, hle⟩ : ∃ a' n' c', v = .slice a' n' c' ∧ n' ≤ c' := by
        rcases hown.2 with ⟨rfl, hn⟩ | ⟨g, cap, cur, rfl, _, _, hnc, _⟩
        · exact ⟨_, _, _, rfl, Nat.le_refl _⟩
        · exact ⟨_, _, _, rfl, hnc⟩
      exact ⟨_, w, run_append_nothing (P := Tryd.prog) w 23 23 ty 37 i0 Tryd.underlying23 hi a' n' c' hle _ (Src.ofNil w Tryd.underlying23 c), hown, ⟨rfl, rfl, rfl, Nat.le_refl _, fun _ _ _ => rfl⟩⟩
  · exact key ⟨g, o_, none⟩ c rfl hl.cells

/-- append, in a walk. -/
theorem wpL_appO {ops : Array Oper} {rest : List Oper} {o : Oper} {A : Act} {w : World} {Q : Exit → Act → World → Prop} (hgd : o.guard = none) (s x : Operand) (ho : o.op = .call { callee := .builtin .append, args := #[s, x], argTypes := #[23, 23] })
    {base : Nat} {v u : Value} {xs l : List Xo} (hs : A.eval s = v) (hx : A.eval x = u) (hown : OwnO base v xs w) (hu : SlO w u l) (hlen : xs.length + l.length ≤ 1099511627776) (hbase : base ≤ w.heap.size)
    (k : ∀ v' w', OwnO base v' (xs ++ l) w' → w.grownBy w' v.ownBlock → wpList Tryd.prog ops Q rest (A.put o.dst v') w') : wpList Tryd.prog ops Q (o :: rest) A w := by
  obtain ⟨v', w', h1, h2, h3⟩ := run_appO o.type hown hu hlen hbase
  exact Lib.wpList_append_run_sl w hgd s x _ ho v u hs hx h1 (k v' w' h2 h3)
theorem OwnO.lt {base : Nat} {v : Value} {l : List Xo} {w : World} (h : OwnO base v l w) : ∀ k, v.ownBlock = some k → base ≤ k ∧ k < w.heap.size := fun k hk => World.ownsRow.lt h k hk
theorem OwnO.form {base : Nat} {v : Value} {l : List Xo} {w : World} (h : OwnO base v l w) : ∃ a c, v = .slice a l.length c := by
  rcases h.2 with ⟨rfl, hn⟩ | ⟨g, cap, cur, rfl, _⟩
  · exact ⟨none, 0, by rw [hn]⟩
  · exact ⟨_, _, rfl⟩

theorem eql_nilO (a : Addr) (n c : Nat) (w : World) : (binOp .eql 23 (.slice (some a) n c) (.slice none 0 0)).run Tryd.prog w = .ok (.bool false) w := by kernel_rfl
theorem own_emptyO (w : World) : OwnO w.heap.size (.slice (some ⟨w.heap.size, 0, none⟩) 0 0) [] (w.alloc (.cells #[] 37)) :=
  ⟨rfl, .inr ⟨w.heap.size, 0, #[], rfl, Nat.le_refl _, heap_alloc_last w _, Nat.le_refl _, Nat.zero_le _, rfl, rfl⟩⟩
set_option maxHeartbeats 2000000 in
theorem cloneO_some (l : List Xo) (g o_ c : Nat) (w : World) (hl : OsAt g o_ l w) (hn : l.length ≤ 1099511627776) :
    Calls Tryd.prog 28 #[.slice (some ⟨g, o_, none⟩) l.length c] w fun r w' => ∃ v, r = .returned v ∧ OwnO w.heap.size v l w' ∧ Below w.heap.size w w' := by
  have hq := eql_nilO ⟨g, o_, none⟩ l.length c
  go_enter Tryd.func28, Tryd.ntmps28
  go_wp2_with (at_builtin; refine wpL_appO rfl _ _ rfl rfl rfl (own_emptyO w) (.inr ⟨g, o_, c, rfl, hl.later (below_one _ _)⟩) (by simpa using hn) (by simp) ?_; intro v' w1 ho hg)
  go_ret
  exact ⟨_, rfl, ho, (below_one w (.cells #[] 37)).grown hg (by simp) (fun k hk => ((own_emptyO w).lt k hk).1)⟩

set_option maxHeartbeats 2000000 in
theorem cloneO_nil (n c : Nat) (w : World) (hz : n = 0) :
    Calls Tryd.prog 28 #[.slice none n c] w fun r w' => ∃ v, r = .returned v ∧ OwnO w.heap.size v [] w' ∧ Below w.heap.size w w' := by
  subst hz
  have hq : ∀ x, (binOp .eql 23 (.slice none 0 c) (.slice none 0 0)).run Tryd.prog x = .ok (.bool true) x := fun _ => by kernel_rfl
  go_enter Tryd.func28, Tryd.ntmps28
  go_wp2
  go_ret
  exact ⟨_, rfl, ⟨rfl, .inl ⟨rfl, rfl⟩⟩, Below.refl _ _⟩
set_option maxHeartbeats 2000000 in
theorem cloneO_zero (a : Addr) (c : Nat) (w : World) :
    Calls Tryd.prog 28 #[.slice (some a) 0 c] w fun r w' => ∃ v, r = .returned v ∧ OwnO w.heap.size v [] w' ∧ Below w.heap.size w w' := by
  have hq := eql_nilO a 0 c
  go_enter Tryd.func28, Tryd.ntmps28
  go_wp2_with (at_builtin; refine wpL_appO (l := []) rfl _ _ rfl rfl rfl (own_emptyO w) (.inl ⟨rfl, _, _, rfl⟩) (by simp) (by simp) ?_; intro v' w1 ho hg)
  go_ret
  exact ⟨_, rfl, ho, (below_one w (.cells #[] 37)).grown hg (by simp) (fun k hk => ((own_emptyO w).lt k hk).1)⟩
theorem cloneO_any {w : World} {v : Value} {l : List Xo} (h : SlO w v l) (hn : l.length ≤ 1099511627776) :
    Calls Tryd.prog 28 #[v] w fun r w' => ∃ v, r = .returned v ∧ OwnO w.heap.size v l w' ∧ Below w.heap.size w w' := by
  rcases h with ⟨rfl, a, c, rfl⟩ | ⟨g, o_, c, rfl, h⟩
  · cases a with
    | none => exact cloneO_nil 0 c w rfl
    | some a => exact cloneO_zero a c w
  · exact cloneO_some l g o_ c w h hn
end Go.Proofs.YtdafkakigigdeaaDoor
namespace Go.Proofs.YtdafkakigigdeaaDoor
open Go.RowKit
set_option maxRecDepth 100000

theorem pass_snoc : ∀ (xs : List Xo) (a b : Xo), passO (xs ++ [a]) b = ((passO xs b).1 ++ [tO a (passO xs b).2], tO (passO xs b).2 a)
  | [], _, _ => rfl
  | x :: xs, a, b => by
    simp only [List.cons_append, passO]
    rw [pass_snoc xs a (tO b x)]
theorem cross_snoc : ∀ (bs xs : List Xo) (b : Xo), crossO xs (bs ++ [b]) = ((passO (crossO xs bs).1 b).1, (crossO xs bs).2 ++ [(passO (crossO xs bs).1 b).2])
  | [], _, _ => rfl
  | c :: bs, xs, b => by
    simp only [List.cons_append, crossO]
    rw [cross_snoc bs (passO xs c).1 b]
/-- One row behind the first i of the other: how it lies. -/
def pA (A : List Xo) (b : Xo) (i : Nat) : List Xo := (passO (A.take i) b).1 ++ A.drop i
def pB (A : List Xo) (b : Xo) (i : Nat) : Xo := (passO (A.take i) b).2
theorem pA_len {A : List Xo} {b : Xo} {i : Nat} : (pA A b i).length = A.length := by
  unfold pA
  rw [List.length_append, pass_len, List.length_take, List.length_drop]
  omega
theorem pA_zero (A : List Xo) (b : Xo) : pA A b 0 = A := by simp [pA, passO]
theorem pB_zero (A : List Xo) (b : Xo) : pB A b 0 = b := by simp [pB, passO]
theorem pA_at {A : List Xo} {b a : Xo} {i : Nat} (h : A[i]? = some a) : (pA A b i)[i]? = some a := by
  have hi := (List.getElem?_eq_some_iff.1 h).1
  unfold pA
  have hl : (passO (A.take i) b).1.length = i := by rw [pass_len, List.length_take]; omega
  rw [List.getElem?_append_right (by omega), hl, Nat.sub_self, List.getElem?_drop]
  exact h
theorem pB_next {A : List Xo} {b a : Xo} {i : Nat} (h : A[i]? = some a) : pB A b (i + 1) = tO (pB A b i) a := by
  unfold pB
  rw [(take_drop_at h).2, pass_snoc]
theorem pA_next {A : List Xo} {b a : Xo} {i : Nat} (h : A[i]? = some a) : pA A b (i + 1) = (pA A b i).set i (tO a (pB A b i)) := by
  have hi := (List.getElem?_eq_some_iff.1 h).1
  have hl : (passO (A.take i) b).1.length = i := by rw [pass_len, List.length_take]; omega
  unfold pA pB
  rw [(take_drop_at h).2, pass_snoc, (take_drop_at h).1, List.set_append_right _ _ (by omega), hl, Nat.sub_self, List.set_cons_zero, List.append_assoc]
  rfl
theorem pA_all (A : List Xo) (b : Xo) : pA A b A.length = (passO A b).1 := by unfold pA; simp
theorem pB_all (A : List Xo) (b : Xo) : pB A b A.length = (passO A b).2 := by unfold pB; simp
/-- Behind the first j of bs. -/
def cA (xs bs : List Xo) (j : Nat) : List Xo := (crossO xs (bs.take j)).1
def cO (xs bs : List Xo) (j : Nat) : List Xo := (crossO xs (bs.take j)).2
def cB (xs bs : List Xo) (j : Nat) : List Xo := cO xs bs j ++ bs.drop j
theorem cA_zero (xs bs : List Xo) : cA xs bs 0 = xs := by simp [cA, crossO]
theorem cO_zero (xs bs : List Xo) : cO xs bs 0 = [] := by simp [cO, crossO]
theorem cB_zero (xs bs : List Xo) : cB xs bs 0 = bs := by simp [cB, cO, crossO]
theorem cA_len {xs bs : List Xo} {j : Nat} : (cA xs bs j).length = xs.length := (cross_len (bs.take j) xs).1
theorem cO_len {xs bs : List Xo} {j : Nat} (h : j ≤ bs.length) : (cO xs bs j).length = j := by
  have := (cross_len (bs.take j) xs).2
  rw [List.length_take] at this
  unfold cO
  omega
theorem cB_len {xs bs : List Xo} {j : Nat} (h : j ≤ bs.length) : (cB xs bs j).length = bs.length := by
  unfold cB
  rw [List.length_append, cO_len h, List.length_drop]
  omega
theorem cA_next {xs bs : List Xo} {b : Xo} {j : Nat} (h : bs[j]? = some b) : cA xs bs (j + 1) = (passO (cA xs bs j) b).1 := by
  unfold cA
  rw [(take_drop_at h).2, cross_snoc]
theorem cO_next {xs bs : List Xo} {b : Xo} {j : Nat} (h : bs[j]? = some b) : cO xs bs (j + 1) = cO xs bs j ++ [(passO (cA xs bs j) b).2] := by
  unfold cO cA
  rw [(take_drop_at h).2, cross_snoc]
theorem cB_at {xs bs : List Xo} {b : Xo} {j : Nat} (h : bs[j]? = some b) : (cB xs bs j)[j]? = some b := by
  have hj := (List.getElem?_eq_some_iff.1 h).1
  unfold cB
  rw [List.getElem?_append_right (by rw [cO_len (by omega)]; omega), cO_len (by omega), Nat.sub_self, List.getElem?_drop]
  exact h
theorem cB_next {xs bs : List Xo} {b : Xo} {j : Nat} (h : bs[j]? = some b) : cB xs bs (j + 1) = (cB xs bs j).set j (passO (cA xs bs j) b).2 := by
  have hj := (List.getElem?_eq_some_iff.1 h).1
  unfold cB
  rw [cO_next h, (take_drop_at h).1, List.set_append_right _ _ (by rw [cO_len (by omega)]; omega), cO_len (by omega), Nat.sub_self, List.set_cons_zero, List.append_assoc]
  rfl
theorem cA_all (xs bs : List Xo) : cA xs bs bs.length = (crossO xs bs).1 := by unfold cA; simp
theorem cO_all (xs bs : List Xo) : cO xs bs bs.length = (crossO xs bs).2 := by unfold cO; simp
theorem cB_all (xs bs : List Xo) : cB xs bs bs.length = (crossO xs bs).2 := by unfold cB; simp [cO]
theorem tO_in {a b : Xo} (h : a.In) : (tO a b).In := by
  unfold tO
  split
  next q => exact ⟨h.1, ⟨show _ ≤ a.p + 1 by have := h.2.1.1; omega, show a.p + 1 ≤ _ by omega⟩, h.2.2⟩
  next => exact h
theorem pass_in : ∀ (xs : List Xo) (b : Xo), (∀ x ∈ xs, x.In) → b.In → (∀ x ∈ (passO xs b).1, x.In) ∧ (passO xs b).2.In
  | [], _, _, hb => ⟨fun x hx => by simp [passO] at hx, hb⟩
  | a :: xs, b, h, hb => by
    have ih := pass_in xs (tO b a) (fun x hx => h x (by simp [hx])) (tO_in hb)
    refine ⟨fun x hx => ?_, ih.2⟩
    simp only [passO, List.mem_cons] at hx
    rcases hx with rfl | hx
    · exact tO_in (h a (by simp))
    · exact ih.1 x hx
theorem cross_in : ∀ (bs xs : List Xo), (∀ x ∈ xs, x.In) → (∀ x ∈ bs, x.In) → (∀ x ∈ (crossO xs bs).1, x.In) ∧ (∀ x ∈ (crossO xs bs).2, x.In)
  | [], _, h, _ => ⟨h, fun x hx => by simp [crossO] at hx⟩
  | b :: bs, xs, h, hb => by
    have hp := pass_in xs b h (hb b (by simp))
    have ih := cross_in bs (passO xs b).1 hp.1 (fun x hx => hb x (by simp [hx]))
    refine ⟨ih.1, fun x hx => ?_⟩
    simp only [crossO, List.mem_cons] at hx
    rcases hx with rfl | hx
    · exact hp.2
    · exact ih.2 x hx

/-- A row of operations in a block of n cells. -/
structure OrB (g n : Nat) (A : List Xo) (w : World) : Prop where
  row : ∃ cs, RowAt g cs 37 w ∧ cs.size = n
  at_ : OsAt g 0 A w
  le : A.length * 4 ≤ n
theorem OrB.later {g n : Nat} {A : List Xo} {w w' : World} (h : OrB g n A w) (hb : Below w.heap.size w w') : OrB g n A w' := by
  obtain ⟨⟨cs, h1, h2⟩, h3, h4⟩ := h
  exact ⟨⟨cs, h1.later hb, h2⟩, h3.later hb, h4⟩
theorem OrB.lt {g n : Nat} {A : List Xo} {w : World} (h : OrB g n A w) : g < w.heap.size := by
  obtain ⟨⟨cs, h1, h2⟩, h3, h4⟩ := h
  exact h1.lt
theorem OrB.in {g n : Nat} {A : List Xo} {w : World} (h : OrB g n A w) {i : Nat} {x : Xo} (hx : A[i]? = some x) : CsIn g (i * 4) (ov x) w := by
  have := h.at_ i x hx
  rwa [Nat.zero_add] at this
theorem OrB.there {g n : Nat} {A : List Xo} {w : World} (h : OrB g n A w) {i : Nat} (hi : i < A.length) : w.there g (i * 4) 4 := fun j hj => by
  obtain ⟨⟨cs, h1, h2⟩, h3, h4⟩ := h
  refine ⟨?_, Lib.frozen_of_heap h1 _⟩
  rw [h1.cell, Array.getElem?_eq_getElem (by omega)]
  rfl
theorem row_setCells {g n : Nat} : ∀ (vs : List Value) (o_ : Nat) (w : World), (∃ cs, RowAt g cs 37 w ∧ cs.size = n) → ∃ cs, RowAt g cs 37 (w.setCells g o_ vs) ∧ cs.size = n
  | [], _, _, h => h
  | v :: r, o_, w, ⟨cs, h1, h2⟩ => row_setCells r (o_ + 1) _ ⟨cs.setIfInBounds o_ v, heap_setCell_at h1 o_ v, by simpa using h2⟩
theorem OrB.put {g n : Nat} {A : List Xo} {w : World} (h : OrB g n A w) {i : Nat} (hi : i < A.length) (x : Xo) : OrB g n (A.set i x) (w.setCells g (i * 4) (ov x).toList) := by
  have hr := row_setCells (ov x).toList (i * 4) w h.row
  have hth := h.there hi
  have hg : g < (w.setCells g (i * 4) (ov x).toList).heap.size := by
    obtain ⟨cs, h1, _⟩ := hr
    exact h1.lt
  refine ⟨hr, fun k y hy => ⟨hg, fun j v hv => ?_⟩, by rw [List.length_set]; exact h.le⟩
  have hj : j < 4 := by
    have := (Array.getElem?_eq_some_iff.1 hv).1
    simpa [ov] using this
  rw [Nat.zero_add]
  by_cases q : i = k
  · subst q
    rw [List.getElem?_set_self hi, Option.some.injEq] at hy
    subst hy
    exact World.rangeAt_setCells_same w g (i * 4) (ov x).toList (by simpa [ov] using hth) j v (by simpa using hv)
  · rw [List.getElem?_set_ne q] at hy
    have h0 : w.cell? ⟨g, k * 4 + j, none⟩ = some v := (h.in hy).2 j v hv
    rw [World.cell?_setCells_out g (ov x).toList (i * 4) w ⟨g, k * 4 + j, none⟩ (fun _ _ => by
      show k * 4 + j < i * 4 ∨ i * 4 + (ov x).toList.length ≤ k * 4 + j
      simp [ov]
      omega)]
    exact h0
theorem OrB.other {g n h : Nat} {A : List Xo} {w : World} (k : OrB g n A w) (hne : ¬ g = h) (o_ : Nat) (vs : List Value) : OrB g n A (w.setCells h o_ vs) := by
  have hb := World.heap_setCells_other w h o_ vs k.lt hne
  have hs := (World.keptBut_setCells h (may := fun _ => True) vs o_ w (fun _ _ => trivial))
  obtain ⟨⟨cs, h1, h2⟩, h3, h4⟩ := k
  refine ⟨⟨cs, hb.trans h1, h2⟩, fun i x hx => ?_, h4⟩
  obtain ⟨q1, q2⟩ := h3 i x hx
  have hr : RowAt g cs 37 (w.setCells h o_ vs) := hb.trans h1
  refine ⟨hr.lt, fun j v hv => ?_⟩
  rw [← q2 j v hv]
  exact World.cell?_of_block hb
theorem OrB.sl {g n c : Nat} {A : List Xo} {w : World} (h : OrB g n A w) : SlO w (.slice (some ⟨g, 0, none⟩) A.length c) A := .inr ⟨g, 0, c, rfl, h.at_⟩
theorem OwnO.orb {base : Nat} {v : Value} {l : List Xo} {w : World} (h : OwnO base v l w) (hl : l ≠ []) : ∃ g c n, base ≤ g ∧ v = .slice (some ⟨g, 0, none⟩) l.length c ∧ OrB g n l w ∧ l.length ≤ c := by
  obtain ⟨g, c, h1, h2, h3, h4, h5⟩ := h.room hl
  refine ⟨g, c, c * 4, h1, h2, ⟨?_, h3, by omega⟩, h4⟩
  rcases h.2 with ⟨h6, hn⟩ | ⟨g', cap, cur, h6, _, h7, _, _, h8, _⟩
  · exact absurd (List.length_eq_zero_iff.1 hn) hl
  · rw [h2] at h6
    cases h6
    exact ⟨cur, h7, h8⟩
theorem wpL_storeQ {ops : Array Oper} {rest : List Oper} {o : Oper} {A : Act} {w : World} {Q : Exit → Act → World → Prop} (hgd : o.guard = none) (x y : Operand) (ho : o.op = .store 37 x y) {g off : Nat} (hx : A.eval x = .pointer (some ⟨g, off, none⟩)) {e : Xo} (hy : A.eval y = .agg (ov e)) (ht : w.there g off 4)
    (k : wpList Tryd.prog ops Q rest (A.put o.dst undef) (w.setCells g off (ov e).toList)) : wpList Tryd.prog ops Q (o :: rest) A w :=
  wpList_store_mid hgd _ x y ho g off (ov e) hx hy ht (o_size e) (by simp [ov, Value.oneCell']) k
end Go.Proofs.YtdafkakigigdeaaDoor
namespace Go.Proofs.YtdafkakigigdeaaDoor
open Go.RowKit
set_option maxRecDepth 100000

theorem kpO_cells {b : Nat} : ∀ (vs : List Value) (o_ : Nat) (w : World), Kp b w (w.setCells b o_ vs)
  | [], _, _w => Kp.of (Below.refl _ _)
  | v :: r, o_, _w => (Kp.cell b o_ v).trans (kpO_cells r (o_ + 1) _)
theorem k2_cells {g : Nat} (w : World) (o_ : Nat) (vs : List Value) : K2 g g w (w.setCells g o_ vs) := K2.one (kpO_cells vs o_ w)
theorem OrB.blk {g n : Nat} {A : List Xo} {w w' : World} (h : OrB g n A w) (hb : w'.heap[g]? = w.heap[g]?) : OrB g n A w' := by
  obtain ⟨⟨cs, h1, h2⟩, h3, h4⟩ := h
  have hr : RowAt g cs 37 w' := hb.trans h1
  exact ⟨⟨cs, hr, h2⟩, fun i x hx => ⟨hr.lt, fun j v hv => (World.cell?_of_block hb).trans ((h3 i x hx).2 j v hv)⟩, h4⟩
theorem OrB.k2 {g n x : Nat} {A : List Xo} {w w' : World} (h : OrB g n A w) (k : K2 x x w w') (hne : ¬ x = g) : OrB g n A w' := h.blk (k.block g h.lt (fun e => hne e.symm) (fun e => hne e.symm))
theorem set_same {l : List Xo} {i : Nat} {x : Xo} (h : l[i]? = some x) : l.set i x = l := by
  refine List.ext_getElem? fun k => ?_
  by_cases q : i = k
  · subst q
    rw [List.getElem?_set_self (List.getElem?_eq_some_iff.1 h).1, h]
  · rw [List.getElem?_set_ne q]
theorem pA_end {xs bs : List Xo} {b : Xo} {j : Nat} (h : bs[j]? = some b) : pA (cA xs bs j) b xs.length = cA xs bs (j + 1) := by
  have e : xs.length = (cA xs bs j).length := cA_len.symm
  rw [cA_next h, e, pA_all]
theorem pB_end {xs bs : List Xo} {b : Xo} {j : Nat} (h : bs[j]? = some b) : (cB xs bs j).set j (pB (cA xs bs j) b xs.length) = cB xs bs (j + 1) := by
  have e : xs.length = (cA xs bs j).length := cA_len.symm
  rw [cB_next h, e, pB_all]
theorem OwnO.orb2 {base n c : Nat} {a : Option Addr} {l : List Xo} {w : World} (h : OwnO base (.slice a n c) l w) (hl : l ≠ []) : ∃ g, a = some ⟨g, 0, none⟩ ∧ base ≤ g ∧ OrB g (c * 4) l w ∧ n = l.length ∧ l.length ≤ c ∧ c ≤ maxLen := by
  have h0 := h
  rcases h.2 with ⟨h6, hn⟩ | ⟨g, cap, cur, h6, h7, h8, h9, h10, h11, _⟩
  · exact absurd (List.length_eq_zero_iff.1 hn) hl
  · simp only [Value.slice.injEq] at h6
    obtain ⟨rfl, rfl, rfl⟩ := h6
    refine ⟨g, rfl, h7, ⟨⟨cur, h8, h11⟩, ?_, by omega⟩, rfl, h9, h10⟩
    rcases h0.sl with ⟨q, _⟩ | ⟨g', o', c', q1, q2⟩
    · exact absurd q hl
    · simp only [Value.slice.injEq, Option.some.injEq, Addr.mk.injEq] at q1
      obtain ⟨⟨rfl, rfl, _⟩, _, rfl⟩ := q1
      exact q2
theorem OrB.own {base g c : Nat} {A : List Xo} {w : World} (h : OrB g (c * 4) A w) (hb : base ≤ g) (h1 : A.length ≤ c) (h2 : c ≤ maxLen) : OwnO base (.slice (some ⟨g, 0, none⟩) A.length c) A w := by
  obtain ⟨⟨cs, q1, q2⟩, q3, q4⟩ := h
  refine ⟨ocells_len A, .inr ⟨g, c, cs, rfl, hb, q1, h1, h2, q2, ?_⟩⟩
  have hl := ocells_len A
  refine List.ext_getElem? fun k => ?_
  by_cases hk : k < A.length * 4
  · rw [List.getElem?_take_of_lt hk]
    obtain ⟨u, hu⟩ : ∃ u, (ocells A)[k]? = some u := ⟨_, List.getElem?_eq_getElem (by omega)⟩
    obtain ⟨i, e, j, p1, p2, p3⟩ := ocells_of A k u hu
    have p4 := (q3 i e p1).2 j u p3
    rw [RowAt.cell q1, show 0 + i * 4 + j = k by omega] at p4
    rw [hu, ← p4]
    simp
  · rw [List.getElem?_eq_none (by rw [List.length_take]; omega), List.getElem?_eq_none (by omega)]
theorem OwnO.later {base : Nat} {v : Value} {l : List Xo} {w w' : World} (h : OwnO base v l w) (hb : Below w.heap.size w w') : OwnO base v l w' := by
  obtain ⟨h1, h2⟩ := h
  refine ⟨h1, ?_⟩
  rcases h2 with h | ⟨g, cap, cur, q1, q2, q3, q4⟩
  · exact .inl h
  · exact .inr ⟨g, cap, cur, q1, q2, (hb.block _ (Array.getElem?_eq_some_iff.1 q3).1).trans q3, q4⟩
theorem OwnO.lower {b b' : Nat} {v : Value} {l : List Xo} {w : World} (h : OwnO b v l w) (hb : b' ≤ b) : OwnO b' v l w := by
  obtain ⟨h1, h2⟩ := h
  refine ⟨h1, ?_⟩
  rcases h2 with h | ⟨g, cap, cur, q1, q2, q3⟩
  · exact .inl h
  · exact .inr ⟨g, cap, cur, q1, Nat.le_trans hb q2, q3⟩
/-- What Cross answers: two rows, each in a block of its own. -/
def CrO (w : World) (xs ys : List Xo) (r : Ending) (w' : World) : Prop := ∃ u v, r = .returned (.tuple #[u, v]) ∧ OwnO w.heap.size u xs w' ∧ OwnO w.heap.size v ys w' ∧ (∀ g, u.ownBlock = some g → v.ownBlock ≠ some g) ∧ Below w.heap.size w w'
theorem tO_low {a b : Xo} (h : -9223372036854775808 ≤ a.p) : -9223372036854775808 ≤ (tO a b).p := by
  rcases tO_is a b with e | e <;> rw [e]
  · exact h
  · show _ ≤ a.p + 1; omega
def LowP (l : List Xo) : Prop := ∀ x ∈ l, -9223372036854775808 ≤ x.p
theorem LowP.set {l : List Xo} (h : LowP l) (i : Nat) {x : Xo} (hx : -9223372036854775808 ≤ x.p) : LowP (l.set i x) := fun y hy => by
  rcases List.mem_or_eq_of_mem_set hy with h1 | h1
  · exact h y h1
  · rw [h1]; exact hx

set_option maxHeartbeats 8000000 in
theorem crossX_ok {w : World} {va vb : Value} {xs bs : List Xo} (ha : SlO w va xs) (hb : SlO w vb bs) (hia : LowP xs) (hib : LowP bs) (hn : xs.length ≤ 1000000) (hm : bs.length ≤ 1000000) :
    Calls Tryd.prog 9 #[va, vb] w (CrO w (crossO xs bs).1 (crossO xs bs).2) := by
  have H1 := hid_of' (cloneO_any ha (by omega))
  have H2 := hid_of' (fun (x : World) (hx : Below w.heap.size w x) => cloneO_any (hb.later hx) (by omega))
  obtain ⟨a0, c0, rfl⟩ := ha.form
  obtain ⟨b0, d0, rfl⟩ := hb.form
  go_enter Tryd.func9, Tryd.ntmps9
  go_upto_region 2 with (first | (go_at_call 28; (with_reducible refine H1.out.mono ?_); clear H1; rintro r w1 ⟨v1, rfl, o1, hb1⟩) | (go_at_call 28; (with_reducible refine (H2.out _ hb1).mono ?_); clear H2; rintro r w2 ⟨v2, rfl, o2, hb2⟩))
  obtain ⟨a1, c1, rfl⟩ := o1.form
  obtain ⟨a2, c2, rfl⟩ := o2.form
  have hap : ∀ g, (Value.slice a1 xs.length c1).ownBlock = some g → (Value.slice a2 bs.length c2).ownBlock ≠ some g := fun g e1 e2 => by
    have := (o1.lt g e1).2
    have := (o2.lt g e2).1
    omega
  have q1 := o1.later hb2
  have q2 := o2.lower hb1.size
  have hB := bgo hb1 hb2
  clear o1 o2 hb1 hb2 ha hb
  go_wp2
  go_loopw [14] (fun jv wr => ∃ j : Nat, jv = .int .i64 (j : Int) ∧ j ≤ bs.length ∧ OwnO w.heap.size (.slice a1 xs.length c1) (cA xs bs j) wr ∧ OwnO w.heap.size (.slice a2 bs.length c2) (cB xs bs j) wr ∧ LowP (cA xs bs j) ∧ LowP (cB xs bs j) ∧ Below w.heap.size w wr) (fun jv _ => bs.length - (intOf jv).toNat)
  case atStart =>
    exact ⟨0, rfl, Nat.zero_le _, by rw [cA_zero]; exact q1, by rw [cB_zero]; exact q2, by rw [cA_zero]; exact hia, by rw [cB_zero]; exact hib, hB⟩
  case round =>
    obtain ⟨j, rfl, hj, o1, o2, l1, l2, hBj⟩ := hrel
    clear q1 q2 hB hia hib
    by_cases hlt : j < bs.length
    · have hji : (j : Int) < (bs.length : Int) := by omega
      obtain ⟨b0, hb0⟩ : ∃ b, bs[j]? = some b := ⟨_, List.getElem?_eq_getElem hlt⟩
      obtain ⟨wo, hwo⟩ : ∃ wo : World, wo = wr := ⟨_, rfl⟩
      rw [← hwo] at o1 o2 hBj ⊢
      clear hwo
      go_wp2
      go_loopw [19] (fun iv wq => ∃ p : Nat, iv = .int .i64 (p : Int) ∧ p ≤ xs.length ∧ OwnO w.heap.size (.slice a1 xs.length c1) (pA (cA xs bs j) b0 p) wq ∧ OwnO w.heap.size (.slice a2 bs.length c2) ((cB xs bs j).set j (pB (cA xs bs j) b0 p)) wq ∧ LowP (pA (cA xs bs j) b0 p) ∧ -9223372036854775808 ≤ (pB (cA xs bs j) b0 p).p ∧ Below w.heap.size w wq) (fun iv _ => xs.length - (intOf iv).toNat)
      case atStart =>
        refine ⟨0, rfl, Nat.zero_le _, by rw [pA_zero]; exact o1, ?_, by rw [pA_zero]; exact l1, ?_, hBj⟩
        · rw [pB_zero, set_same (cB_at hb0)]
          exact o2
        · rw [pB_zero]
          exact l2 b0 (List.mem_of_getElem? (cB_at hb0))
      case round =>
        obtain ⟨p, rfl, hi, o3, o4, l3, l4, hBi⟩ := hrel
        clear o1 o2 l1 hBj
        by_cases hlti : p < xs.length
        · have hii : (p : Int) < (xs.length : Int) := by omega
          have hjj : (j : Int) < (bs.length : Int) := hji
          obtain ⟨a, ha0⟩ : ∃ a, (cA xs bs j)[p]? = some a := ⟨_, List.getElem?_eq_getElem (by rw [cA_len]; exact hlti)⟩
          obtain ⟨b, hbe⟩ : ∃ b, pB (cA xs bs j) b0 p = b := ⟨_, rfl⟩
          have haA := pA_at (b := b0) ha0
          have hnA := pA_next (b := b0) ha0
          have hnB := pB_next (b := b0) ha0
          have hLl : (pA (cA xs bs j) b0 p).length = xs.length := by rw [pA_len, cA_len]
          have hLb : ((cB xs bs j).set j b).length = bs.length := by rw [List.length_set, cB_len hj]
          have hbB : ((cB xs bs j).set j b)[j]? = some b := List.getElem?_set_self (by rw [cB_len hj]; exact hlt)
          rw [hbe] at hnA hnB o4 l4
          obtain ⟨LA, hLA⟩ : ∃ LA, pA (cA xs bs j) b0 p = LA := ⟨_, rfl⟩
          obtain ⟨LB, hLB⟩ : ∃ LB, (cB xs bs j).set j b = LB := ⟨_, rfl⟩
          rw [hLA] at o3 l3 hnA haA hLl
          have hLB2 : (cB xs bs j).set j (tO b a) = LB.set j (tO b a) := by rw [← hLB, List.set_set]
          rw [hLB] at o4 hLb hbB
          have HN := hid_of' (And.intro hnA (And.intro hnB hLB2))
          have HL := hid_of' (And.intro hLl hLb)
          have hil : p < LA.length := by omega
          have hjl : j < LB.length := by omega
          obtain ⟨ga, ea, hga, hA, en1, hcl1, hcm1⟩ := o3.orb2 (by intro e; rw [e] at hil; simp at hil)
          obtain ⟨gb, eb, hgb, hBb, en2, hcl2, hcm2⟩ := o4.orb2 (by intro e; rw [e] at hjl; simp at hjl)
          subst ea eb
          clear en1 en2
          have hne : ¬ ga = gb := fun e => hap ga rfl (by rw [e]; rfl)
          have hca := hA.in haA
          have hcb := hBb.in hbB
          have hpa := l3 a (List.mem_of_getElem? haA)
          have hpb : -9223372036854775808 ≤ b.p := l4
          have l5 := hid_of' (And.intro (l3.set p (tO_low (b := b) hpa)) (tO_low (b := a) hpb))
          clear hnA hnB hLB2 hLA hLB hbe ha0 hLb hLl haA hbB hlti l3 l4 o3 o4 hap
          go_upto_region 8 with fail
          refine wp_region_onceA 24 (by kernel_rfl) (fun _ => none) (by kernel_rfl) (by kernel_rfl) (by decide) (fun i v x => match i with
            | 0 => v = .slice (some ⟨ga, 0, none⟩) xs.length c1
            | 1 => v = .int .i64 (p : Int)
            | 2 => v = .slice (some ⟨gb, 0, none⟩) bs.length c2
            | 3 => v = .int .i64 (j : Int)
            | 4 => v = .slice (some ⟨ga, 0, none⟩) xs.length c1
            | 5 => v = .int .i64 (p : Int)
            | 6 => v = .pointer (some ⟨ga, p * 4, none⟩)
            | 7 => v = .agg (ov a)
            | 8 => v = .slice (some ⟨gb, 0, none⟩) bs.length c2
            | 9 => v = .int .i64 (j : Int)
            | 10 => v = .pointer (some ⟨gb, j * 4, none⟩)
            | 11 => v = .agg (ov b)
            | 12 => v = .agg (ov (tO a b))
            | 13 => v = .slice (some ⟨gb, 0, none⟩) bs.length c2
            | 14 => v = .int .i64 (j : Int)
            | 15 => v = .pointer (some ⟨gb, j * 4, none⟩)
            | 16 => v = .agg (ov b)
            | 17 => v = .slice (some ⟨ga, 0, none⟩) xs.length c1
            | 18 => v = .int .i64 (p : Int)
            | 19 => v = .pointer (some ⟨ga, p * 4, none⟩)
            | 20 => v = .agg (ov a)
            | 21 => v = .agg (ov (tO b a))
            | 22 => v = .pointer (some ⟨ga, p * 4, none⟩)
            | 23 => OrB ga (c1 * 4) (LA.set p (tO a b)) x
            | _ => True) (fun _ => false) (fun _ _ _ _ h => by cases h) 23 (by decide) (fun u v => K2 ga ga u v) (fun u v => K2 ga ga u v) (fun _ _ h hb => h.trans (K2.of hb)) (fun _ h => K2.of h) (fun _ _ h k => (K2.of h).trans k) (fun _ _ k => k.size) ?_ ?_ ?_ ?_
          · intro i v x x' hR hb
            match i, hR with
            | 0, h => exact h
            | 1, h => exact h
            | 2, h => exact h
            | 3, h => exact h
            | 4, h => exact h
            | 5, h => exact h
            | 6, h => exact h
            | 7, h => exact h
            | 8, h => exact h
            | 9, h => exact h
            | 10, h => exact h
            | 11, h => exact h
            | 12, h => exact h
            | 13, h => exact h
            | 14, h => exact h
            | 15, h => exact h
            | 16, h => exact h
            | 17, h => exact h
            | 18, h => exact h
            | 19, h => exact h
            | 20, h => exact h
            | 21, h => exact h
            | 22, h => exact h
            | 23, h => exact h.later hb
            | m + 24, h => exact h
          · intro i v x x' hne hR hb
            match i, hne, hR with
            | 0, hne, h => exact h
            | 1, hne, h => exact h
            | 2, hne, h => exact h
            | 3, hne, h => exact h
            | 4, hne, h => exact h
            | 5, hne, h => exact h
            | 6, hne, h => exact h
            | 7, hne, h => exact h
            | 8, hne, h => exact h
            | 9, hne, h => exact h
            | 10, hne, h => exact h
            | 11, hne, h => exact h
            | 12, hne, h => exact h
            | 13, hne, h => exact h
            | 14, hne, h => exact h
            | 15, hne, h => exact h
            | 16, hne, h => exact h
            | 17, hne, h => exact h
            | 18, hne, h => exact h
            | 19, hne, h => exact h
            | 20, hne, h => exact h
            | 21, hne, h => exact h
            | 22, hne, h => exact h
            | 23, hne, h => exact absurd rfl hne
            | m + 24, _, h => exact h
          · intro i o hi ho q x vals hX hC hdep hoth
            have t0 : q.tmps[0]? = some (.slice (some ⟨ga, 0, none⟩) xs.length c1) := by rw [hoth 0 (by kernel_rfl)]; rfl
            have t1 : q.tmps[1]? = some (.slice (some ⟨gb, 0, none⟩) bs.length c2) := by rw [hoth 1 (by kernel_rfl)]; rfl
            have t6 : q.tmps[6]? = some (.int .i64 (j : Int)) := by rw [hoth 6 (by kernel_rfl)]; rfl
            have t7 : q.tmps[7]? = some (.int .i64 (p : Int)) := by rw [hoth 7 (by kernel_rfl)]; rfl
            match i, hi, ho, hC with
            | 0, _, ho, hC =>
              simp only [List.getElem?_cons_zero, Option.some.injEq] at ho
              subst ho
              unfold Oper.wp
              simp [execOp, go_sem, t0]
              exact cameB _ rfl (by decide) (Below.refl _ _) rfl (fun h => absurd h (by decide))
            | 1, _, ho, hC =>
              simp only [List.getElem?_cons_succ, List.getElem?_cons_zero, Option.some.injEq] at ho
              subst ho
              unfold Oper.wp
              simp [execOp, go_sem, t7]
              exact cameB _ rfl (by decide) (Below.refl _ _) rfl (fun h => absurd h (by decide))
            | 2, _, ho, hC =>
              simp only [List.getElem?_cons_succ, List.getElem?_cons_zero, Option.some.injEq] at ho
              subst ho
              unfold Oper.wp
              simp [execOp, go_sem, t1]
              exact cameB _ rfl (by decide) (Below.refl _ _) rfl (fun h => absurd h (by decide))
            | 3, _, ho, hC =>
              simp only [List.getElem?_cons_succ, List.getElem?_cons_zero, Option.some.injEq] at ho
              subst ho
              unfold Oper.wp
              simp [execOp, go_sem, t6]
              exact cameB _ rfl (by decide) (Below.refl _ _) rfl (fun h => absurd h (by decide))
            | 4, _, ho, hC =>
              simp only [List.getElem?_cons_succ, List.getElem?_cons_zero, Option.some.injEq] at ho
              subst ho
              unfold Oper.wp
              simp [execOp, go_sem, t0]
              exact cameB _ rfl (by decide) (Below.refl _ _) rfl (fun h => absurd h (by decide))
            | 5, _, ho, hC =>
              simp only [List.getElem?_cons_succ, List.getElem?_cons_zero, Option.some.injEq] at ho
              subst ho
              unfold Oper.wp
              simp [execOp, go_sem, t7]
              exact cameB _ rfl (by decide) (Below.refl _ _) rfl (fun h => absurd h (by decide))
            | 6, _, ho, hC =>
              simp only [List.getElem?_cons_succ, List.getElem?_cons_zero, Option.some.injEq] at ho
              subst ho
              obtain ⟨u4, e4⟩ := hdep ⟨4, .data⟩ (by simp) rfl _ 26 rfl rfl
              rw [show vals 4 = .slice (some ⟨ga, 0, none⟩) xs.length c1 from e4] at u4
              obtain ⟨u5, e5⟩ := hdep ⟨5, .data⟩ (by simp) rfl _ 27 rfl rfl
              rw [show vals 5 = .int .i64 (p : Int) from e5] at u5
              unfold Oper.wp
              simp [execOp, go_sem, u4, u5, hii]
              exact cameB _ rfl (by decide) (Below.refl _ _) rfl (fun h => absurd h (by decide))
            | 7, _, ho, hC =>
              simp only [List.getElem?_cons_succ, List.getElem?_cons_zero, Option.some.injEq] at ho
              subst ho
              obtain ⟨u6, e6⟩ := hdep ⟨6, .data⟩ (by simp) rfl _ 28 rfl rfl
              rw [show vals 6 = .pointer (some ⟨ga, p * 4, none⟩) from e6] at u6
              exact opw_loadO _ rfl (by simp [Act.eval, u6]) (hca.later (hC (.inr (by kernel_rfl)))) (cameB _ rfl (by decide) (Below.refl _ _) rfl (fun h => absurd h (by decide)))
            | 8, _, ho, hC =>
              simp only [List.getElem?_cons_succ, List.getElem?_cons_zero, Option.some.injEq] at ho
              subst ho
              unfold Oper.wp
              simp [execOp, go_sem, t1]
              exact cameB _ rfl (by decide) (Below.refl _ _) rfl (fun h => absurd h (by decide))
            | 9, _, ho, hC =>
              simp only [List.getElem?_cons_succ, List.getElem?_cons_zero, Option.some.injEq] at ho
              subst ho
              unfold Oper.wp
              simp [execOp, go_sem, t6]
              exact cameB _ rfl (by decide) (Below.refl _ _) rfl (fun h => absurd h (by decide))
            | 10, _, ho, hC =>
              simp only [List.getElem?_cons_succ, List.getElem?_cons_zero, Option.some.injEq] at ho
              subst ho
              obtain ⟨u8, e8⟩ := hdep ⟨8, .data⟩ (by simp) rfl _ 30 rfl rfl
              rw [show vals 8 = .slice (some ⟨gb, 0, none⟩) bs.length c2 from e8] at u8
              obtain ⟨u9, e9⟩ := hdep ⟨9, .data⟩ (by simp) rfl _ 31 rfl rfl
              rw [show vals 9 = .int .i64 (j : Int) from e9] at u9
              unfold Oper.wp
              simp [execOp, go_sem, u8, u9, hjj]
              exact cameB _ rfl (by decide) (Below.refl _ _) rfl (fun h => absurd h (by decide))
            | 11, _, ho, hC =>
              simp only [List.getElem?_cons_succ, List.getElem?_cons_zero, Option.some.injEq] at ho
              subst ho
              obtain ⟨u10, e10⟩ := hdep ⟨10, .data⟩ (by simp) rfl _ 32 rfl rfl
              rw [show vals 10 = .pointer (some ⟨gb, j * 4, none⟩) from e10] at u10
              exact opw_loadO _ rfl (by simp [Act.eval, u10]) (hcb.later (hC (.inr (by kernel_rfl)))) (cameB _ rfl (by decide) (Below.refl _ _) rfl (fun h => absurd h (by decide)))
            | 12, _, ho, hC =>
              simp only [List.getElem?_cons_succ, List.getElem?_cons_zero, Option.some.injEq] at ho
              subst ho
              obtain ⟨u7, e7⟩ := hdep ⟨7, .data⟩ (by simp) rfl _ 29 rfl rfl
              rw [show vals 7 = .agg (ov a) from e7] at u7
              obtain ⟨u11, e11⟩ := hdep ⟨11, .data⟩ (by simp) rfl _ 33 rfl rfl
              rw [show vals 11 = .agg (ov b) from e11] at u11
              unfold Oper.wp
              simp [go_sem, u7, u11]
              refine (tX_any a b x hpa).mono ?_
              rintro r x1 ⟨rfl, hb1⟩
              exact cameB _ rfl (by decide) hb1 rfl (fun h => absurd h (by decide))
            | 13, _, ho, hC =>
              simp only [List.getElem?_cons_succ, List.getElem?_cons_zero, Option.some.injEq] at ho
              subst ho
              unfold Oper.wp
              simp [execOp, go_sem, t1]
              exact cameB _ rfl (by decide) (Below.refl _ _) rfl (fun h => absurd h (by decide))
            | 14, _, ho, hC =>
              simp only [List.getElem?_cons_succ, List.getElem?_cons_zero, Option.some.injEq] at ho
              subst ho
              unfold Oper.wp
              simp [execOp, go_sem, t6]
              exact cameB _ rfl (by decide) (Below.refl _ _) rfl (fun h => absurd h (by decide))
            | 15, _, ho, hC =>
              simp only [List.getElem?_cons_succ, List.getElem?_cons_zero, Option.some.injEq] at ho
              subst ho
              obtain ⟨u13, e13⟩ := hdep ⟨13, .data⟩ (by simp) rfl _ 35 rfl rfl
              rw [show vals 13 = .slice (some ⟨gb, 0, none⟩) bs.length c2 from e13] at u13
              obtain ⟨u14, e14⟩ := hdep ⟨14, .data⟩ (by simp) rfl _ 36 rfl rfl
              rw [show vals 14 = .int .i64 (j : Int) from e14] at u14
              unfold Oper.wp
              simp [execOp, go_sem, u13, u14, hjj]
              exact cameB _ rfl (by decide) (Below.refl _ _) rfl (fun h => absurd h (by decide))
            | 16, _, ho, hC =>
              simp only [List.getElem?_cons_succ, List.getElem?_cons_zero, Option.some.injEq] at ho
              subst ho
              obtain ⟨u15, e15⟩ := hdep ⟨15, .data⟩ (by simp) rfl _ 37 rfl rfl
              rw [show vals 15 = .pointer (some ⟨gb, j * 4, none⟩) from e15] at u15
              exact opw_loadO _ rfl (by simp [Act.eval, u15]) (hcb.later (hC (.inr (by kernel_rfl)))) (cameB _ rfl (by decide) (Below.refl _ _) rfl (fun h => absurd h (by decide)))
            | 17, _, ho, hC =>
              simp only [List.getElem?_cons_succ, List.getElem?_cons_zero, Option.some.injEq] at ho
              subst ho
              unfold Oper.wp
              simp [execOp, go_sem, t0]
              exact cameB _ rfl (by decide) (Below.refl _ _) rfl (fun h => absurd h (by decide))
            | 18, _, ho, hC =>
              simp only [List.getElem?_cons_succ, List.getElem?_cons_zero, Option.some.injEq] at ho
              subst ho
              unfold Oper.wp
              simp [execOp, go_sem, t7]
              exact cameB _ rfl (by decide) (Below.refl _ _) rfl (fun h => absurd h (by decide))
            | 19, _, ho, hC =>
              simp only [List.getElem?_cons_succ, List.getElem?_cons_zero, Option.some.injEq] at ho
              subst ho
              obtain ⟨u17, e17⟩ := hdep ⟨17, .data⟩ (by simp) rfl _ 39 rfl rfl
              rw [show vals 17 = .slice (some ⟨ga, 0, none⟩) xs.length c1 from e17] at u17
              obtain ⟨u18, e18⟩ := hdep ⟨18, .data⟩ (by simp) rfl _ 40 rfl rfl
              rw [show vals 18 = .int .i64 (p : Int) from e18] at u18
              unfold Oper.wp
              simp [execOp, go_sem, u17, u18, hii]
              exact cameB _ rfl (by decide) (Below.refl _ _) rfl (fun h => absurd h (by decide))
            | 20, _, ho, hC =>
              simp only [List.getElem?_cons_succ, List.getElem?_cons_zero, Option.some.injEq] at ho
              subst ho
              obtain ⟨u19, e19⟩ := hdep ⟨19, .data⟩ (by simp) rfl _ 41 rfl rfl
              rw [show vals 19 = .pointer (some ⟨ga, p * 4, none⟩) from e19] at u19
              exact opw_loadO _ rfl (by simp [Act.eval, u19]) (hca.later (hC (.inr (by kernel_rfl)))) (cameB _ rfl (by decide) (Below.refl _ _) rfl (fun h => absurd h (by decide)))
            | 21, _, ho, hC =>
              simp only [List.getElem?_cons_succ, List.getElem?_cons_zero, Option.some.injEq] at ho
              subst ho
              obtain ⟨u16, e16⟩ := hdep ⟨16, .data⟩ (by simp) rfl _ 38 rfl rfl
              rw [show vals 16 = .agg (ov b) from e16] at u16
              obtain ⟨u20, e20⟩ := hdep ⟨20, .data⟩ (by simp) rfl _ 42 rfl rfl
              rw [show vals 20 = .agg (ov a) from e20] at u20
              unfold Oper.wp
              simp [go_sem, u16, u20]
              refine (tX_any b a x hpb).mono ?_
              rintro r x1 ⟨rfl, hb1⟩
              exact cameB _ rfl (by decide) hb1 rfl (fun h => absurd h (by decide))
            | 22, _, ho, hC =>
              simp only [List.getElem?_cons_succ, List.getElem?_cons_zero, Option.some.injEq] at ho
              subst ho
              obtain ⟨u0, e0⟩ := hdep ⟨0, .data⟩ (by simp) rfl _ 22 rfl rfl
              rw [show vals 0 = .slice (some ⟨ga, 0, none⟩) xs.length c1 from e0] at u0
              obtain ⟨u1, e1⟩ := hdep ⟨1, .data⟩ (by simp) rfl _ 23 rfl rfl
              rw [show vals 1 = .int .i64 (p : Int) from e1] at u1
              unfold Oper.wp
              simp [execOp, go_sem, u0, u1, hii]
              exact cameB _ rfl (by decide) (Below.refl _ _) rfl (fun h => absurd h (by decide))
            | 23, _, ho, hC =>
              simp only [List.getElem?_cons_succ, List.getElem?_cons_zero, Option.some.injEq] at ho
              subst ho
              obtain ⟨u22, e22⟩ := hdep ⟨22, .data⟩ (by simp) rfl _ 44 rfl rfl
              rw [show vals 22 = .pointer (some ⟨ga, p * 4, none⟩) from e22] at u22
              obtain ⟨u12, e12⟩ := hdep ⟨12, .data⟩ (by simp) rfl _ 34 rfl rfl
              rw [show vals 12 = .agg (ov (tO a b)) from e12] at u12
              have hs2 : OrB ga (c1 * 4) LA x := hA.later (hC (.inl rfl))
              exact wp_store_mid _ _ _ rfl ga (p * 4) (ov (tO a b)) (by simp [Act.eval, u22]) (by simp [Act.eval, u12]) (hs2.there hil) (o_size _) (by simp [ov, Value.oneCell']) (cameX _ rfl (k2_cells _ _ _) (hs2.put hil _) rfl)
            | m + 24, hi, _, _ => exact absurd hi (by omega)
          · intro vals x hX hRv _
            have q12 : vals 12 = .agg (ov (tO a b)) := hRv 12 (by decide)
            have q21 : vals 21 = .agg (ov (tO b a)) := hRv 21 (by decide)
            have q2 : vals 2 = .slice (some ⟨gb, 0, none⟩) bs.length c2 := hRv 2 (by decide)
            have q3 : vals 3 = .int .i64 (j : Int) := hRv 3 (by decide)
            have q23 : OrB ga (c1 * 4) (LA.set p (tO a b)) x := hRv 23 (by decide)
            have hB2 : OrB gb (c2 * 4) LB x := hBb.k2 hX hne
            have hBx : Below w.heap.size w x := K2.below hBi hX hga hga hBi.size
            simp only [List.take, List.drop, putAll, q12, q21, q2, q3]
            clear hRv q12 q21 q2 q3
            try simp only [List.setIfInBounds_toArray, List.set_cons_succ, List.set_cons_zero]
            have z1 := hB2.put hjl (tO b a)
            have z2 := q23.other hne (j * 4) (ov (tO b a)).toList
            have z3 : Below w.heap.size w (x.setCells gb (j * 4) (ov (tO b a)).toList) := K2.below hBx (k2_cells x (j * 4) (ov (tO b a)).toList) hgb hgb hBx.size
            go_wp2_with (refine wpL_storeQ (g := gb) (off := j * 4) (e := tO b a) rfl (.tmp 45) _ rfl rfl rfl (hB2.there hjl) ?_; generalize x.setCells gb (j * 4) (ov (tO b a)).toList = x2 at z1 z2 z3 ⊢)
            clear q23 hB2 hBx hX
            go_roundw
            case rel =>
              refine ⟨p + 1, by go_num, by omega, ?_, ?_, ?_, ?_, z3⟩
              · rw [HN.out.1]
                have := z2.own hga (by rw [List.length_set]; exact hcl1) hcm1
                rw [List.length_set, HL.out.1] at this
                exact this
              · rw [HN.out.2.1, HN.out.2.2]
                have := z1.own hgb (by rw [List.length_set]; exact hcl2) hcm2
                rw [List.length_set, HL.out.2] at this
                exact this
              · rw [HN.out.1]; exact l5.out.1
              · rw [HN.out.2.1]; exact l5.out.2
            case measure => simp [intOf]; omega
        · obtain rfl : p = xs.length := by omega
          have l5 := hid_of' (And.intro l3 (pB_end hb0 ▸ l2.set j l4))
          rw [pA_end hb0] at o3 l5
          rw [pB_end hb0] at o4
          clear l3 l4 l2 hlti hi
          go_wp2
          go_roundw
          case rel => exact ⟨j + 1, by go_num, by omega, o3, o4, l5.out.1, l5.out.2, hBi⟩
          case measure => simp [intOf]; omega
    · obtain rfl : j = bs.length := by omega
      rw [cA_all] at o1
      rw [cB_all] at o2
      clear hlt l1 l2
      go_wp2
      go_ret2
      exact ⟨_, _, rfl, o1, o2, hap, hBj⟩
end Go.Proofs.YtdafkakigigdeaaDoor
namespace Go.Proofs.YtdafkakigigdeaaDoor
open Go.RowKit
set_option maxRecDepth 100000

theorem k2_rowL {g : Nat} (w : World) (c : Array Value) : K2 g g w (w.setRow g c) := ⟨rfl, rfl, rfl, by simp, fun k _ h _ => setRow_other w g k c h⟩
theorem OwnO.blk {base x : Nat} {v : Value} {l : List Xo} {w w' : World} (h : OwnO base v l w) (k : K2 x x w w') (hne : v.ownBlock ≠ some x) : OwnO base v l w' := by
  obtain ⟨h1, h2⟩ := h
  refine ⟨h1, ?_⟩
  rcases h2 with h | ⟨g, cap, cur, rfl, q2, q3, q4⟩
  · exact .inl h
  · have hgx : ¬ g = x := fun e => hne (by rw [e]; rfl)
    exact .inr ⟨g, cap, cur, rfl, q2, (k.block _ (Array.getElem?_eq_some_iff.1 q3).1 hgx hgx).trans q3, q4⟩
theorem InP.set {l : List Xo} (h : ∀ x ∈ l, x.In) (i : Nat) {x : Xo} (hx : x.In) : ∀ y ∈ l.set i x, y.In := fun y hy => by
  rcases List.mem_or_eq_of_mem_set hy with h1 | h1
  · exact h y h1
  · rw [h1]; exact hx

set_option maxHeartbeats 8000000 in
theorem refCross_ok {w : World} {va vb : Value} {xs bs : List Xo} (ha : SlO w va xs) (hb : SlO w vb bs) (hia : ∀ x ∈ xs, x.In) (hib : ∀ x ∈ bs, x.In) (hn : xs.length ≤ 1000000) (hm : bs.length ≤ 1000000) :
    Calls Tryd.prog 10 #[va, vb] w (CrO w (crossO xs bs).1 (crossO xs bs).2) := by
  obtain ⟨a0, c0, rfl⟩ := ha.form
  obtain ⟨b0, d0, rfl⟩ := hb.form
  have HA := hid_of' (ha.later (below_one w (.cells #[] 37)))
  go_enter Tryd.func10, Tryd.ntmps10
  go_upto_region 2 with (at_builtin; refine wpL_appO (xs := []) (l := xs) rfl _ _ rfl rfl rfl (own_emptyO w) HA.out (by simpa using (show xs.length ≤ 1099511627776 by omega)) (by simp) ?_; intro v1 w1 o1 hg1)
  have hb1 : Below w.heap.size w w1 := (below_one w (.cells #[] 37)).grown hg1 (by simp) (fun k hk => ((own_emptyO w).lt k hk).1)
  rw [List.nil_append] at o1
  obtain ⟨a1, c1, rfl⟩ := o1.form
  clear HA hg1 ha
  go_wp2
  go_loopw [6, 7] (fun u jv wr => ∃ (j : Nat) (ua : Option Addr) (uc : Nat), u = .slice ua j uc ∧ jv = .int .i64 (j : Int) ∧ j ≤ bs.length ∧ OwnO w.heap.size (.slice a1 xs.length c1) (cA xs bs j) wr ∧ OwnO w1.heap.size (.slice ua j uc) (cO xs bs j) wr ∧ (∀ x ∈ cA xs bs j, x.In) ∧ w1.heap.size ≤ wr.heap.size ∧ Below w.heap.size w wr) (fun _ jv _ => bs.length - (intOf jv).toNat)
  case atStart => exact ⟨0, none, 0, rfl, rfl, Nat.zero_le _, by rw [cA_zero]; exact o1, by rw [cO_zero]; exact ⟨rfl, .inl ⟨rfl, rfl⟩⟩, by rw [cA_zero]; exact hia, Nat.le_refl _, hb1⟩
  case round =>
    obtain ⟨j, ua, uc, rfl, rfl, hj, o2, o3, l1, hs, hBj⟩ := hrel
    clear hia
    have hap : ∀ g, (Value.slice a1 xs.length c1).ownBlock = some g → (Value.slice ua j uc).ownBlock ≠ some g := fun g e1 e2 => by
      have := (o1.lt g e1).2
      have := (o3.lt g e2).1
      omega
    by_cases hlt : j < bs.length
    · have hji : (j : Int) < (bs.length : Int) := by omega
      obtain ⟨b0, hb0⟩ : ∃ b, bs[j]? = some b := ⟨_, List.getElem?_eq_getElem hlt⟩
      rcases hb.later hBj with ⟨h0, _⟩ | ⟨g, o_, c, hvv, hc⟩
      · exfalso; subst h0; simp at hlt
      simp only [Value.slice.injEq] at hvv
      obtain ⟨rfl, _, rfl⟩ := hvv
      have hce := hc j b0 hb0
      have hib0 := hib b0 (List.mem_of_getElem? hb0)
      obtain ⟨wo, hwo⟩ : ∃ wo : World, wo = wr := ⟨_, rfl⟩
      rw [← hwo] at o2 o3 hBj hce hs hc ⊢
      clear hwo
      have hsb := hid_of' hc
      clear hc
      go_upto_region 7 with (first | (refine wpL_loadO rfl (.tmp 22) rfl rfl hce ?_) | (refine wpL_storeO (e := b0) rfl (.tmp 8) _ rfl rfl rfl (row_new wo _ _) ?_))
      have rb := (row_new wo #[.int .i64 0, .int .i64 0, .int .i32 0, .int .i64 0] 37).put (ov b0)
      have hbo : Below wo.heap.size wo ((wo.alloc (.cells #[.int .i64 0, .int .i64 0, .int .i32 0, .int .i64 0] 37)).setRow wo.heap.size (ov b0)) := below_row (below_one wo _) (Nat.le_refl _) _
      generalize (wo.alloc (.cells #[.int .i64 0, .int .i64 0, .int .i32 0, .int .i64 0] 37)).setRow wo.heap.size (ov b0) = w5 at rb hbo ⊢
      obtain ⟨gb, hgb⟩ : ∃ gb, wo.heap.size = gb := ⟨_, rfl⟩
      have hn1 : (Value.slice a1 xs.length c1).ownBlock ≠ some gb := fun e => by have := (o2.lt gb e).2; omega
      have hn3 : (Value.slice ua j uc).ownBlock ≠ some gb := fun e => by have := (o3.lt gb e).2; omega
      have hgw : w.heap.size ≤ gb := by have := hBj.size; omega
      replace o2 := o2.later hbo
      replace o3 := o3.later hbo
      replace hBj := bgo hBj hbo
      replace hs := Nat.le_trans hs hbo.size
      rw [hgb] at rb ⊢
      clear hbo hce hgb
      go_wp2
      go_loopw [9] (fun iv wq => ∃ p : Nat, iv = .int .i64 (p : Int) ∧ p ≤ xs.length ∧ OwnO w.heap.size (.slice a1 xs.length c1) (pA (cA xs bs j) b0 p) wq ∧ RowAt gb (ov (pB (cA xs bs j) b0 p)) 37 wq ∧ OwnO w1.heap.size (.slice ua j uc) (cO xs bs j) wq ∧ (∀ x ∈ pA (cA xs bs j) b0 p, x.In) ∧ (pB (cA xs bs j) b0 p).In ∧ w1.heap.size ≤ wq.heap.size ∧ Below w.heap.size w wq) (fun iv _ => xs.length - (intOf iv).toNat)
      case atStart => exact ⟨0, rfl, Nat.zero_le _, by rw [pA_zero]; exact o2, by rw [pB_zero]; exact rb, o3, by rw [pA_zero]; exact l1, by rw [pB_zero]; exact hib0, hs, hBj⟩
      case round =>
        obtain ⟨p, rfl, hp, o4, rb4, o5, l3, l4, hs4, hBi⟩ := hrel
        clear o2 o3 rb l1 hs hBj hib0
        by_cases hltp : p < xs.length
        · have hii : (p : Int) < (xs.length : Int) := by omega
          obtain ⟨a, ha0⟩ : ∃ a, (cA xs bs j)[p]? = some a := ⟨_, List.getElem?_eq_getElem (by rw [cA_len]; exact hltp)⟩
          obtain ⟨b, hbe⟩ : ∃ b, pB (cA xs bs j) b0 p = b := ⟨_, rfl⟩
          have haA := pA_at (b := b0) ha0
          have hnA := pA_next (b := b0) ha0
          have hnB := pB_next (b := b0) ha0
          have hLl : (pA (cA xs bs j) b0 p).length = xs.length := by rw [pA_len, cA_len]
          rw [hbe] at hnA hnB rb4 l4
          obtain ⟨LA, hLA⟩ : ∃ LA, pA (cA xs bs j) b0 p = LA := ⟨_, rfl⟩
          rw [hLA] at o4 l3 hnA haA hLl
          have HN := hid_of' (And.intro hnA (And.intro hnB hLl))
          have hil : p < LA.length := by omega
          obtain ⟨ga, ea, hga, hA, en1, hcl1, hcm1⟩ := o4.orb2 (by intro e; rw [e] at hil; simp at hil)
          subst ea
          have hia0 := l3 a (List.mem_of_getElem? haA)
          have l5 := hid_of' (And.intro (InP.set l3 p (tO_in (b := b) hia0)) (tO_in (b := a) l4))
          have hgab : ¬ ga = gb := fun e => hn1 (by rw [e]; rfl)
          have hua : (Value.slice ua j uc).ownBlock ≠ some ga := hap ga rfl
          have HT1 := hid_of' (fun x => refT_any a b x hia0.2.1.1 hia0.2.1.2)
          have HT2 := hid_of' (fun x => refT_any b a x l4.2.1.1 l4.2.1.2)
          clear en1 hnA hnB hLA hbe ha0 hLl hltp l3 l4 o4 hn1 hap
          have hca := hA.in haA
          go_upto_region 11 with (first | (refine wpL_loadO rfl (.tmp 32) rfl rfl hca ?_) | (refine wpL_storeO (e := a) rfl (.tmp 10) _ rfl rfl rfl (row_new wr _ _) ?_))
          have ra := (row_new wr #[.int .i64 0, .int .i64 0, .int .i32 0, .int .i64 0] 37).put (ov a)
          have hbo : Below wr.heap.size wr ((wr.alloc (.cells #[.int .i64 0, .int .i64 0, .int .i32 0, .int .i64 0] 37)).setRow wr.heap.size (ov a)) := below_row (below_one wr _) (Nat.le_refl _) _
          have hgn : ¬ wr.heap.size = ga := by have := hA.lt; omega
          have hgm : ¬ wr.heap.size = gb := by have := rb4.lt; omega
          generalize (wr.alloc (.cells #[.int .i64 0, .int .i64 0, .int .i32 0, .int .i64 0] 37)).setRow wr.heap.size (ov a) = w6 at ra hbo ⊢
          replace hA := hA.later hbo
          replace rb4 := rb4.later hbo
          replace o5 := o5.later hbo
          replace hBi := bgo hBi hbo
          replace hs4 := Nat.le_trans hs4 hbo.size
          generalize wr.heap.size = gv at ra hgn hgm ⊢
          clear hbo hca haA
          go_upto_region 12 with (first | (refine wpL_loadO (e := a) rfl (.tmp 10) rfl rfl ra.in ?_; go_simp) | (refine wpL_loadO (e := b) rfl (.tmp 8) rfl rfl rb4.in ?_; go_simp) | (go_at_call 30; refine (HT1.out _).mono ?_; clear HT1; rintro r w7 ⟨rfl, hb7⟩; have hA7 := hA.later hb7; have z1 := hA7.put hil (tO a b); have z2 := ((rb4.later hb7).k2 (k2_cells (g := ga) w7 (p * 4) (ov (tO a b)).toList) (fun e => hgab e.symm) (fun e => hgab e.symm)); have z3 := (ra.later hb7).k2 (k2_cells (g := ga) w7 (p * 4) (ov (tO a b)).toList) hgn hgn; have z4 := (o5.later hb7).blk (k2_cells (g := ga) w7 (p * 4) (ov (tO a b)).toList) hua; have z5 : Below w.heap.size w (w7.setCells ga (p * 4) (ov (tO a b)).toList) := K2.below (bgo hBi hb7) (k2_cells w7 (p * 4) (ov (tO a b)).toList) hga hga (bgo hBi hb7).size; have z6 := Nat.le_trans hs4 (Nat.le_trans hb7.size (k2_cells (g := ga) w7 (p * 4) (ov (tO a b)).toList).size)) | (refine wpL_storeQ (g := ga) (off := p * 4) (e := tO a b) rfl (.tmp 39) _ rfl rfl rfl (hA7.there hil) ?_; generalize w7.setCells ga (p * 4) (ov (tO a b)).toList = w8 at z1 z2 z3 z4 z5 z6 ⊢))
          clear hA7 hb7 hA rb4 ra o5 hBi hs4 w7
          go_wp2_with (first | (refine wpL_loadO (e := b) rfl (.tmp 8) rfl rfl z2.in ?_; go_simp) | (refine wpL_loadO (e := a) rfl (.tmp 10) rfl rfl z3.in ?_; go_simp) | (go_at_call 30; refine (HT2.out _).mono ?_; clear HT2; rintro r w9 ⟨rfl, hb9⟩; have y1 := (z1.later hb9).k2 (k2_rowL (g := gb) w9 (ov (tO b a))) (fun e => hgab e.symm); have y2 := (z2.later hb9).put (ov (tO b a)); have y4 := (z4.later hb9).blk (k2_rowL (g := gb) w9 (ov (tO b a))) hn3; have y5 : Below w.heap.size w (w9.setRow gb (ov (tO b a))) := below_row (bgo z5 hb9) hgw _; have y6 := Nat.le_trans z6 (Nat.le_trans hb9.size (k2_rowL (g := gb) w9 (ov (tO b a))).size); have hr9 := z2.later hb9) | (refine wpL_storeO (e := tO b a) rfl (.tmp 8) _ rfl rfl rfl hr9 ?_; generalize w9.setRow gb (ov (tO b a)) = wx at y1 y2 y4 y5 y6 ⊢))
          clear z1 z2 z3 z4 z5 z6 hr9 hb9
          go_roundw
          case rel =>
            refine ⟨p + 1, by go_num, by omega, ?_, ?_, y4, ?_, ?_, y6, y5⟩
            · rw [HN.out.1]
              have := y1.own hga (by rw [List.length_set]; exact hcl1) hcm1
              rw [List.length_set, HN.out.2.2] at this
              exact this
            · rw [HN.out.2.1]; exact y2
            · rw [HN.out.1]; exact l5.out.1
            · rw [HN.out.2.1]; exact l5.out.2
          case measure => simp [intOf]; omega
        · obtain rfl : p = xs.length := by omega
          have eO := hid_of' (cO_next (xs := xs) hb0)
          have eA : pB (cA xs bs j) b0 xs.length = (passO (cA xs bs j) b0).2 := by
            have e : xs.length = (cA xs bs j).length := cA_len.symm
            rw [e, pB_all]
          rw [pA_end hb0] at o4 l3
          rw [eA] at rb4
          obtain ⟨bb, hbb⟩ : ∃ bb, (passO (cA xs bs j) b0).2 = bb := ⟨_, rfl⟩
          rw [hbb] at rb4 eO
          have hcol := hid_of' (cO_len (xs := xs) hj)
          have L3 := hid_of' l3
          have E9 : Hid ((cO xs bs j ++ [bb]).length = j + 1) := by
            show _ = _
            rw [List.length_append, hcol.out]
            rfl
          clear l3 l4 hltp hp eA hbb hn1 hn3
          go_wp2_with (first | (refine wpL_loadO (e := bb) rfl (.tmp 8) rfl rfl rb4.in ?_; unfold ov) | (at_builtin; refine wpL_appO (l := [bb]) rfl _ _ rfl rfl rfl (o5.later (below_one _ (.cells (ov bb) 37))) (so_new wr [bb] 1 1 rfl) (by rw [hcol.out]; simp; omega) (by rw [World.size_alloc]; omega) ?_; intro v9 w9 o9 hg9; obtain ⟨a9, c9, rfl⟩ := o9.form; rw [E9.out] at o9 ⊢))
          have hb9 := below_one wr (.cells (ov bb) 37)
          have o4b : OwnO w.heap.size (.slice a1 xs.length c1) (cA xs bs (j + 1)) w9 := by
            refine World.ownsRow.kept (OwnO.later o4 hb9) hg9 ?_
            cases h : (Value.slice a1 xs.length c1).ownBlock with
            | none => exact .inl rfl
            | some g => exact .inr (fun e => hap g h e.symm)
          have hB9 : Below w.heap.size w w9 := (bgo hBi hb9).grown hg9 (bgo hBi hb9).size (fun k hk => Nat.le_trans hb1.size (o5.lt k hk).1)
          have hs9 : w1.heap.size ≤ w9.heap.size := Nat.le_trans hs4 (Nat.le_trans hb9.size hg9.size)
          clear hg9 hb9 o5 o4 rb4 hBi
          go_roundw
          case rel => exact ⟨j + 1, a9, c9, rfl, by go_num, by omega, o4b, by rw [eO.out]; exact o9, L3.out, hs9, hB9⟩
          case measure => simp [intOf]; omega
    · obtain rfl : j = bs.length := by omega
      rw [cA_all] at o2
      rw [cO_all] at o3
      clear hlt l1
      go_wp2
      go_ret2
      exact ⟨_, _, rfl, o2, o3.lower hb1.size, hap, hBj⟩
end Go.Proofs.YtdafkakigigdeaaDoor
namespace Go.Proofs.YtdafkakigigdeaaDoor
open Go.RowKit
set_option maxRecDepth 100000

theorem RowAt.row_otherL {g h : Nat} {cs c : Array Value} {t : TypeId} {w : World} (hr : RowAt h cs t w) (hn : ¬ h = g) : RowAt h cs t (w.setRow g c) := (setRow_other w g h c hn).trans hr

set_option maxHeartbeats 4000000 in
theorem along_ok {w : World} {v : Value} {l : List Xo} (a : Xo) (hl : SlO w v l) (ha : a.In) (hn : l.length ≤ 1000000) :
    Calls Tryd.prog 14 #[.agg (ov a), v] w fun r w' => r = .returned (.agg (ov (alongO a l))) ∧ Below w.heap.size w w' := by
  have r0 : RowAt w.heap.size (ov a) 37 ((w.alloc (.cells (ov a) 37)).alloc (.cells #[.int .i64 0, .int .i64 0, .int .i32 0, .int .i64 0] 37)) := (row_new w _ _).later (below_one _ _)
  have r1 : RowAt (w.heap.size + 1) #[.int .i64 0, .int .i64 0, .int .i32 0, .int .i64 0] 37 ((w.alloc (.cells (ov a) 37)).alloc (.cells #[.int .i64 0, .int .i64 0, .int .i32 0, .int .i64 0] 37)) := row_new2 w _ _ _
  have hB := below_two w (.cells (ov a) 37) (.cells #[.int .i64 0, .int .i64 0, .int .i32 0, .int .i64 0] 37)
  obtain ⟨a0, c0, rfl⟩ := hl.form
  go_enter Tryd.func14, Tryd.ntmps14
  go_upto_region 1 with fail
  generalize ((w.alloc (.cells (ov a) 37)).alloc (.cells #[.int .i64 0, .int .i64 0, .int .i32 0, .int .i64 0] 37)) = W at r0 r1 hB ⊢
  go_wp2
  go_loopw [9] (fun iv wr => ∃ p : Nat, iv = .int .i64 (p : Int) ∧ p ≤ l.length ∧ (alongO a (l.take p)).In ∧ RowAt w.heap.size (ov (alongO a (l.take p))) 37 wr ∧ RowAt (w.heap.size + 1) #[.int .i64 0, .int .i64 0, .int .i32 0, .int .i64 0] 37 wr ∧ Below w.heap.size w wr) (fun iv _ => l.length - (intOf iv).toNat)
  case atStart => exact ⟨0, rfl, Nat.zero_le _, ha, r0, r1, hB⟩
  case round =>
    clear r0 r1 hB
    obtain ⟨p, rfl, hp, hx0, r0, r1, hB⟩ := hrel
    by_cases hlt : p < l.length
    · have hpi : (p : Int) < (l.length : Int) := by omega
      obtain ⟨b, hb0⟩ : ∃ b, l[p]? = some b := ⟨_, List.getElem?_eq_getElem hlt⟩
      have hnx : Hid (alongO a (l.take (p + 1)) = tO (alongO a (l.take p)) b) := by
        show _ = _
        rw [(take_drop_at hb0).2]
        simp [alongO, List.foldl_append]
      rcases hl.later hB with ⟨h0, _⟩ | ⟨g, o_, c, hvv, hc⟩
      · exfalso; subst h0; simp at hlt
      simp only [Value.slice.injEq] at hvv
      obtain ⟨rfl, _, rfl⟩ := hvv
      have hce := hc p b hb0
      generalize alongO a (l.take p) = x0 at hx0 r0 hnx
      clear hc hb0
      have HT := hid_of' (fun x => tX_any x0 b x hx0.2.1.1)
      go_upto_region 4 with (first | (refine wpL_loadO rfl (.tmp 11) rfl rfl hce ?_) | (refine wpL_storeO (e := b) rfl (.tmp 6) _ rfl rfl rfl (row_new wr _ _) ?_))
      have rb := (row_new wr #[.int .i64 0, .int .i64 0, .int .i32 0, .int .i64 0] 37).put (ov b)
      have hbo : Below wr.heap.size wr ((wr.alloc (.cells #[.int .i64 0, .int .i64 0, .int .i32 0, .int .i64 0] 37)).setRow wr.heap.size (ov b)) := below_row (below_one wr _) (Nat.le_refl _) _
      generalize (wr.alloc (.cells #[.int .i64 0, .int .i64 0, .int .i32 0, .int .i64 0] 37)).setRow wr.heap.size (ov b) = w5 at rb hbo ⊢
      replace r0 := r0.later hbo
      replace r1 := r1.later hbo
      replace hB := bgo hB hbo
      clear hbo hce
      go_wp2_with (first | (refine wpL_loadO (e := x0) rfl (.tmp 2) rfl rfl r0.in ?_; go_simp) | (refine wpL_loadO (e := b) rfl (.tmp 6) rfl rfl rb.in ?_; go_simp) | (go_at_call 29; refine (HT.out _).mono ?_; clear HT; rintro r wt ⟨rfl, hbt⟩; have y0 := (r0.later hbt).put (ov (tO x0 b)); have y1 := (r1.later hbt).row_otherL (g := w.heap.size) (c := ov (tO x0 b)) (by omega); have yB : Below w.heap.size w (wt.setRow w.heap.size (ov (tO x0 b))) := below_row (bgo hB hbt) (Nat.le_refl _) _; have rt := r0.later hbt) | (refine wpL_storeO (e := tO x0 b) rfl (.tmp 2) _ rfl rfl rfl rt ?_; generalize wt.setRow w.heap.size (ov (tO x0 b)) = wx at y0 y1 yB ⊢))
      go_roundw
      case rel => exact ⟨p + 1, by go_num, by omega, by rw [hnx.out]; exact tO_in hx0, by rw [hnx.out]; exact y0, y1, yB⟩
      case measure => simp [intOf]; omega
    · obtain rfl : p = l.length := by omega
      rw [List.take_length] at r0
      clear hlt hx0
      go_wp2_with (first | (refine wpL_loadO rfl _ rfl rfl r0.in ?_) | (refine wpL_storeO (e := alongO a l) rfl _ _ rfl rfl rfl r1 ?_))
      exact bodyPost_ret (v := .agg (ov (alongO a l))) (results_o (fn := Tryd.f14) (p := 4) rfl rfl (r1.put _)) rfl ⟨rfl, below_row hB (by omega) _⟩

set_option maxHeartbeats 4000000 in
theorem refAlong_ok {w : World} {v : Value} {l : List Xo} (a : Xo) (hl : SlO w v l) (ha : a.In) (hn : l.length ≤ 1000000) :
    Calls Tryd.prog 15 #[.agg (ov a), v] w fun r w' => r = .returned (.agg (ov (alongO a l))) ∧ Below w.heap.size w w' := by
  have r0 : RowAt w.heap.size (ov a) 37 ((w.alloc (.cells (ov a) 37)).alloc (.cells #[.int .i64 0, .int .i64 0, .int .i32 0, .int .i64 0] 37)) := (row_new w _ _).later (below_one _ _)
  have r1 : RowAt (w.heap.size + 1) #[.int .i64 0, .int .i64 0, .int .i32 0, .int .i64 0] 37 ((w.alloc (.cells (ov a) 37)).alloc (.cells #[.int .i64 0, .int .i64 0, .int .i32 0, .int .i64 0] 37)) := row_new2 w _ _ _
  have hB := below_two w (.cells (ov a) 37) (.cells #[.int .i64 0, .int .i64 0, .int .i32 0, .int .i64 0] 37)
  obtain ⟨a0, c0, rfl⟩ := hl.form
  go_enter Tryd.func15, Tryd.ntmps15
  go_upto_region 1 with fail
  generalize ((w.alloc (.cells (ov a) 37)).alloc (.cells #[.int .i64 0, .int .i64 0, .int .i32 0, .int .i64 0] 37)) = W at r0 r1 hB ⊢
  go_wp2
  go_loopw [5] (fun iv wr => ∃ p : Nat, iv = .int .i64 (p : Int) ∧ p ≤ l.length ∧ (alongO a (l.take p)).In ∧ RowAt w.heap.size (ov (alongO a (l.take p))) 37 wr ∧ RowAt (w.heap.size + 1) #[.int .i64 0, .int .i64 0, .int .i32 0, .int .i64 0] 37 wr ∧ Below w.heap.size w wr) (fun iv _ => l.length - (intOf iv).toNat)
  case atStart => exact ⟨0, rfl, Nat.zero_le _, ha, r0, r1, hB⟩
  case round =>
    clear r0 r1 hB
    obtain ⟨p, rfl, hp, hx0, r0, r1, hB⟩ := hrel
    by_cases hlt : p < l.length
    · have hpi : (p : Int) < (l.length : Int) := by omega
      obtain ⟨b, hb0⟩ : ∃ b, l[p]? = some b := ⟨_, List.getElem?_eq_getElem hlt⟩
      have hnx : Hid (alongO a (l.take (p + 1)) = tO (alongO a (l.take p)) b) := by
        show _ = _
        rw [(take_drop_at hb0).2]
        simp [alongO, List.foldl_append]
      rcases hl.later hB with ⟨h0, _⟩ | ⟨g, o_, c, hvv, hc⟩
      · exfalso; subst h0; simp at hlt
      simp only [Value.slice.injEq] at hvv
      obtain ⟨rfl, _, rfl⟩ := hvv
      have hce := hc p b hb0
      generalize alongO a (l.take p) = x0 at hx0 r0 hnx
      clear hc hb0
      go_upto_region 4 with fail
      refine wp_region_tail 6 (by kernel_rfl) (fun _ => none) (by kernel_rfl) (by kernel_rfl) (by decide) (fun i v x => match i with
        | 0 => v = .agg (ov x0)
        | 1 => v = .slice (some ⟨g, o_, none⟩) l.length c0
        | 2 => v = .int .i64 (p : Int)
        | 3 => v = .pointer (some ⟨g, o_ + p * 4, none⟩)
        | 4 => v = .agg (ov b)
        | 5 => v = .agg (ov (tO x0 b))
        | _ => True) (fun _ => false) (fun _ _ _ _ h => by cases h) ?_ ?_ ?_
      · intro i v x x' hR hb
        match i, hR with
        | 0, h => exact h
        | 1, h => exact h
        | 2, h => exact h
        | 3, h => exact h
        | 4, h => exact h
        | 5, h => exact h
        | m + 6, h => exact h
      · intro i o hi ho q x vals hX hdep hoth
        have t1 : q.tmps[1]? = some (.slice (some ⟨g, o_, none⟩) l.length c0) := by rw [hoth 1 (by kernel_rfl)]; rfl
        have t2 : q.tmps[2]? = some (.pointer (some ⟨w.heap.size, 0, none⟩)) := by rw [hoth 2 (by kernel_rfl)]; rfl
        have t5 : q.tmps[5]? = some (.int .i64 (p : Int)) := by rw [hoth 5 (by kernel_rfl)]; rfl
        match i, hi, ho with
        | 0, _, ho =>
          simp only [List.getElem?_cons_zero, Option.some.injEq] at ho
          subst ho
          exact opw_loadO _ rfl (by simp [Act.eval, t2]) (r0.in.later hX) (came _ rfl (Below.refl _ _) rfl (fun h => absurd h (by decide)))
        | 1, _, ho =>
          simp only [List.getElem?_cons_succ, List.getElem?_cons_zero, Option.some.injEq] at ho
          subst ho
          unfold Oper.wp
          simp [execOp, go_sem, t1]
          exact came _ rfl (Below.refl _ _) rfl (fun h => absurd h (by decide))
        | 2, _, ho =>
          simp only [List.getElem?_cons_succ, List.getElem?_cons_zero, Option.some.injEq] at ho
          subst ho
          unfold Oper.wp
          simp [execOp, go_sem, t5]
          exact came _ rfl (Below.refl _ _) rfl (fun h => absurd h (by decide))
        | 3, _, ho =>
          simp only [List.getElem?_cons_succ, List.getElem?_cons_zero, Option.some.injEq] at ho
          subst ho
          obtain ⟨u1, e1⟩ := hdep ⟨1, .data⟩ (by simp) rfl _ 13 rfl rfl
          rw [show vals 1 = .slice (some ⟨g, o_, none⟩) l.length c0 from e1] at u1
          obtain ⟨u2, e2⟩ := hdep ⟨2, .data⟩ (by simp) rfl _ 14 rfl rfl
          rw [show vals 2 = .int .i64 (p : Int) from e2] at u2
          unfold Oper.wp
          simp [execOp, go_sem, u1, u2, hpi]
          exact came _ rfl (Below.refl _ _) rfl (fun h => absurd h (by decide))
        | 4, _, ho =>
          simp only [List.getElem?_cons_succ, List.getElem?_cons_zero, Option.some.injEq] at ho
          subst ho
          obtain ⟨u3, e3⟩ := hdep ⟨3, .data⟩ (by simp) rfl _ 15 rfl rfl
          rw [show vals 3 = .pointer (some ⟨g, o_ + p * 4, none⟩) from e3] at u3
          exact opw_loadO _ rfl (by simp [Act.eval, u3]) (hce.later hX) (came _ rfl (Below.refl _ _) rfl (fun h => absurd h (by decide)))
        | 5, _, ho =>
          simp only [List.getElem?_cons_succ, List.getElem?_cons_zero, Option.some.injEq] at ho
          subst ho
          obtain ⟨u0, e0⟩ := hdep ⟨0, .data⟩ (by simp) rfl _ 12 rfl rfl
          rw [show vals 0 = .agg (ov x0) from e0] at u0
          obtain ⟨u4, e4⟩ := hdep ⟨4, .data⟩ (by simp) rfl _ 16 rfl rfl
          rw [show vals 4 = .agg (ov b) from e4] at u4
          unfold Oper.wp
          simp [go_sem, u0, u4]
          refine (refT_any x0 b x hx0.2.1.1 hx0.2.1.2).mono ?_
          rintro r x1 ⟨rfl, hb1⟩
          exact came _ rfl hb1 rfl (fun h => absurd h (by decide))
        | m + 6, hi, _ => exact absurd hi (by omega)
      · intro vals wt hbt hRv _
        have q5 : vals 5 = .agg (ov (tO x0 b)) := hRv 5 (by decide)
        simp only [List.take, List.drop, putAll, q5]
        clear hRv q5
        try simp only [List.setIfInBounds_toArray, List.set_cons_succ, List.set_cons_zero]
        have rt := r0.later hbt
        have y0 := (r0.later hbt).put (ov (tO x0 b))
        have y1 := (r1.later hbt).row_otherL (g := w.heap.size) (c := ov (tO x0 b)) (by omega)
        have yB : Below w.heap.size w (wt.setRow w.heap.size (ov (tO x0 b))) := below_row (bgo hB hbt) (Nat.le_refl _) _
        go_wp2_with (refine wpL_storeO (e := tO x0 b) rfl (.tmp 2) _ rfl rfl rfl rt ?_; generalize wt.setRow w.heap.size (ov (tO x0 b)) = wx at y0 y1 yB ⊢)
        go_roundw
        case rel => exact ⟨p + 1, by go_num, by omega, by rw [hnx.out]; exact tO_in hx0, by rw [hnx.out]; exact y0, y1, yB⟩
        case measure => simp [intOf]; omega
    · obtain rfl : p = l.length := by omega
      rw [List.take_length] at r0
      clear hlt hx0
      go_wp2_with (first | (refine wpL_loadO rfl _ rfl rfl r0.in ?_) | (refine wpL_storeO (e := alongO a l) rfl _ _ rfl rfl rfl r1 ?_))
      exact bodyPost_ret (v := .agg (ov (alongO a l))) (results_o (fn := Tryd.f15) (p := 4) rfl rfl (r1.put _)) rfl ⟨rfl, below_row hB (by omega) _⟩

set_option maxHeartbeats 4000000 in
theorem ops_eq {w : World} {v u : Value} {l : List Xo} (hv : SlO w v l) (hu : SlO w u l) (hn : l.length ≤ 1000000) :
    Calls Tryd.prog 11 #[v, u] w fun r w' => r = .returned (.bool true) ∧ Below w.heap.size w w' := by
  obtain ⟨a0, c0, rfl⟩ := hv.form
  obtain ⟨b0, d0, rfl⟩ := hu.form
  go_enter Tryd.func11, Tryd.ntmps11
  go_wp2
  go_loopw [5] (fun iv wr => ∃ p : Nat, iv = .int .i64 (p : Int) ∧ p ≤ l.length ∧ Below w.heap.size w wr) (fun iv _ => l.length - (intOf iv).toNat)
  case atStart => exact ⟨0, rfl, Nat.zero_le _, Below.refl _ _⟩
  case round =>
    obtain ⟨p, rfl, hp, hB⟩ := hrel
    by_cases hlt : p < l.length
    · have hpi : (p : Int) < (l.length : Int) := by omega
      obtain ⟨b, hb0⟩ : ∃ b, l[p]? = some b := ⟨_, List.getElem?_eq_getElem hlt⟩
      rcases hv.later hB with ⟨h0, _⟩ | ⟨g, o_, c, hvv, hc⟩
      · exfalso; subst h0; simp at hlt
      rcases hu.later hB with ⟨h0, _⟩ | ⟨g', o', c', huu, hc'⟩
      · exfalso; subst h0; simp at hlt
      simp only [Value.slice.injEq] at hvv huu
      obtain ⟨rfl, _, rfl⟩ := hvv
      obtain ⟨rfl, _, rfl⟩ := huu
      have h1 := hc p b hb0
      have h2 := hc' p b hb0
      have hq := eq_O b
      clear hc hc' hb0
      go_upto_region 6 with fail
      refine wp_region_cls (by kernel_rfl) (by kernel_rfl) ?_
      repeat (first | go_big_quiet_skip | (go_big_quiet_want; first | (refine quiet_load_in _ _ rfl rfl h1.cls Tryd.underlying37 rfl (o_size b) ?_; simp only [Act.put, List.setIfInBounds_toArray, List.set_cons_succ, List.set_cons_zero]; go_big_quiet_on) | (refine quiet_load_in _ _ rfl rfl h2.cls Tryd.underlying37 rfl (o_size b) ?_; simp only [Act.put, List.setIfInBounds_toArray, List.set_cons_succ, List.set_cons_zero]; go_big_quiet_on) | (go_big_quiet_op; first | go_big_quiet_on | go_big_quiet_call ((fail)))))
      refine wpQuiet_nil ?_
      rintro w1 ⟨s1, e1⟩
      have hb1 := wOf_below s1
      rw [← e1] at hb1
      clear e1 s1
      replace hB := bgo hB hb1
      clear hb1
      go_wp2
      go_roundw
      case rel => exact ⟨p + 1, by go_num, by omega, hB⟩
      case measure => simp [intOf]; omega
    · obtain rfl : p = l.length := by omega
      go_wp2
      go_ret
      exact ⟨rfl, hB⟩
end Go.Proofs.YtdafkakigigdeaaDoor
namespace Go.Proofs.YtdafkakigigdeaaDoor
set_option maxRecDepth 100000

/-- Each is valid on a row that is as long as those ahead of it make it. -/
def vldS : Nat → List Xo → Prop
  | _, [] => True
  | n, o :: r => validO o n = true ∧ vldS (n + if o.k = 1 then 1 else 0) r
def insC (l : List Xo) : Nat := l.countP fun o => decide (o.k = 1)
theorem vldS_snoc : ∀ (l : List Xo) (n : Nat) (x : Xo), vldS n l → validO x ((n + insC l : Nat) : Int) = true → vldS n (l ++ [x])
  | [], n, x, _, h => ⟨by simpa [insC] using h, trivial⟩
  | o :: l, n, x, h, hx => by
    refine ⟨h.1, vldS_snoc l _ x h.2 ?_⟩
    have e : n + insC (o :: l) = n + (if o.k = 1 then 1 else 0) + insC l := by
      unfold insC
      rw [List.countP_cons]
      by_cases k : o.k = 1
      · simp [k]; omega
      · simp [k]
    rw [← e]
    exact hx
theorem insC_snoc (l : List Xo) (x : Xo) : insC (l ++ [x]) = insC l + if x.k = 1 then 1 else 0 := by
  unfold insC
  rw [List.countP_append]
  by_cases k : x.k = 1 <;> simp [k]
theorem insC_le (l : List Xo) : insC l ≤ l.length := List.countP_le_length
theorem okS_vld : ∀ (xs : List Xo) (ia : List Idn) (l : List El), vldS l.length xs → okS l (xs.zip ia)
  | [], _, _, _ => trivial
  | _ :: _, [], _, _ => trivial
  | o :: xs, i :: ia, l, h => by
    refine ⟨h.1, okS_vld xs ia _ ?_⟩
    rw [step_len h.1]
    exact h.2
/-- The names of what a row of one replica lays in. -/
def idsO (r : Int) : Int → List Xo → List Idn
  | _, [] => []
  | c, o :: xs => ⟨4, r, if o.k = 1 then c + 1 else c⟩ :: idsO r (if o.k = 1 then c + 1 else c) xs
theorem idsO_len (r : Int) : ∀ (xs : List Xo) (c : Int), (idsO r c xs).length = xs.length
  | [], _ => rfl
  | o :: xs, c => by simp [idsO, idsO_len r xs]
theorem idsO_k (r : Int) : ∀ (xs ys : List Xo) (c : Int), xs.map Xo.k = ys.map Xo.k → idsO r c xs = idsO r c ys
  | [], [], _, _ => rfl
  | [], _ :: _, _, h => by simp at h
  | _ :: _, [], _, h => by simp at h
  | x :: xs, y :: ys, c, h => by
    simp only [List.map_cons, List.cons.injEq] at h
    simp only [idsO, h.1, idsO_k r xs ys _ h.2]
/-- How many each has laid in. -/
def cntU (cnt : Int → Int) (o : Xo) : Int → Int := fun r => if r = o.r ∧ o.k = 1 then cnt r + 1 else cnt r
def nmC : (Int → Int) → List Xo → List (Xo × Idn)
  | _, [] => []
  | cnt, o :: xs => (o, ⟨4, o.r, cntU cnt o o.r⟩) :: nmC (cntU cnt o) xs
def cntA (cnt : Int → Int) (l : List Xo) : Int → Int := l.foldl cntU cnt
theorem nmC_len : ∀ (xs : List Xo) (cnt : Int → Int), (nmC cnt xs).length = xs.length
  | [], _ => rfl
  | o :: xs, cnt => by simp [nmC, nmC_len xs]
theorem nmC_app : ∀ (xs ys : List Xo) (cnt : Int → Int), nmC cnt (xs ++ ys) = nmC cnt xs ++ nmC (cntA cnt xs) ys
  | [], _, _ => rfl
  | o :: xs, ys, cnt => by
    simp only [List.cons_append, nmC, nmC_app xs ys]
    rfl
theorem nmC_one {r : Int} : ∀ (xs : List Xo) (cnt : Int → Int), (∀ o ∈ xs, o.r = r) → nmC cnt xs = xs.zip (idsO r (cnt r) xs)
  | [], _, _ => rfl
  | o :: xs, cnt, h => by
    have e : o.r = r := h o (by simp)
    have e2 : cntU cnt o r = if o.k = 1 then cnt r + 1 else cnt r := by
      unfold cntU
      rw [e]
      simp
    simp only [nmC, idsO, List.zip_cons_cons]
    rw [nmC_one xs (cntU cnt o) (fun x hx => h x (by simp [hx])), e, e2]
theorem cntA_other {r q : Int} (hq : q ≠ r) : ∀ (xs : List Xo) (cnt : Int → Int), (∀ o ∈ xs, o.r = r) → cntA cnt xs q = cnt q
  | [], _, _ => rfl
  | o :: xs, cnt, h => by
    have e : o.r = r := h o (by simp)
    show cntA (cntU cnt o) xs q = cnt q
    rw [cntA_other hq xs (cntU cnt o) (fun x hx => h x (by simp [hx]))]
    unfold cntU
    rw [if_neg (fun k => hq (k.1.trans e))]
theorem nmC_at : ∀ (xs : List Xo) (cnt : Int → Int) (k : Nat) (o : Xo), xs[k]? = some o → (nmC cnt xs)[k]? = some (o, ⟨4, o.r, cntU (cntA cnt (xs.take k)) o o.r⟩)
  | [], _, _, _, h => by simp at h
  | x :: xs, cnt, 0, o, h => by
    simp only [List.getElem?_cons_zero, Option.some.injEq] at h
    subst h
    rfl
  | x :: xs, cnt, k + 1, o, h => by
    simp only [List.getElem?_cons_succ] at h
    simp only [nmC, List.getElem?_cons_succ, List.take_succ_cons]
    rw [nmC_at xs (cntU cnt x) k o h]
    rfl
theorem cntA_snoc (cnt : Int → Int) (l : List Xo) (o : Xo) : cntA cnt (l ++ [o]) = cntU (cntA cnt l) o := by simp [cntA, List.foldl_append]
theorem cntU_b {cnt : Int → Int} {o : Xo} {B : Int} (h : ∀ r, 0 ≤ cnt r ∧ cnt r ≤ B) : ∀ r, 0 ≤ cntU cnt o r ∧ cntU cnt o r ≤ B + 1 := fun r => by
  have := h r
  unfold cntU
  split <;> omega
theorem cntU_ge (cnt : Int → Int) (o : Xo) (r : Int) : cnt r ≤ cntU cnt o r := by unfold cntU; split <;> omega
theorem nmC_b : ∀ (xs : List Xo) (cnt : Int → Int) (B : Int), (∀ r, 0 ≤ cnt r ∧ cnt r ≤ B) → ∀ z ∈ nmC cnt xs, z.2.a = 4 ∧ z.2.b = z.1.r ∧ z.1 ∈ xs ∧ 0 ≤ z.2.c ∧ z.2.c ≤ B + xs.length ∧ (z.1.k = 1 → cnt z.2.b < z.2.c)
  | [], _, _, _, z, hz => by simp [nmC] at hz
  | o :: xs, cnt, B, h, z, hz => by
    have hu := cntU_b (o := o) h
    simp only [nmC, List.mem_cons] at hz
    rcases hz with rfl | hz
    · have := hu o.r
      refine ⟨rfl, rfl, by simp, this.1, by simp only [List.length_cons]; omega, fun k => ?_⟩
      show cnt o.r < cntU cnt o o.r
      unfold cntU
      rw [if_pos ⟨rfl, k⟩]
      omega
    · obtain ⟨q1, q2, q3, q4, q5, q6⟩ := nmC_b xs (cntU cnt o) (B + 1) hu z hz
      refine ⟨q1, q2, by simp [q3], q4, by simp only [List.length_cons]; omega, fun k => ?_⟩
      have := cntU_ge cnt o z.2.b
      have := q6 k
      omega
theorem nmC_apart : ∀ (xs : List Xo) (cnt : Int → Int) (B : Int), (∀ r, 0 ≤ cnt r ∧ cnt r ≤ B) → (nmC cnt xs).Pairwise (fun x y => x.1.k = 1 → y.1.k = 1 → x.2 ≠ y.2)
  | [], _, _, _ => List.Pairwise.nil
  | o :: xs, cnt, B, h => by
    have hu := cntU_b (o := o) h
    refine List.pairwise_cons.2 ⟨fun z hz _ k2 e => ?_, nmC_apart xs _ (B + 1) hu⟩
    obtain ⟨_, _, _, _, _, q6⟩ := nmC_b xs (cntU cnt o) (B + 1) hu z hz
    have h1 := q6 k2
    rw [← e] at h1
    exact Int.lt_irrefl _ h1
theorem nmC_fr {l : List El} {xs : List Xo} (h3 : ∀ e ∈ l, e.ep = 3) (hr : ∀ o ∈ xs, 0 ≤ o.r ∧ o.r ≤ 7) (hn : xs.length ≤ 1000) : frS l (nmC (fun _ => 0) xs) := by
  have hb := nmC_b xs (fun _ => 0) 0 (fun _ => ⟨Int.le_refl _, Int.le_refl _⟩)
  refine fr_of _ _ (fun e he z hz _ q => ?_) (nmC_apart xs _ 0 (fun _ => ⟨Int.le_refl _, Int.le_refl _⟩)) (fun z hz => ?_)
  · obtain ⟨q1, _⟩ := hb z hz
    have := h3 e he
    have e1 : e.ep = z.2.a := congrArg Idn.a q
    omega
  · obtain ⟨q1, q2, q3, q4, q5, _⟩ := hb z hz
    have := hr z.1 q3
    exact ⟨⟨by omega, by omega⟩, ⟨by omega, by omega⟩, ⟨by omega, by omega⟩⟩
/-- What behind makes. -/
structure BhR (n : Nat) (r : Nat) (k : Nat) (out : List Xo) : Prop where
  vld : vldS n out
  rep : ∀ o ∈ out, o.r = r
  len : out.length ≤ 24
  le : out.length ≤ k
  inn : ∀ o ∈ out, 0 ≤ o.p ∧ o.p ≤ 1000000 ∧ (o.k = 1 ∨ o.k = 2 ∨ o.k = 3)
/-- Both ways of two rows. -/
theorem cross_play {l : List El} {xs bs : List Xo} {ra rb : Nat} (ha : vldS l.length xs) (hb : vldS l.length bs) (hra : ∀ o ∈ xs, o.r = ra) (hrb : ∀ o ∈ bs, o.r = rb) (hne : ra ≠ rb) (hl : l.length + xs.length + bs.length < 1000000) :
    runs l (nmC (fun _ => 0) (xs ++ (crossO xs bs).2)) = runs l (nmC (fun _ => 0) (bs ++ (crossO xs bs).1)) ∧ okS l (nmC (fun _ => 0) (xs ++ (crossO xs bs).2)) ∧ okS l (nmC (fun _ => 0) (bs ++ (crossO xs bs).1)) := by
  have hk := cross_k bs xs
  have hrr := cross_r bs xs
  have hy : ∀ o ∈ (crossO xs bs).2, o.r = rb := fun o ho => by
    have h1 : o.r ∈ (crossO xs bs).2.map Xo.r := List.mem_map_of_mem ho
    rw [hrr.2] at h1
    obtain ⟨p, hp, e⟩ := List.mem_map.1 h1
    rw [← e]; exact hrb p hp
  have hx : ∀ o ∈ (crossO xs bs).1, o.r = ra := fun o ho => by
    have h1 : o.r ∈ (crossO xs bs).1.map Xo.r := List.mem_map_of_mem ho
    rw [hrr.1] at h1
    obtain ⟨p, hp, e⟩ := List.mem_map.1 h1
    rw [← e]; exact hra p hp
  have n1 : (rb : Int) ≠ ra := fun e => hne (by omega)
  have n2 : (ra : Int) ≠ rb := fun e => hne (by omega)
  have e1 : nmC (fun _ => 0) (xs ++ (crossO xs bs).2) = xs.zip (idsO ra 0 xs) ++ (crossO xs bs).2.zip (idsO rb 0 bs) := by
    rw [nmC_app, nmC_one xs _ hra, nmC_one _ _ hy, cntA_other n1 xs _ hra, idsO_k rb _ _ _ hk.2]
  have e2 : nmC (fun _ => 0) (bs ++ (crossO xs bs).1) = bs.zip (idsO rb 0 bs) ++ (crossO xs bs).1.zip (idsO ra 0 xs) := by
    rw [nmC_app, nmC_one bs _ hrb, nmC_one _ _ hx, cntA_other n2 bs _ hrb, idsO_k ra _ _ _ hk.1]
  have oa := okS_vld xs (idsO ra 0 xs) l ha
  have ob := okS_vld bs (idsO rb 0 bs) l hb
  obtain ⟨c1, c2, c3⟩ := cross_law bs (idsO rb 0 bs) xs (idsO ra 0 xs) l (idsO_len ra xs 0).symm (idsO_len rb bs 0).symm oa ob (fun a h1 b h2 => by rw [hra a h1, hrb b h2]; exact n2) (by omega)
  rw [e1, e2, runs_app, runs_app, okS_app, okS_app]
  exact ⟨c1.symm, ⟨oa, c3⟩, ob, c2⟩
end Go.Proofs.YtdafkakigigdeaaDoor
namespace Go.Proofs.YtdafkakigigdeaaDoor
open Go.RowKit
set_option maxRecDepth 100000

theorem BhR.skip {n r k : Nat} {out : List Xo} (h : BhR n r k out) : BhR n r (k + 1) out := ⟨h.vld, h.rep, h.len, by have := h.le; omega, h.inn⟩
theorem BhR.add {n r k : Nat} {out : List Xo} {x : Xo} (h : BhR n r k out) (hl : out.length < 24) (hn : n ≤ 1000) (hv : validO x ((n + insC out : Nat) : Int) = true) (hx : x.r = r) (hk : x.k = 1 ∨ x.k = 2 ∨ x.k = 3) : BhR n r (k + 1) (out ++ [x]) := by
  have hp := validO_place hv
  have hi := insC_le out
  refine ⟨vldS_snoc _ _ _ h.vld hv, fun o ho => ?_, by simp; omega, by have := h.le; simp; omega, fun o ho => ?_⟩
  · rcases List.mem_append.1 ho with h1 | h1
    · exact h.rep o h1
    · simp only [List.mem_singleton] at h1
      rw [h1]; exact hx
  · rcases List.mem_append.1 ho with h1 | h1
    · exact h.inn o h1
    · simp only [List.mem_singleton] at h1
      rw [h1]
      exact ⟨by omega, by omega, hk⟩
/-- What behind answers. -/
def BhO (n r : Nat) (w : World) (e : Ending) (w' : World) : Prop := ∃ u out k, e = .returned u ∧ OwnO w.heap.size u out w' ∧ BhR n r k out ∧ Below w.heap.size w w'
set_option maxHeartbeats 4000000 in
theorem behind_ok {w : World} {v : Value} {l : List Xo} (hv : SlO w v l) (hin : ∀ o ∈ l, o.In) (hml : l.length ≤ 9223372036854775807) (n rp : Nat) (hn : n ≤ 1000) (hr : rp < 8) :
    Calls Tryd.prog 8 #[v, .int .i64 (n : Int), .int .i64 (rp : Int)] w (BhO n rp w) := by
  obtain ⟨a0, c0, rfl⟩ := hv.form
  go_enter Tryd.func8, Tryd.ntmps8
  go_wp2
  go_loopw [1, 7, 8] (fun nv u iv wr => ∃ (k : Nat) (out : List Xo) (ua : Option Addr) (uc : Nat), nv = .int .i64 ((n + insC out : Nat) : Int) ∧ u = .slice ua out.length uc ∧ iv = .int .i64 (k : Int) ∧ k ≤ l.length ∧ BhR n rp k out ∧ OwnO w.heap.size (.slice ua out.length uc) out wr ∧ Below w.heap.size w wr) (fun _ _ iv _ => l.length - (intOf iv).toNat)
  case atStart => exact ⟨0, [], none, 0, rfl, rfl, rfl, Nat.zero_le _, ⟨trivial, fun o ho => by simp at ho, by simp, by simp, fun o ho => by simp at ho⟩, ⟨rfl, .inl ⟨rfl, rfl⟩⟩, Below.refl _ _⟩
  case round =>
    obtain ⟨k, out, ua, uc, rfl, rfl, rfl, hk, hR, hO, hB⟩ := hrel
    have hol := hR.len
    have hic := insC_le out
    by_cases q0 : k < l.length
    · have p0 : (k : Int) < (l.length : Int) := by omega
      by_cases q1 : out.length < 24
      · have p1 : (out.length : Int) < 24 := by omega
        obtain ⟨o, ho⟩ : ∃ o, l[k]? = some o := ⟨_, List.getElem?_eq_getElem q0⟩
        have hoi := hin o (List.mem_of_getElem? ho)
        rcases hv.later hB with ⟨h0, _⟩ | ⟨g, o_, c, hvv, hc⟩
        · exfalso; subst h0; simp at q0
        simp only [Value.slice.injEq] at hvv
        obtain ⟨rfl, _, rfl⟩ := hvv
        have hce := hc k o ho
        obtain ⟨N, hN⟩ : ∃ N, n + insC out = N := ⟨_, rfl⟩
        have hNb : N ≤ 1024 := by omega
        rw [hN]
        have HF := hid_of' (fun x => fit_ok o hoi N rp (by omega) hr x)
        clear hc ho hoi
        go_upto_region 6 with (first | (refine wpL_loadO (e := o) rfl (.tmp 25) rfl rfl hce ?_; go_simp) | (go_at_call 18; refine (HF.out _).mono ?_; clear HF; rintro r w3 ⟨x, pa, rfl, va1, va2, va3, hb3⟩) | (refine wpL_storeO (e := x) rfl (.tmp 9) _ rfl rfl rfl (row_new w3 _ _) ?_))
        have rx := (row_new w3 #[.int .i64 0, .int .i64 0, .int .i32 0, .int .i64 0] 37).put (ov x)
        have hbn : Below wr.heap.size wr ((w3.alloc (.cells #[.int .i64 0, .int .i64 0, .int .i32 0, .int .i64 0] 37)).setRow w3.heap.size (ov x)) := bgo hb3 (below_row (below_one w3 _) (Nat.le_refl _) _)
        generalize (w3.alloc (.cells #[.int .i64 0, .int .i64 0, .int .i32 0, .int .i64 0] 37)).setRow w3.heap.size (ov x) = w5 at rx hbn ⊢
        generalize w3.heap.size = gx at rx ⊢
        replace hO := hO.later hbn
        replace hB := bgo hB hbn
        clear hbn hb3 hce w3
        cases pa with
        | false =>
          go_wp2
          go_roundw
          case rel => exact ⟨k + 1, out, ua, uc, by rw [hN], rfl, by go_num, by omega, hR.skip, hO, hB⟩
          case measure => simp [intOf]; omega
        | true =>
          have hva := va1 rfl
          rw [← hN] at hva
          have HR := hid_of' (hR.add q1 hn hva va2 va3)
          have cx : w5.cell? ⟨gx, 0, none⟩ = some (.int .i64 x.k) := rx.cell 0
          clear hva va1 va2 va3
          by_cases k1 : x.k = 1
          · have e1 : (x.k == 1) = true := by rw [k1]; rfl
            go_upto_region 9 with fail
            have K1 := hid_of' k1
            clear e1 cx k1
            have E9 : Hid ((out ++ [x]).length = out.length + 1) := by
              show _ = _
              rw [List.length_append]
              rfl
            go_wp2_with (first | (refine wpL_loadO (e := x) rfl (.tmp 9) rfl rfl rx.in ?_; unfold ov) | (at_builtin; refine wpL_appO (l := [x]) rfl _ _ rfl rfl rfl (hO.later (below_one _ (.cells (ov x) 37))) (so_new w5 [x] 1 1 rfl) (by simp; omega) (by rw [World.size_alloc]; have := hB.size; omega) ?_; intro v9 w9 o9 hg9; obtain ⟨a9, c9, hv9⟩ := o9.form; subst hv9; rw [E9.out] at o9 ⊢))
            have hb9 := below_one w5 (.cells (ov x) 37)
            have hB9 : Below w.heap.size w w9 := (bgo hB hb9).grown hg9 (bgo hB hb9).size (fun j hj => (hO.lt j hj).1)
            have hi9 := hid_of' (insC_snoc out x)
            go_roundw
            case rel => exact ⟨k + 1, out ++ [x], a9, c9, by rw [hi9.out, if_pos K1.out, ← hN]; first | rfl | go_num, by rw [E9.out], by go_num, by omega, HR.out, by rw [E9.out]; exact o9, hB9⟩
            case measure => simp [intOf]; omega
          · have e1 : (x.k == 1) = false := ne_beq k1
            go_upto_region 9 with fail
            have K1 := hid_of' k1
            clear e1 cx k1
            have E9 : Hid ((out ++ [x]).length = out.length + 1) := by
              show _ = _
              rw [List.length_append]
              rfl
            go_wp2_with (first | (refine wpL_loadO (e := x) rfl (.tmp 9) rfl rfl rx.in ?_; unfold ov) | (at_builtin; refine wpL_appO (l := [x]) rfl _ _ rfl rfl rfl (hO.later (below_one _ (.cells (ov x) 37))) (so_new w5 [x] 1 1 rfl) (by simp; omega) (by rw [World.size_alloc]; have := hB.size; omega) ?_; intro v9 w9 o9 hg9; obtain ⟨a9, c9, hv9⟩ := o9.form; subst hv9; rw [E9.out] at o9 ⊢))
            have hb9 := below_one w5 (.cells (ov x) 37)
            have hB9 : Below w.heap.size w w9 := (bgo hB hb9).grown hg9 (bgo hB hb9).size (fun j hj => (hO.lt j hj).1)
            have hi9 := hid_of' (insC_snoc out x)
            go_roundw
            case rel => exact ⟨k + 1, out ++ [x], a9, c9, by rw [hi9.out, if_neg K1.out, ← hN]; first | rfl | go_num, by rw [E9.out], by go_num, by omega, HR.out, by rw [E9.out]; exact o9, hB9⟩
            case measure => simp [intOf]; omega
      · have p1 : ¬ (out.length : Int) < 24 := by omega
        go_wp2
        go_ret
        exact ⟨_, out, k, rfl, hO, hR, hB⟩
    · have p0 : ¬ (k : Int) < (l.length : Int) := by omega
      go_wp2
      go_ret
      exact ⟨_, out, k, rfl, hO, hR, hB⟩

/-- How many each of eight has laid in. -/
def cv8 (c : Int → Int) : Array Value := #[.int .i64 (c 0), .int .i64 (c 1), .int .i64 (c 2), .int .i64 (c 3), .int .i64 (c 4), .int .i64 (c 5), .int .i64 (c 6), .int .i64 (c 7)]
theorem cv8_at (c : Int → Int) (j : Nat) (h : j ≤ 7) : (cv8 c)[j]? = some (.int .i64 (c (j : Int))) := by
  match j, h with
  | 0, _ | 1, _ | 2, _ | 3, _ | 4, _ | 5, _ | 6, _ | 7, _ => rfl
  | m + 8, h => omega
theorem cv8_set (c : Int → Int) (o : Xo) (j : Nat) (h : j ≤ 7) (hr : o.r = (j : Int)) (hk : o.k = 1) : (cv8 c).setIfInBounds j (.int .i64 (c (j : Int) + 1)) = cv8 (cntU c o) := by
  unfold cv8 cntU
  rw [hr, hk]
  match j, h with
  | 0, _ | 1, _ | 2, _ | 3, _ | 4, _ | 5, _ | 6, _ | 7, _ => simp
  | m + 8, h => omega
theorem cv8_not (c : Int → Int) (o : Xo) (hk : ¬ o.k = 1) : cntU c o = c := by
  funext r
  unfold cntU
  rw [if_neg (fun q => hk q.2)]
theorem cntA_b : ∀ (l : List Xo) (c : Int → Int) (B : Int), (∀ r, 0 ≤ c r ∧ c r ≤ B) → ∀ r, 0 ≤ cntA c l r ∧ cntA c l r ≤ B + l.length
  | [], _, _, h, r => by simpa [cntA] using h r
  | o :: l, c, B, h, r => by
    have := cntA_b l (cntU c o) (B + 1) (cntU_b h) r
    simp only [List.length_cons]
    show 0 ≤ cntA (cntU c o) l r ∧ cntA (cntU c o) l r ≤ _
    omega
/-- One block more that a tree's nodes keep clear of. -/
def rowsI (R : Rows) (x hi : Nat) (h1 : R.hi ≤ hi) (h2 : x < hi) : Rows := ⟨fun g => R.no g ∨ g = x, hi, fun g h => h.elim (fun k => Nat.lt_of_lt_of_le (R.lt g k) h1) (fun k => by omega)⟩
theorem Mo.widen {mb tb kb N x : Nat} {R : Rows} {l : List El} {w w' : World} (h : Mo mb tb kb N R l w) (hb : Below w.heap.size w w') (hx : w.heap.size ≤ x) (hx2 : x < w'.heap.size) : ∃ R' : Rows, R'.no x ∧ Mo mb tb kb N R' l w' := by
  obtain ⟨n, f, h1, h2, h3⟩ := h
  have hh : R.hi ≤ w'.heap.size := Nat.le_trans h2.hi hb.size
  exact ⟨rowsI R x w'.heap.size hh hx2, .inr rfl, n, f, h1, ⟨h2.row.later hb, h2.tree.widen (fun g hg => hg.elim .inl (fun e => .inr (by rw [e]; exact hx))) (Nat.le_refl _) hb, h2.map.later hb, .inl h2.no, .inl h2.nom, Nat.le_refl _⟩, h3⟩
theorem Mo.keep {mb tb kb N x : Nat} {R : Rows} {l : List El} {w w' : World} {cs : Array Value} {tx : TypeId} (h : Mo mb tb kb N R l w) (hno : R.no x) (hr : RowAt x cs tx w) (hne : ¬ tx = 119) (k : Kp x w w') (h1 : ¬ mb = x) (h2 : ¬ tb = x) (h3 : ¬ kb = x) : Mo mb tb kb N R l w' := by
  obtain ⟨n, f, q1, q2, q3⟩ := h
  exact ⟨n, f, q1, ⟨q2.row.kp k h1, q2.tree.kp hno hr hne k h2, q2.map.kp k h3, q2.no, q2.nom, Nat.le_trans q2.hi k.size⟩, q3⟩
set_option maxHeartbeats 8000000 in
theorem play_ok {w : World} {u v : Value} {l : List El} {ops : List Xo} {b : Int} (hu : SlE w u l) (hv : SlO w v ops) (hn : l.length + ops.length ≤ 1000) (hR : RowOk b l) (hb0 : 0 ≤ b) (hb : b ≤ 1000000) (hrp : ∀ o ∈ ops, 0 ≤ o.r ∧ o.r ≤ 7) (h1 : okS l (nmC (fun _ => 0) ops)) (h2 : frS l (nmC (fun _ => 0) ops)) :
    Calls Tryd.prog 12 #[u, v] w fun r w' => ∃ q, r = .returned (.tuple #[q, .bool true]) ∧ OwnE w.heap.size q (runs l (nmC (fun _ => 0) ops)) w' ∧ Below w.heap.size w w' := by
  have HO := hid_of' (of_mo hu (by omega) hR (by omega))
  obtain ⟨a1, c1, rfl⟩ := hv.form
  unfold pv at HO
  go_enter Tryd.func12, Tryd.ntmps12
  go_wp2_with (go_at_call 20; refine HO.out.mono ?_; clear HO; rintro r w1 ⟨mb, tb, kb, R, rfl, g1, g2, g3, hM0, hb1⟩)
  have rc0 := row_new w1 (cv8 (fun _ => 0)) 64
  obtain ⟨R', hno, hM1⟩ := hM0.widen (below_one w1 (.cells (cv8 (fun _ => 0)) 64)) (Nat.le_refl _) (by rw [World.size_alloc]; omega)
  have hB1 := bgo hb1 (below_one w1 (.cells (cv8 (fun _ => 0)) 64))
  obtain ⟨gc, hgcd⟩ : ∃ gc, w1.heap.size = gc := ⟨_, rfl⟩
  have htb : tb < gc ∧ kb < gc ∧ mb < gc := by
    obtain ⟨n, f, _, hMd, _⟩ := hM0
    obtain ⟨_, _, h3, _⟩ := hMd.tree.root
    have := hMd.map.lt
    have := hMd.row.lt
    omega
  rw [hgcd] at rc0 hno
  have hgw : w.heap.size ≤ gc := by have := hb1.size; omega
  change Code.wp _ _ _ _ (w1.alloc (.cells (cv8 (fun _ => 0)) 64))
  generalize w1.alloc (.cells (cv8 (fun _ => 0)) 64) = w2 at rc0 hM1 hB1 ⊢
  rw [hgcd]
  clear hM0 hb1 hgcd w1 hu
  go_wp2
  go_loopw [9] (fun iv wr => ∃ k : Nat, iv = .int .i64 (k : Int) ∧ k ≤ ops.length ∧ Mo mb tb kb (1000000 + k * 3000) R' (runs l ((nmC (fun _ => 0) ops).take k)) wr ∧ RowAt gc (cv8 (cntA (fun _ => 0) (ops.take k))) 64 wr ∧ Below w.heap.size w wr) (fun iv _ => ops.length - (intOf iv).toNat)
  case atStart => exact ⟨0, rfl, Nat.zero_le _, hM1, rc0, hB1⟩
  case round =>
    obtain ⟨k, rfl, hk, hM, rc, hB⟩ := hrel
    clear hM1 rc0 hB1
    by_cases hlt : k < ops.length
    · have hki : (k : Int) < (ops.length : Int) := by omega
      obtain ⟨op, hop⟩ : ∃ op, ops[k]? = some op := ⟨_, List.getElem?_eq_getElem hlt⟩
      obtain ⟨q1, q2, q3, q4, q5, q6⟩ := runs_at (nmC_at ops (fun _ => 0) k op hop) h1 h2 hR hb0
      have hcn : cntA (fun _ => 0) (ops.take (k + 1)) = cntU (cntA (fun _ => 0) (ops.take k)) op := by rw [(take_drop_at hop).2, cntA_snoc]
      have hcb := cntA_b (ops.take k) (fun _ => 0) 0 (fun _ => ⟨Int.le_refl _, Int.le_refl _⟩)
      have htk : (ops.take k).length ≤ 1000 := by rw [List.length_take]; omega
      have hr7 := hrp op (List.mem_of_getElem? hop)
      obtain ⟨J, hJ⟩ : ∃ J : Nat, op.r = (J : Int) := ⟨op.r.toNat, by omega⟩
      have hJ7 : J ≤ 7 := by omega
      have hJi : (J : Int) < 8 := by omega
      have hJ0 : (0 : Int) ≤ (J : Int) := by omega
      have hJn : ¬ (J : Int) < 0 := by omega
      have hJg : ¬ (7 : Int) < (J : Int) := by omega
      rcases hv with ⟨h0, _⟩ | ⟨g, o_, c, hvv, hc0⟩
      · exfalso; subst h0; simp at hlt
      simp only [Value.slice.injEq] at hvv
      obtain ⟨rfl, _, rfl⟩ := hvv
      have hc := OsAt.later hc0 hB
      have hgl := (hc0 k op hop).1
      have hce := hc k op hop
      have cR : wr.cell? ⟨g, o_ + k * 4 + 3, none⟩ = some (.int .i64 (J : Int)) := by rw [← hJ]; exact hce.2 3 _ rfl
      have cK : wr.cell? ⟨g, o_ + k * 4, none⟩ = some (.int .i64 op.k) := hce.2 0 _ rfl
      have hcJ := hcb (J : Int)
      generalize cntA (fun _ => 0) (ops.take k) = cnt at hcn hcb hcJ rc q1 q2 q3 q4 q5 q6
      rw [hJ] at q3 q4 q5
      obtain ⟨C, hC⟩ : ∃ C, cntU cnt op (J : Int) = C := ⟨_, rfl⟩
      rw [hC] at q3 q4 q5
      have HA := hid_of' (fun (x : World) (hx : Mo mb tb kb (1000000 + k * 3000) R' (runs l ((nmC (fun _ => 0) ops).take k)) x) => apply_mo hx (by omega) q1 (by omega) op ⟨4, (J : Int), C⟩ q2 q4 q3 (by omega))
      have Hq := hid_of' q5
      have Hl := hid_of' q6
      have Hh := hid_of' (And.intro h1 (And.intro h2 hc))
      have cJ0 : wr.cell? ⟨gc, J, none⟩ = some (.int .i64 (cnt (J : Int))) := by rw [rc.cell, cv8_at cnt J hJ7]
      have hgc := rc.lt
      clear q1 q2 q3 q4 q5 q6 h1 h2 hc hcb hr7
      unfold pv at HA
      by_cases k1 : op.k = 1
      · have e1 : (op.k == 1) = true := by rw [k1]; rfl
        have hC2 : cnt (J : Int) + 1 = C := by rw [← hC]; unfold cntU; rw [if_pos ⟨hJ.symm, k1⟩]
        have rc5 : RowAt gc (cv8 (cntU cnt op)) 64 (wr.setCell ⟨gc, J, none⟩ (.int .i64 C)) := by
          rw [← cv8_set cnt op J hJ7 hJ k1, hC2]
          exact heap_setCell_at rc J _
        have ff : wr.frozen? ⟨gc, J, none⟩ = false := Lib.frozen_of_heap rc J
        have hb5 : Below w.heap.size w (wr.setCell ⟨gc, J, none⟩ (.int .i64 C)) := below_setO hB hgw _ _
        have hM5 : Mo mb tb kb (1000000 + k * 3000) R' (runs l ((nmC (fun _ => 0) ops).take k)) (wr.setCell ⟨gc, J, none⟩ (.int .i64 C)) := hM.keep hno rc (by decide) (Kp.cell gc J _) (by omega) (by omega) (by omega)
        have hce5 : CsIn g (o_ + k * 4) (ov op) (wr.setCell ⟨gc, J, none⟩ (.int .i64 C)) := CsIn.k2 hce (K2.one (y := gc) (Kp.cell gc J (.int .i64 C))) (by omega) (by omega)
        have cJ : (wr.setCell ⟨gc, J, none⟩ (.int .i64 C)).cell? ⟨gc, J, none⟩ = some (.int .i64 C) := by
          have := rc5.cell J
          rw [this, cv8_at _ J hJ7, hC]
        have K1 := hid_of' k1
        have HJ := hid_of' (And.intro hJ (And.intro hcn (And.intro hC hC2)))
        clear hcn hC hJ k1
        go_upto_region 13 with fail
        clear hC2 cJ0 cR cK e1 ff hce hM rc hB
        generalize wr.setCell ⟨gc, J, none⟩ (.int .i64 C) = w5 at rc5 hb5 hM5 hce5 cJ ⊢
        replace hgc := rc5.lt
        refine wp_region_tail 10 (by kernel_rfl) (fun _ => none) (by kernel_rfl) (by kernel_rfl) (by decide) (fun i v x => match i with
          | 0 => v = .pointer (some ⟨mb, 0, none⟩)
          | 1 => v = .slice (some ⟨g, o_, none⟩) ops.length c1
          | 2 => v = .int .i64 (k : Int)
          | 3 => v = .pointer (some ⟨g, o_ + k * 4, none⟩)
          | 4 => v = .agg (ov op)
          | 5 => v = .int .i64 (J : Int)
          | 6 => v = .int .i64 (J : Int)
          | 7 => v = .pointer (some ⟨gc, J, none⟩)
          | 8 => v = .int .i64 C
          | 9 => v = .agg (idc 4 (J : Int) C)
          | _ => True) (fun _ => false) (fun _ _ _ _ h => by cases h) ?_ ?_ ?_
        · intro i v x x' hR hb
          match i, hR with
          | 0, h => exact h
          | 1, h => exact h
          | 2, h => exact h
          | 3, h => exact h
          | 4, h => exact h
          | 5, h => exact h
          | 6, h => exact h
          | 7, h => exact h
          | 8, h => exact h
          | 9, h => exact h
          | m + 10, h => exact h
        · intro i o hi ho q x vals hX hdep hoth
          have t1 : q.tmps[1]? = some (.slice (some ⟨g, o_, none⟩) ops.length c1) := by rw [hoth 1 (by kernel_rfl)]; rfl
          have t6 : q.tmps[6]? = some (.pointer (some ⟨mb, 0, none⟩)) := by rw [hoth 6 (by kernel_rfl)]; rfl
          have t8 : q.tmps[8]? = some (.pointer (some ⟨gc, 0, none⟩)) := by rw [hoth 8 (by kernel_rfl)]; rfl
          have t9 : q.tmps[9]? = some (.int .i64 (k : Int)) := by rw [hoth 9 (by kernel_rfl)]; rfl
          have t10 : q.tmps[10]? = some (.int .i64 (J : Int)) := by rw [hoth 10 (by kernel_rfl)]; rfl
          match i, hi, ho with
          | 0, _, ho =>
            simp only [List.getElem?_cons_zero, Option.some.injEq] at ho
            subst ho
            unfold Oper.wp
            simp [execOp, go_sem, t6]
            exact came _ rfl (Below.refl _ _) rfl (fun h => absurd h (by decide))
          | 1, _, ho =>
            simp only [List.getElem?_cons_succ, List.getElem?_cons_zero, Option.some.injEq] at ho
            subst ho
            unfold Oper.wp
            simp [execOp, go_sem, t1]
            exact came _ rfl (Below.refl _ _) rfl (fun h => absurd h (by decide))
          | 2, _, ho =>
            simp only [List.getElem?_cons_succ, List.getElem?_cons_zero, Option.some.injEq] at ho
            subst ho
            unfold Oper.wp
            simp [execOp, go_sem, t9]
            exact came _ rfl (Below.refl _ _) rfl (fun h => absurd h (by decide))
          | 3, _, ho =>
            simp only [List.getElem?_cons_succ, List.getElem?_cons_zero, Option.some.injEq] at ho
            subst ho
            obtain ⟨u1, e1⟩ := hdep ⟨1, .data⟩ (by simp) rfl _ 51 rfl rfl
            rw [show vals 1 = .slice (some ⟨g, o_, none⟩) ops.length c1 from e1] at u1
            obtain ⟨u2, e2⟩ := hdep ⟨2, .data⟩ (by simp) rfl _ 52 rfl rfl
            rw [show vals 2 = .int .i64 (k : Int) from e2] at u2
            unfold Oper.wp
            simp [execOp, go_sem, u1, u2, hki]
            exact came _ rfl (Below.refl _ _) rfl (fun h => absurd h (by decide))
          | 4, _, ho =>
            simp only [List.getElem?_cons_succ, List.getElem?_cons_zero, Option.some.injEq] at ho
            subst ho
            obtain ⟨u3, e3⟩ := hdep ⟨3, .data⟩ (by simp) rfl _ 53 rfl rfl
            rw [show vals 3 = .pointer (some ⟨g, o_ + k * 4, none⟩) from e3] at u3
            exact opw_loadO _ rfl (by simp [Act.eval, u3]) (hce5.later hX) (came _ rfl (Below.refl _ _) rfl (fun h => absurd h (by decide)))
          | 5, _, ho =>
            simp only [List.getElem?_cons_succ, List.getElem?_cons_zero, Option.some.injEq] at ho
            subst ho
            unfold Oper.wp
            simp [execOp, go_sem, t10]
            exact came _ rfl (Below.refl _ _) rfl (fun h => absurd h (by decide))
          | 6, _, ho =>
            simp only [List.getElem?_cons_succ, List.getElem?_cons_zero, Option.some.injEq] at ho
            subst ho
            unfold Oper.wp
            simp [execOp, go_sem, t10]
            exact came _ rfl (Below.refl _ _) rfl (fun h => absurd h (by decide))
          | 7, _, ho =>
            simp only [List.getElem?_cons_succ, List.getElem?_cons_zero, Option.some.injEq] at ho
            subst ho
            obtain ⟨u6, e6⟩ := hdep ⟨6, .data⟩ (by simp) rfl _ 56 rfl rfl
            rw [show vals 6 = .int .i64 (J : Int) from e6] at u6
            unfold Oper.wp
            simp [execOp, go_sem, u6, t8, hJi, hJ0]
            exact came _ rfl (Below.refl _ _) rfl (fun h => absurd h (by decide))
          | 8, _, ho =>
            simp only [List.getElem?_cons_succ, List.getElem?_cons_zero, Option.some.injEq] at ho
            subst ho
            obtain ⟨u7, e7⟩ := hdep ⟨7, .data⟩ (by simp) rfl _ 57 rfl rfl
            rw [show vals 7 = .pointer (some ⟨gc, J, none⟩) from e7] at u7
            have cc : x.cell? ⟨gc, J, none⟩ = some (.int .i64 C) := (hX.cell (p := ⟨gc, J, none⟩) hgc).trans cJ
            unfold Oper.wp
            simp [execOp, go_sem, u7, cc]
            exact came _ rfl (Below.refl _ _) rfl (fun h => absurd h (by decide))
          | 9, _, ho =>
            simp only [List.getElem?_cons_succ, List.getElem?_cons_zero, Option.some.injEq] at ho
            subst ho
            obtain ⟨u5, e5⟩ := hdep ⟨5, .data⟩ (by simp) rfl _ 55 rfl rfl
            rw [show vals 5 = .int .i64 (J : Int) from e5] at u5
            obtain ⟨u8, e8⟩ := hdep ⟨8, .data⟩ (by simp) rfl _ 58 rfl rfl
            rw [show vals 8 = .int .i64 C from e8] at u8
            unfold Oper.wp
            simp [execOp, go_sem, u5, u8]
            exact came _ rfl (Below.refl _ _) rfl (fun h => absurd h (by decide))
          | m + 10, hi, _ => exact absurd hi (by omega)
        · intro vals x' hX hR7 _
          have r0 : vals 0 = .pointer (some ⟨mb, 0, none⟩) := hR7 0 (by decide)
          have r4 : vals 4 = .agg (ov op) := hR7 4 (by decide)
          have r9 : vals 9 = .agg (idc 4 (J : Int) C) := hR7 9 (by decide)
          simp only [List.take, List.drop, putAll, r0, r4, r9]
          clear r0 r4 r9 hR7
          simp only [List.setIfInBounds_toArray, List.set_cons_succ, List.set_cons_zero]
          go_wp2_with (go_at_call 22; with_reducible refine (HA.out _ (hM5.later hX)).mono ?_; rintro r w9 ⟨rfl, hM9, hk9⟩)
          go_roundw
          case rel =>
            refine ⟨k + 1, by go_num, by omega, ?_, by rw [HJ.out.2.1]; exact (rc5.later hX).k2 hk9 (by omega) (by omega), K2.below (bgo hb5 hX) hk9 g1 g2 (bgo hb5 hX).size⟩
            obtain ⟨n9, f9, hn9, hm9⟩ := hM9
            rw [Hq.out]
            exact ⟨n9, f9, by have := Hl.out; omega, hm9⟩
          case measure => simp [intOf]; omega
      · have e1 : (op.k == 1) = false := ne_beq k1
        have hC2 : cnt (J : Int) = C := by rw [← hC, cv8_not cnt op k1]
        have rc5 : RowAt gc (cv8 (cntU cnt op)) 64 wr := by rw [cv8_not cnt op k1]; exact rc
        have cJ : wr.cell? ⟨gc, J, none⟩ = some (.int .i64 C) := by rw [← hC2]; exact cJ0
        have hce5 := hce
        have hM5 := hM
        have hb5 := hB
        have K1 := hid_of' k1
        have HJ := hid_of' (And.intro hJ (And.intro hcn (And.intro hC hC2)))
        clear hcn hC hC2 hJ k1 cJ0 hce hM rc hB
        go_upto_region 13 with fail
        clear cR cK e1
        refine wp_region_tail 10 (by kernel_rfl) (fun _ => none) (by kernel_rfl) (by kernel_rfl) (by decide) (fun i v x => match i with
          | 0 => v = .pointer (some ⟨mb, 0, none⟩)
          | 1 => v = .slice (some ⟨g, o_, none⟩) ops.length c1
          | 2 => v = .int .i64 (k : Int)
          | 3 => v = .pointer (some ⟨g, o_ + k * 4, none⟩)
          | 4 => v = .agg (ov op)
          | 5 => v = .int .i64 (J : Int)
          | 6 => v = .int .i64 (J : Int)
          | 7 => v = .pointer (some ⟨gc, J, none⟩)
          | 8 => v = .int .i64 C
          | 9 => v = .agg (idc 4 (J : Int) C)
          | _ => True) (fun _ => false) (fun _ _ _ _ h => by cases h) ?_ ?_ ?_
        · intro i v x x' hR hb
          match i, hR with
          | 0, h => exact h
          | 1, h => exact h
          | 2, h => exact h
          | 3, h => exact h
          | 4, h => exact h
          | 5, h => exact h
          | 6, h => exact h
          | 7, h => exact h
          | 8, h => exact h
          | 9, h => exact h
          | m + 10, h => exact h
        · intro i o hi ho q x vals hX hdep hoth
          have t1 : q.tmps[1]? = some (.slice (some ⟨g, o_, none⟩) ops.length c1) := by rw [hoth 1 (by kernel_rfl)]; rfl
          have t6 : q.tmps[6]? = some (.pointer (some ⟨mb, 0, none⟩)) := by rw [hoth 6 (by kernel_rfl)]; rfl
          have t8 : q.tmps[8]? = some (.pointer (some ⟨gc, 0, none⟩)) := by rw [hoth 8 (by kernel_rfl)]; rfl
          have t9 : q.tmps[9]? = some (.int .i64 (k : Int)) := by rw [hoth 9 (by kernel_rfl)]; rfl
          have t10 : q.tmps[10]? = some (.int .i64 (J : Int)) := by rw [hoth 10 (by kernel_rfl)]; rfl
          match i, hi, ho with
          | 0, _, ho =>
            simp only [List.getElem?_cons_zero, Option.some.injEq] at ho
            subst ho
            unfold Oper.wp
            simp [execOp, go_sem, t6]
            exact came _ rfl (Below.refl _ _) rfl (fun h => absurd h (by decide))
          | 1, _, ho =>
            simp only [List.getElem?_cons_succ, List.getElem?_cons_zero, Option.some.injEq] at ho
            subst ho
            unfold Oper.wp
            simp [execOp, go_sem, t1]
            exact came _ rfl (Below.refl _ _) rfl (fun h => absurd h (by decide))
          | 2, _, ho =>
            simp only [List.getElem?_cons_succ, List.getElem?_cons_zero, Option.some.injEq] at ho
            subst ho
            unfold Oper.wp
            simp [execOp, go_sem, t9]
            exact came _ rfl (Below.refl _ _) rfl (fun h => absurd h (by decide))
          | 3, _, ho =>
            simp only [List.getElem?_cons_succ, List.getElem?_cons_zero, Option.some.injEq] at ho
            subst ho
            obtain ⟨u1, e1⟩ := hdep ⟨1, .data⟩ (by simp) rfl _ 51 rfl rfl
            rw [show vals 1 = .slice (some ⟨g, o_, none⟩) ops.length c1 from e1] at u1
            obtain ⟨u2, e2⟩ := hdep ⟨2, .data⟩ (by simp) rfl _ 52 rfl rfl
            rw [show vals 2 = .int .i64 (k : Int) from e2] at u2
            unfold Oper.wp
            simp [execOp, go_sem, u1, u2, hki]
            exact came _ rfl (Below.refl _ _) rfl (fun h => absurd h (by decide))
          | 4, _, ho =>
            simp only [List.getElem?_cons_succ, List.getElem?_cons_zero, Option.some.injEq] at ho
            subst ho
            obtain ⟨u3, e3⟩ := hdep ⟨3, .data⟩ (by simp) rfl _ 53 rfl rfl
            rw [show vals 3 = .pointer (some ⟨g, o_ + k * 4, none⟩) from e3] at u3
            exact opw_loadO _ rfl (by simp [Act.eval, u3]) (hce5.later hX) (came _ rfl (Below.refl _ _) rfl (fun h => absurd h (by decide)))
          | 5, _, ho =>
            simp only [List.getElem?_cons_succ, List.getElem?_cons_zero, Option.some.injEq] at ho
            subst ho
            unfold Oper.wp
            simp [execOp, go_sem, t10]
            exact came _ rfl (Below.refl _ _) rfl (fun h => absurd h (by decide))
          | 6, _, ho =>
            simp only [List.getElem?_cons_succ, List.getElem?_cons_zero, Option.some.injEq] at ho
            subst ho
            unfold Oper.wp
            simp [execOp, go_sem, t10]
            exact came _ rfl (Below.refl _ _) rfl (fun h => absurd h (by decide))
          | 7, _, ho =>
            simp only [List.getElem?_cons_succ, List.getElem?_cons_zero, Option.some.injEq] at ho
            subst ho
            obtain ⟨u6, e6⟩ := hdep ⟨6, .data⟩ (by simp) rfl _ 56 rfl rfl
            rw [show vals 6 = .int .i64 (J : Int) from e6] at u6
            unfold Oper.wp
            simp [execOp, go_sem, u6, t8, hJi, hJ0]
            exact came _ rfl (Below.refl _ _) rfl (fun h => absurd h (by decide))
          | 8, _, ho =>
            simp only [List.getElem?_cons_succ, List.getElem?_cons_zero, Option.some.injEq] at ho
            subst ho
            obtain ⟨u7, e7⟩ := hdep ⟨7, .data⟩ (by simp) rfl _ 57 rfl rfl
            rw [show vals 7 = .pointer (some ⟨gc, J, none⟩) from e7] at u7
            have cc : x.cell? ⟨gc, J, none⟩ = some (.int .i64 C) := (hX.cell (p := ⟨gc, J, none⟩) hgc).trans cJ
            unfold Oper.wp
            simp [execOp, go_sem, u7, cc]
            exact came _ rfl (Below.refl _ _) rfl (fun h => absurd h (by decide))
          | 9, _, ho =>
            simp only [List.getElem?_cons_succ, List.getElem?_cons_zero, Option.some.injEq] at ho
            subst ho
            obtain ⟨u5, e5⟩ := hdep ⟨5, .data⟩ (by simp) rfl _ 55 rfl rfl
            rw [show vals 5 = .int .i64 (J : Int) from e5] at u5
            obtain ⟨u8, e8⟩ := hdep ⟨8, .data⟩ (by simp) rfl _ 58 rfl rfl
            rw [show vals 8 = .int .i64 C from e8] at u8
            unfold Oper.wp
            simp [execOp, go_sem, u5, u8]
            exact came _ rfl (Below.refl _ _) rfl (fun h => absurd h (by decide))
          | m + 10, hi, _ => exact absurd hi (by omega)
        · intro vals x' hX hR7 _
          have r0 : vals 0 = .pointer (some ⟨mb, 0, none⟩) := hR7 0 (by decide)
          have r4 : vals 4 = .agg (ov op) := hR7 4 (by decide)
          have r9 : vals 9 = .agg (idc 4 (J : Int) C) := hR7 9 (by decide)
          simp only [List.take, List.drop, putAll, r0, r4, r9]
          clear r0 r4 r9 hR7
          simp only [List.setIfInBounds_toArray, List.set_cons_succ, List.set_cons_zero]
          go_wp2_with (go_at_call 22; with_reducible refine (HA.out _ (hM5.later hX)).mono ?_; rintro r w9 ⟨rfl, hM9, hk9⟩)
          go_roundw
          case rel =>
            refine ⟨k + 1, by go_num, by omega, ?_, by rw [HJ.out.2.1]; exact (rc5.later hX).k2 hk9 (by omega) (by omega), K2.below (bgo hb5 hX) hk9 g1 g2 (bgo hb5 hX).size⟩
            obtain ⟨n9, f9, hn9, hm9⟩ := hM9
            rw [Hq.out]
            exact ⟨n9, f9, by have := Hl.out; omega, hm9⟩
          case measure => simp [intOf]; omega
    · obtain rfl : k = ops.length := by omega
      have hnl : (nmC (fun _ => 0) ops).length = ops.length := nmC_len ops _
      have htk : (nmC (fun _ => 0) ops).take ops.length = nmC (fun _ => 0) ops := List.take_of_length_le (by omega)
      rw [htk] at hM
      have hrl := (runs_len (nmC (fun _ => 0) ops) l h1).1
      have HE := hid_of' (elements_ok hM.mv (by omega))
      clear htk hnl hrl h1 h2
      unfold pv at HE
      go_wp2_with (go_at_call 24; refine HE.out.mono ?_; rintro r w9 ⟨q, rfl, ho9, hb9⟩)
      go_ret2
      exact ⟨q, rfl, ho9.lower hB.size, bgo hB hb9⟩
end Go.Proofs.YtdafkakigigdeaaDoor
namespace Go.Proofs.YtdafkakigigdeaaDoor
open Go.RowKit
set_option maxRecDepth 100000

theorem run_appOat {base : Nat} {v : Value} {xs l : List Xo} {w : World} (ty : TypeId) (hown : OwnO base v xs w) {g o_ c : Nat} (hl : OsAt g o_ l w) (hlen : xs.length + l.length ≤ 1099511627776) (hbase : base ≤ w.heap.size) :
    ∃ v' w', (Builtin.append_ #[23, 23] ty #[v, .slice (some ⟨g, o_, none⟩) l.length c]).run Tryd.prog w = .ok v' w' ∧ OwnO base v' (xs ++ l) w' ∧ w.grownBy w' v.ownBlock ∧ (v'.ownBlock = v.ownBlock ∨ v'.ownBlock = some w.heap.size) := by
  obtain ⟨i0, hi, hi3⟩ := Option.map_eq_some_iff.1 info_op
  simp only [Prod.mk.injEq] at hi3
  obtain ⟨hz0, hz1, hz2⟩ := hi3
  obtain ⟨v', w', h1, h2, h3, _, h5⟩ := run_append_own_at (P := Tryd.prog) w base 23 ty 37 i0 _ 4 32 Tryd.underlying23 hi hz0 hz1 hz2 rfl (by decide) v xs.length (ocells xs) hown ⟨g, o_, none⟩ l.length c (ocells l) (ocells_len l) hl.cells (ocells_one l) (by unfold maxLen; omega) (by omega) hbase
  refine ⟨v', w', h1, ?_, h3, h5⟩
  unfold OwnO
  rw [List.length_append, ocells_app]
  exact h2
theorem wpL_appOat {ops : Array Oper} {rest : List Oper} {o : Oper} {A : Act} {w : World} {Q : Exit → Act → World → Prop} (hgd : o.guard = none) (s x : Operand) (ho : o.op = .call { callee := .builtin .append, args := #[s, x], argTypes := #[23, 23] })
    {base : Nat} {v : Value} {xs l : List Xo} {g o_ c : Nat} (hs : A.eval s = v) (hx : A.eval x = .slice (some ⟨g, o_, none⟩) l.length c) (hown : OwnO base v xs w) (hl : OsAt g o_ l w) (hlen : xs.length + l.length ≤ 1099511627776) (hbase : base ≤ w.heap.size)
    (k : ∀ v' w', OwnO base v' (xs ++ l) w' → w.grownBy w' v.ownBlock → (v'.ownBlock = v.ownBlock ∨ v'.ownBlock = some w.heap.size) → wpList Tryd.prog ops Q rest (A.put o.dst v') w') : wpList Tryd.prog ops Q (o :: rest) A w := by
  obtain ⟨v', w', h1, h2, h3, h4⟩ := run_appOat (c := c) o.type hown hl hlen hbase
  exact Lib.wpList_append_run_sl w hgd s x _ ho v _ hs hx h1 (k v' w' h2 h3 h4)
theorem os_new1 (w : World) (x : Xo) : OsAt w.heap.size 0 [x] (w.alloc (.cells (ov x) 37)) := by
  rcases so_new w [x] 1 1 rfl with ⟨h, _⟩ | ⟨g, o_, c, h, k⟩
  · cases h
  · simp only [Value.slice.injEq, Option.some.injEq, Addr.mk.injEq] at h
    obtain ⟨⟨rfl, rfl, _⟩, _⟩ := h
    exact k
/-- What was there but one block is as it was. -/
def KeepB (ob : Option Nat) (w w' : World) : Prop := ∀ k, k < w.heap.size → some k ≠ ob → w'.heap[k]? = w.heap[k]?
set_option maxHeartbeats 4000000 in
theorem spoil_ok {w : World} {v : Value} {l : List Xo} {B : Nat} (h : OwnO B v l w) (hB0 : B ≤ w.heap.size) (hn : l.length ≤ 1000) :
    Calls Tryd.prog 16 #[v] w fun e w' => e = .returned (.tuple #[]) ∧ Below B w w' ∧ KeepB v.ownBlock w w' := by
  obtain ⟨a0, c0, rfl⟩ := h.form
  go_enter Tryd.func16, Tryd.ntmps16
  go_wp2
  go_loopw [2] (fun iv wr => ∃ (p : Nat) (A : List Xo), iv = .int .i64 (p : Int) ∧ p ≤ l.length ∧ A.length = l.length ∧ OwnO B (.slice a0 l.length c0) A wr ∧ w.heap.size ≤ wr.heap.size ∧ Below B w wr ∧ KeepB (Value.slice a0 l.length c0).ownBlock w wr) (fun iv _ => l.length - (intOf iv).toNat)
  case atStart => exact ⟨0, l, rfl, Nat.zero_le _, rfl, h, Nat.le_refl _, Below.refl _ _, fun _ _ _ => rfl⟩
  case round =>
    obtain ⟨p, A, rfl, hp, hA, hO, hs, hB, hK⟩ := hrel
    by_cases hlt : p < l.length
    · have hpi : (p : Int) < (l.length : Int) := by omega
      have hil : p < A.length := by omega
      obtain ⟨g, eg, hg, hR, en, hcl, hcm⟩ := hO.orb2 (by intro e; rw [e] at hil; simp at hil)
      subst eg
      have HA := hid_of' hA
      clear en hA
      have z1 := hR.put hil ⟨-5, 0, 0, 0⟩
      have z3 : Below B w (wr.setCells g (p * 4) (ov ⟨-5, 0, 0, 0⟩).toList) := K2.below hB (k2_cells wr (p * 4) (ov ⟨-5, 0, 0, 0⟩).toList) hg hg (Nat.le_trans hB0 hs)
      have z4 := Nat.le_trans hs (k2_cells (g := g) wr (p * 4) (ov ⟨-5, 0, 0, 0⟩).toList).size
      have z5 : KeepB (Value.slice (some ⟨g, 0, none⟩) l.length c0).ownBlock w (wr.setCells g (p * 4) (ov ⟨-5, 0, 0, 0⟩).toList) := fun k hk hne => by
        have hkg : ¬ k = g := fun e => hne (by rw [e]; rfl)
        rw [(k2_cells (g := g) wr (p * 4) (ov ⟨-5, 0, 0, 0⟩).toList).block k (by omega) hkg hkg]
        exact hK k hk hne
      go_wp2_with (refine wpL_storeQ (g := g) (off := p * 4) (e := ⟨-5, 0, 0, 0⟩) rfl (.tmp 13) _ rfl rfl rfl (hR.there hil) ?_; generalize wr.setCells g (p * 4) (ov ⟨-5, 0, 0, 0⟩).toList = w3 at z1 z3 z4 z5 ⊢)
      go_roundw
      case rel =>
        refine ⟨p + 1, A.set p ⟨-5, 0, 0, 0⟩, by go_num, by omega, by rw [List.length_set]; exact HA.out, ?_, z4, z3, z5⟩
        have := z1.own hg (by rw [List.length_set]; exact hcl) hcm
        rw [List.length_set, HA.out] at this
        exact this
      case measure => simp [intOf]; omega
    · have hpi : ¬ (p : Int) < (l.length : Int) := by omega
      go_wp2
      go_loopw [0, 3] (fun u iv wq => ∃ (q : Nat) (C : List Xo) (ua : Option Addr) (uc : Nat), u = .slice ua C.length uc ∧ iv = .int .i64 (q : Int) ∧ q ≤ 40 ∧ C.length ≤ 2000 + q ∧ OwnO B (.slice ua C.length uc) C wq ∧ ((Value.slice ua C.length uc).ownBlock = (Value.slice a0 l.length c0).ownBlock ∨ ∃ j, (Value.slice ua C.length uc).ownBlock = some j ∧ w.heap.size ≤ j) ∧ w.heap.size ≤ wq.heap.size ∧ Below B w wq ∧ KeepB (Value.slice a0 l.length c0).ownBlock w wq) (fun _ iv _ => 40 - (intOf iv).toNat)
      case atStart => exact ⟨0, A, a0, c0, by rw [hA], rfl, by omega, by omega, by rw [hA]; exact hO, .inl (by rw [hA]), hs, hB, hK⟩
      case round =>
        clear hs hO hB hA hlt hp hpi hK
        obtain ⟨q, C, ua, uc, rfl, rfl, hq, hC, hO, hat, hs, hB, hK⟩ := hrel
        by_cases hq4 : q < 40
        · have hqi : (q : Int) < 40 := by omega
          have E9 : Hid ((C ++ [(⟨-6, 0, 0, 0⟩ : Xo)]).length = C.length + 1) := by
            show _ = _
            rw [List.length_append]
            rfl
          go_wp2_with (at_builtin; refine wpL_appOat (l := [⟨-6, 0, 0, 0⟩]) rfl _ _ rfl rfl rfl (hO.later (below_one _ (.cells (ov ⟨-6, 0, 0, 0⟩) 37))) (os_new1 wr ⟨-6, 0, 0, 0⟩) (by simp; omega) (by rw [World.size_alloc]; omega) ?_; intro v9 w9 o9 hg9 hat9; obtain ⟨a9, c9, hv9⟩ := o9.form; subst hv9; rw [E9.out] at o9 hat9 ⊢)
          have hb9 := below_one wr (.cells (ov ⟨-6, 0, 0, 0⟩) 37)
          have hB8 : Below B w (wr.alloc (.cells (ov ⟨-6, 0, 0, 0⟩) 37)) := hB.alloc (Nat.le_trans hB0 hs) _
          have hs8 : w.heap.size ≤ (wr.alloc (.cells (ov ⟨-6, 0, 0, 0⟩) 37)).heap.size := Nat.le_trans hs hb9.size
          have hB9 : Below B w w9 := hB8.grown hg9 (Nat.le_trans hB0 hs8) (fun j hj => (hO.lt j hj).1)
          have hs9 := Nat.le_trans hs8 hg9.size
          have hK9 : KeepB (Value.slice a0 l.length c0).ownBlock w w9 := fun k hk hne => by
            refine (hg9.block k (Nat.lt_of_lt_of_le hk hs8) (fun e => ?_)).trans ((hb9.block k (Nat.lt_of_lt_of_le hk hs)).trans (hK k hk hne))
            · rcases hat with h1 | ⟨j, h1, h2⟩
              · exact hne (e.trans h1)
              · have : k = j := by simpa using e.trans h1
                omega
          have hatn : (Value.slice a9 (C.length + 1) c9).ownBlock = (Value.slice a0 l.length c0).ownBlock ∨ ∃ j, (Value.slice a9 (C.length + 1) c9).ownBlock = some j ∧ w.heap.size ≤ j := by
            rcases hat9 with h1 | h1
            · rw [h1]; exact hat
            · exact .inr ⟨_, h1, hs8⟩
          clear hat9 hat
          go_roundw
          case rel => exact ⟨q + 1, C ++ [⟨-6, 0, 0, 0⟩], a9, c9, by rw [E9.out], by go_num, by omega, by rw [E9.out]; omega, by rw [E9.out]; exact o9, by rw [E9.out]; exact hatn, hs9, hB9, hK9⟩
          case measure => simp [intOf]; omega
        · have hqi : ¬ (q : Int) < 40 := by omega
          go_wp2
          go_end0
          exact ⟨rfl, hB, hK⟩
theorem cross_rep2 {xs bs : List Xo} {r : Int} (h : ∀ o ∈ bs, o.r = r) : ∀ o ∈ (crossO xs bs).2, o.r = r := fun o ho => by
  have h1 : o.r ∈ (crossO xs bs).2.map Xo.r := List.mem_map_of_mem ho
  rw [(cross_r bs xs).2] at h1
  obtain ⟨p, hp, e⟩ := List.mem_map.1 h1
  rw [← e]; exact h p hp
theorem cross_rep1 {xs bs : List Xo} {r : Int} (h : ∀ o ∈ xs, o.r = r) : ∀ o ∈ (crossO xs bs).1, o.r = r := fun o ho => by
  have h1 : o.r ∈ (crossO xs bs).1.map Xo.r := List.mem_map_of_mem ho
  rw [(cross_r bs xs).1] at h1
  obtain ⟨p, hp, e⟩ := List.mem_map.1 h1
  rw [← e]; exact h p hp
theorem OwnO.keepB {base : Nat} {ob : Option Nat} {v : Value} {l : List Xo} {w w' : World} (h : OwnO base v l w) (k : KeepB ob w w') (hne : ∀ g, v.ownBlock = some g → some g ≠ ob) : OwnO base v l w' := by
  obtain ⟨h1, h2⟩ := h
  refine ⟨h1, ?_⟩
  rcases h2 with h | ⟨g, cap, cur, rfl, q2, q3, q4⟩
  · exact .inl h
  · exact .inr ⟨g, cap, cur, rfl, q2, (k g (Array.getElem?_eq_some_iff.1 q3).1 (hne g rfl)).trans q3, q4⟩
theorem bgo' {g : Nat} {W w w' : World} (hg : W.heap.size = g) (h : Below g W w) (k : Below w.heap.size w w') : Below g W w' := by
  subst hg
  exact bgo h k
/-- A Rows' cells. -/
def rwv (v a b : Value) (n : Int) : Array Value := #[v, a, b, .int .i64 n]
theorem cross_lens (xs bs : List Xo) : (crossO xs bs).1.length = xs.length ∧ (crossO xs bs).2.length = bs.length := cross_len bs xs
set_option maxHeartbeats 16000000 in
theorem xformCross_all {W : World} {v va vb : Value} {l0 : List El} {la lb : List Xo} {n : Int} (hv : SlE W v l0) (hin : ∀ e ∈ l0, e.In) (hml : l0.length ≤ 9223372036854775807) (hA0 : SlO W va la) (hai : ∀ o ∈ la, o.In) (hal : la.length ≤ 9223372036854775807) (hB0 : SlO W vb lb) (hbi : ∀ o ∈ lb, o.In) (hbl : lb.length ≤ 9223372036854775807) (hn : In64 n) :
    Calls Tryd.prog 3 #[.agg (rwv v va vb n)] W fun r w' => r = .returned (.bool true) ∧ Below W.heap.size W w' := by
  obtain ⟨v0, c0, rfl⟩ := hv.form
  obtain ⟨v1, c1, rfl⟩ := hA0.form
  obtain ⟨v2, c2, rfl⟩ := hB0.form
  have HW := hid_of' wakes7_ok
  have r0 := row_new W (rwv (.slice v0 l0.length c0) (.slice v1 la.length c1) (.slice v2 lb.length c2) n) 25
  have hB := below_one W (.cells (rwv (.slice v0 l0.length c0) (.slice v1 la.length c1) (.slice v2 lb.length c2) n) 25)
  go_enter Tryd.func3, Tryd.ntmps3
  go_upto_region 1 with fail
  change Code.wp _ _ _ _ (W.alloc (.cells (rwv (.slice v0 l0.length c0) (.slice v1 la.length c1) (.slice v2 lb.length c2) n) 25))
  generalize W.alloc (.cells (rwv (.slice v0 l0.length c0) (.slice v1 la.length c1) (.slice v2 lb.length c2) n) 25) = W1 at r0 hB ⊢
  have hBW : Below W.heap.size W W1 := hB
  generalize hg0 : W.heap.size = g0 at r0 ⊢
  have HRw := hid_of' (row7_ok (hv.later hB) hin hml)
  have d0 : W1.cell? ⟨g0, 0, none⟩ = some (.slice v0 l0.length c0) := r0.cell 0
  rw [hg0] at hB hBW
  go_upto_region 2 with (go_at_call 6; refine HRw.out.mono ?_; clear HRw; rintro r w2 ⟨u, out, k, rfl, hO, hR, hk, hb2⟩; obtain ⟨ua, uc, hu⟩ := hO.sl.form; subst hu)
  have hS2 := hO.sl
  have hol := hR.len
  have hB2 := bgo' hg0 hB hb2
  have r02 := r0.later hb2
  clear hO d0 hv hin hml r0
  have hA2 := (hA0.later (hg0 ▸ hBW : Below W.heap.size W W1)).later hb2
  have hBb2 := (hB0.later (hg0 ▸ hBW : Below W.heap.size W W1)).later hb2
  clear hA0 hB0 hBW hB hb2 W1
  have d3 : w2.cell? ⟨g0, 3, none⟩ = some (.int .i64 n) := r02.cell 3
  have H3 := hid_of' (three_ok n hn w2)
  go_upto_region 3 with (first | (go_at_call 7; refine H3.out.mono ?_; clear H3; rintro r w3 ⟨ra, rb, rc, rfl, q1, q2, q3, q4, q5, q6, hb3⟩) | (refine wpL_store3 rfl _ _ rfl rfl rfl (row_new w3 _ _) ?_))
  have r3 := (row_new w3 #[.int .i64 0, .int .i64 0, .int .i64 0] 27).put #[.int .i64 (ra : Int), .int .i64 (rb : Int), .int .i64 (rc : Int)]
  have hb4 : Below w2.heap.size w2 ((w3.alloc (.cells #[.int .i64 0, .int .i64 0, .int .i64 0] 27)).setRow w3.heap.size #[.int .i64 (ra : Int), .int .i64 (rb : Int), .int .i64 (rc : Int)]) := bgo hb3 (below_row (below_one w3 _) (Nat.le_refl _) _)
  generalize (w3.alloc (.cells #[.int .i64 0, .int .i64 0, .int .i64 0] 27)).setRow w3.heap.size #[.int .i64 (ra : Int), .int .i64 (rb : Int), .int .i64 (rc : Int)] = w4 at r3 hb4 ⊢
  generalize w3.heap.size = g3 at r3 ⊢
  have hB4 := bgo' hg0 hB2 hb4
  have r04 := r02.later hb4
  have hS4 := hS2.later hb4
  have hA4 := hA2.later hb4
  have hBb4 := hBb2.later hb4
  clear hb3 hb4 d3 w3 hB2 r02 hS2 hA2 hBb2
  have d1 : w4.cell? ⟨g0, 1, none⟩ = some (.slice v1 la.length c1) := r04.cell 1
  have e3 : w4.cell? ⟨g3, 0, none⟩ = some (.int .i64 (ra : Int)) := r3.cell 0
  have HBa := hid_of' (behind_ok hA4 hai hal out.length ra (by omega) q1)
  go_upto_region 4 with (go_at_call 8; refine HBa.out.mono ?_; clear HBa; rintro r w5 ⟨xu, xs, kx, rfl, ox, hx, hb5⟩; obtain ⟨xa, xc, hxq⟩ := ox.sl.form; subst hxq)
  have r05 := r04.later hb5
  have r35 := r3.later hb5
  have d2 : w5.cell? ⟨g0, 2, none⟩ = some (.slice v2 lb.length c2) := r05.cell 2
  have e4 : w5.cell? ⟨g3, 1, none⟩ = some (.int .i64 (rb : Int)) := r35.cell 1
  have HBb := hid_of' (behind_ok (hBb4.later hb5) hbi hbl out.length rb (by omega) q2)
  go_upto_region 5 with (go_at_call 8; refine HBb.out.mono ?_; clear HBb; rintro r w6 ⟨yu, bs, ky, rfl, oy, hy, hb6⟩; obtain ⟨ya, yc, hyq⟩ := oy.sl.form; subst hyq)
  have sa6 := ox.sl.later hb6
  have sb6 := oy.sl
  have hS6 := (hS4.later hb5).later hb6
  have hB6 := bgo' hg0 (bgo' hg0 hB4 hb5) hb6
  have hxl := hx.len
  have hyl := hy.len
  clear r04 r05 r3 r35 d1 d2 e3 e4 hb5 hb6 ox oy hA4 hBb4 hS4 hB4 w4 w5 hai hbi hal hbl
  have SA := hid_of' (sa6.later (below_one w6 (.cells #[] 37)))
  go_upto_region 6 with (at_builtin; refine wpL_appO (xs := []) (l := xs) rfl _ _ rfl rfl rfl (own_emptyO _) (SA.out) (by simpa using (show xs.length ≤ 1099511627776 by omega)) (by simp) ?_; intro v7 w7 o7 hg7)
  have hb7 : Below w6.heap.size w6 w7 := (below_one w6 (.cells #[] 37)).grown hg7 (by simp) (fun k hk => ((own_emptyO w6).lt k hk).1)
  rw [List.nil_append] at o7
  have swa7 := o7.sl
  have sa7 := sa6.later hb7
  have sb7 := sb6.later hb7
  have SB := hid_of' (sb7.later (below_one w7 (.cells #[] 37)))
  clear SA hg7 o7
  go_upto_region 7 with (at_builtin; refine wpL_appO (xs := []) (l := bs) rfl _ _ rfl rfl rfl (own_emptyO _) (SB.out) (by simpa using (show bs.length ≤ 1099511627776 by omega)) (by simp) ?_; intro v8 w8 o8 hg8)
  have hb8 : Below w7.heap.size w7 w8 := (below_one w7 (.cells #[] 37)).grown hg8 (by simp) (fun k hk => ((own_emptyO w7).lt k hk).1)
  rw [List.nil_append] at o8
  have swb := o8.sl
  have swa := swa7.later hb8
  have sa := sa7.later hb8
  have sb := sb7.later hb8
  have hS := (hS6.later hb7).later hb8
  have hBW0 := bgo' hg0 (bgo' hg0 hB6 hb7) hb8
  clear SB hg8 o8 swa7 sa7 sb7 sa6 sb6 hS6 hB6 hb7 hb8
  have hxn := hx.inn
  have hyn := hy.inn
  have hxi : ∀ o ∈ xs, o.In := fun o ho => by
    have h5 := hxn o ho
    have h6 := hx.rep o ho
    exact ⟨⟨by omega, by omega⟩, ⟨by omega, by omega⟩, ⟨by omega, by omega⟩⟩
  have hyi : ∀ o ∈ bs, o.In := fun o ho => by
    have h5 := hyn o ho
    have h6 := hy.rep o ho
    exact ⟨⟨by omega, by omega⟩, ⟨by omega, by omega⟩, ⟨by omega, by omega⟩⟩
  have hcp := hid_of' (cross_play hx.vld hy.vld hx.rep hy.rep (by omega) (by omega))
  have HCL := hid_of' (cross_lens xs bs)
  have H1 := hid_of' (crossX_ok sa sb (fun x hx => (hxi x hx).2.1.1) (fun x hx => (hyi x hx).2.1.1) (by omega) (by omega))
  have H2 := hid_of' (fun (x : World) (hx : Below w8.heap.size w8 x) => refCross_ok (sa.later hx) (sb.later hx) hxi hyi (by omega) (by omega))
  go_upto_region 8 with (go_at_call 9; refine H1.out.mono ?_; clear H1; rintro r w9 ⟨x1, y1, rfl, ox1, oy1, hap, hb9⟩)
  go_upto_region 9 with (go_at_call 10; refine (H2.out _ hb9).mono ?_; clear H2; rintro r wa ⟨x2, y2, rfl, ox2, oy2, _, hba⟩)
  have HBa : Below w8.heap.size w8 wa := bgo hb9 hba
  have ox := ox1.later hba
  have oy := oy1.later hba
  have hcl := HCL.out
  have HO1 := hid_of' (fun (x : World) (hx : Below wa.heap.size wa x) => ops_eq (ox.sl.later hx) (ox2.sl.later hx) (by omega))
  have HO2 := hid_of' (fun (x : World) (hx : Below wa.heap.size wa x) => ops_eq (oy.sl.later hx) (oy2.sl.later hx) (by omega))
  have HO3 := hid_of' (fun (x : World) (hx : Below w8.heap.size w8 x) => ops_eq (sa.later hx) (swa.later hx) (by omega))
  have HO4 := hid_of' (fun (x : World) (hx : Below w8.heap.size w8 x) => ops_eq (sb.later hx) (swb.later hx) (by omega))
  clear ox1 oy1 hb9 hba hcl
  obtain ⟨x1a, x1c, hx1⟩ := ox.form
  obtain ⟨y1a, y1c, hy1⟩ := oy.form
  subst hx1 hy1
  go_upto_region 11 with (first | (go_at_call 11; (with_reducible refine (HO1.out _ (Below.refl _ _)).mono ?_); rintro r wb ⟨rfl, hbb⟩) | (go_at_call 11; (with_reducible refine (HO2.out _ hbb).mono ?_); rintro r wc ⟨rfl, hbc⟩) | (go_at_call 11; (with_reducible refine (HO3.out _ (bgo HBa (bgo hbb hbc))).mono ?_); rintro r wd ⟨rfl, hbd⟩) | (go_at_call 11; (with_reducible refine (HO4.out _ (bgo (bgo HBa (bgo hbb hbc)) hbd)).mono ?_); rintro r we ⟨rfl, hbe⟩))
  have HBe : Below w8.heap.size w8 we := bgo (bgo (bgo HBa (bgo hbb hbc)) hbd) hbe
  have oxe := ox.later (bgo (bgo hbb hbc) (bgo hbd hbe))
  have oye := oy.later (bgo (bgo hbb hbc) (bgo hbd hbe))
  clear HO1 HO2 hbb hbc hbd hbe ox oy ox2 oy2 HBa
  have hr1 : ∀ o ∈ xs ++ (crossO xs bs).2, 0 ≤ o.r ∧ o.r ≤ 7 := fun o ho => by
    rcases List.mem_append.1 ho with h | h
    · have := hx.rep o h; omega
    · have := cross_rep2 (xs := xs) hy.rep o h; omega
  have hr2 : ∀ o ∈ bs ++ (crossO xs bs).1, 0 ≤ o.r ∧ o.r ≤ 7 := fun o ho => by
    rcases List.mem_append.1 ho with h | h
    · have := hy.rep o h; omega
    · have := cross_rep1 (bs := bs) hx.rep o h; omega
  have hep : ∀ e ∈ out, e.ep = 3 := fun e he => (hR.ep e he).1
  have hcl := HCL.out
  have hlA : (xs ++ (crossO xs bs).2).length ≤ 48 := by rw [List.length_append]; omega
  have hlB : (bs ++ (crossO xs bs).1).length ≤ 48 := by rw [List.length_append]; omega
  have hf1 := nmC_fr hep hr1 (by omega)
  have hf2 := nmC_fr hep hr2 (by omega)
  have HP1 := hid_of' (fun (x : World) (hX : Below w8.heap.size w8 x) (u : Value) (h : SlO x u (xs ++ (crossO xs bs).2)) => play_ok (hS.later hX) h (by omega) hR.ok (by decide) (by decide) hr1 hcp.out.2.1 hf1)
  have HP2 := hid_of' (fun (x : World) (hX : Below w8.heap.size w8 x) (u : Value) (h : SlO x u (bs ++ (crossO xs bs).1)) => play_ok (hS.later hX) h (by omega) hR.ok (by decide) (by decide) hr2 hcp.out.2.2 hf2)
  obtain ⟨L1, hL1⟩ : ∃ L1, xs ++ (crossO xs bs).2 = L1 := ⟨_, rfl⟩
  obtain ⟨L2, hL2⟩ : ∃ L2, bs ++ (crossO xs bs).1 = L2 := ⟨_, rfl⟩
  rw [hL1] at HP1 hcp hlA
  rw [hL2] at HP2 hcp hlB
  replace hL1 := hid_of' hL1
  replace hL2 := hid_of' hL2
  have hlq1 : xs.length + (crossO xs bs).2.length ≤ 1099511627776 := by omega
  have hlq2 : bs.length + (crossO xs bs).1.length ≤ 1099511627776 := by omega
  clear hf1 hf2 hr1 hr2 hep hcl
  have SA := hid_of' ((sa.later HBe).later (below_one we (.cells #[] 37)))
  go_upto_region 12 with (first | (at_builtin; refine wpL_appO (xs := []) (l := xs) rfl (.tmp 79) _ rfl rfl rfl (own_emptyO we) (SA.out) (by simpa using (show xs.length ≤ 1099511627776 by omega)) (by simp) ?_; intro vf wf of hgf; rw [List.nil_append] at of; have hbf : Below we.heap.size we wf := (below_one we (.cells #[] 37)).grown hgf (by simp) (fun k hk => ((own_emptyO we).lt k hk).1); obtain ⟨af, cf, hvf⟩ := of.form; subst hvf) | (at_builtin; refine wpL_appO (xs := xs) (l := (crossO xs bs).2) rfl (.tmp 81) _ rfl rfl rfl of (oye.sl.later hbf) hlq1 hbf.size ?_; intro vg wg og hgg; rw [hL1.out] at og; have hbg : Below we.heap.size we wg := hbf.grown hgg hbf.size (fun k hk => (of.lt k hk).1); obtain ⟨ag, cg, hvg⟩ := og.form; subst hvg) | (go_at_call 12; (with_reducible refine (HP1.out _ (bgo HBe hbg) _ og.sl).mono ?_); clear HP1; rintro r wh ⟨qs, rfl, hqs, hbh⟩))
  have HBh : Below w8.heap.size w8 wh := bgo (bgo HBe hbg) hbh
  have oxh := oxe.later (bgo hbg hbh)
  have oyh := oye.later (bgo hbg hbh)
  clear SA of og hgf hgg hbf hbg hbh oxe oye HBe
  have SB := hid_of' ((sb.later HBh).later (below_one wh (.cells #[] 37)))
  go_upto_region 13 with (first | (at_builtin; refine wpL_appO (xs := []) (l := bs) rfl (.tmp 89) _ rfl rfl rfl (own_emptyO wh) (SB.out) (by simpa using (show bs.length ≤ 1099511627776 by omega)) (by simp) ?_; intro vi wi oi hgi; rw [List.nil_append] at oi; have hbi : Below wh.heap.size wh wi := (below_one wh (.cells #[] 37)).grown hgi (by simp) (fun k hk => ((own_emptyO wh).lt k hk).1); obtain ⟨ai, ci, hvi⟩ := oi.form; subst hvi) | (at_builtin; refine wpL_appO (xs := bs) (l := (crossO xs bs).1) rfl (.tmp 91) _ rfl rfl rfl oi (oxh.sl.later hbi) hlq2 hbi.size ?_; intro vj wj oj hgj; rw [hL2.out] at oj; have hbj : Below wh.heap.size wh wj := hbi.grown hgj hbi.size (fun k hk => (oi.lt k hk).1); obtain ⟨aj, cj, hvj⟩ := oj.form; subst hvj) | (go_at_call 12; (with_reducible refine (HP2.out _ (bgo HBh hbj) _ oj.sl).mono ?_); clear HP2; rintro r wk ⟨qt, rfl, hqt, hbk⟩))
  have HBk : Below w8.heap.size w8 wk := bgo (bgo HBh hbj) hbk
  have oxk := oxh.later (bgo hbj hbk)
  have oyk := oyh.later (bgo hbj hbk)
  have sq := hqs.sl.later (bgo hbj hbk)
  have st := hqt.sl
  rw [← hcp.out.1] at st
  have hrl := (runs_len _ out hcp.out.2.1).1
  rw [nmC_len] at hrl
  have HE := hid_of' (elements_eq sq st (by omega))
  clear SB oi oj hgi hgj hbi hbj hbk oxh oyh HBh hqs hqt sq st hrl
  go_upto_region 15 with (go_at_call 13; refine HE.out.mono ?_; clear HE; rintro r wl ⟨rfl, hbl⟩)
  have HBl : Below w8.heap.size w8 wl := bgo HBk hbl
  have oxl := oxk.later hbl
  have oyl := oyk.later hbl
  have sal := sa.later HBl
  clear oxk oyk HBk hbl
  have HAl := hid_of' (fun (a : Xo) (ha : a ∈ xs) (x : World) (hx : Below w8.heap.size w8 x) => along_ok a (sb.later hx) (hxi a ha) (by omega))
  have HRl := hid_of' (fun (a : Xo) (ha : a ∈ xs) (x : World) (hx : Below w8.heap.size w8 x) => refAlong_ok a (sb.later hx) (hxi a ha) (by omega))
  have hcl := HCL.out
  have HS1 := hid_of' (fun (x : World) (h : OwnO w8.heap.size (.slice x1a (crossO xs bs).1.length x1c) (crossO xs bs).1 x) (h2 : w8.heap.size ≤ x.heap.size) => spoil_ok h h2 (by omega))
  have HS2 := hid_of' (fun (x : World) (h : OwnO w8.heap.size (.slice y1a (crossO xs bs).2.length y1c) (crossO xs bs).2 x) (h2 : w8.heap.size ≤ x.heap.size) => spoil_ok h h2 (by omega))
  have HH := hid_of' (And.intro hxi (And.intro hyi (And.intro hxn hyn)))
  clear hxi hyi hxn hyn hcl hlA hlB
  by_cases hz : xs = []
  · have p0 : ¬ (0 : Int) < (xs.length : Int) := by rw [hz]; simp
    have p1 : ¬ 0 < xs.length := by omega
    have p3 : decide (0 < xs.length) = false := by simp [hz]
    have p4 : decide ((0 : Int) < (xs.length : Int)) = false := by simp [hz]
    have p5 : (xs = []) = True := eq_true hz
    have HZ := hid_of' hz
    clear hz
    have hB : Below w8.heap.size w8 wl := HBl
    refine wp_region_cls (by kernel_rfl) (by kernel_rfl) ?_
    repeat (first | go_big_quiet_skip | (go_big_quiet_want; first | (go_big_quiet_op; first | go_big_quiet_on | go_big_quiet_call ((fail)))))
    refine wpQuiet_nil ?_
    rintro w1 ⟨s1, e1⟩
    have hb1 := wOf_below s1
    rw [← e1] at hb1
    clear e1 s1
    replace oxl := oxl.later hb1
    replace oyl := oyl.later hb1
    replace hB := bgo hB hb1
    clear hb1
    go_wp2_with (first | (go_at_call 16; (with_reducible refine (HS1.out _ oxl hB.size).mono ?_); clear HS1; rintro r wm ⟨rfl, hbm, hkm⟩; have oym := oyl.keepB hkm (fun g e e2 => hap g e2.symm e); have hBm := hB.trans hbm) | (go_at_call 16; (with_reducible refine (HS2.out _ oym hBm.size).mono ?_); clear HS2; rintro r wn ⟨rfl, hbn, _⟩; have hBn := hBm.trans hbn) | (go_at_call 11; (with_reducible refine (HO3.out _ hBn).mono ?_); clear HO3; rintro r wo ⟨rfl, hbo⟩; have hBo := bgo hBn hbo) | (go_at_call 11; (with_reducible refine (HO4.out _ hBo).mono ?_); clear HO4; rintro r wp ⟨rfl, hbp⟩) | (go_at_call 17; refine (HW.out _).mono ?_; rintro r wq ⟨rfl, hbq⟩))
    go_ret
    exact ⟨rfl, by rw [hg0]; exact bgo' hg0 hBW0 (bgo (bgo hBo hbp) hbq)⟩
  · have hlp : 0 < xs.length := List.length_pos_iff.2 hz
    have p0 : (0 : Int) < (xs.length : Int) := by omega
    obtain ⟨a, ha⟩ : ∃ a, xs[0]? = some a := ⟨_, List.getElem?_eq_getElem hlp⟩
    have ham := List.mem_of_getElem? ha
    obtain ⟨gx, ox_, exa, hcx⟩ := sal.some hlp
    subst exa
    have hea := hcx 0 a ha
    rw [Nat.zero_mul, Nat.add_zero] at hea
    have hq := eq_O (alongO a bs)
    have hB : Below w8.heap.size w8 wl := HBl
    clear hcx ha
    refine wp_region_cls (by kernel_rfl) (by kernel_rfl) ?_
    repeat (first | go_big_quiet_skip | (go_big_quiet_want; first | (refine quiet_load_in _ _ rfl rfl hea.cls Tryd.underlying37 rfl (o_size a) ?_; simp only [Act.put, List.setIfInBounds_toArray, List.set_cons_succ, List.set_cons_zero]; go_big_quiet_on) | (go_big_quiet_op; first | go_big_quiet_on | go_big_quiet_call ((first | (go_at_call 14; exact cls_of (HAl.out a ham _ (bgo HBl (wOf_below _)))) | (go_at_call 15; exact cls_of (HRl.out a ham _ (bgo HBl (wOf_below _)))))))))
    refine wpQuiet_nil ?_
    rintro w1 ⟨s1, e1⟩
    have hb1 := wOf_below s1
    rw [← e1] at hb1
    clear e1 s1
    replace oxl := oxl.later hb1
    replace oyl := oyl.later hb1
    replace hB := bgo hB hb1
    clear hb1
    go_wp2_with (first | (go_at_call 16; (with_reducible refine (HS1.out _ oxl hB.size).mono ?_); clear HS1; rintro r wm ⟨rfl, hbm, hkm⟩; have oym := oyl.keepB hkm (fun g e e2 => hap g e2.symm e); have hBm := hB.trans hbm) | (go_at_call 16; (with_reducible refine (HS2.out _ oym hBm.size).mono ?_); clear HS2; rintro r wn ⟨rfl, hbn, _⟩; have hBn := hBm.trans hbn) | (go_at_call 11; (with_reducible refine (HO3.out _ hBn).mono ?_); clear HO3; rintro r wo ⟨rfl, hbo⟩; have hBo := bgo hBn hbo) | (go_at_call 11; (with_reducible refine (HO4.out _ hBo).mono ?_); clear HO4; rintro r wp ⟨rfl, hbp⟩) | (go_at_call 17; refine (HW.out _).mono ?_; rintro r wq ⟨rfl, hbq⟩))
    go_ret
    exact ⟨rfl, by rw [hg0]; exact bgo' hg0 hBW0 (bgo (bgo hBo hbp) hbq)⟩
end Go.Proofs.YtdafkakigigdeaaDoor
