
/-
  A region that draws its order and has guarded operations, all of them wanted: by an invariant.
-/
import Derived.Test.YthabeapgkaggmaaDoorInvU
namespace Go.Proofs.YthabeapgkaggmaaDoor
open Go.RowKit
set_option maxRecDepth 100000

section
variable {P : Program} {ops : Array Oper} {Q : Exit → Act → World → Prop}

/-- The region: 'vals' what each operation yields, 'J' what the world is when so much has come up. -/
theorem wp_region_invg {id : Nat} {a : Act} {w : World} (hm : P.follows .mixedOrders = true) (vals : Nat → Value) (hg : ∀ (i : Nat) (o : Oper), ops[i]? = some o → o.guard = none ∨ ∃ (j : Nat) (v : Bool) (oj : Oper) (d : Tmp) (e : Edge), o.guard = some (j, v) ∧ ops[j]? = some oj ∧ oj.dst = some d ∧ vals j = .bool v ∧ e ∈ o.after ∧ Region.binds .any e = true ∧ e.on = j) (J : Array Bool → World → Prop) (hJ : J (Array.replicate ops.size false) w.drew)
    (step : ∀ (i : Nat) (o : Oper), ops[i]? = some o → ∀ (listed : Array Bool) (b : Act) (x : World), J listed x → listed.size = ops.size → listed.getD i true = false → (∀ e ∈ o.after, Region.binds .any e = true → listed.getD e.on false = true) →
      b.tmps.size = a.tmps.size → b.defers = a.defers → (∀ (j : Nat) (oj : Oper) (d : Tmp), ops[j]? = some oj → oj.dst = some d → listed.getD j false = true → b.tmps[d]? = some (vals j)) → (∀ (d : Tmp), (∀ (j : Nat) (oj : Oper), ops[j]? = some oj → oj.dst ≠ some d) → b.tmps[d]? = a.tmps[d]?) →
      o.wp P b x (fun b' x' => b' = b.put o.dst (vals i) ∧ J (listed.setIfInBounds i true) x') Q)
    (inj : ∀ (i j : Nat) (oi oj : Oper) (d : Tmp), ops[i]? = some oi → ops[j]? = some oj → oi.dst = some d → oj.dst = some d → i = j) (bd : ∀ (i : Nat) (o : Oper) (d : Tmp), ops[i]? = some o → o.dst = some d → d < a.tmps.size)
    (acyc : ∀ listed : Array Bool, listed.size = ops.size → Region.ready .any ops listed = [] → ∀ i, i < ops.size → listed.getD i false = true)
    (done : ∀ (listed : Array Bool) (b : Act) (x : World), (∀ i, i < ops.size → listed.getD i false = true) → J listed x → b.tmps.size = a.tmps.size → b.defers = a.defers → (∀ (j : Nat) (oj : Oper) (d : Tmp), ops[j]? = some oj → oj.dst = some d → b.tmps[d]? = some (vals j)) → (∀ (d : Tmp), (∀ (j : Nat) (oj : Oper), ops[j]? = some oj → oj.dst ≠ some d) → b.tmps[d]? = a.tmps[d]?) → Q .normal b x) :
    (Code.region id ops true).wp P Q a w := by
  refine wp_region_any hm (wpAny_inv (fun listed b x => J listed x ∧ listed.size = ops.size ∧ b.tmps.size = a.tmps.size ∧ b.defers = a.defers ∧ (∀ (j : Nat) (oj : Oper) (d : Tmp), ops[j]? = some oj → oj.dst = some d → listed.getD j false = true → b.tmps[d]? = some (vals j)) ∧ (∀ (d : Tmp), (∀ (j : Nat) (oj : Oper), ops[j]? = some oj → oj.dst ≠ some d) → b.tmps[d]? = a.tmps[d]?)) ?_ ?_ _ _ _ _ (by rw [left_start]; exact Nat.le_refl _) ?_)
  · rintro listed b x i ⟨hj, hs, hz, hd, hv, hr⟩ hi
    obtain ⟨hun, o, ho, hall⟩ := mem_ready.1 hi
    have h := step i o ho listed b x hj hs hun hall hz hd hv hr
    unfold wpOp
    simp only [ho]
    have hw : Region.wanted o (yielded ops b.tmps) = true := by
      rcases hg i o ho with h0 | ⟨j, v, oj, d, e, h1, h2, h3, h4, h5, h6, h7⟩
      · simp [Region.wanted, h0]
      · have hl := hall e h5 h6
        rw [h7] at hl
        have ht := hv j oj d h2 h3 hl
        simp [Region.wanted, h1, yielded, h2, h3, ht, h4]
    rw [if_pos hw]
    refine .inl (Oper.wp_mono ?_ h)
    rintro b' x' ⟨rfl, hj'⟩
    refine ⟨hj', by simpa using hs, ?_, ?_, ?_, ?_⟩
    · cases hdst : o.dst with
      | none => exact hz
      | some d => simpa [Act.put] using hz
    · cases hdst : o.dst with
      | none => exact hd
      | some d => simpa [Act.put] using hd
    · intro j oj d hj hjd hl
      by_cases hij : i = j
      · subst hij
        obtain rfl := Option.some.inj (ho.symm.trans hj)
        rw [hjd]
        have hlt := bd i o d ho hjd
        simp [Act.put, hz, hlt]
      · have hl' : listed.getD j false = true := by rw [getD_set_ne false hij] at hl; exact hl
        have hold := hv j oj d hj hjd hl'
        cases hdst : o.dst with
        | none => simpa [Act.put] using hold
        | some d' =>
          have hne : d' ≠ d := fun e => hij (inj i j o oj d ho hj (by rw [hdst, e]) hjd)
          simp [Act.put, Array.getElem?_setIfInBounds_ne hne, hold]
    · intro d hnd
      have hold := hr d hnd
      cases hdst : o.dst with
      | none => simpa [Act.put] using hold
      | some d' =>
        have hne : d' ≠ d := fun e => hnd i o ho (by rw [hdst, e])
        simp [Act.put, Array.getElem?_setIfInBounds_ne hne, hold]
  · rintro listed b x ⟨hj, hs, hz, hd, hv, hr⟩ h0
    have hall := acyc listed hs h0
    exact done listed b x hall hj hz hd (fun j oj d h1 h2 => hv j oj d h1 h2 (hall j (Array.getElem?_eq_some_iff.1 h1).1)) hr
  · refine ⟨hJ, by simp, rfl, rfl, fun j oj d h1 h2 h3 => ?_, fun d _ => rfl⟩
    simp only [Array.getD_eq_getD_getElem?, Array.getElem?_replicate] at h3
    split at h3 <;> simp at h3

/-- Each guard asks for what 'gv' says of an operation that goes ahead; each operation goes behind earlier ones alone, and no two write one slot. -/
def regOkG2 (ops : Array Oper) (n : Nat) (gv : Nat → Option Bool) : Bool := (List.range ops.size).all fun i => match ops[i]? with
  | none => true
  | some o => (match o.guard with
    | none => true
    | some (j, v) => (gv j == some v) && ((ops[j]?).bind (·.dst)).isSome && o.after.any (fun e => decide (e.on = j) && Region.binds .any e)) && o.after.all (fun e => decide (e.on < i)) && (match o.dst with
    | none => true
    | some d => decide (d < n) && (List.range i).all fun j => match ops[j]? with
      | some oj => oj.dst != some d
      | none => true)

theorem regOkG_at2 {n : Nat} {gv : Nat → Option Bool} (h : regOkG2 ops n gv = true) (i : Nat) (o : Oper) (ho : ops[i]? = some o) :
    (o.guard = none ∨ ∃ (j : Nat) (v : Bool) (oj : Oper) (d : Tmp) (e : Edge), o.guard = some (j, v) ∧ ops[j]? = some oj ∧ oj.dst = some d ∧ gv j = some v ∧ e ∈ o.after ∧ Region.binds .any e = true ∧ e.on = j) ∧ (∀ e ∈ o.after, e.on < i) ∧ ∀ d, o.dst = some d → d < n ∧ ∀ j oj, j < i → ops[j]? = some oj → oj.dst ≠ some d := by
  have hi : i < ops.size := (Array.getElem?_eq_some_iff.1 ho).1
  have := (List.all_eq_true.1 h) i (List.mem_range.2 hi)
  simp only [ho, Bool.and_eq_true] at this
  obtain ⟨⟨h1, h2⟩, h3⟩ := this
  refine ⟨?_, fun e he => by simpa using (Array.all_eq_true_iff_forall_mem.1 h2) e he, fun d hd => ?_⟩
  · cases hg : o.guard with
    | none => exact .inl rfl
    | some jv =>
      obtain ⟨j, v⟩ := jv
      rw [hg] at h1
      simp only [Bool.and_eq_true] at h1
      obtain ⟨⟨g1, g2⟩, g3⟩ := h1
      obtain ⟨d, hd⟩ := Option.isSome_iff_exists.1 g2
      obtain ⟨oj, hoj, hd⟩ := Option.bind_eq_some_iff.1 hd
      obtain ⟨e, he, hb⟩ := Array.any_eq_true'.1 g3
      simp only [Bool.and_eq_true, decide_eq_true_eq] at hb
      exact .inr ⟨j, v, oj, d, e, rfl, hoj, hd, by simpa using g1, he, hb.2, hb.1⟩
  · rw [hd] at h3
    simp only [Bool.and_eq_true, decide_eq_true_eq] at h3
    refine ⟨h3.1, fun j oj hj hoj => ?_⟩
    have := (List.all_eq_true.1 h3.2) j (List.mem_range.2 hj)
    simp only [hoj] at this
    simpa using this

theorem wp_region_invg' {id : Nat} {a : Act} {w : World} (hm : P.follows .mixedOrders = true) (vals : Nat → Value) (gv : Nat → Option Bool) (hok : regOkG2 ops a.tmps.size gv = true) (hgv : ∀ j v, gv j = some v → vals j = .bool v) (J : Array Bool → World → Prop) (hJ : J (Array.replicate ops.size false) w.drew)
    (step : ∀ (i : Nat) (o : Oper), ops[i]? = some o → ∀ (listed : Array Bool) (b : Act) (x : World), J listed x → listed.size = ops.size → listed.getD i true = false → (∀ e ∈ o.after, Region.binds .any e = true → listed.getD e.on false = true) → b.defers = a.defers →
      (∀ (j : Nat) (oj : Oper) (d : Tmp), ops[j]? = some oj → oj.dst = some d → listed.getD j false = true → b.tmps[d]? = some (vals j)) → (∀ (d : Tmp), writesB ops d = false → b.tmps[d]? = a.tmps[d]?) →
      o.wp P b x (fun b' x' => b' = b.put o.dst (vals i) ∧ J (listed.setIfInBounds i true) x') Q)
    (done : ∀ (listed : Array Bool) (b : Act) (x : World), (∀ i, i < ops.size → listed.getD i false = true) → J listed x → b.tmps.size = a.tmps.size → b.defers = a.defers → (∀ (j : Nat) (oj : Oper) (d : Tmp), ops[j]? = some oj → oj.dst = some d → b.tmps[d]? = some (vals j)) → (∀ (d : Tmp), writesB ops d = false → b.tmps[d]? = a.tmps[d]?) → Q .normal b x) :
    (Code.region id ops true).wp P Q a w := by
  have wr : ∀ (b : Act), (∀ (d : Tmp), (∀ (j : Nat) (oj : Oper), ops[j]? = some oj → oj.dst ≠ some d) → b.tmps[d]? = a.tmps[d]?) → ∀ (d : Tmp), writesB ops d = false → b.tmps[d]? = a.tmps[d]? := fun b h d hd => h d fun j oj hj he => by
    have : writesB ops d = true := Array.any_eq_true'.2 ⟨oj, Array.mem_of_getElem? hj, by simp [he]⟩
    rw [this] at hd
    cases hd
  refine wp_region_invg hm vals (fun i o ho => (regOkG_at2 hok i o ho).1.imp (fun h => h) fun ⟨j, v, oj, d, e, h1, h2, h3, h4, h5, h6, h7⟩ => ⟨j, v, oj, d, e, h1, h2, h3, hgv j v h4, h5, h6, h7⟩) J hJ ?_ ?_ (fun i o d ho hd => ((regOkG_at2 hok i o ho).2.2 d hd).1) ?_ ?_
  · intro i o ho listed b x h1 h2 h3 h4 _ h6 h7 h8
    exact step i o ho listed b x h1 h2 h3 h4 h6 h7 (wr b h8)
  · intro i j oi oj d hi hj hdi hdj
    rcases Nat.lt_trichotomy i j with h | h | h
    · exact absurd hdi (((regOkG_at2 hok j oj hj).2.2 d hdj).2 i oi h hi)
    · exact h
    · exact absurd hdj (((regOkG_at2 hok i oi hi).2.2 d hdi).2 j oj h hj)
  · intro listed hs h0 i
    induction i using Nat.strongRecOn with
    | _ i ih =>
      intro hi
      have ho : ops[i]? = some ops[i] := Array.getElem?_eq_getElem hi
      cases hl : listed.getD i false with
      | true => rfl
      | false =>
        exfalso
        have hmem : i ∈ Region.ready .any ops listed := mem_ready.2 ⟨by
          have hil : i < listed.size := by omega
          simp only [Array.getD_eq_getD_getElem?, Array.getElem?_eq_getElem hil, Option.getD_some] at hl ⊢
          exact hl, ops[i], ho, fun e he _ => by
          have hlt := (regOkG_at2 hok i _ ho).2.1 e he
          exact ih e.on hlt (by omega)⟩
        rw [h0] at hmem
        cases hmem
  · intro listed b x h1 h2 h3 h4 h5 h6
    exact done listed b x h1 h2 h3 h4 h5 (wr b h6)
end
end Go.Proofs.YthabeapgkaggmaaDoor
