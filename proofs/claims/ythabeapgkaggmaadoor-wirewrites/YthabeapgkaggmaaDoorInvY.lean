
/-
  A region that draws its order, walked by an invariant over what has come up, what it has yielded and the world (over InvW).
-/
import Derived.Test.YthabeapgkaggmaaDoorInvW
namespace Go.Proofs.YthabeapgkaggmaaDoor
open Go.RowKit
set_option maxRecDepth 100000

section
variable {P : Program} {ops : Array Oper} {Q : Exit → Act → World → Prop}

/-- What has been yielded, with one more. -/
def upd (vals : Nat → Value) (i : Nat) (v : Value) (j : Nat) : Value := if j = i then v else vals j

/-- The region: 'vals' what each operation yields, 'J' what the world is when so much has come up. -/
theorem wp_region_invx {id : Nat} {a : Act} {w : World} (hm : P.follows .mixedOrders = true) (hg : ∀ (i : Nat) (o : Oper), ops[i]? = some o → o.guard = none) (J : Array Bool → (Nat → Value) → World → Prop) (hJ : J (Array.replicate ops.size false) (fun _ => undef) w.drew)
    (step : ∀ (i : Nat) (o : Oper), ops[i]? = some o → ∀ (listed : Array Bool) (vals : Nat → Value) (b : Act) (x : World), J listed vals x → listed.size = ops.size → listed.getD i true = false → (∀ e ∈ o.after, Region.binds .any e = true → listed.getD e.on false = true) →
      b.tmps.size = a.tmps.size → b.defers = a.defers → (∀ (j : Nat) (oj : Oper) (d : Tmp), ops[j]? = some oj → oj.dst = some d → listed.getD j false = true → b.tmps[d]? = some (vals j)) → (∀ (d : Tmp), (∀ (j : Nat) (oj : Oper), ops[j]? = some oj → oj.dst ≠ some d) → b.tmps[d]? = a.tmps[d]?) →
      o.wp P b x (fun b' x' => ∃ v, b' = b.put o.dst v ∧ J (listed.setIfInBounds i true) (upd vals i v) x') Q)
    (inj : ∀ (i j : Nat) (oi oj : Oper) (d : Tmp), ops[i]? = some oi → ops[j]? = some oj → oi.dst = some d → oj.dst = some d → i = j) (bd : ∀ (i : Nat) (o : Oper) (d : Tmp), ops[i]? = some o → o.dst = some d → d < a.tmps.size)
    (acyc : ∀ listed : Array Bool, listed.size = ops.size → Region.ready .any ops listed = [] → ∀ i, i < ops.size → listed.getD i false = true)
    (done : ∀ (listed : Array Bool) (vals : Nat → Value) (b : Act) (x : World), (∀ i, i < ops.size → listed.getD i false = true) → J listed vals x → b.tmps.size = a.tmps.size → b.defers = a.defers → (∀ (j : Nat) (oj : Oper) (d : Tmp), ops[j]? = some oj → oj.dst = some d → b.tmps[d]? = some (vals j)) → (∀ (d : Tmp), (∀ (j : Nat) (oj : Oper), ops[j]? = some oj → oj.dst ≠ some d) → b.tmps[d]? = a.tmps[d]?) → Q .normal b x) :
    (Code.region id ops true).wp P Q a w := by
  refine wp_region_any hm (wpAny_inv (fun listed b x => ∃ vals : Nat → Value, J listed vals x ∧ listed.size = ops.size ∧ b.tmps.size = a.tmps.size ∧ b.defers = a.defers ∧ (∀ (j : Nat) (oj : Oper) (d : Tmp), ops[j]? = some oj → oj.dst = some d → listed.getD j false = true → b.tmps[d]? = some (vals j)) ∧ (∀ (d : Tmp), (∀ (j : Nat) (oj : Oper), ops[j]? = some oj → oj.dst ≠ some d) → b.tmps[d]? = a.tmps[d]?)) ?_ ?_ _ _ _ _ (by rw [left_start]; exact Nat.le_refl _) ?_)
  · rintro listed b x i ⟨vals, hj, hs, hz, hd, hv, hr⟩ hi
    obtain ⟨hun, o, ho, hall⟩ := mem_ready.1 hi
    have h := step i o ho listed vals b x hj hs hun hall hz hd hv hr
    unfold wpOp
    simp only [ho]
    have hw : Region.wanted o (yielded ops b.tmps) = true := by simp [Region.wanted, hg i o ho]
    rw [if_pos hw]
    refine .inl (Oper.wp_mono ?_ h)
    rintro b' x' ⟨v, rfl, hj'⟩
    refine ⟨upd vals i v, hj', by simpa using hs, ?_, ?_, ?_, ?_⟩
    · cases hdst : o.dst with
      | none => exact hz
      | some d => simpa [Act.put] using hz
    · cases hdst : o.dst with
      | none => exact hd
      | some d => simpa [Act.put] using hd
    · intro j oj d hj hjd hl
      by_cases hij : i = j
      · subst hij
        obtain rfl := Option.some.inj (ho.symm.trans hj)
        rw [hjd]
        have hlt := bd i o d ho hjd
        simp [Act.put, hz, hlt, upd]
      · have hl' : listed.getD j false = true := by rw [getD_set_ne false hij] at hl; exact hl
        have hold := hv j oj d hj hjd hl'
        have hup : upd vals i v j = vals j := if_neg (fun e => hij e.symm)
        rw [hup]
        cases hdst : o.dst with
        | none => simpa [Act.put] using hold
        | some d' =>
          have hne : d' ≠ d := fun e => hij (inj i j o oj d ho hj (by rw [hdst, e]) hjd)
          simp [Act.put, Array.getElem?_setIfInBounds_ne hne, hold]
    · intro d hnd
      have hold := hr d hnd
      cases hdst : o.dst with
      | none => simpa [Act.put] using hold
      | some d' =>
        have hne : d' ≠ d := fun e => hnd i o ho (by rw [hdst, e])
        simp [Act.put, Array.getElem?_setIfInBounds_ne hne, hold]
  · rintro listed b x ⟨vals, hj, hs, hz, hd, hv, hr⟩ h0
    have hall := acyc listed hs h0
    exact done listed vals b x hall hj hz hd (fun j oj d h1 h2 => hv j oj d h1 h2 (hall j (Array.getElem?_eq_some_iff.1 h1).1)) hr
  · refine ⟨fun _ => undef, hJ, by simp, rfl, rfl, fun j oj d h1 h2 h3 => ?_, fun d _ => rfl⟩
    simp only [Array.getD_eq_getD_getElem?, Array.getElem?_replicate] at h3
    split at h3 <;> simp at h3

theorem wp_region_invx' {id : Nat} {a : Act} {w : World} (hm : P.follows .mixedOrders = true) (hok : regOkB ops a.tmps.size = true) (J : Array Bool → (Nat → Value) → World → Prop) (hJ : J (Array.replicate ops.size false) (fun _ => undef) w.drew)
    (step : ∀ (i : Nat) (o : Oper), ops[i]? = some o → ∀ (listed : Array Bool) (vals : Nat → Value) (b : Act) (x : World), J listed vals x → listed.size = ops.size → listed.getD i true = false → (∀ e ∈ o.after, Region.binds .any e = true → listed.getD e.on false = true) → b.defers = a.defers →
      (∀ (j : Nat) (oj : Oper) (d : Tmp), ops[j]? = some oj → oj.dst = some d → listed.getD j false = true → b.tmps[d]? = some (vals j)) → (∀ (d : Tmp), writesB ops d = false → b.tmps[d]? = a.tmps[d]?) →
      o.wp P b x (fun b' x' => ∃ v, b' = b.put o.dst v ∧ J (listed.setIfInBounds i true) (upd vals i v) x') Q)
    (done : ∀ (listed : Array Bool) (vals : Nat → Value) (b : Act) (x : World), (∀ i, i < ops.size → listed.getD i false = true) → J listed vals x → b.tmps.size = a.tmps.size → b.defers = a.defers → (∀ (j : Nat) (oj : Oper) (d : Tmp), ops[j]? = some oj → oj.dst = some d → b.tmps[d]? = some (vals j)) → (∀ (d : Tmp), writesB ops d = false → b.tmps[d]? = a.tmps[d]?) → Q .normal b x) :
    (Code.region id ops true).wp P Q a w := by
  have wr : ∀ (b : Act), (∀ (d : Tmp), (∀ (j : Nat) (oj : Oper), ops[j]? = some oj → oj.dst ≠ some d) → b.tmps[d]? = a.tmps[d]?) → ∀ (d : Tmp), writesB ops d = false → b.tmps[d]? = a.tmps[d]? := fun b h d hd => h d fun j oj hj he => by
    have : writesB ops d = true := Array.any_eq_true'.2 ⟨oj, Array.mem_of_getElem? hj, by simp [he]⟩
    rw [this] at hd
    cases hd
  refine wp_region_invx hm (fun i o ho => (regOk_at hok i o ho).1) J hJ ?_ ?_ (fun i o d ho hd => ((regOk_at hok i o ho).2.2 d hd).1) ?_ ?_
  · intro i o ho listed vals b x h1 h2 h3 h4 _ h6 h7 h8
    exact step i o ho listed vals b x h1 h2 h3 h4 h6 h7 (wr b h8)
  · intro i j oi oj d hi hj hdi hdj
    rcases Nat.lt_trichotomy i j with h | h | h
    · exact absurd hdi (((regOk_at hok j oj hj).2.2 d hdj).2 i oi h hi)
    · exact h
    · exact absurd hdj (((regOk_at hok i oi hi).2.2 d hdi).2 j oj h hj)
  · intro listed hs h0 i
    induction i using Nat.strongRecOn with
    | _ i ih =>
      intro hi
      have ho : ops[i]? = some ops[i] := Array.getElem?_eq_getElem hi
      cases hl : listed.getD i false with
      | true => rfl
      | false =>
        exfalso
        have hmem : i ∈ Region.ready .any ops listed := mem_ready.2 ⟨by
          have hil : i < listed.size := by omega
          simp only [Array.getD_eq_getD_getElem?, Array.getElem?_eq_getElem hil, Option.getD_some] at hl ⊢
          exact hl, ops[i], ho, fun e he _ => by
          have hlt := (regOk_at hok i _ ho).2.1 e he
          exact ih e.on hlt (by omega)⟩
        rw [h0] at hmem
        cases hmem
  · intro listed vals b x h1 h2 h3 h4 h5 h6
    exact done listed vals b x h1 h2 h3 h4 h5 (wr b h6)

/-- The frame behind the region: each value in its slot. -/
def putAll (vals : Nat → Value) : List Oper → Nat → Array Value → Array Value
  | [], _, t => t
  | o :: l, k, t => putAll vals l (k + 1) (match o.dst with | some d => t.setIfInBounds d (vals k) | none => t)
theorem putAll_is {vals : Nat → Value} {B : Array Value} : ∀ (l : List Oper) (k : Nat) (t : Array Value), (∀ (i : Nat) (o : Oper) (d : Tmp), l[i]? = some o → o.dst = some d → B[d]? = some (vals (k + i))) → t.size = B.size → (∀ d : Tmp, t[d]? = B[d]? ∨ ∃ (i : Nat) (o : Oper), l[i]? = some o ∧ o.dst = some d) → putAll vals l k t = B
  | [], _, t, _, _, ht => Array.ext_getElem? fun d => by
    rcases ht d with h | ⟨i, o, h, _⟩
    · exact h
    · simp at h
  | o :: l, k, t, hl, hs, ht => by
    refine putAll_is l (k + 1) _ (fun i o' d h1 h2 => ?_) ?_ fun d => ?_
    · have := hl (i + 1) o' d (by simpa using h1) h2
      rwa [Nat.add_assoc, Nat.add_comm 1 i]
    · cases o.dst <;> simp [hs]
    · cases hd : o.dst with
      | none =>
        rcases ht d with h | ⟨i, o', h1, h2⟩
        · exact .inl h
        · cases i with
          | zero => simp at h1; subst h1; rw [hd] at h2; cases h2
          | succ i => exact .inr ⟨i, o', by simpa using h1, h2⟩
      | some d' =>
        by_cases e : d' = d
        · subst e
          have h0 := hl 0 o d' rfl hd
          have hlt : d' < t.size := by rw [hs]; exact (Array.getElem?_eq_some_iff.1 h0).1
          left; rw [h0]; simp [hlt]
        · simp only [Array.getElem?_setIfInBounds_ne e]
          rcases ht d with h | ⟨i, o', h1, h2⟩
          · exact .inl h
          · cases i with
            | zero => simp at h1; subst h1; rw [hd] at h2; cases h2; exact absurd rfl e
            | succ i => exact .inr ⟨i, o', by simpa using h1, h2⟩
theorem frame_is {l : List Oper} {a b : Act} {vals : Nat → Value} (hsz : b.tmps.size = a.tmps.size) (hdf : b.defers = a.defers) (hw : ∀ (j : Nat) (oj : Oper) (d : Tmp), l.toArray[j]? = some oj → oj.dst = some d → b.tmps[d]? = some (vals j)) (hu : ∀ (d : Tmp), writesB l.toArray d = false → b.tmps[d]? = a.tmps[d]?) :
    b = ⟨putAll vals l 0 a.tmps, a.defers⟩ := by
  have : putAll vals l 0 a.tmps = b.tmps := putAll_is l 0 _ (fun i o d h1 h2 => by rw [Nat.zero_add]; exact hw i o d (by simpa using h1) h2) hsz.symm fun d => by
    cases h : writesB l.toArray d with
    | false => exact .inl (hu d h).symm
    | true =>
      right
      obtain ⟨o, ho, hd⟩ := Array.any_eq_true'.1 h
      obtain ⟨i, hi⟩ := List.mem_iff_getElem?.1 (List.mem_toArray.1 ho)
      exact ⟨i, o, hi, by simpa using hd⟩
  rw [this, ← hdf]
end
end Go.Proofs.YthabeapgkaggmaaDoor
