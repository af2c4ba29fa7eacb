/-
  barrowlaw03.ClockTicks: what its walk uses.
-/
import Derived.Test.YtceahohcmhbkmaaDoorCkTk
import Derived.Test.YtceahohcmhbkmaaDoorCkLag
import Derived.Test.YtceahohcmhbkmaaDoorInvF
namespace Go.Proofs.YtceahohcmhbkmaaDoor
open Go.RowKit Go.Extern.Stop Go.Stop Go.Extern
set_option maxRecDepth 100000

set_option maxHeartbeats 400000 in
theorem refHas_any (a : List Int) (r n : Int) (w : World) (ha : a.length = 8) :
    Calls Tryd.prog 22 #[.agg (cv a), .int .i64 r, .int .i64 n] w fun e w' => e = .returned (.bool (hasC a r n)) ∧ Below w.heap.size w w' := by
  by_cases hr : 0 ≤ r ∧ r < 8
  · obtain ⟨k, rfl⟩ := Int.eq_ofNat_of_zero_le hr.1
    obtain ⟨h0, h8⟩ := hr
    have c1 := cv_get (a := a) (k := k) (by omega)
    have HV : Hid (hasC a (k : Int) n = (decide (1 ≤ n) && decide (n ≤ en a k))) := by simp [Hid, hasC, h8]
    by_cases hn : 1 ≤ n
    · go_enter Tryd.func22, Tryd.ntmps22
      go_wp2
      go_ret
      exact ⟨by rw [HV.out]; simp [hn], below_one _ _⟩
    · have hn' : decide (1 ≤ n) = false := by simpa using hn
      go_enter Tryd.func22, Tryd.ntmps22
      go_wp2
      go_ret
      exact ⟨by rw [HV.out]; simp [hn'], below_one _ _⟩
  · have HV : Hid (hasC a r n = false) := by simp only [Hid, hasC, decide_eq_false hr, Bool.false_and]
    by_cases hneg : 0 ≤ r
    · have h8 : ¬ r < 8 := by omega
      go_enter Tryd.func22, Tryd.ntmps22
      go_wp2
      go_ret
      exact ⟨by rw [HV.out]; rfl, below_one _ _⟩
    · have h0 : decide (0 ≤ r) = false := by simpa using hneg
      go_enter Tryd.func22, Tryd.ntmps22
      go_wp2
      go_ret
      exact ⟨by rw [HV.out]; rfl, below_one _ _⟩

/- What a tick makes of a clock. -/
theorem tk_in {a : List Int} {r : Int} (h : tkOk a r = true) : ∃ k : Nat, k < 8 ∧ r = (k : Int) ∧ en a k ≠ 9223372036854775807 ∧ tkz a r = a.set k (en a k + 1) := by
  have h' := h
  unfold tkOk at h
  rw [Bool.and_eq_true] at h
  obtain ⟨h1, h2⟩ := h
  have h1 := of_decide_eq_true h1
  obtain ⟨k, rfl⟩ := Int.eq_ofNat_of_zero_le h1.1
  refine ⟨k, by omega, rfl, ?_, by unfold tkz; rw [h', Int.toNat_natCast]; rfl⟩
  rw [Int.toNat_natCast] at h2
  simpa using h2
theorem tkz_ck {a : List Int} {r : Int} (ha : Ck a) : Ck (tkz a r) := by
  cases h : tkOk a r with
  | false =>
    have hz : tkz a r = ck0 := by unfold tkz; rw [h]; rfl
    rw [hz]
    refine ⟨rfl, fun k hk => ?_⟩
    have : en ck0 k = 0 := by
      match k, hk with
      | 0, _ | 1, _ | 2, _ | 3, _ | 4, _ | 5, _ | 6, _ | 7, _ => rfl
    rw [this]; unfold fitsI; omega
  | true =>
    obtain ⟨k, hk, rfl, hm, hz⟩ := tk_in h
    rw [hz]
    refine ⟨by simpa using ha.1, fun j hj => ?_⟩
    rw [getD_set _ _ _ _ (by have := ha.1; omega)]
    have fk := ha.2 k hk
    unfold fitsI at fk
    split
    · unfold fitsI; omega
    · exact ha.2 j hj
theorem tk_cmp {a : List Int} {r : Int} (ha : a.length = 8) (h : tkOk a r = true) : cmp a (tkz a r) = 1 := by
  obtain ⟨k, hk, rfl, hm, hz⟩ := tk_in h
  rw [hz]
  have e1 : cov a (a.set k (en a k + 1)) = false := by
    rw [Bool.eq_false_iff]
    intro hc
    have := cov_iff.1 hc k hk
    rw [getD_set _ _ _ _ (by omega), if_pos rfl] at this
    omega
  have e2 : cov (a.set k (en a k + 1)) a = true := by
    rw [cov_iff]
    intro j hj
    rw [getD_set _ _ _ _ (by omega)]
    split
    · rename_i e; subst e; omega
    · exact Int.le_refl _
  unfold cmp; rw [e1, e2]; rfl
theorem tk_lag {a : List Int} {r : Int} (ha : a.length = 8) (h : tkOk a r = true) : lagC a (tkz a r) = 1 := by
  obtain ⟨k, hk, rfl, hm, hz⟩ := tk_in h
  rw [hz]
  have hs : ∀ m, m ≤ 8 → lagS a (a.set k (en a k + 1)) m = if k < m then 1 else 0 := by
    intro m
    induction m with
    | zero => intro _; simp [lagS]
    | succ m ih =>
      intro hm8
      rw [lagS, ih (by omega), getD_set _ _ _ _ (by omega)]
      by_cases e : m = k
      · subst e; rw [if_pos rfl, if_neg (by omega), if_pos (by omega), if_pos (by omega)]; omega
      · have hself : (if en a m < en a m then en a m - en a m else 0) = 0 := if_neg (by omega)
        rw [if_neg e, hself]
        by_cases e2 : k < m
        · rw [if_pos e2, if_pos (by omega)]; rfl
        · rw [if_neg e2, if_neg (by omega)]; rfl
  unfold lagC; rw [hs 8 (by omega), if_pos hk]; rfl

theorem refusedT {ad : Nat → Addr} {ok : Bool} {r : Int} {ev nv : Value} {w : World} (L : Laid ad w) (he : TE ad ok r ev w) (hn : TN ok r nv w) :
    Calls Tryd.prog 20 #[ev, nv] w fun e w' => e = .returned (.bool true) ∧ Below w.heap.size w w' := by
  unfold TE at he
  unfold TN at hn
  cases ok with
  | true =>
    obtain rfl : ev = .nilIface := he
    obtain rfl : nv = _ := hn
    exact refused_none _ _ _ _ _ _ w
  | false =>
    obtain ⟨b, rfl, hb⟩ := he
    obtain ⟨g, g', rfl, h1, h2⟩ := hn
    exact refused_some (k := 0) L hb (by decide) h1 h2
theorem TN.nov {ok : Bool} {r : Int} {v : Value} {x : World} (h : TN ok r v x) : ∃ code a n c a' n' c', v = .agg (nov code a n c a' n' c') := by
  unfold TN at h
  cases ok with
  | true => exact ⟨_, _, _, _, _, _, _, h⟩
  | false => obtain ⟨g, g', h, _⟩ := h; exact ⟨_, _, _, _, _, _, _, h⟩

theorem CsIn.keptP {S : Nat → Prop} {b off : Nat} {cs : Array Value} {x x' : World} (h : CsIn b off cs x) (k : KeptP S x x') (hn : ¬ S b) : CsIn b off cs x' :=
  ⟨Nat.lt_of_lt_of_le h.1 k.size, fun j v hv => by rw [World.cell?_of_block (w := x) (k.block b h.1 hn)]; exact h.2 j v hv⟩
theorem TE.keptP {ad : Nat → Addr} {ok : Bool} {r : Int} {v : Value} {x x' : World} {S : Nat → Prop} {M : Nat} (h : TE ad ok r v x) (hb : EB M v) (hS : ∀ s, S s → s < M) (k : KeptP S x x') : TE ad ok r v x' := by
  unfold TE at *
  cases ok with
  | true => exact h
  | false =>
    obtain ⟨b, h1, h2⟩ := h
    refine ⟨b, h1, ?_⟩
    have hn : ¬ S b := fun hs => by have := hS b hs; have := hb b h1; omega
    have e : x'.heap[b]? = x.heap[b]? := k.block b (RowAt.lt h2) hn
    exact e.trans h2
theorem TN.keptP {ok : Bool} {r : Int} {v : Value} {x x' : World} {S : Nat → Prop} {M : Nat} (h : TN ok r v x) (hb : NB M v) (hS : ∀ s, S s → s < M) (k : KeptP S x x') : TN ok r v x' := by
  unfold TN at *
  cases ok with
  | true => exact h
  | false =>
    obtain ⟨g, g', h1, h2, h3⟩ := h
    obtain ⟨m1, m2⟩ := hb _ _ _ h1
    exact ⟨g, g', h1, h2.keptP k (fun hs => by have := hS _ hs; omega), h3.keptP k (fun hs => by have := hS _ hs; omega)⟩

/-- An Ask. -/
structure Ak where
  a : List Int
  r : Int
  n : Int
instance : Inhabited Ak := ⟨⟨ck0, 0, 0⟩⟩
def akv (x : Ak) : Array Value := cv x.a ++ #[.int .i64 x.r, .int .i64 x.n]
def Ak.Fit (x : Ak) : Prop := Ck x.a
theorem akv_ck (x : Ak) (j : Nat) (v : Value) (h : (cv x.a)[j]? = some v) : (akv x)[j]? = some v := by
  unfold akv
  rw [Array.getElem?_append_left (Array.getElem?_eq_some_iff.1 h).1]; exact h
theorem akv_r (x : Ak) (h : x.a.length = 8) : (akv x)[8]? = some (.int .i64 x.r) := by
  unfold akv
  rw [Array.getElem?_append_right (by rw [cv_size, h]; omega), cv_size, h]; rfl
theorem akv_n (x : Ak) (h : x.a.length = 8) : (akv x)[9]? = some (.int .i64 x.n) := by
  unfold akv
  rw [Array.getElem?_append_right (by rw [cv_size, h]; omega), cv_size, h]; rfl
/-- A list of Asks in memory. -/
def SlQ (w : World) (g o : Nat) (l : List Ak) : Prop := l.length ≤ maxLen ∧ ∀ (i : Nat) x, l[i]? = some x → x.Fit ∧ CsIn g (o + i * 10) (akv x) w
end Go.Proofs.YtceahohcmhbkmaaDoor
