
/-
  causal.Missing and the document's. The document's Missing.
-/
import Derived.Test.YtlgdaaofpjpobaaDoorZca23
namespace Go.Proofs.YtlgdaaofpjpobaaDoor
open Go.RowKit Go.Maps
set_option maxRecDepth 100000

set_option maxHeartbeats 400000 in
theorem refHas_any (a : List Int) (r n : Int) (w : World) (ha : a.length = 8) :
    Calls Tryd.prog 39 #[.agg (cv a), .int .i64 r, .int .i64 n] w fun e w' => e = .returned (.bool (hasC a r n)) ∧ Below w.heap.size w w' := by
  by_cases hr : 0 ≤ r ∧ r < 8
  · obtain ⟨k, rfl⟩ := Int.eq_ofNat_of_zero_le hr.1
    obtain ⟨h0, h8⟩ := hr
    have c1 := cv_get (a := a) (k := k) (by omega)
    have HV : Hid (hasC a (k : Int) n = (decide (1 ≤ n) && decide (n ≤ en a k))) := by simp [Hid, hasC, h8]
    by_cases hn : 1 ≤ n
    · go_enter Tryd.func39, Tryd.ntmps39
      go_wp2
      go_ret
      exact ⟨by rw [HV.out]; simp [hn], below_one _ _⟩
    · have hn' : decide (1 ≤ n) = false := by simpa using hn
      go_enter Tryd.func39, Tryd.ntmps39
      go_wp2
      go_ret
      exact ⟨by rw [HV.out]; simp [hn'], below_one _ _⟩
  · have HV : Hid (hasC a r n = false) := by simp only [Hid, hasC, decide_eq_false hr, Bool.false_and]
    by_cases hneg : 0 ≤ r
    · have h8 : ¬ r < 8 := by omega
      go_enter Tryd.func39, Tryd.ntmps39
      go_wp2
      go_ret
      exact ⟨by rw [HV.out]; rfl, below_one _ _⟩
    · have h0 : decide (0 ≤ r) = false := by simpa using hneg
      go_enter Tryd.func39, Tryd.ntmps39
      go_wp2
      go_ret
      exact ⟨by rw [HV.out]; rfl, below_one _ _⟩

theorem refHas_is {a : List Int} {r n : Int} {v : Bool} (hv : hasC a r n = v) (w : World) (ha : a.length = 8) :
    Calls Tryd.prog 39 #[.agg (cv a), .int .i64 r, .int .i64 n] w fun e w' => e = .returned (.bool v) ∧ Below w.heap.size w w' := hv ▸ refHas_any a r n w ha
/-- Missing. -/
def misC (h : List Int) (most : Int) : List Ac → List Ac → List Ac
  | acc, [] => acc
  | acc, x :: l => if most ≤ (acc.length : Int) then acc else if hasA h x = true then misC h most acc l else misC h most (acc ++ [x]) l
theorem drop_at {l : List Ac} {k : Nat} {x : Ac} (hx : l[k]? = some x) : l.drop k = x :: l.drop (k + 1) := by
  have hk := (List.getElem?_eq_some_iff.1 hx).1
  rw [show x = l[k] from (Option.some.inj ((List.getElem?_eq_getElem hk).symm.trans hx)).symm, List.getElem_cons_drop hk]
theorem misC_full {h : List Int} {most : Int} {acc l : List Ac} (hm : most ≤ (acc.length : Int)) : misC h most acc l = acc := by
  cases l with
  | nil => rfl
  | cons x l => simp [misC, hm]
/-- What Missing leaves. -/
def MisQ (h : List Int) (most : Int) (l : List Ac) (w : World) (e : Ending) (w' : World) : Prop :=
  ∃ r, e = .returned r ∧ OwnA r (misC h most [] l) w' ∧ NewB w r ∧ Below w.heap.size w w'
theorem newB_at {w : World} {v v' : Value} (h : NewB w v) {x : World} (ha : At' x v v') (hs : w.heap.size ≤ x.heap.size) : NewB w v' := fun k hk => (ha k hk).elim (h k) (fun q => by omega)
theorem newB_below {w x x' : World} {v : Value} (h : NewB w v) (hb : Below w.heap.size w x) (hg : x.grownBy x' v.ownBlock) : Below w.heap.size w x' :=
  Ch.none ((Ch.of (S := fun k => w.heap.size ≤ k) hb).grown hg (fun j hj => .inl (h j hj))) (fun s hs q => by omega)
theorem newB_nil (w : World) : NewB w (.slice none 0 0) := fun k hk => by cases hk
theorem AFit.misC {h : List Int} {most : Int} : ∀ {l acc : List Ac}, AFit acc → AFit l → AFit (misC h most acc l)
  | [], acc, ha, _ => ha
  | x :: l, acc, ha, hl => by
    unfold Go.Proofs.YtlgdaaofpjpobaaDoor.misC
    split
    · exact ha
    · split
      · exact AFit.misC ha hl.tail
      · exact AFit.misC (ha.app (AFit.one hl.head)) hl.tail
end Go.Proofs.YtlgdaaofpjpobaaDoor
namespace Go.Proofs.YtlgdaaofpjpobaaDoor
open Go.RowKit Go.Maps
set_option maxRecDepth 100000

end Go.Proofs.YtlgdaaofpjpobaaDoor
