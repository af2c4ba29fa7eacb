
/-
  A message is read: what all kinds share.
-/
import Derived.Test.YtildmcmjpmidgaaDoorPkDb
import Derived.Test.YtildmcmjpmidgaaDoorInvY
namespace Go.Proofs.YtildmcmjpmidgaaDoor
open Go.RowKit
set_option maxRecDepth 100000

theorem mv_set0 (k k' f e : Int) (c : List Int) (A : List Pac) (R : List Prn) (s : Value) : (mv (k, f, e, c, A, R) s).setIfInBounds 0 (.int .i64 k') = mv (k', f, e, c, A, R) s := by
  simp only [mv, ml, List.setIfInBounds_toArray, List.set_cons_zero]
theorem mv_set1 (k f f' e : Int) (c : List Int) (A : List Pac) (R : List Prn) (s : Value) : (mv (k, f, e, c, A, R) s).setIfInBounds 1 (.int .i64 f') = mv (k, f', e, c, A, R) s := by
  simp only [mv, ml, List.setIfInBounds_toArray, List.set_cons_succ, List.set_cons_zero]
theorem mv_set2 (k f e e' : Int) (c : List Int) (A : List Pac) (R : List Prn) (s : Value) : (mv (k, f, e, c, A, R) s).setIfInBounds 2 (.int .i64 e') = mv (k, f, e', c, A, R) s := by
  simp only [mv, ml, List.setIfInBounds_toArray, List.set_cons_succ, List.set_cons_zero]
theorem mv_sz {m : Pms} {s : Value} (h : shM m) : (mv m s).size = 156 := by simp [mv, ml_len h]
theorem shM0 (k f e : Int) : shM (k, f, e, zero8, [], zeroRs) := ⟨rfl, fun a ha => (by simp at ha), zeroRs_sh⟩

/-- A message, and the end behind it. -/
def pMsgE (bs : List UInt8) (pl : Nat) : Except Pe (Pms × Nat) := match pMsg bs pl with
  | .error e => .error e
  | .ok (m, q) => match endR (bs.drop q) with
    | .error c => .error (.wire nmEnd q c)
    | .ok _ => .ok (m, q)
theorem msgE_err {bs : List UInt8} {pl : Nat} {x : Pe} (h : pMsg bs pl = .error x) : pMsgE bs pl = .error x := by unfold pMsgE; rw [h]
theorem msgE_end {bs : List UInt8} {pl q c : Nat} {m : Pms} (h : pMsg bs pl = .ok (m, q)) (h2 : endR (bs.drop q) = .error c) : pMsgE bs pl = .error (.wire nmEnd q c) := by unfold pMsgE; rw [h]; simp only [h2]
theorem msgE_ok {bs : List UInt8} {pl q : Nat} {m : Pms} {u : Unit × Nat} (h : pMsg bs pl = .ok (m, q)) (h2 : endR (bs.drop q) = .ok u) : pMsgE bs pl = .ok (m, q) := by unfold pMsgE; rw [h]; simp only [h2]
theorem okRnd_sh {r : Prn} (h : okRnd r) : shR r := by
  obtain ⟨_, h2⟩ := h
  by_cases h0 : r.1 = 0
  · rw [if_pos h0] at h2
    have e1 : r.2.1 = zero8 := by rw [h2]
    have e2 : r.2.2.1 = zero8 := by rw [h2]
    exact ⟨by rw [e1]; rfl, by rw [e2]; rfl⟩
  · rw [if_neg h0] at h2
    exact ⟨h2.1.1, h2.2.1.1⟩
theorem okMsg_sh {m : Pms} (h : okMsg m) : shM m := by
  obtain ⟨_, _, _, h4, h5, h6⟩ := h
  refine ⟨?_, ?_, ?_⟩
  · split at h4
    · exact h4.1
    · rw [h4]; rfl
  · split at h5
    · exact fun a ha => (h5.2 a ha).2.2.1
    · rw [h5]; exact fun a ha => (by simp at ha)
  · split at h6
    · exact ⟨h6.1, fun r hr => okRnd_sh (h6.2 r hr)⟩
    · rw [h6]; exact zeroRs_sh

/-- What a reading of a message leaves. -/
def RdM (ad : Nat → Addr) (rb g : Nat) (bs : List UInt8) (w : World) (p : Except Pe (Pms × Nat)) (e : Ending) (w' : World) : Prop := Kept [rb] w w' ∧ match p with
  | .ok (m, q) => ∃ s, e = .returned (.agg (mv m s)) ∧ RdAt rb g bs q .nilIface w' ∧ OwnA w.heap.size s m.2.2.2.2.1 w' ∧ shM m
  | .error x => ∃ f, w.heap.size ≤ f ∧ e = gaveP f ∧ PeAt ad x f w'
theorem RdM.ok {ad : Nat → Addr} {rb g : Nat} {bs : List UInt8} {w : World} {p : Except Pe (Pms × Nat)} {e : Ending} {w' : World} {m : Pms} {q : Nat} (h : RdM ad rb g bs w p e w') (hp : p = .ok (m, q)) : Kept [rb] w w' ∧ ∃ s, e = .returned (.agg (mv m s)) ∧ RdAt rb g bs q .nilIface w' ∧ OwnA w.heap.size s m.2.2.2.2.1 w' ∧ shM m := by subst hp; exact h
theorem RdM.err {ad : Nat → Addr} {rb g : Nat} {bs : List UInt8} {w : World} {p : Except Pe (Pms × Nat)} {e : Ending} {w' : World} {x : Pe} (h : RdM ad rb g bs w p e w') (hp : p = .error x) : Kept [rb] w w' ∧ ∃ f, w.heap.size ≤ f ∧ e = gaveP f ∧ PeAt ad x f w' := by subst hp; exact h
theorem RdM.mkErr {ad : Nat → Addr} {rb g : Nat} {bs : List UInt8} {w : World} {p : Except Pe (Pms × Nat)} {w' : World} {x : Pe} {f : Nat} (hp : p = .error x) (hk : Kept [rb] w w') (hf : w.heap.size ≤ f) (hx : PeAt ad x f w') : RdM ad rb g bs w p (gaveP f) w' := by subst hp; exact ⟨hk, f, hf, rfl, hx⟩
theorem RdM.mkOk {ad : Nat → Addr} {rb g : Nat} {bs : List UInt8} {w : World} {p : Except Pe (Pms × Nat)} {w' : World} {m : Pms} {q : Nat} {s : Value} (hp : p = .ok (m, q)) (hk : Kept [rb] w w') (hr : RdAt rb g bs q .nilIface w') (ho : OwnA w.heap.size s m.2.2.2.2.1 w') (hs : shM m) : RdM ad rb g bs w p (.returned (.agg (mv m s))) w' := by subst hp; exact ⟨hk, s, rfl, hr, ho, hs⟩

theorem kept_setRow (g : Nat) (cs : Array Value) (w : World) : Kept [g] w (w.setRow g cs) := ⟨rfl, rfl, rfl, by simp, fun k _ hn => setRow_other _ _ _ _ (by simpa using hn)⟩
theorem zero_ms' : (Tryd.prog.info? 30).bind (·.zero) = some (.agg (mv (0, 0, 0, zero8, [], zeroRs) (.slice none 0 0))) := zero_ms
end Go.Proofs.YtildmcmjpmidgaaDoor
