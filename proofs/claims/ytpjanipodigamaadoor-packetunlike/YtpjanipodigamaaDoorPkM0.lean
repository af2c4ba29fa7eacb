
/-
  A message is read: what all kinds share.
-/
import Derived.Test.YtpjanipodigamaaDoorPkDb
import Derived.Test.YtpjanipodigamaaDoorInvY
namespace Go.Proofs.YtpjanipodigamaaDoor
open Go.RowKit
set_option maxRecDepth 100000

theorem mv_set0 (k k' f e : Int) (c : List Int) (A : List Pac) (R : List Prn) (s : Value) : (mv (k, f, e, c, A, R) s).setIfInBounds 0 (.int .i64 k') = mv (k', f, e, c, A, R) s := by
  simp only [mv, ml, List.setIfInBounds_toArray, List.set_cons_zero]
theorem mv_set1 (k f f' e : Int) (c : List Int) (A : List Pac) (R : List Prn) (s : Value) : (mv (k, f, e, c, A, R) s).setIfInBounds 1 (.int .i64 f') = mv (k, f', e, c, A, R) s := by
  simp only [mv, ml, List.setIfInBounds_toArray, List.set_cons_succ, List.set_cons_zero]
theorem mv_set2 (k f e e' : Int) (c : List Int) (A : List Pac) (R : List Prn) (s : Value) : (mv (k, f, e, c, A, R) s).setIfInBounds 2 (.int .i64 e') = mv (k, f, e', c, A, R) s := by
  simp only [mv, ml, List.setIfInBounds_toArray, List.set_cons_succ, List.set_cons_zero]
theorem mv_sz {m : Pms} {s : Value} (h : shM m) : (mv m s).size = 156 := by simp [mv, ml_len h]
theorem shM0 (k f e : Int) : shM (k, f, e, zero8, [], zeroRs) := ⟨rfl, fun a ha => (by simp at ha), zeroRs_sh⟩

/-- A message, and the end behind it. -/
def pMsgE (bs : List UInt8) (pl : Nat) : Except Pe (Pms × Nat) := match pMsg bs pl with
  | .error e => .error e
  | .ok (m, q) => match endR (bs.drop q) with
    | .error c => .error (.wire nmEnd q c)
    | .ok _ => .ok (m, q)
theorem msgE_err {bs : List UInt8} {pl : Nat} {x : Pe} (h : pMsg bs pl = .error x) : pMsgE bs pl = .error x := by unfold pMsgE; rw [h]
theorem msgE_end {bs : List UInt8} {pl q c : Nat} {m : Pms} (h : pMsg bs pl = .ok (m, q)) (h2 : endR (bs.drop q) = .error c) : pMsgE bs pl = .error (.wire nmEnd q c) := by unfold pMsgE; rw [h]; simp only [h2]
theorem msgE_ok {bs : List UInt8} {pl q : Nat} {m : Pms} {u : Unit × Nat} (h : pMsg bs pl = .ok (m, q)) (h2 : endR (bs.drop q) = .ok u) : pMsgE bs pl = .ok (m, q) := by unfold pMsgE; rw [h]; simp only [h2]
theorem okRnd_sh {r : Prn} (h : okRnd r) : shR r := by
  obtain ⟨_, h2⟩ := h
  by_cases h0 : r.1 = 0
  · rw [if_pos h0] at h2
    have e1 : r.2.1 = zero8 := by rw [h2]
    have e2 : r.2.2.1 = zero8 := by rw [h2]
    exact ⟨by rw [e1]; rfl, by rw [e2]; rfl⟩
  · rw [if_neg h0] at h2
    exact ⟨h2.1.1, h2.2.1.1⟩
theorem okMsg_sh {m : Pms} (h : okMsg m) : shM m := by
  obtain ⟨_, _, _, h4, h5, h6⟩ := h
  refine ⟨?_, ?_, ?_⟩
  · split at h4
    · exact h4.1
    · rw [h4]; rfl
  · split at h5
    · exact fun a ha => (h5.2 a ha).2.2.1
    · rw [h5]; exact fun a ha => (by simp at ha)
  · split at h6
    · exact ⟨h6.1, fun r hr => okRnd_sh (h6.2 r hr)⟩
    · rw [h6]; exact zeroRs_sh

/-- What a reading of a message leaves. -/
def RdM (ad : Nat → Addr) (rb _g : Nat) (_bs : List UInt8) (w : World) (p : Except Pe (Pms × Nat)) (e : Ending) (w' : World) : Prop := Kept [rb] w w' ∧ match p with
  | .ok (m, _) => ∃ s, e = .returned (.agg (mv m s)) ∧ OwnA w.heap.size s m.2.2.2.2.1 w' ∧ shM m
  | .error x => ∃ f, w.heap.size ≤ f ∧ e = gaveP f ∧ PeAt ad x f w'
theorem RdM.ok {ad : Nat → Addr} {rb g : Nat} {bs : List UInt8} {w : World} {p : Except Pe (Pms × Nat)} {e : Ending} {w' : World} {m : Pms} {q : Nat} (h : RdM ad rb g bs w p e w') (hp : p = .ok (m, q)) : Kept [rb] w w' ∧ ∃ s, e = .returned (.agg (mv m s)) ∧ OwnA w.heap.size s m.2.2.2.2.1 w' ∧ shM m := by subst hp; exact h
theorem RdM.err {ad : Nat → Addr} {rb g : Nat} {bs : List UInt8} {w : World} {p : Except Pe (Pms × Nat)} {e : Ending} {w' : World} {x : Pe} (h : RdM ad rb g bs w p e w') (hp : p = .error x) : Kept [rb] w w' ∧ ∃ f, w.heap.size ≤ f ∧ e = gaveP f ∧ PeAt ad x f w' := by subst hp; exact h
theorem RdM.mkErr {ad : Nat → Addr} {rb g : Nat} {bs : List UInt8} {w : World} {p : Except Pe (Pms × Nat)} {w' : World} {x : Pe} {f : Nat} (hp : p = .error x) (hk : Kept [rb] w w') (hf : w.heap.size ≤ f) (hx : PeAt ad x f w') : RdM ad rb g bs w p (gaveP f) w' := by subst hp; exact ⟨hk, f, hf, rfl, hx⟩
theorem RdM.mkOk {ad : Nat → Addr} {rb g : Nat} {bs : List UInt8} {w : World} {p : Except Pe (Pms × Nat)} {w' : World} {m : Pms} {q : Nat} {s : Value} (hp : p = .ok (m, q)) (hk : Kept [rb] w w') (ho : OwnA w.heap.size s m.2.2.2.2.1 w') (hs : shM m) : RdM ad rb g bs w p (.returned (.agg (mv m s))) w' := by subst hp; exact ⟨hk, s, rfl, ho, hs⟩

theorem rep_getD (n j : Nat) : (Array.replicate n false).getD j false = false := by
  simp only [Array.getD_eq_getD_getElem?, Array.getElem?_replicate]
  split <;> rfl
theorem jstep {listed : Array Bool} {vals : Nat → Value} {i j : Nat} {v X : Value} (h : listed.getD j false = true → vals j = X) (hv : i = j → v = X) : (listed.setIfInBounds i true).getD j false = true → upd vals i v j = X := by
  intro hl
  by_cases e : i = j
  · subst e; simp only [upd, if_true]; exact hv rfl
  · rw [getD_set_ne false e] at hl
    rw [upd, if_neg (fun h => e h.symm)]
    exact h hl
theorem opw_rg {o : Oper} {a : Act} {w : World} {K : Act → World → Prop} {Q : Exit → Act → World → Prop} {b : Nat} (y : Operand) (ho : o.op = .load 59 y) {k : Nat} (hy : a.eval y = .pointer (some ⟨k, 0, none⟩)) (h : RowAt k #[.pointer (some ⟨b, 0, none⟩)] 59 w) (hk : K (a.put o.dst (.agg #[.pointer (some ⟨b, 0, none⟩)])) w) : o.wp Tryd.prog a w K Q := by
  unfold Oper.wp execOp
  simp only [ho, hy, Instr.loadAt, Instr.sureAddr, Sem.run_bind, Sem.run_pure, Result.andThen_ok, run_loadVar_in h.in Tryd.underlying59 rfl (szRg b)]
  exact hk
theorem Rst.drew {ad : Nat → Addr} {rb g : Nat} {bs : List UInt8} {w : World} {q : Nat} {cs : Array Value} {t : TypeId} {x : World} (h : Rst ad rb g bs w q cs t x) : Rst ad rb g bs w q cs t x.drew := h.go (Kept.refl _ _).drew (h.rd.drewN 1)
/-- What stands while the end is asked for and there is one. -/
def Jok (ad : Nat → Addr) (rb g : Nat) (bs : List UInt8) (w : World) (q : Nat) (cs : Array Value) (G : World → Prop) (listed : Array Bool) (vals : Nat → Value) (x : World) : Prop :=
  (listed.getD 0 false = true → vals 0 = rgv rb) ∧ (listed.getD 1 false = true → vals 1 = .pointer (some ⟨w.heap.size, 0, none⟩)) ∧ (listed.getD 2 false = true → vals 2 = .pointer (some ⟨rb, 0, none⟩)) ∧ (listed.getD 3 false = true → vals 3 = .nilIface) ∧ Rst ad rb g bs w q cs 30 x ∧ G x
theorem Jok.start {ad : Nat → Addr} {rb g : Nat} {bs : List UInt8} {w : World} {q : Nat} {cs : Array Value} {G : World → Prop} {n : Nat} {vals : Nat → Value} {x : World} (hS : Rst ad rb g bs w q cs 30 x) (hG : G x) : Jok ad rb g bs w q cs G (Array.replicate n false) vals x :=
  ⟨fun h => absurd h (by rw [rep_getD]; decide), fun h => absurd h (by rw [rep_getD]; decide), fun h => absurd h (by rw [rep_getD]; decide), fun h => absurd h (by rw [rep_getD]; decide), hS, hG⟩
theorem Jok.step {ad : Nat → Addr} {rb g : Nat} {bs : List UInt8} {w : World} {q : Nat} {cs : Array Value} {G : World → Prop} {listed : Array Bool} {vals : Nat → Value} {x y : World} (h : Jok ad rb g bs w q cs G listed vals x) (i : Nat) (v : Value) (h0 : i = 0 → v = rgv rb) (h1 : i = 1 → v = .pointer (some ⟨w.heap.size, 0, none⟩)) (h2 : i = 2 → v = .pointer (some ⟨rb, 0, none⟩)) (h3 : i = 3 → v = .nilIface) (hS : Rst ad rb g bs w q cs 30 y) (hG : G y) : Jok ad rb g bs w q cs G (listed.setIfInBounds i true) (upd vals i v) y :=
  ⟨jstep h.1 h0, jstep h.2.1 h1, jstep h.2.2.1 h2, jstep h.2.2.2.1 h3, hS, hG⟩
/-- What stands while the end is asked for and something is left. -/
def Jer (ad : Nat → Addr) (rb g : Nat) (bs : List UInt8) (w : World) (q c9 : Nat) (cs : Array Value) (listed : Array Bool) (vals : Nat → Value) (x : World) : Prop :=
  (listed.getD 0 false = true → vals 0 = rgv rb) ∧ (listed.getD 1 false = true → vals 1 = .pointer (some ⟨w.heap.size, 0, none⟩)) ∧ (listed.getD 2 false = true → vals 2 = .pointer (some ⟨rb, 0, none⟩)) ∧ (listed.getD 3 false = false → Rst ad rb g bs w q cs 30 x) ∧ (listed.getD 3 false = true → ∃ f2, vals 3 = refv f2 ∧ RdAt rb g bs q (refv f2) x ∧ x.heap[f2]? = some (.cells #[.string nmWire, .string nmEnd, .int .i64 (q : Int), rsn ad c9] 72 (0, 0))) ∧ RowAt w.heap.size #[.pointer (some ⟨rb, 0, none⟩)] 59 x ∧ Kept [rb] w x ∧ listed.getD 4 false = false
theorem Jer.start {ad : Nat → Addr} {rb g : Nat} {bs : List UInt8} {w : World} {q c9 : Nat} {cs : Array Value} {n : Nat} {vals : Nat → Value} {x : World} (hS : Rst ad rb g bs w q cs 30 x) : Jer ad rb g bs w q c9 cs (Array.replicate n false) vals x :=
  ⟨fun h => absurd h (by rw [rep_getD]; decide), fun h => absurd h (by rw [rep_getD]; decide), fun h => absurd h (by rw [rep_getD]; decide), fun _ => hS, fun h => absurd h (by rw [rep_getD]; decide), hS.box, hS.kp, rep_getD _ _⟩
theorem Jer.step {ad : Nat → Addr} {rb g : Nat} {bs : List UInt8} {w : World} {q c9 : Nat} {cs : Array Value} {listed : Array Bool} {vals : Nat → Value} {x : World} (h : Jer ad rb g bs w q c9 cs listed vals x) (i : Nat) (v : Value) (hi : i < 3) (h0 : i = 0 → v = rgv rb) (h1 : i = 1 → v = .pointer (some ⟨w.heap.size, 0, none⟩)) (h2 : i = 2 → v = .pointer (some ⟨rb, 0, none⟩)) : Jer ad rb g bs w q c9 cs (listed.setIfInBounds i true) (upd vals i v) x := by
  obtain ⟨a0, a1, a2, a3, a4, a5, a6, a7⟩ := h
  have n3 : i ≠ 3 := by omega
  have n4 : i ≠ 4 := by omega
  exact ⟨jstep a0 h0, jstep a1 h1, jstep a2 h2, fun h => a3 (by rw [getD_set_ne false n3] at h; exact h), fun h => by rw [getD_set_ne false n3] at h; rw [upd, if_neg (fun e => n3 e.symm)]; exact a4 h, a5, a6, by rw [getD_set_ne false n4]; exact a7⟩
theorem Jer.end3 {ad : Nat → Addr} {rb g : Nat} {bs : List UInt8} {w : World} {q c9 : Nat} {cs : Array Value} {listed : Array Bool} {vals : Nat → Value} {x y : World} (h : Jer ad rb g bs w q c9 cs listed vals x) (hsz : listed.size = 5) (hS : Rst ad rb g bs w q cs 30 x) (f2 : Nat) (hr : RdAt rb g bs q (refv f2) y) (hl : y.heap[f2]? = some (.cells #[.string nmWire, .string nmEnd, .int .i64 (q : Int), rsn ad c9] 72 (0, 0))) (hk : Kept [rb] x y) : Jer ad rb g bs w q c9 cs (listed.setIfInBounds 3 true) (upd vals 3 (refv f2)) y := by
  obtain ⟨a0, a1, a2, a3, a4, a5, a6, a7⟩ := h
  have hlt := hS.lt
  refine ⟨jstep a0 (fun h => by cases h), jstep a1 (fun h => by cases h), jstep a2 (fun h => by cases h), fun h => ?_, fun _ => ⟨f2, by simp [upd], hr, hl⟩, a5.rd hk (by omega), a6.trans hk, by rw [getD_set_ne false (by decide)]; exact a7⟩
  rw [Array.getD_eq_getD_getElem?, Array.getElem?_setIfInBounds_self] at h
  rw [if_pos (by omega)] at h
  cases h
theorem not_listed {listed : Array Bool} {i : Nat} (h : listed.getD i true = false) : listed.getD i false = false := by
  simp only [Array.getD_eq_getD_getElem?] at h ⊢
  cases hl : listed[i]? with
  | none => rfl
  | some b => simpa [hl] using h
theorem kept_setRow (g : Nat) (cs : Array Value) (w : World) : Kept [g] w (w.setRow g cs) := ⟨rfl, rfl, rfl, by simp, fun k _ hn => setRow_other _ _ _ _ (by simpa using hn)⟩
theorem zero_ms' : (Tryd.prog.info? 30).bind (·.zero) = some (.agg (mv (0, 0, 0, zero8, [], zeroRs) (.slice none 0 0))) := zero_ms
end Go.Proofs.YtpjanipodigamaaDoor
