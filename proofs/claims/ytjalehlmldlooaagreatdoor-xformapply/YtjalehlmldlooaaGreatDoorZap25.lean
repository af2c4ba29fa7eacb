
/-
  Operations, rows behind them; the two-way and the three-way law, Back, Cross: plain lists.
-/
import Derived.Test.YtjalehlmldlooaaGreatDoorZap20
namespace Go.Proofs.YtjalehlmldlooaaGreatDoor
set_option maxRecDepth 100000

/-- An operation. -/
structure Xo where
  k : Int
  p : Int
  c : Int
  r : Int
deriving DecidableEq
def Xo.up (a : Xo) : Xo := ⟨a.k, a.p + 1, a.c, a.r⟩
/-- Does what b lays in come ahead of what a is about? -/
def pushB (a b : Xo) : Bool := if a.k = 1 then decide (b.p < a.p) || (decide (b.p = a.p) && decide (b.r ≤ a.r)) else if a.k = 3 then decide (b.p ≤ a.p) else if a.k = 2 then decide (b.p ≤ a.p) else false
/-- a xs it must be behind b. -/
def tO (a b : Xo) : Xo := if b.k = 1 ∧ pushB a b = true ∧ a.p < 9223372036854775807 then a.up else a
/-- Is it an operation? -/
def rightO (o : Xo) : Bool := decide (0 ≤ o.r) && decide (o.r < 8) && (if o.k = 1 then rightC o.c else if o.k = 3 then decide (o.c = 0) else if o.k = 2 then decide (o.c = 0) else false)
/-- May it be done on a row of n elements? -/
def validO (o : Xo) (n : Int) : Bool := rightO o && decide (0 ≤ o.p) && (decide (o.p < n) || (decide (o.p = n) && decide (o.k = 1)))

theorem rightO_kind {o : Xo} (h : rightO o = true) : o.k = 1 ∨ o.k = 2 ∨ o.k = 3 := by
  unfold rightO at h
  by_cases h1 : o.k = 1
  · exact .inl h1
  · by_cases h2 : o.k = 3
    · exact .inr (.inr h2)
    · by_cases h3 : o.k = 2
      · exact .inr (.inl h3)
      · simp [h1, h2, h3] at h
theorem validO_right {o : Xo} {n : Int} (h : validO o n = true) : rightO o = true := by
  unfold validO at h
  simp at h
  exact h.1.1
theorem validO_place {o : Xo} {n : Int} (h : validO o n = true) : 0 ≤ o.p ∧ (o.p < n ∨ o.p = n ∧ o.k = 1) := by
  unfold validO at h
  simp at h
  exact ⟨h.1.2, h.2⟩
theorem validO_of {o : Xo} {n : Int} (h : rightO o = true) (h0 : 0 ≤ o.p) (h1 : o.p < n ∨ o.p = n ∧ o.k = 1) : validO o n = true := by
  unfold validO
  simp
  exact ⟨⟨h, h0⟩, h1⟩
theorem tO_k (a b : Xo) : (tO a b).k = a.k := by unfold tO; split <;> rfl
theorem tO_c (a b : Xo) : (tO a b).c = a.c := by unfold tO; split <;> rfl
theorem tO_r (a b : Xo) : (tO a b).r = a.r := by unfold tO; split <;> rfl
theorem tO_other {a b : Xo} (h : ¬ b.k = 1) : tO a b = a := by unfold tO; rw [if_neg (fun k => h k.1)]
theorem tO_right (a b : Xo) : rightO (tO a b) = rightO a := by unfold rightO; rw [tO_k, tO_c, tO_r]
/-- T, by its place. -/
theorem tO_p {a b : Xo} (ha : a.k = 1 ∨ a.k = 2 ∨ a.k = 3) (hp : a.p < 4611686018427387904) (hb : b.k = 1) : (tO a b).p = if b.p < a.p ∨ (b.p = a.p ∧ (a.k = 1 → b.r ≤ a.r)) then a.p + 1 else a.p := by
  unfold tO pushB Xo.up
  rcases ha with h | h | h
  · by_cases q : b.p < a.p ∨ (b.p = a.p ∧ b.r ≤ a.r)
    · rw [if_pos (by simp [h, hb]; omega), if_pos (by simp [h]; omega)]
    · rw [if_neg (by simp [h, hb]; omega), if_neg (by simp [h]; omega)]
  · by_cases q : b.p ≤ a.p
    · rw [if_pos (by simp [h, hb]; omega), if_pos (by simp [h]; omega)]
    · rw [if_neg (by simp [h, hb]; omega), if_neg (by simp [h]; omega)]
  · by_cases q : b.p ≤ a.p
    · rw [if_pos (by simp [h, hb]; omega), if_pos (by simp [h]; omega)]
    · rw [if_neg (by simp [h, hb]; omega), if_neg (by simp [h]; omega)]
theorem Xo.ext4 {a b : Xo} (h1 : a.k = b.k) (h2 : a.p = b.p) (h3 : a.c = b.c) (h4 : a.r = b.r) : a = b := by
  cases a; cases b; simp at h1 h2 h3 h4; simp [h1, h2, h3, h4]
/-- The three-way law. -/
theorem three_way {a b c : Xo} (ha : a.k = 1 ∨ a.k = 2 ∨ a.k = 3) (hb : b.k = 1 ∨ b.k = 2 ∨ b.k = 3) (hc : c.k = 1 ∨ c.k = 2 ∨ c.k = 3) (pa : a.p < 4611686018427387900) (pb : b.p < 4611686018427387900) (pc : c.p < 4611686018427387900)
    (_h1 : a.r ≠ b.r) (_h2 : a.r ≠ c.r) (_h3 : b.r ≠ c.r) : tO (tO c a) (tO b a) = tO (tO c b) (tO a b) := by
  by_cases ka : a.k = 1
  · by_cases kb : b.k = 1
    · refine Xo.ext4 (by simp only [tO_k]) ?_ (by simp only [tO_c]) (by simp only [tO_r])
      have e1 := tO_p hc (by omega) ka
      have e2 := tO_p hc (by omega) kb
      have e3 := tO_p hb (by omega) ka
      have e4 := tO_p ha (by omega) kb
      have b1 : (tO c a).p < 4611686018427387904 := by rw [e1]; split <;> omega
      have b2 : (tO c b).p < 4611686018427387904 := by rw [e2]; split <;> omega
      rw [tO_p (a := tO c a) (b := tO b a) (by rw [tO_k]; exact hc) b1 (by rw [tO_k]; exact kb), tO_p (a := tO c b) (b := tO a b) (by rw [tO_k]; exact hc) b2 (by rw [tO_k]; exact ka)]
      simp only [tO_k, tO_r, e1, e2, e3, e4, ka, kb]
      by_cases kc : c.k = 1
      · simp only [kc, true_implies]
        repeat' split
        all_goals omega
      · simp only [kc, true_implies, false_implies, and_true]
        repeat' split
        all_goals omega
    · rw [tO_other (a := tO c a) (b := tO b a) (by rw [tO_k]; exact kb), tO_other (a := c) kb, tO_other (a := a) kb]
  · by_cases kb : b.k = 1
    · rw [tO_other (a := c) ka, tO_other (a := b) ka, tO_other (a := tO c b) (b := tO a b) (by rw [tO_k]; exact ka)]
    · simp only [tO_other ka, tO_other kb]
def El.add (e : El) (d : Int) : El := ⟨e.ep, e.rp, e.no, e.ch, e.hd + d⟩
/-- An element stands ahead of the i-th one. -/
def insE (l : List El) (i : Nat) (e : El) : List El := l.take i ++ e :: l.drop i
/-- The i-th element's Hides, greater or less. -/
def addE (l : List El) (i : Nat) (d : Int) : List El := l.modify i (fun e => e.add d)
theorem insE_len {l : List El} {i : Nat} {e : El} (h : i ≤ l.length) : (insE l i e).length = l.length + 1 := by
  unfold insE
  simp
  omega
theorem addE_len {l : List El} {i : Nat} {d : Int} : (addE l i d).length = l.length := by unfold addE; simp
theorem insE_at {l : List El} {i : Nat} {e : El} (h : i ≤ l.length) (j : Nat) : (insE l i e)[j]? = if j < i then l[j]? else if j = i then some e else l[j - 1]? := by
  unfold insE
  have h1 : (l.take i).length = i := by simp; omega
  by_cases h2 : j < i
  · rw [if_pos h2, List.getElem?_append_left (by omega), List.getElem?_take, if_pos h2]
  · rw [if_neg h2, List.getElem?_append_right (by omega), h1]
    by_cases h3 : j = i
    · subst h3; simp
    · rw [if_neg h3]
      obtain ⟨m, hm⟩ : ∃ m, j - i = m + 1 := ⟨j - i - 1, by omega⟩
      rw [hm, List.getElem?_cons_succ, List.getElem?_drop]
      congr 1
      omega
theorem addE_at (l : List El) (i : Nat) (d : Int) (j : Nat) : (addE l i d)[j]? = if j = i then (l[j]?).map (fun e => e.add d) else l[j]? := by
  unfold addE
  rw [List.getElem?_modify]
  by_cases h : i = j
  · subst h; simp
  · rw [if_neg (fun e => h e.symm)]
    cases hl : l[j]? <;> simp [h]
theorem ins_ins {l : List El} {i j : Nat} {e f : El} (h : i ≤ j) (hj : j ≤ l.length) : insE (insE l i e) (j + 1) f = insE (insE l j f) i e := by
  refine List.ext_getElem? fun k => ?_
  have a1 : j + 1 ≤ (insE l i e).length := by rw [insE_len (by omega)]; omega
  have a2 : i ≤ (insE l j f).length := by rw [insE_len (by omega)]; omega
  rw [insE_at a1, insE_at a2, insE_at (by omega), insE_at (by omega), insE_at (by omega), insE_at (by omega)]
  repeat' split
  all_goals first | rfl | omega | (congr 1; omega)
theorem add_ins_up {l : List El} {i j : Nat} {e : El} {d : Int} (h : i ≤ j) (hj : j < l.length) : addE (insE l i e) (j + 1) d = insE (addE l j d) i e := by
  refine List.ext_getElem? fun k => ?_
  have a2 : i ≤ (addE l j d).length := by rw [addE_len]; omega
  rw [addE_at, insE_at a2, insE_at (by omega), addE_at, addE_at]
  repeat' split
  all_goals first | rfl | omega | (exfalso; omega)
theorem add_ins_low {l : List El} {i j : Nat} {e : El} {d : Int} (h : j < i) (hi : i ≤ l.length) : addE (insE l i e) j d = insE (addE l j d) i e := by
  refine List.ext_getElem? fun k => ?_
  have a2 : i ≤ (addE l j d).length := by rw [addE_len]; omega
  rw [addE_at, insE_at a2, insE_at (by omega), addE_at, addE_at]
  repeat' split
  all_goals first | rfl | omega | (exfalso; omega)
theorem addE_comm (l : List El) (i j : Nat) (d f : Int) : addE (addE l i d) j f = addE (addE l j f) i d := by
  refine List.ext_getElem? fun k => ?_
  rw [addE_at, addE_at, addE_at, addE_at]
  repeat' split
  · cases l[k]? with
    | none => rfl
    | some e => simp [El.add]; omega
  all_goals rfl
/-- What an Erase or Restore adds. -/
def byO (o : Xo) : Int := if o.k = 3 then -1 else 1
/-- A row behind an operation; the ID of what is laid in. -/
def stepL (l : List El) (o : Xo) (i : Idn) : List El := if o.k = 1 then insE l o.p.toNat ⟨i.a, i.b, i.c, o.c, 0⟩ else addE l o.p.toNat (byO o)
theorem stepL_ins {o : Xo} (l : List El) (i : Idn) (h : o.k = 1) : stepL l o i = insE l o.p.toNat ⟨i.a, i.b, i.c, o.c, 0⟩ := if_pos h
theorem stepL_add {o : Xo} (l : List El) (i : Idn) (h : ¬ o.k = 1) : stepL l o i = addE l o.p.toNat (byO o) := if_neg h
theorem byO_t (a b : Xo) : byO (tO a b) = byO a := by unfold byO; rw [tO_k]
theorem step_len {l : List El} {o : Xo} {i : Idn} (h : validO o l.length = true) : (stepL l o i).length = l.length + (if o.k = 1 then 1 else 0) := by
  obtain ⟨h0, h1⟩ := validO_place h
  by_cases k : o.k = 1
  · rw [stepL_ins _ _ k, insE_len (by omega), if_pos k]
  · rw [stepL_add _ _ k, addE_len, if_neg k]; rfl
/-- What is valid is valid behind another one. -/
theorem valid_t {l : List El} {a b : Xo} {i : Idn} (ha : validO a l.length = true) (hb : validO b l.length = true) (hl : l.length < 4611686018427387900) : validO (tO a b) (stepL l b i).length = true := by
  obtain ⟨a0, a1⟩ := validO_place ha
  obtain ⟨b0, b1⟩ := validO_place hb
  have hr := validO_right ha
  rw [step_len hb]
  by_cases kb : b.k = 1
  · rw [if_pos kb]
    have e := tO_p (rightO_kind hr) (by omega) kb
    refine validO_of (by rw [tO_right]; exact hr) (by rw [e]; split <;> omega) ?_
    rw [e, tO_k]
    split <;> omega
  · rw [if_neg kb, tO_other kb]
    exact ha
/-- The two-way law. -/
theorem two_way {l : List El} {a b : Xo} {i j : Idn} (ha : validO a l.length = true) (hb : validO b l.length = true) (hl : l.length < 4611686018427387900) (hr : a.r ≠ b.r) : stepL (stepL l a i) (tO b a) j = stepL (stepL l b j) (tO a b) i := by
  obtain ⟨a0, a1⟩ := validO_place ha
  obtain ⟨b0, b1⟩ := validO_place hb
  have ka := rightO_kind (validO_right ha)
  have kb := rightO_kind (validO_right hb)
  by_cases ha1 : a.k = 1
  · have e1 := tO_p kb (by omega) ha1
    by_cases hb1 : b.k = 1
    · have e2 := tO_p ka (by omega) hb1
      rw [stepL_ins _ _ ha1, stepL_ins _ _ hb1, stepL_ins _ _ (by rw [tO_k]; exact hb1), stepL_ins _ _ (by rw [tO_k]; exact ha1), tO_c, tO_c, e1, e2]
      by_cases q : a.p < b.p ∨ (a.p = b.p ∧ a.r < b.r)
      · rw [if_pos (by omega), if_neg (by omega), show (b.p + 1).toNat = b.p.toNat + 1 by omega]
        exact ins_ins (by omega) (by omega)
      · rw [if_neg (by omega), if_pos (by omega), show (a.p + 1).toNat = a.p.toNat + 1 by omega]
        exact (ins_ins (by omega) (by omega)).symm
    · rw [stepL_ins _ _ ha1, stepL_add _ _ hb1, stepL_add _ _ (by rw [tO_k]; exact hb1), tO_other hb1, stepL_ins _ _ ha1, byO_t, e1]
      by_cases q : a.p ≤ b.p
      · rw [if_pos (by omega), show (b.p + 1).toNat = b.p.toNat + 1 by omega]
        exact add_ins_up (by omega) (by omega)
      · rw [if_neg (by omega)]
        exact add_ins_low (by omega) (by omega)
  · by_cases hb1 : b.k = 1
    · have e2 := tO_p ka (by omega) hb1
      rw [stepL_add _ _ ha1, tO_other ha1, stepL_ins _ _ hb1, stepL_ins _ _ hb1, stepL_add _ _ (by rw [tO_k]; exact ha1), byO_t, e2]
      by_cases q : b.p ≤ a.p
      · rw [if_pos (by omega), show (a.p + 1).toNat = a.p.toNat + 1 by omega]
        exact (add_ins_up (by omega) (by omega)).symm
      · rw [if_neg (by omega)]
        exact (add_ins_low (by omega) (by omega)).symm
    · rw [stepL_add _ _ ha1, tO_other ha1, stepL_add _ _ hb1, tO_other hb1, stepL_add _ _ hb1, stepL_add _ _ ha1]
      exact addE_comm _ _ _ _ _
def Xo.less (a : Xo) : Xo := ⟨a.k, a.p - 1, a.c, a.r⟩
/-- b taken out of a's way. -/
def bkO (a b : Xo) : Xo × Bool := if tO a b = a then (a, true) else if tO a.less b = a then (a.less, true) else (a, false)
theorem tO_is (a b : Xo) : tO a b = a ∨ tO a b = a.up := by unfold tO; split <;> simp
theorem up_ne (a : Xo) : a.up ≠ a := fun h => by have := congrArg Xo.p h; simp [Xo.up] at this; omega
theorem up_less (a : Xo) : a.up.less = a := by cases a; simp [Xo.up, Xo.less]
theorem less_up (a : Xo) : a.less.up = a := by cases a; simp [Xo.up, Xo.less]
/-- What T has brought about, Back takes back. -/
theorem back_t {a b : Xo} (ha : a.k = 1 ∨ a.k = 2 ∨ a.k = 3) (hp : a.p < 4611686018427387900) : bkO (tO a b) b = (a, true) := by
  unfold bkO
  by_cases h : tO a b = a
  · rw [h, if_pos h]
  · have h2 := (tO_is a b).resolve_left h
    have hb : b.k = 1 := Decidable.byContradiction fun k => h (tO_other k)
    have e := tO_p ha (by omega) hb
    rw [h2] at e ⊢
    have e3 : (tO a.up b).p = a.up.p + 1 := by
      rw [tO_p (a := a.up) (b := b) ha (show a.p + 1 < _ by omega) hb]
      show (if b.p < a.p + 1 ∨ _ then _ else _) = _
      refine if_pos (.inl ?_)
      have e4 : a.p + 1 = _ := e
      split at e4
      · omega
      · omega
    have h4 : ¬ tO a.up b = a.up := fun k => by rw [k] at e3; omega
    rw [if_neg h4, up_less, h2, if_pos rfl]
theorem back_k (a b : Xo) : (bkO a b).1.k = a.k := by
  unfold bkO
  split
  · rfl
  · split <;> rfl
theorem back_r (a b : Xo) : (bkO a b).1.r = a.r := by
  unfold bkO
  split
  · rfl
  · split <;> rfl
theorem back_c (a b : Xo) : (bkO a b).1.c = a.c := by
  unfold bkO
  split
  · rfl
  · split <;> rfl
theorem t_back {a b : Xo} (h : (bkO a b).2 = true) : tO (bkO a b).1 b = a := by
  unfold bkO at h ⊢
  by_cases h1 : tO a b = a
  · rw [if_pos h1]; exact h1
  · rw [if_neg h1] at h ⊢
    by_cases h2 : tO a.less b = a
    · rw [if_pos h2]; exact h2
    · rw [if_neg h2] at h; simp at h
theorem back_no {a b : Xo} (h : (bkO a b).2 = false) : (bkO a b).1 = a := by
  unfold bkO at h ⊢
  by_cases h1 : tO a b = a
  · rw [if_pos h1]
  · rw [if_neg h1] at h ⊢
    by_cases h2 : tO a.less b = a
    · rw [if_pos h2] at h; simp at h
    · rw [if_neg h2]
theorem less_p (a : Xo) : a.less.p = a.p - 1 := rfl
/-- What Back tells is valid ahead of the other. -/
theorem back_valid {l : List El} {a b : Xo} {i : Idn} (ha : validO a l.length = true) (hb : validO b (stepL l a i).length = true) (hl : l.length < 4611686018427387890) (h : (bkO b a).2 = true) : validO (bkO b a).1 l.length = true := by
  obtain ⟨a0, a1⟩ := validO_place ha
  obtain ⟨b0, b1⟩ := validO_place hb
  have hr := validO_right hb
  have kb := rightO_kind hr
  rw [step_len ha] at b1
  have ht := t_back h
  have hrr : rightO (bkO b a).1 = true := by unfold rightO; rw [back_k, back_c, back_r]; exact hr
  by_cases ka : a.k = 1
  · rw [if_pos ka] at b1
    have hx : (bkO b a).1.p = b.p ∨ (bkO b a).1.p = b.p - 1 := by
      unfold bkO
      split
      · exact .inl rfl
      · split
        · exact .inr rfl
        · exact .inl rfl
    have e := tO_p (a := (bkO b a).1) (b := a) (by rw [back_k]; exact kb) (by omega) ka
    rw [ht] at e
    rw [back_k, back_r] at e
    refine validO_of hrr ?_ ?_
    · split at e <;> omega
    · rw [back_k]
      split at e
      · omega
      · rename_i hn
        rcases hx with hx | hx
        · rcases kb with k | k | k
          · by_cases hq : (bkO b a).1.p < l.length
            · exact .inl hq
            · exact .inr ⟨by omega, k⟩
          · refine .inl ?_
            have : ¬ (a.p = (bkO b a).1.p) := fun q => hn (.inr ⟨q, fun k2 => by omega⟩)
            omega
          · refine .inl ?_
            have : ¬ (a.p = (bkO b a).1.p) := fun q => hn (.inr ⟨q, fun k2 => by omega⟩)
            omega
        · omega
  · rw [if_neg ka] at b1
    have e1 : bkO b a = (b, true) := by unfold bkO; rw [if_pos (tO_other ka)]
    rw [e1]
    exact validO_of hr b0 (by simpa using b1)
/-- b goes through a row of others, and they behind it. -/
def passO : List Xo → Xo → List Xo × Xo
  | [], b => ([], b)
  | a :: xs, b => (tO a b :: (passO xs (tO b a)).1, (passO xs (tO b a)).2)
/-- Two rows, each xs it must be behind the other one. -/
def crossO : List Xo → List Xo → List Xo × List Xo
  | xs, [] => (xs, [])
  | xs, b :: bs => ((crossO (passO xs b).1 bs).1, (passO xs b).2 :: (crossO (passO xs b).1 bs).2)
def alongO (a : Xo) (l : List Xo) : Xo := l.foldl tO a
theorem pass_len : ∀ (xs : List Xo) (b : Xo), (passO xs b).1.length = xs.length
  | [], _ => rfl
  | a :: xs, b => by simp [passO, pass_len xs]
theorem cross_len : ∀ (bs xs : List Xo), (crossO xs bs).1.length = xs.length ∧ (crossO xs bs).2.length = bs.length
  | [], _ => ⟨rfl, rfl⟩
  | b :: bs, xs => by
    have h := cross_len bs (passO xs b).1
    simp [crossO, h.1, h.2, pass_len]
/-- Operations with the IDs of what they lay in, one behind the other. -/
def runs : List El → List (Xo × Idn) → List El
  | l, [] => l
  | l, (o, i) :: r => runs (stepL l o i) r
/-- Each is valid where it is done. -/
def okS : List El → List (Xo × Idn) → Prop
  | _, [] => True
  | l, (o, i) :: r => validO o l.length = true ∧ okS (stepL l o i) r
theorem runs_app : ∀ (a b : List (Xo × Idn)) (l : List El), runs l (a ++ b) = runs (runs l a) b
  | [], _, _ => rfl
  | (o, i) :: a, b, l => runs_app a b (stepL l o i)
theorem okS_app : ∀ (a b : List (Xo × Idn)) (l : List El), okS l (a ++ b) ↔ okS l a ∧ okS (runs l a) b
  | [], _, _ => by simp [okS, runs]
  | (o, i) :: a, b, l => by simp [okS, runs, okS_app a b, and_assoc]
theorem runs_len : ∀ (a : List (Xo × Idn)) (l : List El), okS l a → (runs l a).length ≤ l.length + a.length ∧ l.length ≤ (runs l a).length
  | [], _, _ => by simp [runs]
  | (o, i) :: a, l, h => by
    have h1 := runs_len a (stepL l o i) h.2
    rw [step_len h.1] at h1
    simp only [runs, List.length_cons]
    split at h1 <;> omega
/-- One operation and a row of others, both ways. -/
theorem pass_law : ∀ (xs : List Xo) (ia : List Idn) (l : List El) (b : Xo) (j : Idn), xs.length = ia.length → validO b l.length = true → okS l (xs.zip ia) → (∀ a ∈ xs, a.r ≠ b.r) → l.length + xs.length < 4611686018427387800 →
    runs (stepL l b j) ((passO xs b).1.zip ia) = stepL (runs l (xs.zip ia)) (passO xs b).2 j ∧ okS (stepL l b j) ((passO xs b).1.zip ia) ∧ validO (passO xs b).2 (runs l (xs.zip ia)).length = true
  | [], [], l, b, j, _, hb, _, _, _ => by simp [passO, runs, okS, hb]
  | [], _ :: _, _, _, _, h, _, _, _, _ => by simp at h
  | _ :: _, [], _, _, _, h, _, _, _, _ => by simp at h
  | a :: xs, i :: ia, l, b, j, h, hb, hs, hr, hl => by
    simp only [List.zip_cons_cons, okS] at hs
    simp only [List.length_cons] at hl h
    have hab : a.r ≠ b.r := hr a (by simp)
    have ha := hs.1
    have hsl := step_len (i := i) ha
    have hlen : (stepL l a i).length ≤ l.length + 1 := by rw [hsl]; split <;> omega
    have e1 := two_way (i := i) (j := j) ha hb (by omega) hab
    have v1 := valid_t (i := i) hb ha (by omega)
    have v2 := valid_t (i := j) ha hb (by omega)
    have ih := pass_law xs ia (stepL l a i) (tO b a) j (by omega) v1 hs.2 (fun x hx => by rw [tO_r]; exact hr x (by simp [hx])) (by omega)
    simp only [passO, List.zip_cons_cons, runs, okS]
    rw [← e1]
    exact ⟨ih.1, ⟨v2, ih.2.1⟩, ih.2.2⟩
theorem pass_r : ∀ (xs : List Xo) (b : Xo), (passO xs b).1.map Xo.r = xs.map Xo.r ∧ (passO xs b).2.r = b.r
  | [], _ => ⟨rfl, rfl⟩
  | a :: xs, b => by
    have h := pass_r xs (tO b a)
    simp only [passO, List.map_cons, tO_r] at h ⊢
    exact ⟨by rw [h.1], h.2⟩
theorem pass_k : ∀ (xs : List Xo) (b : Xo), (passO xs b).1.map Xo.k = xs.map Xo.k ∧ (passO xs b).2.k = b.k
  | [], _ => ⟨rfl, rfl⟩
  | a :: xs, b => by
    have h := pass_k xs (tO b a)
    simp only [passO, List.map_cons, tO_k] at h ⊢
    exact ⟨by rw [h.1], h.2⟩
theorem cross_k : ∀ (bs xs : List Xo), (crossO xs bs).1.map Xo.k = xs.map Xo.k ∧ (crossO xs bs).2.map Xo.k = bs.map Xo.k
  | [], _ => ⟨rfl, rfl⟩
  | b :: bs, xs => by
    have h := cross_k bs (passO xs b).1
    simp only [crossO, List.map_cons, h.1, h.2, (pass_k xs b).1, (pass_k xs b).2, and_self]
theorem cross_r : ∀ (bs xs : List Xo), (crossO xs bs).1.map Xo.r = xs.map Xo.r ∧ (crossO xs bs).2.map Xo.r = bs.map Xo.r
  | [], _ => ⟨rfl, rfl⟩
  | b :: bs, xs => by
    have h := cross_r bs (passO xs b).1
    simp only [crossO, List.map_cons, h.1, h.2, (pass_r xs b).1, (pass_r xs b).2, and_self]
/-- Two rows of operations, both ways. -/
theorem cross_law : ∀ (bs : List Xo) (ib : List Idn) (xs : List Xo) (ia : List Idn) (l : List El), xs.length = ia.length → bs.length = ib.length → okS l (xs.zip ia) → okS l (bs.zip ib) → (∀ a ∈ xs, ∀ b ∈ bs, a.r ≠ b.r) → l.length + xs.length + bs.length < 4611686018427387800 →
    runs (runs l (bs.zip ib)) ((crossO xs bs).1.zip ia) = runs (runs l (xs.zip ia)) ((crossO xs bs).2.zip ib) ∧ okS (runs l (bs.zip ib)) ((crossO xs bs).1.zip ia) ∧ okS (runs l (xs.zip ia)) ((crossO xs bs).2.zip ib)
  | [], [], xs, ia, l, _, _, h, _, _, _ => by simp [crossO, runs, okS, h]
  | [], _ :: _, _, _, _, _, h, _, _, _, _ => by simp at h
  | _ :: _, [], _, _, _, _, h, _, _, _, _ => by simp at h
  | b :: bs, j :: ib, xs, ia, l, h1, h2, ha, hb, hr, hl => by
    simp only [List.zip_cons_cons, okS] at hb
    simp only [List.length_cons] at h2 hl
    have hsl := step_len (i := j) hb.1
    have hlen : (stepL l b j).length ≤ l.length + 1 := by rw [hsl]; split <;> omega
    obtain ⟨p1, p2, p3⟩ := pass_law xs ia l b j h1 hb.1 ha (fun a h => hr a h b (by simp)) (by omega)
    have hpl := pass_len xs b
    obtain ⟨c1, c2, c3⟩ := cross_law bs ib (passO xs b).1 ia (stepL l b j) (by omega) (by omega) p2 hb.2 (fun a h x hx => by
      have h3 : a.r ∈ (passO xs b).1.map Xo.r := List.mem_map_of_mem h
      rw [(pass_r xs b).1] at h3
      obtain ⟨a', h4, h5⟩ := List.mem_map.1 h3
      rw [← h5]
      exact hr a' h4 x (by simp [hx])) (by omega)
    rw [p1] at c1 c3
    simp only [crossO, List.zip_cons_cons, runs, okS]
    exact ⟨c1, c2, p3, c3⟩
theorem mem_ins {l : List El} {i : Nat} {e x : El} (h : x ∈ insE l i e) : x = e ∨ x ∈ l := by
  unfold insE at h
  rcases List.mem_append.1 h with h | h
  · exact .inr (List.mem_of_mem_take h)
  · rcases List.mem_cons.1 h with h | h
    · exact .inl h
    · exact .inr (List.mem_of_mem_drop h)
theorem at_add {l : List El} {i j : Nat} {d : Int} {x : El} (h : (addE l i d)[j]? = some x) : ∃ e, l[j]? = some e ∧ x.id = e.id ∧ x.ch = e.ch ∧ (x.hd = e.hd ∨ x.hd = e.hd + d) := by
  rw [addE_at] at h
  split at h
  · cases hl : l[j]? with
    | none => rw [hl] at h; simp at h
    | some e =>
      rw [hl] at h
      simp only [Option.map_some, Option.some.injEq] at h
      subst h
      exact ⟨e, rfl, rfl, rfl, .inr rfl⟩
  · exact ⟨x, h, rfl, rfl, .inl rfl⟩
theorem mem_add {l : List El} {i : Nat} {d : Int} {x : El} (h : x ∈ addE l i d) : ∃ e ∈ l, x.id = e.id ∧ x.ch = e.ch ∧ (x.hd = e.hd ∨ x.hd = e.hd + d) := by
  obtain ⟨j, hj⟩ := List.getElem?_of_mem h
  obtain ⟨e, h1, h2⟩ := at_add hj
  exact ⟨e, List.mem_of_getElem? h1, h2⟩
theorem Apart.ins {l : List El} {i : Nat} {e : El} (h : Apart l) (hi : i ≤ l.length) (hf : ∀ x ∈ l, x.id ≠ e.id) : Apart (insE l i e) := by
  intro a b x y hab hx hy
  rw [insE_at hi] at hx hy
  split at hy
  · rw [if_pos (by omega)] at hx
    exact h a b x y hab hx hy
  · split at hy
    · rw [if_pos (by omega)] at hx
      cases hy
      exact hf x (List.mem_of_getElem? hx)
    · split at hx
      · exact h a (b - 1) x y (by omega) hx hy
      · split at hx
        · cases hx
          exact fun q => hf y (List.mem_of_getElem? hy) q.symm
        · exact h (a - 1) (b - 1) x y (by omega) hx hy
theorem Apart.add {l : List El} {i : Nat} {d : Int} (h : Apart l) : Apart (addE l i d) := by
  intro a b x y hab hx hy
  obtain ⟨e, h1, h2, _⟩ := at_add hx
  obtain ⟨f, h3, h4, _⟩ := at_add hy
  rw [h2, h4]
  exact h a b e f hab h1 h3
/-- A row that a model takes, whose Hides are no further than b from 0. -/
structure RowOk (b : Int) (l : List El) : Prop where
  apart : Apart l
  good : ∀ e ∈ l, e.id.In ∧ rightC e.ch = true ∧ -b ≤ e.hd ∧ e.hd ≤ b
theorem RowOk.is {b : Int} {l : List El} (h : RowOk b l) (hb : b ≤ 1099511627776) : ∀ (i : Nat) (e : El), l[i]? = some e → e.Good := fun _ e he => by
  obtain ⟨h1, h2, h3, h4⟩ := h.good e (List.mem_of_getElem? he)
  refine ⟨h1, h2, ?_⟩
  unfold fairH
  simp
  omega
theorem RowOk.step {b : Int} {l : List El} {o : Xo} {i : Idn} (h : RowOk b l) (hb : 0 ≤ b) (hv : validO o l.length = true) (hi : i.In) (hf : o.k = 1 → ∀ e ∈ l, e.id ≠ i) : RowOk (b + 1) (stepL l o i) := by
  obtain ⟨h0, h1⟩ := validO_place hv
  have hr := validO_right hv
  by_cases k : o.k = 1
  · rw [stepL_ins _ _ k]
    have hc : rightC o.c = true := by
      unfold rightO at hr
      rw [if_pos k] at hr
      simp at hr
      exact hr.2
    refine ⟨h.apart.ins (by omega) (fun x hx => hf k x hx), fun e he => ?_⟩
    rcases mem_ins he with rfl | he
    · refine ⟨hi, hc, ?_, ?_⟩
      · show -(b + 1) ≤ (0 : Int); omega
      · show (0 : Int) ≤ b + 1; omega
    · obtain ⟨h1, h2, h3, h4⟩ := h.good e he
      exact ⟨h1, h2, by omega, by omega⟩
  · rw [stepL_add _ _ k]
    refine ⟨h.apart.add, fun e he => ?_⟩
    obtain ⟨x, hx, e1, e2, e3⟩ := mem_add he
    obtain ⟨h1, h2, h3, h4⟩ := h.good x hx
    rw [e1, e2]
    have hby : byO o = 1 ∨ byO o = -1 := by unfold byO; split <;> simp
    exact ⟨h1, h2, by omega, by omega⟩
/-- What each lays in has an ID that is not there. -/
def frS : List El → List (Xo × Idn) → Prop
  | _, [] => True
  | l, (o, i) :: r => (o.k = 1 → ∀ e ∈ l, e.id ≠ i) ∧ i.In ∧ frS (stepL l o i) r
theorem step_ids {l : List El} {o : Xo} {i : Idn} {x : El} (h : x ∈ stepL l o i) : (o.k = 1 ∧ x.id = i) ∨ ∃ e ∈ l, x.id = e.id := by
  by_cases k : o.k = 1
  · rw [stepL_ins _ _ k] at h
    rcases mem_ins h with rfl | h
    · exact .inl ⟨k, rfl⟩
    · exact .inr ⟨x, h, rfl⟩
  · rw [stepL_add _ _ k] at h
    obtain ⟨e, he, e1, _⟩ := mem_add h
    exact .inr ⟨e, he, e1⟩
theorem fr_of : ∀ (zs : List (Xo × Idn)) (l : List El), (∀ e ∈ l, ∀ z ∈ zs, z.1.k = 1 → e.id ≠ z.2) → zs.Pairwise (fun x y => x.1.k = 1 → y.1.k = 1 → x.2 ≠ y.2) → (∀ z ∈ zs, z.2.In) → frS l zs
  | [], _, _, _, _ => trivial
  | (o, i) :: zs, l, h1, h2, h3 => by
    obtain ⟨p1, p2⟩ := List.pairwise_cons.1 h2
    refine ⟨fun k e he => h1 e he (o, i) (by simp) k, h3 (o, i) (by simp), fr_of zs _ (fun e he z hz k => ?_) p2 (fun z hz => h3 z (by simp [hz]))⟩
    rcases step_ids he with ⟨k1, e1⟩ | ⟨x, hx, e1⟩
    · rw [e1]
      exact p1 z hz k1 k
    · rw [e1]
      exact h1 x hx z (by simp [hz]) k
theorem frS_app : ∀ (a b : List (Xo × Idn)) (l : List El), frS l (a ++ b) ↔ frS l a ∧ frS (runs l a) b
  | [], _, _ => by simp [frS, runs]
  | (o, i) :: a, b, l => by simp [frS, runs, frS_app a b, and_assoc]
theorem rowOk_runs : ∀ (zs : List (Xo × Idn)) {b : Int} {l : List El}, RowOk b l → 0 ≤ b → okS l zs → frS l zs → RowOk (b + zs.length) (runs l zs)
  | [], b, _, h, _, _, _ => by simpa [runs] using h
  | (o, i) :: zs, b, l, h, hb, h1, h2 => by
    have h3 := rowOk_runs zs (h.step hb h1.1 h2.2.1 h2.1) (by omega) h1.2 h2.2.2
    simp only [runs, List.length_cons]
    rw [show b + ((zs.length + 1 : Nat) : Int) = b + 1 + zs.length by omega]
    exact h3
/-- Three operations in two orders: the first two changed about, the last two changed about. -/
theorem six_a {l : List El} {x y z : Xo} {i j k : Idn} (hx : validO x l.length = true) (hy : validO y l.length = true) (hz : validO z l.length = true) (hl : l.length < 4611686018427387800) (h1 : x.r ≠ y.r) (h2 : x.r ≠ z.r) (h3 : y.r ≠ z.r) :
    runs l [(x, i), (tO y x, j), (tO (tO z x) (tO y x), k)] = runs l [(y, j), (tO x y, i), (tO (tO z y) (tO x y), k)] := by
  have px := validO_place hx
  have py := validO_place hy
  have pz := validO_place hz
  simp only [runs]
  rw [two_way hx hy (by omega) h1, three_way (rightO_kind (validO_right hx)) (rightO_kind (validO_right hy)) (rightO_kind (validO_right hz)) (by omega) (by omega) (by omega) h1 h2 h3]
theorem six_b {l : List El} {x y z : Xo} {i j k : Idn} (hx : validO x l.length = true) (hy : validO y l.length = true) (hz : validO z l.length = true) (hl : l.length < 4611686018427387800) (h3 : y.r ≠ z.r) :
    runs l [(x, i), (tO y x, j), (tO (tO z x) (tO y x), k)] = runs l [(x, i), (tO z x, k), (tO (tO y x) (tO z x), j)] := by
  have hsl := step_len (i := i) hx
  have hlen : (stepL l x i).length ≤ l.length + 1 := by rw [hsl]; split <;> omega
  simp only [runs]
  exact two_way (valid_t hy hx (by omega)) (valid_t hz hx (by omega)) (by omega) (by rw [tO_r, tO_r]; exact h3)
theorem six_ok {l : List El} {x y z : Xo} {i j k : Idn} (hx : validO x l.length = true) (hy : validO y l.length = true) (hz : validO z l.length = true) (hl : l.length < 4611686018427387800) : okS l [(x, i), (tO y x, j), (tO (tO z x) (tO y x), k)] := by
  have hsl := step_len (i := i) hx
  have hlen : (stepL l x i).length ≤ l.length + 1 := by rw [hsl]; split <;> omega
  have v1 := valid_t (i := i) hy hx (by omega)
  have v2 := valid_t (i := i) hz hx (by omega)
  exact ⟨hx, v1, valid_t v2 v1 (by omega), trivial⟩
end Go.Proofs.YtjalehlmldlooaaGreatDoor
