
/-
  Desks that settle, as lists: no program.
-/
import Derived.Test.YtfgcljpiidhfpaaDoorFl0
namespace Go.Proofs.YtfgcljpiidhfpaaDoor

/-- A vote where there is none yet; a decision; both. -/
def votedR (a : Nat) (h : List Int) (r : Rnd) : Rnd := if openR r = true ∧ en r.vot a = 0 then { r with vot := r.vot.set a (voteR r.cut h) } else r
def decR (n : Nat) (r : Rnd) : Rnd := if openR r = true then { r with dec := verdR r n } else r
def stlR (n a c : Nat) (h : List Int) (r : Rnd) : Rnd := if c = a then decR n (votedR a h r) else votedR a h r
theorem Wd.ext' {V W : Wd} (h1 : ∀ b c, V.d b c = W.d b c) (h2 : ∀ b, V.h b = W.h b) : V = W := by
  cases V; cases W
  simp only at h1 h2
  congr
  · funext b c; exact h1 b c
  · funext b; exact h2 b
theorem Wd.d_self (W : Wd) (a : Nat) (R : Nat → Rnd) : (W.setD a R).d a = R := if_pos rfl
theorem Wd.d_ne (W : Wd) {a b : Nat} (R : Nat → Rnd) (h : b ≠ a) : (W.setD a R).d b = W.d b := if_neg h
theorem Wd.setD_setR (W : Wd) (a c : Nat) (R : Nat → Rnd) (x : Rnd) : (W.setD a R).setR a c x = W.setD a fun e => if e = c then x else R e := by
  refine Wd.ext' (fun b e => ?_) fun _ => rfl
  show (if b = a ∧ e = c then x else (if b = a then R else W.d b) e) = (if b = a then (fun e => if e = c then x else R e) else W.d b) e
  by_cases hb : b = a
  · subst hb
    rw [if_pos rfl, if_pos rfl]
    by_cases he : e = c
    · rw [if_pos ⟨rfl, he⟩, if_pos he]
    · rw [if_neg (fun q => he q.2), if_neg he]
  · rw [if_neg (fun q => hb q.1), if_neg hb, if_neg hb]
theorem Wd.setD_id (W : Wd) (a : Nat) : W.setD a (W.d a) = W := by
  refine Wd.ext' (fun b e => ?_) fun _ => rfl
  show (if b = a then W.d a else W.d b) e = W.d b e
  split
  · rename_i h; rw [h]
  · rfl
theorem Wd.setD_congr (W : Wd) (a : Nat) {R T : Nat → Rnd} (h : ∀ e, R e = T e) : W.setD a R = W.setD a T := by rw [show R = T from funext h]
/-- All votes of one desk. -/
theorem Fi.votes {n : Nat} {G : Gh} {S : List (Nat → Rnd)} {W : Wd} (F : Fi n G S W) {a : Nat} (ha : a < n) : ∀ k, k ≤ n → ∃ G', Fi n G' S (W.setD a fun c => if c < k then votedR a (W.h a) (W.d a c) else W.d a c) ∧ G'.dec = G.dec
  | 0, _ => ⟨G, by
    rw [W.setD_congr a (T := W.d a) fun e => if_neg (by omega), Wd.setD_id]; exact F, rfl⟩
  | k + 1, hk => by
    obtain ⟨G1, F1, hG⟩ := F.votes ha k (by omega)
    have n8 := F.n8
    have hrow : ((W.setD a fun c => if c < k then votedR a (W.h a) (W.d a c) else W.d a c).d a k) = W.d a k := by
      rw [Wd.d_self]; exact if_neg (by omega)
    have hhh : (W.setD a fun c => if c < k then votedR a (W.h a) (W.d a c) else W.d a c).h a = W.h a := rfl
    by_cases hv : openR (W.d a k) = true ∧ en (W.d a k).vot a = 0
    · have F2 := F1.vote (c0 := k) ha (by omega) (by rw [hrow]; exact hv.1) (by rw [hrow]; exact hv.2)
      rw [hrow, hhh, Wd.setD_setR] at F2
      rw [W.setD_congr a (T := fun c => if c < k + 1 then votedR a (W.h a) (W.d a c) else W.d a c)] at F2
      · exact ⟨_, F2, hG⟩
      · intro e
        by_cases h1 : e = k
        · subst h1
          rw [if_pos rfl, if_pos (by omega)]
          unfold votedR; rw [if_pos hv]
        · rw [if_neg h1]
          by_cases h2 : e < k
          · rw [if_pos h2, if_pos (by omega)]
          · rw [if_neg h2, if_neg (by omega)]
    · refine ⟨G1, ?_, hG⟩
      rw [W.setD_congr a (T := fun c => if c < k + 1 then votedR a (W.h a) (W.d a c) else W.d a c)] at F1
      · exact F1
      · intro e
        by_cases h1 : e = k
        · subst h1
          rw [if_neg (by omega), if_pos (by omega)]
          unfold votedR; rw [if_neg hv]
        · by_cases h2 : e < k
          · rw [if_pos h2, if_pos (by omega)]
          · rw [if_neg h2, if_neg (by omega)]
/-- What a commit finds. -/
def CutQ (n : Nat) (W : Wd) : Prop := ∀ a c, a < n → c < n → (W.d a c).dec = 1 → ∀ b, b < n → W.h b = (W.d a c).cut ∧ (b ≠ a → ∃ e, e < 8 ∧ openR (W.d b e) = true ∧ en (W.d b e).vot b = 1)
theorem Fi.noCommit {n : Nat} {G : Gh} {S : List (Nat → Rnd)} {W : Wd} (F : Fi n G S W) (hG : ∀ c N, G.dec c N ≠ 1) {a c : Nat} (ha : a < n) (hc : c < 8) : (W.d a c).dec ≠ 1 := by
  rcases (F.kn a c ha hc).dec with e | e
  · rw [e]; decide
  · rw [e]; exact hG c _
theorem Fi.cutNo {n : Nat} {G : Gh} {S : List (Nat → Rnd)} {W : Wd} (F : Fi n G S W) (hG : ∀ c N, G.dec c N ≠ 1) : CutQ n W := fun a c ha hc h => absurd h (F.noCommit hG ha (by have := F.n8; omega))
/-- A desk settles. -/
theorem Fi.settle {n : Nat} {G : Gh} {S : List (Nat → Rnd)} {W : Wd} (F : Fi n G S W) (hG : ∀ c N, G.dec c N ≠ 1) {a : Nat} (ha : a < n) :
    ∃ G', Fi n G' S (W.setD a fun c => if c < n then stlR n a c (W.h a) (W.d a c) else W.d a c) ∧ ((∀ c N, G'.dec c N ≠ 1) ∨ (((W.setD a fun c => if c < n then stlR n a c (W.h a) (W.d a c) else W.d a c).d a a).dec = 1 ∧ CutQ n (W.setD a fun c => if c < n then stlR n a c (W.h a) (W.d a c) else W.d a c))) := by
  have n8 := F.n8
  obtain ⟨G1, F1, hG1⟩ := F.votes ha n (Nat.le_refl _)
  obtain ⟨W1, hW1⟩ : ∃ W1, (W.setD a fun c => if c < n then votedR a (W.h a) (W.d a c) else W.d a c) = W1 := ⟨_, rfl⟩
  rw [hW1] at F1
  have hG1' : ∀ c N, G1.dec c N ≠ 1 := fun c N => by rw [hG1]; exact hG c N
  have hy : W1.d a a = votedR a (W.h a) (W.d a a) := by rw [← hW1, Wd.d_self]; exact if_pos ha
  obtain ⟨y, hyy⟩ : ∃ y, votedR a (W.h a) (W.d a a) = y := ⟨_, rfl⟩
  rw [hyy] at hy
  have hW2 : (W.setD a fun c => if c < n then stlR n a c (W.h a) (W.d a c) else W.d a c) = W1.setR a a (decR n y) := by
    rw [← hW1, Wd.setD_setR]
    refine W.setD_congr a fun e => ?_
    by_cases h1 : e = a
    · subst h1
      rw [if_pos ha, if_pos rfl]
      unfold stlR; rw [if_pos rfl, hyy]
    · rw [if_neg h1]
      by_cases h2 : e < n
      · rw [if_pos h2, if_pos h2]; unfold stlR; rw [if_neg h1]
      · rw [if_neg h2, if_neg h2]
  rw [hW2]
  by_cases ho : openR y = true
  · have hd : decR n y = { y with dec := verdR y n } := if_pos ho
    have F2 := F1.decide ha (by rw [hy]; exact ho)
    rw [hy] at F2
    rw [hd]
    refine ⟨_, F2, ?_⟩
    by_cases hv : verdR y n = 1
    · right
      refine ⟨by rw [Wd.r_self]; exact hv, fun a' c' ha' hc' hdec b hb => ?_⟩
      have hcom := F1.commits ha (by rw [hy]; exact ho) (by rw [hy]; exact hv)
      by_cases e : a' = a ∧ c' = a
      · obtain ⟨rfl, rfl⟩ := e
        rw [Wd.r_self]
        obtain ⟨q1, q2, q3⟩ := hcom b hb
        rw [hy] at q1
        refine ⟨q1, fun hne => ⟨c', by omega, ?_⟩⟩
        rw [Wd.r_ne _ _ (fun q => hne q.1)]
        exact ⟨q2, q3⟩
      · rw [Wd.r_ne _ _ e] at hdec
        exact absurd hdec (F1.noCommit hG1' ha' (by omega))
    · left
      intro c N
      show (if c = a ∧ N = y.num then verdR y n else G1.dec c N) ≠ 1
      split
      · exact hv
      · exact hG1' c N
  · have hd : decR n y = y := if_neg ho
    rw [hd, ← hy]
    have : W1.setR a a (W1.d a a) = W1 := by
      refine Wd.ext' (fun b e => ?_) fun _ => rfl
      show (if b = a ∧ e = a then W1.d a a else W1.d b e) = W1.d b e
      split
      · rename_i h; rw [h.1, h.2]
      · rfl
    rw [this]
    exact ⟨G1, F1, .inl hG1'⟩

/-- Desks and clocks as lists. -/
def fnOf (l : List Rnd) : Nat → Rnd := fun c => l.getD c rnd0
def wdOf (Ls : List (List Rnd)) (hs : List (List Int)) : Wd := ⟨fun a => fnOf (Ls.getD a []), fun a => hs.getD a z8⟩
theorem getD_set' {α : Type} (l : List α) (a b : Nat) (x d : α) (h : a < l.length) : (l.set a x).getD b d = if b = a then x else l.getD b d := by
  simp only [List.getD_eq_getElem?_getD, List.getElem?_set]
  by_cases e : a = b
  · subst e; simp [h]
  · have : ¬ b = a := fun q => e q.symm
    simp [e, this]
theorem wdOf_set {Ls : List (List Rnd)} (hs : List (List Int)) {a : Nat} (h : a < Ls.length) (l : List Rnd) : wdOf (Ls.set a l) hs = (wdOf Ls hs).setD a (fnOf l) := by
  refine Wd.ext' (fun b e => ?_) fun _ => rfl
  show fnOf ((Ls.set a l).getD b []) e = (if b = a then fnOf l else fnOf (Ls.getD b [])) e
  rw [getD_set' _ _ _ _ _ h]
  split <;> rfl
theorem wdOf_setH (Ls : List (List Rnd)) {hs : List (List Int)} {a : Nat} (h : a < hs.length) (x : List Int) : wdOf Ls (hs.set a x) = (wdOf Ls hs).setH a x := by
  refine Wd.ext' (fun _ _ => rfl) fun b => ?_
  show (hs.set a x).getD b z8 = if b = a then x else hs.getD b z8
  rw [getD_set' _ _ _ _ _ h]
theorem fnOf_set {l : List Rnd} {a : Nat} (h : a < l.length) (r : Rnd) (e : Nat) : fnOf (l.set a r) e = if e = a then r else fnOf l e := getD_set' _ _ _ _ _ h
theorem fnOf_at {l : List Rnd} {c : Nat} {r : Rnd} (h : l[c]? = some r) : fnOf l c = r := by unfold fnOf; rw [List.getD_eq_getElem?_getD, h]; rfl
theorem fnOf_out {l : List Rnd} {c : Nat} (h : l.length ≤ c) : fnOf l c = rnd0 := by unfold fnOf; rw [List.getD_eq_getElem?_getD, List.getElem?_eq_none h]; rfl
theorem fnOf_join {a b : List Rnd} (oa : OkL a) (ob : OkL b) (c : Nat) : fnOf (joinL a b) c = joinR (fnOf a c) (fnOf b c) := by
  by_cases hc : c < 8
  · obtain ⟨x, hx, _⟩ := oa.at hc
    obtain ⟨y, hy, _⟩ := ob.at hc
    rw [fnOf_at hx, fnOf_at hy, fnOf_at (joinL_get hx hy)]
  · rw [fnOf_out (by rw [(joinL_ok oa ob).1]; omega), fnOf_out (by rw [oa.1]; omega), fnOf_out (by rw [ob.1]; omega), joinR_self rnd0_ok]
/-- What holds of a session while it goes on (k moves). -/
structure PlI (n : Nat) (Ls : List (List Rnd)) (hs : List (List Int)) (Ss : List (List Rnd)) (k : Nat) : Prop where
  n1 : 1 ≤ n
  n8 : n ≤ 8
  lL : Ls.length = n
  lh : hs.length = n
  okL : ∀ l ∈ Ls, OkL l
  okh : ∀ h ∈ hs, h.length = 8 ∧ ∀ j, j < 8 → 0 ≤ en h j ∧ en h j ≤ (k : Int)
  okS : ∀ l ∈ Ss, OkL l
  fi : ∃ G, Fi n G (Ss.map fnOf) (wdOf Ls hs) ∧ ∀ c N, G.dec c N ≠ 1
/-- What is known at its end. -/
structure PlR (n : Nat) (Ls : List (List Rnd)) (hs : List (List Int)) (Ss : List (List Rnd)) : Prop where
  n1 : 1 ≤ n
  n8 : n ≤ 8
  lL : Ls.length = n
  lh : hs.length = n
  okL : ∀ l ∈ Ls, OkL l
  okh : ∀ h ∈ hs, h.length = 8
  okS : ∀ l ∈ Ss, OkL l
  fi : ∃ G, Fi n G (Ss.map fnOf) (wdOf Ls hs)
  cut : CutQ n (wdOf Ls hs)
theorem PlI.done {n k : Nat} {Ls : List (List Rnd)} {hs : List (List Int)} {Ss : List (List Rnd)} (h : PlI n Ls hs Ss k) : PlR n Ls hs Ss := by
  obtain ⟨G, F, hG⟩ := h.fi
  exact ⟨h.n1, h.n8, h.lL, h.lh, h.okL, fun x hx => (h.okh x hx).1, h.okS, ⟨G, F⟩, F.cutNo hG⟩
theorem mem_set' {α : Type} {l : List α} {a : Nat} {x y : α} (h : y ∈ l.set a x) : y ∈ l ∨ y = x := List.mem_or_eq_of_mem_set h
theorem PlI.setL {n k : Nat} {Ls : List (List Rnd)} {hs : List (List Int)} {Ss : List (List Rnd)} (h : PlI n Ls hs Ss k) {a : Nat} {l : List Rnd} (ol : OkL l) (hf : ∃ G, Fi n G (Ss.map fnOf) ((wdOf Ls hs).setD a (fnOf l)) ∧ ∀ c N, G.dec c N ≠ 1) (ha : a < n) : PlI n (Ls.set a l) hs Ss k :=
  ⟨h.n1, h.n8, by rw [List.length_set]; exact h.lL, h.lh, fun x hx => (mem_set' hx).elim (h.okL x) (fun e => e ▸ ol), h.okh, h.okS, by rw [wdOf_set hs (by rw [h.lL]; exact ha)]; exact hf⟩
theorem PlI.up {n k : Nat} {Ls : List (List Rnd)} {hs : List (List Int)} {Ss : List (List Rnd)} (h : PlI n Ls hs Ss k) : PlI n Ls hs Ss (k + 1) :=
  ⟨h.n1, h.n8, h.lL, h.lh, h.okL, fun x hx => ⟨(h.okh x hx).1, fun j hj => by have := (h.okh x hx).2 j hj; omega⟩, h.okS, h.fi⟩
theorem wdOf_d {Ls : List (List Rnd)} (hs : List (List Int)) {a : Nat} {l : List Rnd} (h : Ls[a]? = some l) : (wdOf Ls hs).d a = fnOf l := by
  show fnOf (Ls.getD a []) = fnOf l
  rw [List.getD_eq_getElem?_getD, h]; rfl
theorem wdOf_h (Ls : List (List Rnd)) {hs : List (List Int)} {a : Nat} {x : List Int} (h : hs[a]? = some x) : (wdOf Ls hs).h a = x := by
  show hs.getD a z8 = x
  rw [List.getD_eq_getElem?_getD, h]; rfl
/-- A desk proposes. -/
theorem PlI.propose {n k : Nat} {Ls : List (List Rnd)} {hs : List (List Int)} {Ss : List (List Rnd)} (h : PlI n Ls hs Ss k) {a : Nat} (ha : a < n) {l : List Rnd} {x : List Int} {r : Rnd} (hl : Ls[a]? = some l) (hx : hs[a]? = some x) (hr : l[a]? = some r) : PlI n (Ls.set a (l.set a ⟨r.num + 1, x, z8, 0⟩)) hs Ss k := by
  obtain ⟨G, F, hG⟩ := h.fi
  have n8 := h.n8
  have ol := h.okL l (List.mem_of_getElem? hl)
  have F2 := F.propose ha
  rw [wdOf_d hs hl, wdOf_h Ls hx, fnOf_at hr] at F2
  refine h.setL (ol.set a ⟨(h.okh x (List.mem_of_getElem? hx)).1, rfl⟩) ⟨{ G with cut := fun c N => if c = a ∧ N = r.num + 1 then x else G.cut c N }, ?_, fun c N => hG c N⟩ ha
  rw [show (wdOf Ls hs).setD a (fnOf (l.set a ⟨r.num + 1, x, z8, 0⟩)) = (wdOf Ls hs).setR a a ⟨r.num + 1, x, z8, 0⟩ by
    have := (wdOf Ls hs).setD_setR a a ((wdOf Ls hs).d a) ⟨r.num + 1, x, z8, 0⟩
    rw [Wd.setD_id] at this
    rw [this, wdOf_d hs hl]
    exact Wd.setD_congr _ _ fun e => fnOf_set (by rw [ol.1]; omega) _ e]
  exact F2
/-- A desk joins what another one knows, or what was said. -/
theorem PlI.join {n k : Nat} {Ls : List (List Rnd)} {hs : List (List Int)} {Ss : List (List Rnd)} (h : PlI n Ls hs Ss k) {a : Nat} (ha : a < n) {l m : List Rnd} (hl : Ls[a]? = some l) (hm : (∃ b, b < n ∧ Ls[b]? = some m) ∨ m ∈ Ss) : PlI n (Ls.set a (joinL l m)) hs Ss k := by
  obtain ⟨G, F, hG⟩ := h.fi
  have n8 := h.n8
  have ol := h.okL l (List.mem_of_getElem? hl)
  have om : OkL m := hm.elim (fun ⟨b, _, q⟩ => h.okL m (List.mem_of_getElem? q)) (fun q => h.okS m q)
  have hR : ∀ c, c < 8 → Kn n G c (fnOf m c) ∧ (c < n → (fnOf m c).num ≤ ((wdOf Ls hs).d c c).num) := by
    intro c hc
    rcases hm with ⟨b, hb, q⟩ | q
    · have e := wdOf_d hs q
      rw [← e]
      exact ⟨F.kn b c hb hc, fun hcn => F.own b c hb hcn⟩
    · exact F.sd (fnOf m) (List.mem_map.2 ⟨m, q, rfl⟩) c hc
  have F2 := F.join ha hR
  refine h.setL (joinL_ok ol om) ⟨G, ?_, hG⟩ ha
  rw [Wd.setD_congr _ a (T := fun c => joinR ((wdOf Ls hs).d a c) (fnOf m c))]
  · exact F2
  · intro e; rw [wdOf_d hs hl]; exact fnOf_join ol om e
theorem PlI.setHs {n k : Nat} {Ls : List (List Rnd)} {hs : List (List Int)} {Ss : List (List Rnd)} (h : PlI n Ls hs Ss k) {a : Nat} {x : List Int} (ha : a < n) (hx : x.length = 8) (hb : ∀ j, j < 8 → 0 ≤ en x j ∧ en x j ≤ ((k + 1 : Nat) : Int)) (hf : ∃ G, Fi n G (Ss.map fnOf) ((wdOf Ls hs).setH a x) ∧ ∀ c N, G.dec c N ≠ 1) : PlI n Ls (hs.set a x) Ss (k + 1) :=
  ⟨h.n1, h.n8, h.lL, by rw [List.length_set]; exact h.lh, h.okL, fun y hy => (mem_set' hy).elim (fun q => (h.up.okh y q)) (fun e => by subst e; exact ⟨hx, hb⟩), h.okS, by rw [wdOf_setH Ls (by rw [h.lh]; exact ha)]; exact hf⟩
/-- One act more of one's own, where one is not frozen. -/
theorem PlI.act {n k : Nat} {Ls : List (List Rnd)} {hs : List (List Int)} {Ss : List (List Rnd)} (h : PlI n Ls hs Ss k) {a : Nat} (ha : a < n) {l : List Rnd} {x : List Int} (hl : Ls[a]? = some l) (hx : hs[a]? = some x) (hf : ∀ (c : Nat) (r : Rnd), l[c]? = some r → openR r = true → en r.vot a ≠ 1) : PlI n Ls (hs.set a (x.set a (en x a + 1))) Ss (k + 1) := by
  obtain ⟨G, F, hG⟩ := h.fi
  have n8 := h.n8
  have hxx := h.okh x (List.mem_of_getElem? hx)
  have e : ∀ j, en (x.set a (en x a + 1)) j = if j = a then en x a + 1 else en x j := fun j => getD_set _ _ _ _ (by rw [hxx.1]; omega)
  have hw := wdOf_h Ls hx
  refine h.setHs ha (by rw [List.length_set]; exact hxx.1) (fun j hj => ?_) ⟨G, F.grow ha (by rw [List.length_set]; exact hxx.1) (fun j hj => ?_) (fun j hj hne => ?_) (fun j h1 h2 => ?_) (.inr fun c hc ho hv => ?_), hG⟩
  · rw [e]
    have h1 := hxx.2 j hj
    have h2 := hxx.2 a (by omega)
    split <;> omega
  · rw [hw, e]
    split
    · rename_i q; rw [q]; omega
    · exact Int.le_refl _
  · rw [e, if_neg hne, ← hw]
    exact F.hh a j ha hj
  · rw [e, if_neg (by omega), ← hw]
    exact F.hz a j ha h1 h2
  · rw [wdOf_d hs hl] at ho hv
    obtain ⟨r, hr, _⟩ := (h.okL l (List.mem_of_getElem? hl)).at hc
    rw [fnOf_at hr] at ho hv
    exact hf c r hr ho hv
/-- What another one has. -/
theorem PlI.take {n k : Nat} {Ls : List (List Rnd)} {hs : List (List Int)} {Ss : List (List Rnd)} (h : PlI n Ls hs Ss k) {a b : Nat} (ha : a < n) (hb : b < n) {x y : List Int} (hx : hs[a]? = some x) (hy : hs[b]? = some y) : PlI n Ls (hs.set a (mrg x y)) Ss (k + 1) := by
  obtain ⟨G, F, hG⟩ := h.fi
  have n8 := h.n8
  have hxx := h.okh x (List.mem_of_getElem? hx)
  have hyy := h.okh y (List.mem_of_getElem? hy)
  have e : ∀ j, j < 8 → en (mrg x y) j = mx (en x j) (en y j) := fun j hj => mrg_get hxx.1 hyy.1 hj
  have hw := wdOf_h Ls hx
  have hw2 := wdOf_h Ls hy
  refine h.setHs ha (mrg_len hxx.1 hyy.1) (fun j hj => ?_) ⟨G, F.grow ha (mrg_len hxx.1 hyy.1) (fun j hj => ?_) (fun j hj hne => ?_) (fun j h1 h2 => ?_) (.inl ?_), hG⟩
  · rw [e j hj]
    have h1 := hxx.2 j hj
    have h2 := hyy.2 j hj
    unfold mx
    split <;> omega
  · rw [hw, e j hj]; unfold mx; split <;> omega
  · rw [e j (by omega)]
    have h1 := F.hh a j ha hj
    have h2 := F.hh b j hb hj
    rw [hw] at h1
    rw [hw2] at h2
    unfold mx
    split <;> assumption
  · rw [e j h2]
    have q1 := F.hz a j ha h1 h2
    have q2 := F.hz b j hb h1 h2
    rw [hw] at q1
    rw [hw2] at q2
    rw [q1, q2]; rfl
  · rw [e a (by omega), hw]
    have h2 := F.hh b a hb ha
    rw [hw2, hw] at h2
    unfold mx
    split <;> omega
/-- A desk settles, and what it knows is written down. -/
theorem PlI.settle {n k : Nat} {Ls : List (List Rnd)} {hs : List (List Int)} {Ss : List (List Rnd)} (h : PlI n Ls hs Ss k) {a : Nat} (ha : a < n) {l m : List Rnd} {x : List Int} (hl : Ls[a]? = some l) (hx : hs[a]? = some x) (om : OkL m) (hm : ∀ c r, l[c]? = some r → m[c]? = some (if c < n then stlR n a c x r else r)) :
    PlR n (Ls.set a m) hs (Ss ++ [m]) ∧ ((∀ r ∈ m, r.dec ≠ 1) → PlI n (Ls.set a m) hs (Ss ++ [m]) k) := by
  obtain ⟨G, F, hG⟩ := h.fi
  have n8 := h.n8
  have ol := h.okL l (List.mem_of_getElem? hl)
  obtain ⟨G2, F2, hor⟩ := F.settle hG ha
  rw [wdOf_d hs hl, wdOf_h Ls hx] at F2 hor
  have hfn : ∀ e, (if e < n then stlR n a e x (fnOf l e) else fnOf l e) = fnOf m e := fun e => by
    by_cases he : e < 8
    · obtain ⟨r, hr, _⟩ := ol.at he
      rw [fnOf_at hr, fnOf_at (hm e r hr)]
    · rw [if_neg (by omega), fnOf_out (by rw [ol.1]; omega), fnOf_out (by rw [om.1]; omega)]
  rw [Wd.setD_congr _ a hfn, ← wdOf_set hs (by rw [h.lL]; exact ha)] at F2 hor
  have hla : (Ls.set a m)[a]? = some m := by rw [List.getElem?_set, if_pos rfl, if_pos (by rw [h.lL]; exact ha)]
  have F3 := F2.say ha
  rw [wdOf_d hs hla, show (Ss.map fnOf ++ [fnOf m]) = (Ss ++ [m]).map fnOf by simp] at F3
  have okL2 : ∀ y ∈ Ls.set a m, OkL y := fun y hy => (mem_set' hy).elim (h.okL y) (fun e => e ▸ om)
  have okS2 : ∀ y ∈ Ss ++ [m], OkL y := fun y hy => (List.mem_append.1 hy).elim (h.okS y) (fun q => by rw [List.mem_singleton.1 q]; exact om)
  have ll2 : (Ls.set a m).length = n := by rw [List.length_set]; exact h.lL
  constructor
  · refine ⟨h.n1, h.n8, ll2, h.lh, okL2, fun y hy => (h.okh y hy).1, okS2, ⟨G2, F3⟩, ?_⟩
    rcases hor with q | q
    · exact F2.cutNo q
    · exact q.2
  · intro hno
    rcases hor with q | q
    · exact ⟨h.n1, h.n8, ll2, h.lh, okL2, h.okh, okS2, ⟨G2, F3, q⟩⟩
    · obtain ⟨r, hr, _⟩ := om.at (i := a) (by omega)
      have := q.1
      rw [wdOf_d hs hla, fnOf_at hr] at this
      exact absurd this (hno r (List.mem_of_getElem? hr))
theorem PlI.start {n : Nat} (n1 : 1 ≤ n) (n8 : n ≤ 8) : PlI n (List.replicate n rds0) (List.replicate n z8) [] 0 := by
  refine ⟨n1, n8, by simp, by simp, fun l hl => by rw [List.eq_of_mem_replicate hl]; exact rds0_ok, fun h hh => ?_, (fun l hl => by cases hl), ?_⟩
  · rw [List.eq_of_mem_replicate hh]
    exact ⟨rfl, fun j _ => by rw [en_z8]; exact ⟨Int.le_refl _, Int.le_refl _⟩⟩
  · have F := Fi.start (n := n) n8
    refine ⟨⟨fun _ _ => z8, fun _ _ _ => 0, fun _ _ => 0⟩, ?_, fun _ _ q => by cases q⟩
    rw [show wdOf (List.replicate n rds0) (List.replicate n z8) = ⟨fun _ _ => rnd0, fun _ => z8⟩ by
      refine Wd.ext' (fun b e => ?_) fun b => ?_
      · show fnOf ((List.replicate n rds0).getD b []) e = rnd0
        have hz : ∀ e, fnOf rds0 e = rnd0 := fun e => by
          unfold fnOf rds0
          rw [List.getD_eq_getElem?_getD, List.getElem?_replicate]
          split <;> rfl
        rw [List.getD_eq_getElem?_getD, List.getElem?_replicate]
        split
        · exact hz e
        · rfl
      · show (List.replicate n z8).getD b z8 = z8
        rw [List.getD_eq_getElem?_getD, List.getElem?_replicate]
        split <;> rfl]
    exact F
end Go.Proofs.YtfgcljpiidhfpaaDoor
