
/-
  Desks that propose, vote and decide: no program, plain functions. What everybody knows of one round agrees; a commit has every Yes, and every clock is the cut then.
-/
import Derived.Test.YtfgcljpiidhfpaaDoorFp
namespace Go.Proofs.YtfgcljpiidhfpaaDoor

def openR (r : Rnd) : Bool := decide (1 ≤ r.num) && r.dec == 0
/-- Vote, Verdict (of eight or fewer). -/
def voteR (cut have_ : List Int) : Int := if cut = have_ then 1 else if !cov cut have_ then 2 else 0
def verdR (r : Rnd) (n : Nat) : Int := if (List.range n).any (fun i => en r.vot i == 2) then 2 else if (List.range n).all (fun i => en r.vot i == 1) then 1 else 0
/-- Desks and clocks. -/
structure Wd where
  d : Nat → Nat → Rnd
  h : Nat → List Int
/-- What is said of a round, once for all. -/
structure Gh where
  cut : Nat → Int → List Int
  vot : Nat → Int → Nat → Int
  dec : Nat → Int → Int
/-- What somebody knows of a coordinator's round fits. -/
structure Kn (n : Nat) (G : Gh) (c : Nat) (x : Rnd) : Prop where
  ok : x.Ok
  pos : 0 ≤ x.num
  cut : x.cut = G.cut c x.num
  vot : ∀ v, v < 8 → en x.vot v = 0 ∨ en x.vot v = G.vot c x.num v
  dec : x.dec = 0 ∨ x.dec = G.dec c x.num
  all : x.dec = 1 → ∀ v, v < n → en x.vot v = 1
/-- What holds of desks. -/
structure Fi (n : Nat) (G : Gh) (S : List (Nat → Rnd)) (W : Wd) : Prop where
  n8 : n ≤ 8
  v0 : ∀ c N v, 0 ≤ G.vot c N v
  d0 : ∀ c N, 0 ≤ G.dec c N
  cz : ∀ c N k, c < n → n ≤ k → k < 8 → en (G.cut c N) k = 0
  sd : ∀ R ∈ S, ∀ c, c < 8 → Kn n G c (R c) ∧ (c < n → (R c).num ≤ (W.d c c).num)
  kn : ∀ a c, a < n → c < 8 → Kn n G c (W.d a c)
  own : ∀ a c, a < n → c < n → (W.d a c).num ≤ (W.d c c).num
  votO : ∀ v c, v < n → c < 8 → en (W.d v c).vot v = G.vot c (W.d v c).num v
  votN : ∀ v c N, v < n → c < 8 → (W.d v c).num < N → G.vot c N v = 0
  decO : ∀ c, c < n → (W.d c c).dec = G.dec c (W.d c c).num
  decN : ∀ c N, c < n → (W.d c c).num < N → G.dec c N = 0
  hl : ∀ a, a < n → (W.h a).length = 8
  hh : ∀ a b, a < n → b < n → en (W.h a) b ≤ en (W.h b) b
  hz : ∀ a k, a < n → n ≤ k → k < 8 → en (W.h a) k = 0
  yes : ∀ b c, b < n → c < 8 → openR (W.d b c) = true → en (W.d b c).vot b = 1 → en (W.h b) b = en (W.d b c).cut b ∧ ∀ k, k < 8 → en (W.d b c).cut k ≤ en (W.h b) k
/-- Two that fit fit joined. -/
theorem Kn.join {n : Nat} {G : Gh} {c : Nat} {x y : Rnd} (hx : Kn n G c x) (hy : Kn n G c y) (n8 : n ≤ 8) (h0 : ∀ N v, 0 ≤ G.vot c N v) : Kn n G c (joinR x y) := by
  rcases Int.lt_trichotomy x.num y.num with h | h | h
  · rw [joinR_gt h]; exact hy
  · have hv : ∀ v, v < 8 → en (mrg x.vot y.vot) v = mx (en x.vot v) (en y.vot v) := fun v hv => mrg_get hx.ok.2 hy.ok.2 hv
    rw [joinR_eq h.symm]
    refine ⟨⟨mrg_len hx.ok.1 hy.ok.1, mrg_len hx.ok.2 hy.ok.2⟩, hx.pos, ?_, fun v hv8 => ?_, ?_, fun hd v hvn => ?_⟩
    · show mrg x.cut y.cut = G.cut c x.num
      rw [hx.cut, hy.cut, ← h, mrg_self (by rw [← hx.cut]; exact hx.ok.1)]
    · show en (mrg x.vot y.vot) v = 0 ∨ en (mrg x.vot y.vot) v = G.vot c x.num v
      rw [hv v hv8]
      have a1 := hx.vot v hv8
      have a2 := hy.vot v hv8
      rw [← h] at a2
      have := h0 x.num v
      unfold mx
      split <;> omega
    · show mx x.dec y.dec = 0 ∨ mx x.dec y.dec = G.dec c x.num
      have a1 := hx.dec
      have a2 := hy.dec
      rw [← h] at a2
      unfold mx
      split <;> omega
    · show en (mrg x.vot y.vot) v = 1
      have hv8 : v < 8 := by omega
      rw [hv v hv8]
      have hd' : mx x.dec y.dec = 1 := hd
      have a1 := hx.vot v hv8
      have a2 := hy.vot v hv8
      rw [← h] at a2
      have e : x.dec = 1 ∨ y.dec = 1 := by unfold mx at hd'; split at hd' <;> omega
      unfold mx
      rcases e with e | e
      · have := hx.all e v hvn
        split <;> omega
      · have := hy.all e v hvn
        split <;> omega
  · rw [joinR_lt h]; exact hx
/-- Of one round nobody knows another cut, vote or decision. -/
theorem Kn.agree {n : Nat} {G : Gh} {c : Nat} {x y : Rnd} (hx : Kn n G c x) (hy : Kn n G c y) (h : x.num = y.num) : x.cut = y.cut ∧ (x.dec ≠ 0 → y.dec ≠ 0 → x.dec = y.dec) ∧ ∀ v, v < 8 → en x.vot v ≠ 0 → en y.vot v ≠ 0 → en x.vot v = en y.vot v := by
  refine ⟨by rw [hx.cut, hy.cut, h], fun h1 h2 => ?_, fun v hv h1 h2 => ?_⟩
  · have a1 := hx.dec
    have a2 := hy.dec
    rw [← h] at a2
    omega
  · have a1 := hx.vot v hv
    have a2 := hy.vot v hv
    rw [← h] at a2
    omega
/-- Where all have voted Yes on an open round, every clock is the cut. -/
theorem Fi.cutAll {n : Nat} {G : Gh} {S : List (Nat → Rnd)} {W : Wd} (F : Fi n G S W) {c : Nat} (hc : c < n) (ho : ∀ b, b < n → (W.d b c).num = (W.d c c).num ∧ openR (W.d b c) = true ∧ en (W.d b c).vot b = 1) : ∀ b, b < n → W.h b = (W.d c c).cut := by
  have n8 := F.n8
  have hcut : ∀ b, b < n → (W.d b c).cut = (W.d c c).cut := fun b hb => by rw [(F.kn b c hb (by omega)).cut, (F.kn c c hc (by omega)).cut, (ho b hb).1]
  intro b hb
  refine ck_ext (F.hl b hb) (F.kn c c hc (by omega)).ok.1 fun k hk => ?_
  obtain ⟨h1, h2, h3⟩ := ho b hb
  have y1 := F.yes b c hb (by omega) h2 h3
  have ge := y1.2 k hk
  rw [hcut b hb] at ge
  by_cases hkn : k < n
  · obtain ⟨g1, g2, g3⟩ := ho k hkn
    have y2 := (F.yes k c hkn (by omega) g2 g3).1
    have := F.hh b k hb hkn
    rw [hcut k hkn] at y2
    omega
  · rw [F.hz b k hb (by omega) hk, (F.kn c c hc (by omega)).cut, F.cz c _ k hc (by omega) hk]

/-- A clock of one site is another one. -/
def Wd.setH (W : Wd) (a : Nat) (x : List Int) : Wd := { W with h := fun b => if b = a then x else W.h b }
def Wd.setD (W : Wd) (a : Nat) (R : Nat → Rnd) : Wd := { W with d := fun b => if b = a then R else W.d b }
theorem Wd.h_self (W : Wd) (a : Nat) (x : List Int) : (W.setH a x).h a = x := if_pos rfl
theorem Wd.h_ne (W : Wd) {a b : Nat} (x : List Int) (h : b ≠ a) : (W.setH a x).h b = W.h b := if_neg h
/-- A site's clock grows: by its own act where it is not frozen, by what another one has. -/
theorem Fi.grow {n : Nat} {G : Gh} {S : List (Nat → Rnd)} {W : Wd} (F : Fi n G S W) {a : Nat} (ha : a < n) {x : List Int} (hx : x.length = 8) (hge : ∀ k, k < 8 → en (W.h a) k ≤ en x k) (hle : ∀ k, k < n → k ≠ a → en x k ≤ en (W.h k) k) (hz : ∀ k, n ≤ k → k < 8 → en x k = 0)
    (hf : en x a = en (W.h a) a ∨ ∀ c, c < 8 → openR (W.d a c) = true → en (W.d a c).vot a ≠ 1) : Fi n G S (W.setH a x) := by
  refine ⟨F.n8, F.v0, F.d0, F.cz, F.sd, F.kn, F.own, F.votO, F.votN, F.decO, F.decN, fun b hb => ?_, fun b k hb hk => ?_, fun b k hb hk hk8 => ?_, fun b c hb hc ho hv => ?_⟩
  · by_cases e : b = a
    · subst e; rw [Wd.h_self]; exact hx
    · rw [Wd.h_ne _ _ e]; exact F.hl b hb
  · have hk8 : k < 8 := by have := F.n8; omega
    by_cases e : b = a
    · subst e
      rw [Wd.h_self]
      by_cases e2 : k = b
      · subst e2; rw [Wd.h_self]; exact Int.le_refl _
      · rw [Wd.h_ne _ _ e2]; exact hle k hk e2
    · rw [Wd.h_ne _ _ e]
      by_cases e2 : k = a
      · subst e2; rw [Wd.h_self]; exact Int.le_trans (F.hh b k hb hk) (hge k hk8)
      · rw [Wd.h_ne _ _ e2]; exact F.hh b k hb hk
  · by_cases e : b = a
    · subst e; rw [Wd.h_self]; exact hz k hk hk8
    · rw [Wd.h_ne _ _ e]; exact F.hz b k hb hk hk8
  · have y := F.yes b c hb hc ho hv
    by_cases e : b = a
    · subst e
      rw [Wd.h_self]
      rcases hf with hf | hf
      · exact ⟨by rw [hf]; exact y.1, fun k hk => Int.le_trans (y.2 k hk) (hge k hk)⟩
      · exact absurd hv (hf c hc ho)
    · rw [Wd.h_ne _ _ e]; exact y
/-- What a desk knows is written down. -/
theorem Fi.say {n : Nat} {G : Gh} {S : List (Nat → Rnd)} {W : Wd} (F : Fi n G S W) {a : Nat} (ha : a < n) : Fi n G (S ++ [W.d a]) W :=
  ⟨F.n8, F.v0, F.d0, F.cz, fun R hR c hc => by
    rcases List.mem_append.1 hR with hR | hR
    · exact F.sd R hR c hc
    · rw [List.mem_singleton.1 hR]
      exact ⟨F.kn a c ha hc, fun hcn => F.own a c ha hcn⟩, F.kn, F.own, F.votO, F.votN, F.decO, F.decN, F.hl, F.hh, F.hz, F.yes⟩
/-- A desk joins what fits. -/
theorem Fi.join {n : Nat} {G : Gh} {S : List (Nat → Rnd)} {W : Wd} (F : Fi n G S W) {a : Nat} (ha : a < n) {R : Nat → Rnd} (hR : ∀ c, c < 8 → Kn n G c (R c) ∧ (c < n → (R c).num ≤ (W.d c c).num)) : Fi n G S (W.setD a fun c => joinR (W.d a c) (R c)) := by
  have n8 := F.n8
  have self : ∀ c, (W.setD a fun c => joinR (W.d a c) (R c)).d a c = joinR (W.d a c) (R c) := fun c => by simp [Wd.setD]
  have ne : ∀ b c, b ≠ a → (W.setD a fun c => joinR (W.d a c) (R c)).d b c = W.d b c := fun b c e => by simp [Wd.setD, e]
  -- the number of a coordinator's own round stays
  have cc : ∀ c, c < n → ((W.setD a fun c => joinR (W.d a c) (R c)).d c c).num = (W.d c c).num := fun c hc => by
    by_cases e : c = a
    · subst e
      rw [self, joinR_num]
      have := (hR c (by omega)).2 hc
      unfold mx
      rw [if_neg (by omega)]
    · rw [ne c c e]
  refine ⟨n8, F.v0, F.d0, F.cz, fun R' hR' c hc => ⟨(F.sd R' hR' c hc).1, fun hcn => by rw [cc c hcn]; exact (F.sd R' hR' c hc).2 hcn⟩, fun b c hb hc => ?_, fun b c hb hc => ?_, fun v c hv hc => ?_, fun v c N hv hc hN => ?_, fun c hc => ?_, fun c N hc hN => ?_, F.hl, F.hh, F.hz, fun b c hb hc ho hv => ?_⟩
  · by_cases e : b = a
    · subst e; rw [self]; exact (F.kn b c hb hc).join (hR c hc).1 n8 (F.v0 c)
    · rw [ne b c e]; exact F.kn b c hb hc
  · rw [cc c hc]
    by_cases e : b = a
    · subst e
      rw [self, joinR_num]
      have h1 := F.own b c hb hc
      have h2 := (hR c (by omega)).2 hc
      unfold mx
      split <;> omega
    · rw [ne b c e]; exact F.own b c hb hc
  · by_cases e : v = a
    · subst e
      rw [self]
      have h1 := F.votO v c hv hc
      have k2 := (hR c hc).1
      have v8 : v < 8 := by omega
      rcases Int.lt_trichotomy (W.d v c).num (R c).num with h | h | h
      · rw [joinR_gt h]
        have := F.votN v c (R c).num hv hc h
        rcases k2.vot v v8 with q | q
        · rw [q, this]
        · exact q
      · rw [joinR_eq h.symm]
        show en (mrg (W.d v c).vot (R c).vot) v = G.vot c (W.d v c).num v
        rw [mrg_get (F.kn v c hv hc).ok.2 k2.ok.2 v8]
        have q := k2.vot v v8
        rw [← h] at q
        have := F.v0 c (W.d v c).num v
        unfold mx
        split <;> omega
      · rw [joinR_lt h]; exact h1
    · rw [ne v c e]; exact F.votO v c hv hc
  · by_cases e : v = a
    · subst e
      rw [self, joinR_num] at hN
      refine F.votN v c N hv hc ?_
      unfold mx at hN
      split at hN <;> omega
    · rw [ne v c e] at hN; exact F.votN v c N hv hc hN
  · rw [cc c hc]
    by_cases e : c = a
    · subst e
      rw [self]
      have h1 := F.decO c hc
      have k2 := (hR c (by omega)).1
      have hle := (hR c (by omega)).2 hc
      rcases Int.lt_trichotomy (W.d c c).num (R c).num with h | h | h
      · omega
      · rw [joinR_eq h.symm]
        show mx (W.d c c).dec (R c).dec = G.dec c (W.d c c).num
        have q := k2.dec
        rw [← h] at q
        have := F.d0 c (W.d c c).num
        unfold mx
        split <;> omega
      · rw [joinR_lt h]; exact h1
    · rw [ne c c e]; exact F.decO c hc
  · rw [cc c hc] at hN; exact F.decN c N hc hN
  · by_cases e : b = a
    · subst e
      rw [self] at ho hv ⊢
      have k1 := F.kn b c hb hc
      have k2 := (hR c hc).1
      have b8 : b < 8 := by omega
      rcases Int.lt_trichotomy (W.d b c).num (R c).num with h | h | h
      · rw [joinR_gt h] at hv
        have h0 := F.votN b c (R c).num hb hc h
        have q := k2.vot b b8
        omega
      · rw [joinR_eq h.symm] at ho hv ⊢
        have hv' : en (mrg (W.d b c).vot (R c).vot) b = 1 := hv
        rw [mrg_get k1.ok.2 k2.ok.2 b8] at hv'
        have h1 := F.votO b c hb hc
        have q := k2.vot b b8
        rw [← h] at q
        have hb1 : en (W.d b c).vot b = 1 := by
          have := F.v0 c (W.d b c).num b
          unfold mx at hv'
          split at hv' <;> omega
        have ho' : openR (W.d b c) = true := by
          have : mx (W.d b c).dec (R c).dec = 0 ∧ 1 ≤ (W.d b c).num := by simpa [openR, and_comm] using ho
          have p := k1.dec
          have p2 := k2.dec
          rw [← h] at p2
          have d0 := F.d0 c (W.d b c).num
          have : (W.d b c).dec = 0 := by
            have t := this.1
            unfold mx at t
            split at t <;> omega
          simp [openR, this]
          omega
        have y := F.yes b c hb hc ho' hb1
        have hcut : mrg (W.d b c).cut (R c).cut = (W.d b c).cut := by rw [k1.cut, k2.cut, ← h, mrg_self (by rw [← k1.cut]; exact k1.ok.1)]
        show en (W.h b) b = en (mrg (W.d b c).cut (R c).cut) b ∧ ∀ k, k < 8 → en (mrg (W.d b c).cut (R c).cut) k ≤ en (W.h b) k
        rw [hcut]
        exact y
      · rw [joinR_lt h] at ho hv ⊢
        exact F.yes b c hb hc ho hv
    · rw [ne b c e] at ho hv ⊢; exact F.yes b c hb hc ho hv

theorem Kn.re {n : Nat} {G G' : Gh} {c : Nat} {x : Rnd} (k : Kn n G c x) (h1 : G'.cut c x.num = G.cut c x.num) (h2 : ∀ v, v < 8 → en x.vot v = 0 ∨ G'.vot c x.num v = G.vot c x.num v) (h3 : x.dec = 0 ∨ G'.dec c x.num = G.dec c x.num) : Kn n G' c x :=
  ⟨k.ok, k.pos, k.cut.trans h1.symm, fun v hv => by
    rcases h2 v hv with q | q
    · exact .inl q
    · rw [q]; exact k.vot v hv, by
    rcases h3 with q | q
    · exact .inl q
    · rw [q]; exact k.dec, k.all⟩
def z8 : List Int := List.replicate 8 0
theorem en_z8 (k : Nat) : en z8 k = 0 := by unfold en z8; rw [List.getD_eq_getElem?_getD, List.getElem?_replicate]; split <;> rfl
/-- One round of a desk is another one. -/
def Wd.setR (W : Wd) (a c : Nat) (x : Rnd) : Wd := { W with d := fun b e => if b = a ∧ e = c then x else W.d b e }
theorem Wd.r_self (W : Wd) (a c : Nat) (x : Rnd) : (W.setR a c x).d a c = x := if_pos ⟨rfl, rfl⟩
theorem Wd.r_ne (W : Wd) {a c b e : Nat} (x : Rnd) (h : ¬ (b = a ∧ e = c)) : (W.setR a c x).d b e = W.d b e := if_neg h
/-- A desk proposes its clock. -/
theorem Fi.propose {n : Nat} {G : Gh} {S : List (Nat → Rnd)} {W : Wd} (F : Fi n G S W) {a : Nat} (ha : a < n) :
    Fi n { G with cut := fun c N => if c = a ∧ N = (W.d a a).num + 1 then W.h a else G.cut c N } S (W.setR a a ⟨(W.d a a).num + 1, W.h a, z8, 0⟩) := by
  have n8 := F.n8
  obtain ⟨M, hM⟩ : ∃ M, (W.d a a).num = M := ⟨_, rfl⟩
  rw [hM]
  have self := W.r_self a a ⟨M + 1, W.h a, z8, 0⟩
  have ne : ∀ b e, ¬ (b = a ∧ e = a) → (W.setR a a ⟨M + 1, W.h a, z8, 0⟩).d b e = W.d b e := fun b e h => W.r_ne _ h
  have old : ∀ c x, Kn n G c x → (c = a → x.num ≤ M) → Kn n { G with cut := fun c N => if c = a ∧ N = M + 1 then W.h a else G.cut c N } c x := fun c x k hx =>
    k.re (if_neg fun e => by have := hx e.1; omega) (fun v _ => .inr rfl) (.inr rfl)
  have cc : ∀ c, c < n → (W.d c c).num ≤ ((W.setR a a ⟨M + 1, W.h a, z8, 0⟩).d c c).num := fun c _ => by
    by_cases e : c = a
    · subst e; rw [self]; show (W.d c c).num ≤ M + 1; omega
    · rw [ne c c (fun q => e q.1)]; exact Int.le_refl _
  have vN : ∀ v, v < n → G.vot a (M + 1) v = 0 := fun v hv => F.votN v a (M + 1) hv (by omega) (by have := F.own v a hv ha; omega)
  refine ⟨n8, F.v0, F.d0, fun c N k hc hk hk8 => ?_, fun R hR c hc => ?_, fun b c hb hc => ?_, fun b c hb hc => ?_, fun v c hv hc => ?_, fun v c N hv hc hN => ?_, fun c hc => ?_, fun c N hc hN => ?_, F.hl, F.hh, F.hz, fun b c hb hc ho hv => ?_⟩
  · show en (if c = a ∧ N = M + 1 then W.h a else G.cut c N) k = 0
    split
    · exact F.hz a k ha hk hk8
    · exact F.cz c N k hc hk hk8
  · obtain ⟨k1, k2⟩ := F.sd R hR c hc
    exact ⟨old c _ k1 (fun e => by subst e; rw [← hM]; exact k2 ha), fun hcn => Int.le_trans (k2 hcn) (cc c hcn)⟩
  · by_cases e : b = a ∧ c = a
    · obtain ⟨rfl, rfl⟩ := e
      rw [self]
      have := (F.kn c c hb hc).pos
      exact ⟨⟨F.hl c hb, by simp [z8]⟩, by show 0 ≤ M + 1; omega, (if_pos ⟨rfl, rfl⟩ : (if c = c ∧ M + 1 = M + 1 then W.h c else G.cut c (M + 1)) = W.h c).symm, fun v _ => .inl (en_z8 v), .inl rfl, fun q => by cases q⟩
    · rw [ne b c e]
      exact old c _ (F.kn b c hb hc) (fun q => by subst q; rw [← hM]; exact F.own b c hb ha)
  · by_cases e : b = a ∧ c = a
    · obtain ⟨rfl, rfl⟩ := e; exact Int.le_refl _
    · rw [ne b c e]; exact Int.le_trans (F.own b c hb hc) (cc c hc)
  · by_cases e : v = a ∧ c = a
    · obtain ⟨rfl, rfl⟩ := e; rw [self]; show en z8 c = G.vot c (M + 1) c; rw [en_z8, vN c hv]
    · rw [ne v c e]; exact F.votO v c hv hc
  · by_cases e : v = a ∧ c = a
    · obtain ⟨rfl, rfl⟩ := e
      rw [self] at hN
      exact F.votN c c N hv hc (by have : M + 1 < N := hN; omega)
    · rw [ne v c e] at hN; exact F.votN v c N hv hc hN
  · by_cases e : c = a
    · subst e; rw [self]; show (0 : Int) = G.dec c (M + 1); rw [F.decN c (M + 1) hc (by omega)]
    · rw [ne c c (fun q => e q.1)]; exact F.decO c hc
  · exact F.decN c N hc (Int.lt_of_le_of_lt (cc c hc) hN)
  · by_cases e : b = a ∧ c = a
    · obtain ⟨rfl, rfl⟩ := e
      rw [self] at hv
      have : en z8 c = 1 := hv
      rw [en_z8] at this
      cases this
    · rw [ne b c e] at ho hv ⊢; exact F.yes b c hb hc ho hv
theorem voteR_ge (a b : List Int) : 0 ≤ voteR a b := by unfold voteR; split; decide; split <;> decide
theorem voteR_one {a b : List Int} (h : voteR a b = 1) : a = b := by unfold voteR at h; split at h; assumption; split at h <;> cases h
/-- A desk votes on one open round. -/
theorem Fi.vote {n : Nat} {G : Gh} {S : List (Nat → Rnd)} {W : Wd} (F : Fi n G S W) {a c0 : Nat} (ha : a < n) (hc0 : c0 < 8) (hop : openR (W.d a c0) = true) (h0 : en (W.d a c0).vot a = 0) :
    Fi n { G with vot := fun c N v => if c = c0 ∧ N = (W.d a c0).num ∧ v = a then voteR (W.d a c0).cut (W.h a) else G.vot c N v } S (W.setR a c0 { W.d a c0 with vot := (W.d a c0).vot.set a (voteR (W.d a c0).cut (W.h a)) }) := by
  have n8 := F.n8
  have a8 : a < 8 := by omega
  obtain ⟨x, hx⟩ : ∃ x, W.d a c0 = x := ⟨_, rfl⟩
  rw [hx] at hop h0 ⊢
  obtain ⟨t, ht⟩ : ∃ t, voteR x.cut (W.h a) = t := ⟨_, rfl⟩
  have t0 : 0 ≤ t := ht ▸ voteR_ge _ _
  have t1 : t = 1 → x.cut = W.h a := fun e => voteR_one (ht.trans e)
  rw [ht]
  have kx := F.kn a c0 ha hc0
  rw [hx] at kx
  have self := W.r_self a c0 { x with vot := x.vot.set a t }
  have ne : ∀ b e, ¬ (b = a ∧ e = c0) → (W.setR a c0 { x with vot := x.vot.set a t }).d b e = W.d b e := fun b e h => W.r_ne _ h
  have num : ∀ b e, ((W.setR a c0 { x with vot := x.vot.set a t }).d b e).num = (W.d b e).num := fun b e => by
    by_cases q : b = a ∧ e = c0
    · obtain ⟨rfl, rfl⟩ := q; rw [self, hx]
    · rw [ne b e q]
  have decE : ∀ b e, ((W.setR a c0 { x with vot := x.vot.set a t }).d b e).dec = (W.d b e).dec := fun b e => by
    by_cases q : b = a ∧ e = c0
    · obtain ⟨rfl, rfl⟩ := q; rw [self, hx]
    · rw [ne b e q]
  have g0 : G.vot c0 x.num a = 0 := by have := F.votO a c0 ha hc0; rw [hx] at this; omega
  have vs : ∀ v, v < 8 → en (x.vot.set a t) v = if v = a then t else en x.vot v := fun v _ => getD_set _ _ _ _ (by rw [kx.ok.2]; exact a8)
  have old : ∀ c y, Kn n G c y → Kn n { G with vot := fun c N v => if c = c0 ∧ N = x.num ∧ v = a then t else G.vot c N v } c y := fun c y k =>
    k.re rfl (fun v hv => by
      by_cases e : c = c0 ∧ y.num = x.num ∧ v = a
      · obtain ⟨rfl, e2, rfl⟩ := e
        have := k.vot v hv
        rw [e2, g0] at this
        exact .inl (by omega)
      · exact .inr (if_neg e)) (.inr rfl)
  refine ⟨n8, fun c N v => ?_, F.d0, F.cz, fun R hR c hc => ⟨old c _ (F.sd R hR c hc).1, fun hcn => by rw [num]; exact (F.sd R hR c hc).2 hcn⟩, fun b c hb hc => ?_, fun b c hb hc => by rw [num, num]; exact F.own b c hb hc, fun v c hv hc => ?_, fun v c N hv hc hN => ?_, fun c hc => by rw [num, decE]; exact F.decO c hc, fun c N hc hN => F.decN c N hc (by rw [num] at hN; exact hN), F.hl, F.hh, F.hz, fun b c hb hc ho hv => ?_⟩
  · show 0 ≤ if c = c0 ∧ N = x.num ∧ v = a then t else G.vot c N v
    split
    · exact t0
    · exact F.v0 c N v
  · by_cases e : b = a ∧ c = c0
    · obtain ⟨rfl, rfl⟩ := e
      rw [self]
      refine ⟨⟨kx.ok.1, by show (x.vot.set b t).length = 8; rw [List.length_set]; exact kx.ok.2⟩, kx.pos, kx.cut, fun v hv => ?_, kx.dec, fun hd => ?_⟩
      · show en (x.vot.set b t) v = 0 ∨ en (x.vot.set b t) v = if c = c ∧ x.num = x.num ∧ v = b then t else G.vot c x.num v
        rw [vs v hv]
        by_cases e : v = b
        · rw [if_pos e, if_pos ⟨rfl, rfl, e⟩]; exact .inr rfl
        · rw [if_neg e, if_neg (fun q => e q.2.2)]; exact kx.vot v hv
      · have hd' : x.dec = 1 := hd
        simp [openR, hd'] at hop
    · rw [ne b c e]; exact old c _ (F.kn b c hb hc)
  · by_cases e : v = a ∧ c = c0
    · obtain ⟨rfl, rfl⟩ := e
      rw [self]
      show en (x.vot.set v t) v = if c = c ∧ x.num = x.num ∧ v = v then t else G.vot c x.num v
      rw [vs v a8, if_pos rfl, if_pos ⟨rfl, rfl, rfl⟩]
    · rw [ne v c e]
      show en (W.d v c).vot v = if c = c0 ∧ (W.d v c).num = x.num ∧ v = a then t else G.vot c (W.d v c).num v
      rw [if_neg (fun q => e ⟨q.2.2, q.1⟩)]
      exact F.votO v c hv hc
  · rw [num] at hN
    show (if c = c0 ∧ N = x.num ∧ v = a then t else G.vot c N v) = 0
    rw [if_neg (fun q => by obtain ⟨rfl, q2, rfl⟩ := q; rw [hx] at hN; omega)]
    exact F.votN v c N hv hc hN
  · by_cases e : b = a ∧ c = c0
    · obtain ⟨rfl, rfl⟩ := e
      rw [self] at ho hv ⊢
      have hv' : en (x.vot.set b t) b = 1 := hv
      rw [vs b a8, if_pos rfl] at hv'
      show en (W.h b) b = en x.cut b ∧ ∀ k, k < 8 → en x.cut k ≤ en (W.h b) k
      rw [t1 hv']
      exact ⟨rfl, fun _ _ => Int.le_refl _⟩
    · rw [ne b c e] at ho hv ⊢; exact F.yes b c hb hc ho hv
theorem verdR_ge (r : Rnd) (n : Nat) : 0 ≤ verdR r n := by unfold verdR; split; decide; split <;> decide
theorem verdR_one {r : Rnd} {n : Nat} (h : verdR r n = 1) : ∀ v, v < n → en r.vot v = 1 := fun v hv => by
  unfold verdR at h
  split at h
  · cases h
  · split at h
    · rename_i q
      have := List.all_eq_true.1 q v (List.mem_range.2 hv)
      exact beq_iff_eq.1 this
    · cases h
/-- A coordinator decides on its own open round. -/
theorem Fi.decide {n : Nat} {G : Gh} {S : List (Nat → Rnd)} {W : Wd} (F : Fi n G S W) {a : Nat} (ha : a < n) (hop : openR (W.d a a) = true) :
    Fi n { G with dec := fun c N => if c = a ∧ N = (W.d a a).num then verdR (W.d a a) n else G.dec c N } S (W.setR a a { W.d a a with dec := verdR (W.d a a) n }) := by
  have n8 := F.n8
  obtain ⟨x, hx⟩ : ∃ x, W.d a a = x := ⟨_, rfl⟩
  rw [hx] at hop ⊢
  obtain ⟨t, ht⟩ : ∃ t, verdR x n = t := ⟨_, rfl⟩
  have t0 : 0 ≤ t := ht ▸ verdR_ge _ _
  have t1 : t = 1 → ∀ v, v < n → en x.vot v = 1 := fun e => verdR_one (ht.trans e)
  rw [ht]
  have kx := F.kn a a ha (by omega)
  rw [hx] at kx
  have hd0 : x.dec = 0 := by simp [openR] at hop; exact hop.2
  have g0 : G.dec a x.num = 0 := by have := F.decO a ha; rw [hx] at this; omega
  have self := W.r_self a a { x with dec := t }
  have ne : ∀ b e, ¬ (b = a ∧ e = a) → (W.setR a a { x with dec := t }).d b e = W.d b e := fun b e h => W.r_ne _ h
  have num : ∀ b e, ((W.setR a a { x with dec := t }).d b e).num = (W.d b e).num := fun b e => by
    by_cases q : b = a ∧ e = a
    · obtain ⟨rfl, rfl⟩ := q; rw [self, hx]
    · rw [ne b e q]
  have vot : ∀ b e, ((W.setR a a { x with dec := t }).d b e).vot = (W.d b e).vot := fun b e => by
    by_cases q : b = a ∧ e = a
    · obtain ⟨rfl, rfl⟩ := q; rw [self, hx]
    · rw [ne b e q]
  have old : ∀ c y, Kn n G c y → Kn n { G with dec := fun c N => if c = a ∧ N = x.num then t else G.dec c N } c y := fun c y k =>
    k.re rfl (fun v hv => .inr rfl) (by
      by_cases e : c = a ∧ y.num = x.num
      · obtain ⟨rfl, e2⟩ := e
        have := k.dec
        rw [e2, g0] at this
        exact .inl (by omega)
      · exact .inr (if_neg e))
  refine ⟨n8, F.v0, fun c N => ?_, F.cz, fun R hR c hc => ⟨old c _ (F.sd R hR c hc).1, fun hcn => by rw [num]; exact (F.sd R hR c hc).2 hcn⟩, fun b c hb hc => ?_, fun b c hb hc => by rw [num, num]; exact F.own b c hb hc, fun v c hv hc => by rw [num, vot]; exact F.votO v c hv hc, fun v c N hv hc hN => F.votN v c N hv hc (by rw [num] at hN; exact hN), fun c hc => ?_, fun c N hc hN => ?_, F.hl, F.hh, F.hz, fun b c hb hc ho hv => ?_⟩
  · show 0 ≤ if c = a ∧ N = x.num then t else G.dec c N
    split
    · exact t0
    · exact F.d0 c N
  · by_cases e : b = a ∧ c = a
    · obtain ⟨rfl, rfl⟩ := e
      rw [self]
      exact ⟨kx.ok, kx.pos, kx.cut, kx.vot, .inr (if_pos ⟨rfl, rfl⟩ : (if c = c ∧ x.num = x.num then t else G.dec c x.num) = t).symm, fun hd => t1 hd⟩
    · rw [ne b c e]; exact old c _ (F.kn b c hb hc)
  · by_cases e : c = a
    · subst e
      rw [self]
      exact (if_pos ⟨rfl, rfl⟩ : (if c = c ∧ x.num = x.num then t else G.dec c x.num) = t).symm
    · rw [ne c c (fun q => e q.1)]
      show (W.d c c).dec = if c = a ∧ (W.d c c).num = x.num then t else G.dec c (W.d c c).num
      rw [if_neg (fun q => e q.1)]
      exact F.decO c hc
  · rw [num] at hN
    show (if c = a ∧ N = x.num then t else G.dec c N) = 0
    rw [if_neg (fun q => by obtain ⟨rfl, q2⟩ := q; rw [hx] at hN; omega)]
    exact F.decN c N hc hN
  · by_cases e : b = a ∧ c = a
    · obtain ⟨rfl, rfl⟩ := e
      rw [self] at hv ⊢
      have y := F.yes c c hb hc (by rw [hx]; exact hop) (by rw [hx]; exact hv)
      rw [hx] at y
      exact y
    · rw [ne b c e] at ho hv ⊢; exact F.yes b c hb hc ho hv

/-- Where a commit is decided, everybody has voted Yes, is frozen (or is the one that decides), and has the cut. -/
theorem Fi.commits {n : Nat} {G : Gh} {S : List (Nat → Rnd)} {W : Wd} (F : Fi n G S W) {a : Nat} (ha : a < n) (hop : openR (W.d a a) = true) (hv : verdR (W.d a a) n = 1) : ∀ b, b < n → W.h b = (W.d a a).cut ∧ openR (W.d b a) = true ∧ en (W.d b a).vot b = 1 := by
  have n8 := F.n8
  have hop' := hop
  simp [openR] at hop'
  have all := verdR_one hv
  have g0 : G.dec a (W.d a a).num = 0 := by have := F.decO a ha; omega
  have each : ∀ b, b < n → (W.d b a).num = (W.d a a).num ∧ openR (W.d b a) = true ∧ en (W.d b a).vot b = 1 := fun b hb => by
    have h1 : G.vot a (W.d a a).num b = 1 := by
      have := (F.kn a a ha (by omega)).vot b (by omega)
      have := all b hb
      omega
    have h2 := F.own b a hb ha
    have h3 : ¬ (W.d b a).num < (W.d a a).num := fun h => by
      have := F.votN b a _ hb (by omega) h
      omega
    have h4 : (W.d b a).num = (W.d a a).num := by omega
    have h5 := F.votO b a hb (by omega)
    rw [h4, h1] at h5
    have h6 := (F.kn b a hb (by omega)).dec
    rw [h4, g0] at h6
    refine ⟨h4, ?_, h5⟩
    simp [openR, h4]
    omega
  exact fun b hb => ⟨F.cutAll ha each b hb, (each b hb).2⟩
def rnd0 : Rnd := ⟨0, z8, z8, 0⟩
/-- At the beginning. -/
theorem Fi.start {n : Nat} (n8 : n ≤ 8) : Fi n ⟨fun _ _ => z8, fun _ _ _ => 0, fun _ _ => 0⟩ [] ⟨fun _ _ => rnd0, fun _ => z8⟩ := by
  refine ⟨n8, fun _ _ _ => Int.le_refl _, fun _ _ => Int.le_refl _, fun _ _ k _ _ _ => en_z8 k, (fun R hR => by cases hR), (fun _ _ _ _ => ⟨⟨by simp [rnd0, z8], by simp [rnd0, z8]⟩, Int.le_refl _, rfl, fun v _ => .inl (en_z8 v), .inl rfl, fun q => by cases q⟩), fun _ _ _ _ => Int.le_refl _, fun v _ _ _ => en_z8 v, fun _ _ _ _ _ _ => rfl, fun _ _ => rfl, fun _ _ _ _ => rfl, (fun _ _ => by simp [z8]), fun _ b _ _ => Int.le_refl _, fun _ k _ _ _ => en_z8 k, fun b _ _ _ _ hv => ?_⟩
  have : en z8 b = 1 := hv
  rw [en_z8] at this
  cases this
end Go.Proofs.YtfgcljpiidhfpaaDoor
