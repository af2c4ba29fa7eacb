
/-
  One call of both Bags: Send.
-/
import Derived.Test.YtdojjhhnciaegaaDoorZb50
namespace Go.Proofs.YtdojjhhnciaegaaDoor
open Go.RowKit Go.Extern.Stop Go.Stop Go.Extern
set_option maxRecDepth 100000

/-- A pair of Bags, no bytes of which lie in G. -/
structure PrG (G M P B R : Nat) (vb vr : Value) (g gr : Bg) (w : World) : Prop where
  h : PrAt M P B R vb vr g gr w
  b : BgAt B vb g (fun k => ¬ k = G) w
  r : RgAt R vr gr (fun k => ¬ k = G) w
section
variable {Z G M P B R : Nat} {vb vr vb' vr' : Value} {g gr g' : Bg} {w w' : World}
theorem PrG.of (h : PrAt M P B R vb vr g gr w) (hb : Below w.heap.size w w') (hG : w.heap.size ≤ G) : PrG G M P B R vb vr g gr w' :=
  ⟨h.later hb, (h.b.mono (fun k _ hlt => by omega)).later hb, (h.r.mono (fun k _ hlt => by omega)).later hb⟩
theorem PrG.bG (h : PrG G M P B R vb vr g gr w) : BgAt B vb g (fun k => ¬ k = G ∧ k < w.heap.size) w := h.b.mono (fun _k q hlt => ⟨q, hlt⟩)
theorem PrG.rG (h : PrG G M P B R vb vr g gr w) : RgAt R vr gr (fun k => ¬ k = G ∧ k < w.heap.size) w := h.r.mono (fun _k q hlt => ⟨q, hlt⟩)
theorem rwNot {v : Value} {n : Nat} {xs : List Value} (h : Rw 5 1 v n xs w) {S : Nat → Prop} (hS : NoU8 S w) : ∀ k, S k → ¬ v.ownBlock = some k := by
  intro k hk e
  rcases h.2 with ⟨e1, _⟩ | ⟨g', cap, cur, e1, hg, _⟩
  · rw [e1] at e; cases e
  · rw [e1] at e
    cases e
    exact hS _ hk _ _ hg
theorem lent_sl {n c : Nat} {bs : List UInt8} (h : Rw 5 1 (.slice (some ⟨G, 0, none⟩) n c) n (Lib.byteCells bs ++ mk4) w) : SlB w (.slice (some ⟨G, 0, none⟩) bs.length c) bs :=
  .inr ⟨G, 0, c, rfl, Rw.lt h G rfl, fun i b hi => Rw.cells h i _ (by
    rw [List.getElem?_append_left (by rw [Lib.byteCells_length]; exact (List.getElem?_eq_some_iff.1 hi).1), byteCells_at, hi]; rfl)⟩
/-- The lent row's marks are written over. -/
theorem PrG.fin {n c : Nat} {xs : List Value} (h : PrG G M P B R vb vr g gr w) (hc : Ch (fun k => k = G) w w') (l : Rw 5 1 (.slice (some ⟨G, 0, none⟩) n c) n xs w) : PrAt M P B R vb vr g gr w' := by
  have hB := rwNot l h.b.noU8
  have hR := rwNot l h.r.noU8
  have hp : ¬ P = G := fun e => by
    subst e
    rcases l.2 with ⟨e1, _⟩ | ⟨g', cap, cur, e1, hg, _⟩
    · cases e1
    · simp only [Value.slice.injEq, Option.some.injEq, Addr.mk.injEq] at e1
      obtain ⟨⟨rfl, _⟩, _⟩ := e1
      rw [show w.heap[P]? = _ from h.h.p] at hg
      simp at hg
  exact ⟨h.h.p.ch hc hp, (h.b.ch hc (fun e => hB B (.inl rfl) (by rw [e]; rfl)) (fun k hk e => hB k (.inr hk) (by rw [e]; rfl)) (fun k hk => hk)).mono (fun _ _ _ => trivial), (h.r.ch hc (fun e => hR R (.inl rfl) (by rw [e]; rfl)) (fun k hk e => hR k (.inr hk) (by rw [e]; rfl)) (fun k hk => hk)).mono (fun _ _ _ => trivial), h.h.fb, h.h.fr, h.h.p0⟩
/-- What the program's Send tells. -/
def SdQ (ad : Nat → Addr) (Z : Nat) (m : Int) (oo : Rf) (u : Value) (X : World) : Prop := ∃ e, u = .tuple #[.int .i64 m, e] ∧ ErrR ad Z oo e X
/-- What the document's Send tells. -/
def NsQ (Z : Nat) (m : Int) (oo : Rf) (u : Value) (X : World) : Prop := ∃ e, u = .tuple #[.int .i64 m, e] ∧ NoR Z oo e X
theorem SdQ.snd {ad : Nat → Addr} {m : Int} {oo : Rf} {u a b : Value} {X : World} (q : u = .tuple #[a, b]) (h : SdQ ad Z m oo u X) : ErrR ad Z oo b X := by
  obtain ⟨e, h1, h2⟩ := h
  rw [(tup2 (q.symm.trans h1)).2]; exact h2
theorem NsQ.snd {m : Int} {oo : Rf} {u a b : Value} {X : World} (q : u = .tuple #[a, b]) (h : NsQ Z m oo u X) : NoR Z oo b X := by
  obtain ⟨e, h1, h2⟩ := h
  rw [(tup2 (q.symm.trans h1)).2]; exact h2
theorem SdQ.mk {ad : Nat → Addr} {N : Nat} {m : Int} {oo : Rf} {e : Value} {T S : Nat → Prop} {X1 X2 : World} (i2 : ErrR ad N oo e X1) (hN : Z ≤ N) (hk : KeptP (fun k => T k ∨ S k) X1 X2) (hT : ∀ s, T s → s < N) (hS : ∀ s, S s → s < N) : SdQ ad Z m oo (.tuple #[.int .i64 m, e]) X2 :=
  have hn : ∀ s, N ≤ s → ¬ (T s ∨ S s) := fun s hs q => q.elim (fun q => by have := hT s q; omega) (fun q => by have := hS s q; omega)
  ⟨e, rfl, (i2.ch hk.ch hn).down hN⟩
theorem NsQ.mk {N : Nat} {m : Int} {oo : Rf} {e : Value} {T S : Nat → Prop} {X1 X2 : World} (i2 : NoR N oo e X1) (hN : Z ≤ N) (hk : KeptP (fun k => T k ∨ S k) X1 X2) (hT : ∀ s, T s → s < N) (hS : ∀ s, S s → s < N) : NsQ Z m oo (.tuple #[.int .i64 m, e]) X2 :=
  have hn : ∀ s, N ≤ s → ¬ (T s ∨ S s) := fun s hs q => q.elim (fun q => by have := hT s q; omega) (fun q => by have := hS s q; omega)
  ⟨e, rfl, (i2.ch hk.ch hn).down hN⟩
/-- Behind the program's Send. -/
def SoB (G M P B R : Nat) (vr : Value) (g' gr : Bg) (S0 : Nat → Prop) (W X : World) : Prop := ∃ vb', PrG G M P B R vb' vr g' gr X ∧ Ch S0 W X
theorem SoB.of {W X X1 X2 : World} {S : Nat → Prop} (hh : PrG G M P B R vb vr g gr W) (hG : G < W.heap.size) (hb : Below W.heap.size W X) (i1 : BgAt B vb' g' (fun k => (¬ k = G ∧ k < W.heap.size) ∨ X.heap.size ≤ k) X1) (i2 : At' X vb vb') (i3 : Ch (Bch B vb) X X1) (hS : ∀ s, S s → s < X.heap.size ∧ W.heap.size ≤ s) (hk : KeptP S X1 X2) : SoB G M P B R vr g' gr (Bch B vb) W X2 := by
  have h1 := (hh.h.later hb).goB i1 i2 i3
  have hP := hh.h.p.lt
  have hx := hb.size
  have hv : ∀ k, Bch B vb' k → ¬ S k := fun k q e => by
    have hs := hS k e
    rcases q with q | q
    · have := hh.h.ltB k (.inl q); omega
    · rcases i2 k q with q | q
      · have := hh.h.ltB k (.inr q); omega
      · omega
  have hw : ∀ k, Bch R vr k → ¬ S k := fun k q e => by have := hh.h.ltR k q; have := hS k e; omega
  have b2 := i1.ch hk.ch (hv B (.inl rfl)) (fun k q => hv k (.inr q)) (fun k q e => by have := hS k e; omega)
  have r1 := ((hh.r.mono (K' := fun k => ¬ k = G ∧ k < W.heap.size) (fun k hk hlt => ⟨hk, hlt⟩)).later hb).chK i3 (fun k hk q => (hh.h.fb k q).2.2 hk) (hh.b.later hb).noU8
  have r2 := r1.ch hk.ch (hw R (.inl rfl)) (fun k q => hw k (.inr q)) (fun k q e => by have := hS k e; omega)
  exact ⟨vb', ⟨⟨h1.1.p.ch hk.ch (fun e => by have := hS P e; omega), b2.mono (fun _ _ _ => trivial), r2.mono (fun _ _ _ => trivial), h1.1.fb, h1.1.fr, h1.1.p0⟩, b2.mono (fun k q _ => q.elim (fun q => q.1) (fun q => by omega)), r2.mono (fun k q _ => q.1)⟩, (Ch.go (Ch.of hb) i3 (fun s q => .inl q)).go hk.ch (fun s q => .inr (hS s q).2)⟩
/-- Behind both. -/
def SoR (G M P B R : Nat) (vb : Value) (g g' : Bg) (S0 : Nat → Prop) (W X : World) : Prop := ∃ vr', PrG G M P B R vb vr' g g' X ∧ Ch S0 W X
theorem SoR.of {W X X1 X2 : World} {S : Nat → Prop} (hh : PrG G M P B R vb vr g gr W) (hG : G < W.heap.size) (hb : Below W.heap.size W X) (i1 : RgAt R vr' g' (fun k => (¬ k = G ∧ k < W.heap.size) ∨ X.heap.size ≤ k) X1) (i2 : At' X vr vr') (i3 : Ch (Bch R vr) X X1) (hS : ∀ s, S s → s < X.heap.size ∧ W.heap.size ≤ s) (hk : KeptP S X1 X2) : SoR G M P B R vb g g' (Bch R vr) W X2 := by
  have h1 := (hh.h.later hb).goR i1 i2 i3
  have hP := hh.h.p.lt
  have hx := hb.size
  have hv : ∀ k, Bch R vr' k → ¬ S k := fun k q e => by
    have hs := hS k e
    rcases q with q | q
    · have := hh.h.ltR k (.inl q); omega
    · rcases i2 k q with q | q
      · have := hh.h.ltR k (.inr q); omega
      · omega
  have hw : ∀ k, Bch B vb k → ¬ S k := fun k q e => by have := hh.h.ltB k q; have := hS k e; omega
  have b2 := i1.ch hk.ch (hv R (.inl rfl)) (fun k q => hv k (.inr q)) (fun k q e => by have := hS k e; omega)
  have r1 := ((hh.b.mono (K' := fun k => ¬ k = G ∧ k < W.heap.size) (fun k hk hlt => ⟨hk, hlt⟩)).later hb).chK i3 (fun k hk q => (hh.h.fb k hk).2.2 q) (hh.r.later hb).noU8
  have r2 := r1.ch hk.ch (hw B (.inl rfl)) (fun k q => hw k (.inr q)) (fun k q e => by have := hS k e; omega)
  exact ⟨vr', ⟨⟨h1.1.p.ch hk.ch (fun e => by have := hS P e; omega), r2.mono (fun _ _ _ => trivial), b2.mono (fun _ _ _ => trivial), h1.1.fb, h1.1.fr, h1.1.p0⟩, r2.mono (fun k q _ => q.1), b2.mono (fun k q _ => q.elim (fun q => q.1) (fun q => by omega))⟩, (Ch.go (Ch.of hb) i3 (fun s q => .inl q)).go hk.ch (fun s q => .inr (hS s q).2)⟩
end
set_option maxHeartbeats 16000000 in
theorem does_send {ad : Nat → Addr} {M P B R : Nat} {vb vr : Value} {g : Bg} {w : World} (L : ∀ x, Below M w x → Laid ad x) (h : PrAt M P B R vb vr g g w) {o : Opb} (ho : o.Ok w) (_ho1 : o.rv.oneCell' = true) (hw : wiN o.d 9 = 0) (hG12 : 2 < M) (hrM : o.raw ≠ [] → ∀ k, o.rv.ownBlock = some k → k < M) :
    Calls Tryd.prog 9 #[.pointer (some ⟨P, 0, none⟩), .agg (ocb o)] w (DoQ M P B R w) := by
  obtain ⟨ra, rc, hrv⟩ := ho.raw.form
  have hcap := ho.cap _ _ _ hrv
  have hb2 := below_one w (.cells (ocb o) 43)
  have ho2 := row_new w (ocb o) 43
  have c0 : (w.alloc (.cells (ocb o) 43)).cell? ⟨w.heap.size, 0, none⟩ = some (.int .i64 o.d) := ho2.cellIs 0 rfl
  have HWi := hid_of' (within_is o.d 9 (w.alloc (.cells (ocb o) 43)) (by decide) (by decide) ho.d)
  rw [hw] at HWi
  have hPl := h.p.lt
  have HLT := hid_of' (And.intro h.ltB h.ltR)
  have H2 := hid_of' (h.later hb2)
  have HO := hid_of' (And.intro ho2 hb2)
  have hMw : M ≤ w.heap.size := by have := h.p0; omega
  have HLw := hid_of' (fun x (hx : Below M (w.alloc (.cells (ocb o) 43)) x) => L x ((hb2.mono hMw).trans hx))
  clear h ho2 hb2 L
  go_enter Tryd.func9, Tryd.ntmps9
  go_upto_region 3 with (go_at_call 24; refine HWi.out.mono ?_; rintro e w1 ⟨rfl, hw1⟩; obtain rfl := hw1.symm; clear HWi)
  clear c0
  obtain ⟨ob, hob⟩ : ∃ ob, w.heap.size = ob := ⟨_, rfl⟩
  have hob1 := HO.out.1.lt
  rw [hob] at HLT hPl hob1 ⊢
  have hMo : M ≤ ob := by omega
  generalize w.alloc (.cells (ocb o) 43) = W at H2 HO HLw hob1 ⊢
  have HMW : Hid (M ≤ W.heap.size) := by show _ ≤ _; omega
  have HBw := hid_of' (HO.out.2.mono hMw)
  have HOb := hid_of' (show RowAt ob (ocb o) 43 W by rw [← hob]; exact HO.out.1)
  have hraw0 := ho.raw.later HO.out.2
  have c3 : W.cell? ⟨ob, 3, none⟩ = some o.rv := HOb.out.cellIs 3 rfl
  rw [hrv] at hraw0 c3 hrM
  by_cases h60 : o.raw.length ≤ 60
  · have h60i : ¬ (60 : Int) < (o.raw.length : Int) := by omega
    obtain ⟨R9, hR9⟩ : ∃ R9, o.raw = R9 := ⟨_, rfl⟩
    rw [hR9] at hraw0 c3 h60 h60i hrM
    have HRM := hid_of' hrM
    clear hrM
    go_upto_region 6 with fail
    clear c3 h60i
    have HL := hid_of' (lend_is hraw0 (by omega))
    go_upto_region 7 with (go_at_call 25; refine HL.out.mono ?_; rintro e w3 ⟨G, c, rfl, l1, l2, l3⟩; clear HL)
    have HM3 : Hid (M ≤ w3.heap.size) := Nat.le_trans HMW.out l3.size
    have HB3s : Hid (W.heap.size ≤ w3.heap.size) := l3.size
    have hsz0 : W.heap.size ≤ w3.heap.size := l3.size
    have HB3 := hid_of' (l3.mono HMW.out)
    have HG := hid_of' (And.intro l2 (Rw.lt l1 G rfl))
    have HOb3 := hid_of' (HOb.out.later l3)
    have HZ := hid_of' (PrG.of H2.out l3 l2)
    have HR3 := hid_of' (And.intro l1 (hraw0.later l3))
    have HN12 : Hid (2 < B) := by have := (H2.out.fb B (.inl rfl)).1; show _ < _; omega
    clear l1 l2 l3 hraw0
    refine wp_region_floatC (by kernel_rfl) (by kernel_rfl) (Bch B vb) (fun s q => by have := HLT.out.1 s q; have := HB3s.out; omega) 9 (fun X2 => SoB G M P B R vr (sndA g o.i o.j R9).1 g (Bch B vb) w3 X2) (fun ii u X => match ii with
      | 0 => u = .pointer (some ⟨P, 0, none⟩)
      | 1 => u = .pointer (some ⟨P, 0, none⟩)
      | 2 => u = .pointer (some ⟨P, 0, none⟩)
      | 3 => u = .pointer (some ⟨B, 0, none⟩)
      | 4 => u = .pointer (some ⟨ob, 1, none⟩)
      | 5 => u = .int .i64 o.i
      | 6 => u = .pointer (some ⟨ob, 2, none⟩)
      | 7 => u = .int .i64 o.j
      | 8 => u = .slice (some ⟨G, 0, none⟩) R9.length c
      | 9 => SdQ ad w3.heap.size (sndA g o.i o.j R9).2.1 (sndA g o.i o.j R9).2.2 u X
      | 10 => SdQ ad w3.heap.size (sndA g o.i o.j R9).2.1 (sndA g o.i o.j R9).2.2 u X
      | 11 => u = .int .i64 (sndA g o.i o.j R9).2.1
      | 12 => ErrR ad w3.heap.size (sndA g o.i o.j R9).2.2 u X
      | 13 => u = .int .i64 (sndA g o.i o.j R9).2.1
      | 14 => ErrR ad w3.heap.size (sndA g o.i o.j R9).2.2 u X
      | _ => True) (fun _ => none) (fun _ => none) rfl rfl (by decide) (fun _ _ _ h => by cases h) (fun _ _ _ h => by cases h) (fun _ _ _ _ _ h => by cases h) ?_ (fun _ _ _ _ _ h => by cases h) (fun _ _ _ _ _ _ _ _ _ _ _ _ _ h => by cases h) ?_
    · intro ii o9 ho hA hK q X vals S hC hX hS hdep hoth
      have t0 : q.tmps[0]? = some (.pointer (some ⟨P, 0, none⟩)) := by rw [hoth 0 (by kernel_rfl)]; rfl
      have t3 : q.tmps[3]? = some (.pointer (some ⟨ob, 0, none⟩)) := by rw [hoth 3 (by kernel_rfl)]; rfl
      have t6 : q.tmps[6]? = some (.slice (some ⟨G, 0, none⟩) R9.length c) := by rw [hoth 6 (by kernel_rfl)]; rfl
      match ii, ho, hA, hK with
      | 0, ho, hA, hK =>
        simp only [List.getElem?_cons_zero, Option.some.injEq] at ho
        subst ho
        unfold Oper.wp
        simp [execOp, go_sem, t0]
        exact cameFB _ rfl (by decide) (Below.refl _ _) (fun _ _ => rfl)
      | 1, ho, hA, hK =>
        simp only [List.getElem?_cons_succ, List.getElem?_cons_zero, Option.some.injEq] at ho
        subst ho
        obtain ⟨u0, e0⟩ := hdep ⟨0, .data⟩ (by simp) rfl _ 36 rfl rfl
        rw [show vals 0 = .pointer (some ⟨P, 0, none⟩) from e0 rfl rfl X (KeptP.refl _ _)] at u0
        unfold Oper.wp
        simp [execOp, go_sem, u0]
        exact cameFB _ rfl (by decide) (Below.refl _ _) (fun _ _ => rfl)
      | 2, ho, hA, hK =>
        simp only [List.getElem?_cons_succ, List.getElem?_cons_zero, Option.some.injEq] at ho
        subst ho
        obtain ⟨u1, e1⟩ := hdep ⟨1, .data⟩ (by simp) rfl _ 37 rfl rfl
        rw [show vals 1 = .pointer (some ⟨P, 0, none⟩) from e1 rfl rfl X (KeptP.refl _ _)] at u1
        unfold Oper.wp
        simp [execOp, go_sem, u1]
        exact cameFB _ rfl (by decide) (Below.refl _ _) (fun _ _ => rfl)
      | 3, ho, hA, hK =>
        simp only [List.getElem?_cons_succ, List.getElem?_cons_zero, Option.some.injEq] at ho
        subst ho
        obtain ⟨u2, e2⟩ := hdep ⟨2, .data⟩ (by simp) rfl _ 38 rfl rfl
        rw [show vals 2 = .pointer (some ⟨P, 0, none⟩) from e2 rfl rfl X (KeptP.refl _ _)] at u2
        have cc : X.cell? ⟨P, 0, none⟩ = some (.pointer (some ⟨B, 0, none⟩)) := (RowAt.later HZ.out.h.p (hC (.inr (by kernel_rfl)))).cellIs 0 rfl
        unfold Oper.wp
        simp [execOp, go_sem, u2, cc]
        exact cameFB _ rfl (by decide) (Below.refl _ _) (fun _ _ => rfl)
      | 4, ho, hA, hK =>
        simp only [List.getElem?_cons_succ, List.getElem?_cons_zero, Option.some.injEq] at ho
        subst ho
        unfold Oper.wp
        simp [execOp, go_sem, t3]
        exact cameFB _ rfl (by decide) (Below.refl _ _) (fun _ _ => rfl)
      | 5, ho, hA, hK =>
        simp only [List.getElem?_cons_succ, List.getElem?_cons_zero, Option.some.injEq] at ho
        subst ho
        obtain ⟨u4, e4⟩ := hdep ⟨4, .data⟩ (by simp) rfl _ 40 rfl rfl
        rw [show vals 4 = .pointer (some ⟨ob, 1, none⟩) from e4 rfl rfl X (KeptP.refl _ _)] at u4
        have cc : X.cell? ⟨ob, 1, none⟩ = some (.int .i64 o.i) := (RowAt.later HOb3.out (hC (.inr (by kernel_rfl)))).cellIs 1 rfl
        unfold Oper.wp
        simp [execOp, go_sem, u4, cc]
        exact cameFB _ rfl (by decide) (Below.refl _ _) (fun _ _ => rfl)
      | 6, ho, hA, hK =>
        simp only [List.getElem?_cons_succ, List.getElem?_cons_zero, Option.some.injEq] at ho
        subst ho
        unfold Oper.wp
        simp [execOp, go_sem, t3]
        exact cameFB _ rfl (by decide) (Below.refl _ _) (fun _ _ => rfl)
      | 7, ho, hA, hK =>
        simp only [List.getElem?_cons_succ, List.getElem?_cons_zero, Option.some.injEq] at ho
        subst ho
        obtain ⟨u6, e6⟩ := hdep ⟨6, .data⟩ (by simp) rfl _ 42 rfl rfl
        rw [show vals 6 = .pointer (some ⟨ob, 2, none⟩) from e6 rfl rfl X (KeptP.refl _ _)] at u6
        have cc : X.cell? ⟨ob, 2, none⟩ = some (.int .i64 o.j) := (RowAt.later HOb3.out (hC (.inr (by kernel_rfl)))).cellIs 2 rfl
        unfold Oper.wp
        simp [execOp, go_sem, u6, cc]
        exact cameFB _ rfl (by decide) (Below.refl _ _) (fun _ _ => rfl)
      | 8, ho, hA, hK =>
        simp only [List.getElem?_cons_succ, List.getElem?_cons_zero, Option.some.injEq] at ho
        subst ho
        unfold Oper.wp
        simp [execOp, go_sem, t6]
        exact cameFB _ rfl (by decide) (Below.refl _ _) (fun _ _ => rfl)
      | 9, ho, hA, hK =>
        simp only [List.getElem?_cons_succ, List.getElem?_cons_zero, Option.some.injEq] at ho
        subst ho
        obtain ⟨u3, e3⟩ := hdep ⟨3, .data⟩ (by simp) rfl _ 39 rfl rfl
        rw [show vals 3 = .pointer (some ⟨B, 0, none⟩) from e3 rfl rfl X (KeptP.refl _ _)] at u3
        obtain ⟨u5, e5⟩ := hdep ⟨5, .data⟩ (by simp) rfl _ 41 rfl rfl
        rw [show vals 5 = .int .i64 o.i from e5 rfl rfl X (KeptP.refl _ _)] at u5
        obtain ⟨u7, e7⟩ := hdep ⟨7, .data⟩ (by simp) rfl _ 43 rfl rfl
        rw [show vals 7 = .int .i64 o.j from e7 rfl rfl X (KeptP.refl _ _)] at u7
        obtain ⟨u8, e8⟩ := hdep ⟨8, .data⟩ (by simp) rfl _ 44 rfl rfl
        rw [show vals 8 = .slice (some ⟨G, 0, none⟩) R9.length c from e8 rfl rfl X (KeptP.refl _ _)] at u8
        have hb := hC (.inl rfl)
        unfold Oper.wp
        simp [go_sem, u3, u5, u7, u8]
        refine (send_any (HLw.out X (HB3.out.trans (hb.mono HM3.out))).lb HN12.out (HZ.out.bG.later hb) o.i o.j ((lent_sl HR3.out.1).later hb) (by omega) (fun k hk q => by cases hk; have := HLT.out.1 G q; have := HG.out.1; omega)).mono ?_
        rintro r X1 ⟨ee, v9, rfl, i2, i1, j4, i4⟩
        exact cameFX _ rfl ⟨i4.os, i4.tape, i4.output, i4.size, i4.block⟩ (fun X2 hk => SoB.of HZ.out HG.out.2 hb i1 j4 i4 hS hk) (fun x9 hk => SdQ.mk i2 hb.size hk (fun s q => by have := HLT.out.1 s q; have := hb.size; have := HB3s.out; omega) (fun s q => (hS s q).1))
      | 10, ho, hA, hK =>
        simp only [List.getElem?_cons_succ, List.getElem?_cons_zero, Option.some.injEq] at ho
        subst ho
        obtain ⟨u9, e9⟩ := hdep ⟨9, .data⟩ (by simp) rfl _ 45 rfl rfl
        unfold Oper.wp
        simp [execOp, go_sem, u9]
        exact cameFB _ rfl (by decide) (Below.refl _ _) (fun x9 hk => e9 rfl rfl x9 hk)
      | 11, ho, hA, hK =>
        simp only [List.getElem?_cons_succ, List.getElem?_cons_zero, Option.some.injEq] at ho
        subst ho
        obtain ⟨u10, e10⟩ := hdep ⟨10, .data⟩ (by simp) rfl _ 35 rfl rfl
        obtain ⟨ee, q8, _⟩ := e10 rfl rfl X (KeptP.refl _ _)
        rw [q8] at u10
        unfold Oper.wp
        simp [execOp, go_sem, u10]
        exact cameFB _ rfl (by decide) (Below.refl _ _) (fun _ _ => rfl)
      | 12, ho, hA, hK =>
        simp only [List.getElem?_cons_succ, List.getElem?_cons_zero, Option.some.injEq] at ho
        subst ho
        obtain ⟨u10, e10⟩ := hdep ⟨10, .data⟩ (by simp) rfl _ 35 rfl rfl
        obtain ⟨ee, q8, _⟩ := e10 rfl rfl X (KeptP.refl _ _)
        rw [q8] at u10
        unfold Oper.wp
        simp [execOp, go_sem, u10]
        exact cameFB _ rfl (by decide) (Below.refl _ _) (fun x9 hk => SdQ.snd q8 (e10 rfl rfl x9 hk))
      | 13, ho, hA, hK =>
        simp only [List.getElem?_cons_succ, List.getElem?_cons_zero, Option.some.injEq] at ho
        subst ho
        obtain ⟨u11, e11⟩ := hdep ⟨11, .data⟩ (by simp) rfl _ 46 rfl rfl
        rw [show vals 11 = .int .i64 (sndA g o.i o.j R9).2.1 from e11 rfl rfl X (KeptP.refl _ _)] at u11
        unfold Oper.wp
        simp [execOp, go_sem, u11]
        exact cameFB _ rfl (by decide) (Below.refl _ _) (fun _ _ => rfl)
      | 14, ho, hA, hK =>
        simp only [List.getElem?_cons_succ, List.getElem?_cons_zero, Option.some.injEq] at ho
        subst ho
        obtain ⟨u12, e12⟩ := hdep ⟨12, .data⟩ (by simp) rfl _ 47 rfl rfl
        unfold Oper.wp
        simp [execOp, go_sem, u12]
        exact cameFB _ rfl (by decide) (Below.refl _ _) (fun x9 hk => e12 rfl rfl x9 hk)
      | m + 15, ho, hA, hK => simp at ho
    · intro vals X0 hPo hsz hR hA
      obtain ⟨vb6, p6, c6⟩ := hPo
      have e13 : vals 13 = .int .i64 (sndA g o.i o.j R9).2.1 := hR 13 (by decide) rfl rfl
      have q14 : ErrR ad w3.heap.size (sndA g o.i o.j R9).2.2 (vals 14) X0 := hR 14 (by decide) rfl rfl
      obtain ⟨ev, hev⟩ : ∃ ev, vals 14 = ev := ⟨_, rfl⟩
      rw [hev] at q14
      have hsz0 : w3.heap.size ≤ X0.heap.size := c6.size
      have hWb := HB3s.out
      have HO6 := hid_of' (HOb3.out.ch c6 (fun q => by have := HLT.out.1 ob q; omega))
      have HC6 := hid_of' (And.intro q14 (And.intro (HR3.out.1.ch c6 (fun k hk q => by cases hk; have := HLT.out.1 G q; have := HG.out.1; omega)) (And.intro (HR3.out.2.chN c6 (fun hne k hk q => by have := HRM.out hne k hk; have := (H2.out.fb k q).1; omega)) (c6.below (fun s hs q => by have := (H2.out.fb s q).1; omega) HM3.out))))
      have H6 := hid_of' (And.intro p6 c6)
      clear hR hA hsz p6 c6 q14
      simp only [putAll, e13, hev, List.setIfInBounds_toArray, List.set_cons_succ, List.set_cons_zero]
      clear e13 hev
      go_upto_region 8 with fail
      refine wp_region_floatC (by kernel_rfl) (by kernel_rfl) (Bch R vr) (fun s q => by have := HLT.out.2 s q; have := HB3s.out; omega) 9 (fun X2 => SoR G M P B R vb6 (sndA g o.i o.j R9).1 (sndA g o.i o.j R9).1 (Bch R vr) X0 X2) (fun ii u X => match ii with
        | 0 => u = .pointer (some ⟨P, 0, none⟩)
        | 1 => u = .pointer (some ⟨P, 0, none⟩)
        | 2 => u = .pointer (some ⟨P, 1, none⟩)
        | 3 => u = .pointer (some ⟨R, 0, none⟩)
        | 4 => u = .pointer (some ⟨ob, 1, none⟩)
        | 5 => u = .int .i64 o.i
        | 6 => u = .pointer (some ⟨ob, 2, none⟩)
        | 7 => u = .int .i64 o.j
        | 8 => u = .slice ra R9.length rc
        | 9 => NsQ X0.heap.size (sndA g o.i o.j R9).2.1 (sndA g o.i o.j R9).2.2 u X
        | 10 => NsQ X0.heap.size (sndA g o.i o.j R9).2.1 (sndA g o.i o.j R9).2.2 u X
        | 11 => u = .int .i64 (sndA g o.i o.j R9).2.1
        | 12 => NoR X0.heap.size (sndA g o.i o.j R9).2.2 u X
        | 14 => u = .int .i64 (sndA g o.i o.j R9).2.1
        | _ => True) (fun i => match i with | 13 => some (32, 3) | _ => none) (fun i => match i with | 15 => some (13, 12) | _ => none) rfl rfl (by decide) ?_ ?_ ?_ ?_ ?_ ?_ ?_
      · intro kk f s h
        match kk, h with
        | 15, h => cases h; exact ⟨rfl, (by intro h; cases h), rfl, rfl, _, _, _, _, _, ⟨13, .data⟩, ⟨12, .data⟩, rfl, rfl, rfl, rfl, rfl, (by simp), rfl, rfl, (by simp), rfl, rfl⟩
        | 0, h | 1, h | 2, h | 3, h | 4, h | 5, h | 6, h | 7, h | 8, h | 9, h | 10, h | 11, h | 12, h | 13, h | 14, h => cases h
        | m + 16, h => cases h
      · intro ii t n h
        match ii, h with
        | 13, h => rfl
        | 0, h | 1, h | 2, h | 3, h | 4, h | 5, h | 6, h | 7, h | 8, h | 9, h | 10, h | 11, h | 12, h | 14, h | 15, h => cases h
        | m + 16, h => cases h
      · intro p q f s s' h1 h2
        have e1 : (p = 15 ∧ f = 13) := by
          match p, h1 with
          | 15, h => cases h; simp
          | 0, h | 1, h | 2, h | 3, h | 4, h | 5, h | 6, h | 7, h | 8, h | 9, h | 10, h | 11, h | 12, h | 13, h | 14, h => cases h
          | m + 16, h => cases h
        have e2 : (q = 15 ∧ f = 13) := by
          match q, h2 with
          | 15, h => cases h; simp
          | 0, h | 1, h | 2, h | 3, h | 4, h | 5, h | 6, h | 7, h | 8, h | 9, h | 10, h | 11, h | 12, h | 13, h | 14, h => cases h
          | m + 16, h => cases h
        omega
      · intro ii o9 ho hA hK q X vals S hC hX hS hdep hoth
        have t0 : q.tmps[0]? = some (.pointer (some ⟨P, 0, none⟩)) := by rw [hoth 0 (by kernel_rfl)]; rfl
        have t3 : q.tmps[3]? = some (.pointer (some ⟨ob, 0, none⟩)) := by rw [hoth 3 (by kernel_rfl)]; rfl
        have t5 : q.tmps[5]? = some (.slice ra R9.length rc) := by rw [hoth 5 (by kernel_rfl)]; rfl
        match ii, ho, hA, hK with
        | 0, ho, hA, hK =>
          simp only [List.getElem?_cons_zero, Option.some.injEq] at ho
          subst ho
          unfold Oper.wp
          simp [execOp, go_sem, t0]
          exact cameFB _ rfl (by decide) (Below.refl _ _) (fun _ _ => rfl)
        | 1, ho, hA, hK =>
          simp only [List.getElem?_cons_succ, List.getElem?_cons_zero, Option.some.injEq] at ho
          subst ho
          obtain ⟨u0, e0⟩ := hdep ⟨0, .data⟩ (by simp) rfl _ 49 rfl rfl
          rw [show vals 0 = .pointer (some ⟨P, 0, none⟩) from e0 rfl rfl X (KeptP.refl _ _)] at u0
          unfold Oper.wp
          simp [execOp, go_sem, u0]
          exact cameFB _ rfl (by decide) (Below.refl _ _) (fun _ _ => rfl)
        | 2, ho, hA, hK =>
          simp only [List.getElem?_cons_succ, List.getElem?_cons_zero, Option.some.injEq] at ho
          subst ho
          obtain ⟨u1, e1⟩ := hdep ⟨1, .data⟩ (by simp) rfl _ 50 rfl rfl
          rw [show vals 1 = .pointer (some ⟨P, 0, none⟩) from e1 rfl rfl X (KeptP.refl _ _)] at u1
          unfold Oper.wp
          simp [execOp, go_sem, u1]
          exact cameFB _ rfl (by decide) (Below.refl _ _) (fun _ _ => rfl)
        | 3, ho, hA, hK =>
          simp only [List.getElem?_cons_succ, List.getElem?_cons_zero, Option.some.injEq] at ho
          subst ho
          obtain ⟨u2, e2⟩ := hdep ⟨2, .data⟩ (by simp) rfl _ 51 rfl rfl
          rw [show vals 2 = .pointer (some ⟨P, 1, none⟩) from e2 rfl rfl X (KeptP.refl _ _)] at u2
          have cc : X.cell? ⟨P, 1, none⟩ = some (.pointer (some ⟨R, 0, none⟩)) := (RowAt.later H6.out.1.h.p (hC (.inr (by kernel_rfl)))).cellIs 1 rfl
          unfold Oper.wp
          simp [execOp, go_sem, u2, cc]
          exact cameFB _ rfl (by decide) (Below.refl _ _) (fun _ _ => rfl)
        | 4, ho, hA, hK =>
          simp only [List.getElem?_cons_succ, List.getElem?_cons_zero, Option.some.injEq] at ho
          subst ho
          unfold Oper.wp
          simp [execOp, go_sem, t3]
          exact cameFB _ rfl (by decide) (Below.refl _ _) (fun _ _ => rfl)
        | 5, ho, hA, hK =>
          simp only [List.getElem?_cons_succ, List.getElem?_cons_zero, Option.some.injEq] at ho
          subst ho
          obtain ⟨u4, e4⟩ := hdep ⟨4, .data⟩ (by simp) rfl _ 53 rfl rfl
          rw [show vals 4 = .pointer (some ⟨ob, 1, none⟩) from e4 rfl rfl X (KeptP.refl _ _)] at u4
          have cc : X.cell? ⟨ob, 1, none⟩ = some (.int .i64 o.i) := (RowAt.later HO6.out (hC (.inr (by kernel_rfl)))).cellIs 1 rfl
          unfold Oper.wp
          simp [execOp, go_sem, u4, cc]
          exact cameFB _ rfl (by decide) (Below.refl _ _) (fun _ _ => rfl)
        | 6, ho, hA, hK =>
          simp only [List.getElem?_cons_succ, List.getElem?_cons_zero, Option.some.injEq] at ho
          subst ho
          unfold Oper.wp
          simp [execOp, go_sem, t3]
          exact cameFB _ rfl (by decide) (Below.refl _ _) (fun _ _ => rfl)
        | 7, ho, hA, hK =>
          simp only [List.getElem?_cons_succ, List.getElem?_cons_zero, Option.some.injEq] at ho
          subst ho
          obtain ⟨u6, e6⟩ := hdep ⟨6, .data⟩ (by simp) rfl _ 55 rfl rfl
          rw [show vals 6 = .pointer (some ⟨ob, 2, none⟩) from e6 rfl rfl X (KeptP.refl _ _)] at u6
          have cc : X.cell? ⟨ob, 2, none⟩ = some (.int .i64 o.j) := (RowAt.later HO6.out (hC (.inr (by kernel_rfl)))).cellIs 2 rfl
          unfold Oper.wp
          simp [execOp, go_sem, u6, cc]
          exact cameFB _ rfl (by decide) (Below.refl _ _) (fun _ _ => rfl)
        | 8, ho, hA, hK =>
          simp only [List.getElem?_cons_succ, List.getElem?_cons_zero, Option.some.injEq] at ho
          subst ho
          unfold Oper.wp
          simp [execOp, go_sem, t5]
          exact cameFB _ rfl (by decide) (Below.refl _ _) (fun _ _ => rfl)
        | 9, ho, hA, hK =>
          simp only [List.getElem?_cons_succ, List.getElem?_cons_zero, Option.some.injEq] at ho
          subst ho
          obtain ⟨u3, e3⟩ := hdep ⟨3, .data⟩ (by simp) rfl _ 52 rfl rfl
          rw [show vals 3 = .pointer (some ⟨R, 0, none⟩) from e3 rfl rfl X (KeptP.refl _ _)] at u3
          obtain ⟨u5, e5⟩ := hdep ⟨5, .data⟩ (by simp) rfl _ 54 rfl rfl
          rw [show vals 5 = .int .i64 o.i from e5 rfl rfl X (KeptP.refl _ _)] at u5
          obtain ⟨u7, e7⟩ := hdep ⟨7, .data⟩ (by simp) rfl _ 56 rfl rfl
          rw [show vals 7 = .int .i64 o.j from e7 rfl rfl X (KeptP.refl _ _)] at u7
          obtain ⟨u8, e8⟩ := hdep ⟨8, .data⟩ (by simp) rfl _ 57 rfl rfl
          rw [show vals 8 = .slice ra R9.length rc from e8 rfl rfl X (KeptP.refl _ _)] at u8
          have hb := hC (.inl rfl)
          unfold Oper.wp
          simp [go_sem, u3, u5, u7, u8]
          refine (refSend_any (H6.out.1.rG.later hb) o.i o.j (HC6.out.2.2.1.later hb) (by omega) (fun hne k hk q => by have := HRM.out hne k hk; have := (H2.out.fr k q).1; omega)).mono ?_
          rintro r X1 ⟨ee, v9, rfl, i2, i1, j4, i4⟩
          exact cameFX _ rfl ⟨i4.os, i4.tape, i4.output, i4.size, i4.block⟩ (fun X2 hk => SoR.of H6.out.1 (Nat.lt_of_lt_of_le HG.out.2 hsz0) hb i1 j4 i4 hS hk) (fun x9 hk => NsQ.mk i2 hb.size hk (fun s q => by have := HLT.out.2 s q; have := hb.size; have := HB3s.out; omega) (fun s q => (hS s q).1))
        | 10, ho, hA, hK =>
          simp only [List.getElem?_cons_succ, List.getElem?_cons_zero, Option.some.injEq] at ho
          subst ho
          obtain ⟨u9, e9⟩ := hdep ⟨9, .data⟩ (by simp) rfl _ 58 rfl rfl
          unfold Oper.wp
          simp [execOp, go_sem, u9]
          exact cameFB _ rfl (by decide) (Below.refl _ _) (fun x9 hk => e9 rfl rfl x9 hk)
        | 11, ho, hA, hK =>
          simp only [List.getElem?_cons_succ, List.getElem?_cons_zero, Option.some.injEq] at ho
          subst ho
          obtain ⟨u10, e10⟩ := hdep ⟨10, .data⟩ (by simp) rfl _ 48 rfl rfl
          obtain ⟨ee, q8, _⟩ := e10 rfl rfl X (KeptP.refl _ _)
          rw [q8] at u10
          unfold Oper.wp
          simp [execOp, go_sem, u10]
          exact cameFB _ rfl (by decide) (Below.refl _ _) (fun _ _ => rfl)
        | 12, ho, hA, hK =>
          simp only [List.getElem?_cons_succ, List.getElem?_cons_zero, Option.some.injEq] at ho
          subst ho
          obtain ⟨u10, e10⟩ := hdep ⟨10, .data⟩ (by simp) rfl _ 48 rfl rfl
          obtain ⟨ee, q8, _⟩ := e10 rfl rfl X (KeptP.refl _ _)
          rw [q8] at u10
          unfold Oper.wp
          simp [execOp, go_sem, u10]
          exact cameFB _ rfl (by decide) (Below.refl _ _) (fun x9 hk => NsQ.snd q8 (e10 rfl rfl x9 hk))
        | 13, ho, hA, hK => cases hA
        | 14, ho, hA, hK =>
          simp only [List.getElem?_cons_succ, List.getElem?_cons_zero, Option.some.injEq] at ho
          subst ho
          obtain ⟨u11, e11⟩ := hdep ⟨11, .data⟩ (by simp) rfl _ 59 rfl rfl
          rw [show vals 11 = .int .i64 (sndA g o.i o.j R9).2.1 from e11 rfl rfl X (KeptP.refl _ _)] at u11
          unfold Oper.wp
          simp [execOp, go_sem, u11]
          exact cameFB _ rfl (by decide) (Below.refl _ _) (fun _ _ => rfl)
        | 15, ho, hA, hK => cases hK
        | m + 16, ho, hA, hK => simp at ho
      · intro ii o9 t n ho hA q X
        match ii, ho, hA with
        | 13, ho, hA =>
          cases hA
          simp only [List.getElem?_cons_succ, List.getElem?_cons_zero, Option.some.injEq] at ho
          subst ho
          unfold Oper.wp
          simp [execOp, go_sem]
          exact ⟨_, rfl, rfl, rfl⟩
        | 0, ho, hA | 1, ho, hA | 2, ho, hA | 3, ho, hA | 4, ho, hA | 5, ho, hA | 6, ho, hA | 7, ho, hA | 8, ho, hA | 9, ho, hA | 10, ho, hA | 11, ho, hA | 12, ho, hA | 14, ho, hA | 15, ho, hA => cases hA
        | m + 16, ho, hA => cases hA
      · intro ii o9 of os_ f s n g' t df ds sv ho hK hA hf hs hdf hds q X cs0 sf ss hR hg hn
        match ii, ho, hK with
        | 15, ho, hK =>
          cases hK
          cases hA
          simp only [List.getElem?_cons_succ, List.getElem?_cons_zero, Option.some.injEq] at ho hf hs
          subst ho hf hs
          cases hdf
          cases hds
          obtain ⟨n0, n1, n2, n3, n4, n5, n6, rfl⟩ := NoR.form hR
          exact wp_store_row _ _ _ rfl g' ((nov n0 n1 n2 n3 n4 n5 n6)) (by simp [Act.eval, sf]) (by simp [Act.eval, ss]) _ cs0 hg no3_size (by rw [hn]; rfl) (by simp [Value.oneCell', nov]) ⟨undef, (nov n0 n1 n2 n3 n4 n5 n6), rfl, rfl, rfl, rfl⟩
        | 0, ho, hK | 1, ho, hK | 2, ho, hK | 3, ho, hK | 4, ho, hK | 5, ho, hK | 6, ho, hK | 7, ho, hK | 8, ho, hK | 9, ho, hK | 10, ho, hK | 11, ho, hK | 12, ho, hK | 13, ho, hK | 14, ho, hK => cases hK
        | m + 16, ho, hK => cases hK
      · intro vals X7 hPo hsz hR hA
        obtain ⟨vr7, p7, c7⟩ := hPo
        obtain ⟨b8, cs', e13, hb8, hrow', hsz3, hval'⟩ := hA 13 _ _ (by decide) rfl
        have q12 : NoR X0.heap.size (sndA g o.i o.j R9).2.2 (vals 12) X7 := hR 12 (by decide) rfl rfl
        have e14 : vals 14 = .int .i64 (sndA g o.i o.j R9).2.1 := hR 14 (by decide) rfl rfl
        have ecs' : vals 12 = .agg cs' := hval' 15 12 (by decide) rfl
        rw [ecs'] at q12
        obtain ⟨n0, n1, n2, hno⟩ : ∃ n0 n1 n2, cs' = #[n0, n1, n2] := by
          obtain ⟨a0, a1, a2, a3, a4, a5, a6, hno⟩ := q12.form
          exact ⟨_, _, _, Value.agg.inj hno⟩
        subst hno
        have r8 : RowAt b8 #[n0, n1, n2] 32 X7 := hrow'
        have hn1 : ∀ s, w3.heap.size ≤ s → ¬ Bch R vr s := fun s hs q => by have := HLT.out.2 s q; omega
        have hG7 : ∀ s, w3.heap.size ≤ s → ¬ s = G := fun s hs q => by have := HG.out.2; omega
        have l7 := HC6.out.2.1.ch c7 (fun k hk q => by cases hk; have := HLT.out.2 G q; have := HG.out.1; omega)
        have w7 := HC6.out.2.2.1.chN c7 (fun hne k hk q => by have := HRM.out hne k hk; have := (H2.out.fr k q).1; omega)
        have HI := hid_of' (intact_is l7 w7 (by omega))
        have q7 := HC6.out.1.ch c7 hn1
        have hM7 : Below M W X7 := HB3.out.trans (HC6.out.2.2.2.trans (c7.below (fun s hs q => by have := (H2.out.fr s q).1; omega) (Nat.le_trans HM3.out hsz0)))
        have HQ := hid_of' (fun (x : World) (hx : Ch (fun k => k = G) X7 x) => (⟨r8.ch hx (hG7 b8 (Nat.le_trans hsz0 hb8)), p7.fin hx l7, refused_is (HLw.out x (hM7.trans (hx.below (fun s hs q => by have := HG.out.1; have := HMW.out; omega) (Nat.le_trans HM3.out (Nat.le_trans hsz0 c7.size))))) (q7.ch hx hG7) (q12.ch hx (fun s hs => hG7 s (Nat.le_trans hsz0 hs)))⟩ : RowAt b8 #[n0, n1, n2] 32 x ∧ (PrAt M P B R vb6 vr7 (sndA g o.i o.j R9).1 (sndA g o.i o.j R9).1 x) ∧ Calls Tryd.prog 7 #[ev, .agg #[n0, n1, n2]] x fun e w' => e = .returned (.bool true) ∧ Below x.heap.size x w'))
        have HE7 := hid_of' (And.intro hM7 (And.intro trivial (show M ≤ X7.heap.size from Nat.le_trans HM3.out (Nat.le_trans hsz0 c7.size))))
        have HM7 := hid_of' (show M ≤ G from Nat.le_trans HMW.out HG.out.1)
        clear hR hA hsz hval' hrow' p7 c7 q12 r8 hn1 hG7 l7 w7 q7 hM7 hsz3 ecs'
        simp only [putAll, e13, e14, List.setIfInBounds_toArray, List.set_cons_succ, List.set_cons_zero]
        clear e13 e14
        obtain ⟨m9, hm9⟩ : ∃ m9, (sndA g o.i o.j R9).2.1 = m9 := ⟨_, rfl⟩
        rw [hm9]
        go_wp2_with (first
          | (go_at_call 27; (with_reducible refine HI.out.mono ?_); rintro e x1 ⟨rfl, i1⟩; have HI1 := hid_of' i1; have HX1 := hid_of' (HQ.out x1 i1); clear i1 HI; have k0 := HX1.out.1.cellIs 0 rfl; have k1 := HX1.out.1.cellIs 1 rfl; have k2 := HX1.out.1.cellIs 2 rfl)
          | (go_at_call 7; (with_reducible refine HX1.out.2.2.mono ?_); rintro e X8 ⟨rfl, hb8⟩))
        go_ret
        have hM1 := HI1.out.below (n := M) (fun s hs q => by have := HM7.out; omega) HE7.out.2.2
        exact ⟨rfl, _, _, _, HX1.out.2.1.later hb8, HBw.out.trans (HE7.out.1.trans (hM1.trans (hb8.mono (Nat.le_trans HE7.out.2.2 HI1.out.size))))⟩
  · have h60i : (60 : Int) < (o.raw.length : Int) := by omega
    have h60c : (60 : Int) ≤ (rc : Int) := by omega
    have ht := hraw0.take (n := 60) (by omega)
    have hl60 : (o.raw.take 60).length = 60 := by rw [List.length_take]; omega
    have hne9 : o.raw ≠ [] := fun e => by rw [e] at h60i; simp at h60i
    obtain ⟨R9, hR9⟩ : ∃ R9, o.raw.take 60 = R9 := ⟨_, rfl⟩
    rw [hR9] at ht hl60
    have HRM : Hid (R9 ≠ [] → ∀ k, Value.ownBlock (.slice ra R9.length rc) = some k → k < M) := fun _ k hk => hrM hne9 k (by cases ra <;> exact hk)
    clear hrM hraw0
    have hraw0 : SlB W (.slice ra R9.length rc) R9 := by rw [hl60]; exact ht
    have h60 : R9.length ≤ 60 := by omega
    have HL60 := hid_of' hl60
    clear ht hne9 hl60
    go_upto_region 6 with fail
    rw [show (60 : Nat) = R9.length from HL60.out.symm]
    clear c3 h60i h60c
    have HL := hid_of' (lend_is hraw0 (by omega))
    go_upto_region 7 with (go_at_call 25; refine HL.out.mono ?_; rintro e w3 ⟨G, c, rfl, l1, l2, l3⟩; clear HL)
    have HM3 : Hid (M ≤ w3.heap.size) := Nat.le_trans HMW.out l3.size
    have HB3s : Hid (W.heap.size ≤ w3.heap.size) := l3.size
    have hsz0 : W.heap.size ≤ w3.heap.size := l3.size
    have HB3 := hid_of' (l3.mono HMW.out)
    have HG := hid_of' (And.intro l2 (Rw.lt l1 G rfl))
    have HOb3 := hid_of' (HOb.out.later l3)
    have HZ := hid_of' (PrG.of H2.out l3 l2)
    have HR3 := hid_of' (And.intro l1 (hraw0.later l3))
    have HN12 : Hid (2 < B) := by have := (H2.out.fb B (.inl rfl)).1; show _ < _; omega
    clear l1 l2 l3 hraw0
    refine wp_region_floatC (by kernel_rfl) (by kernel_rfl) (Bch B vb) (fun s q => by have := HLT.out.1 s q; have := HB3s.out; omega) 9 (fun X2 => SoB G M P B R vr (sndA g o.i o.j R9).1 g (Bch B vb) w3 X2) (fun ii u X => match ii with
      | 0 => u = .pointer (some ⟨P, 0, none⟩)
      | 1 => u = .pointer (some ⟨P, 0, none⟩)
      | 2 => u = .pointer (some ⟨P, 0, none⟩)
      | 3 => u = .pointer (some ⟨B, 0, none⟩)
      | 4 => u = .pointer (some ⟨ob, 1, none⟩)
      | 5 => u = .int .i64 o.i
      | 6 => u = .pointer (some ⟨ob, 2, none⟩)
      | 7 => u = .int .i64 o.j
      | 8 => u = .slice (some ⟨G, 0, none⟩) R9.length c
      | 9 => SdQ ad w3.heap.size (sndA g o.i o.j R9).2.1 (sndA g o.i o.j R9).2.2 u X
      | 10 => SdQ ad w3.heap.size (sndA g o.i o.j R9).2.1 (sndA g o.i o.j R9).2.2 u X
      | 11 => u = .int .i64 (sndA g o.i o.j R9).2.1
      | 12 => ErrR ad w3.heap.size (sndA g o.i o.j R9).2.2 u X
      | 13 => u = .int .i64 (sndA g o.i o.j R9).2.1
      | 14 => ErrR ad w3.heap.size (sndA g o.i o.j R9).2.2 u X
      | _ => True) (fun _ => none) (fun _ => none) rfl rfl (by decide) (fun _ _ _ h => by cases h) (fun _ _ _ h => by cases h) (fun _ _ _ _ _ h => by cases h) ?_ (fun _ _ _ _ _ h => by cases h) (fun _ _ _ _ _ _ _ _ _ _ _ _ _ h => by cases h) ?_
    · intro ii o9 ho hA hK q X vals S hC hX hS hdep hoth
      have t0 : q.tmps[0]? = some (.pointer (some ⟨P, 0, none⟩)) := by rw [hoth 0 (by kernel_rfl)]; rfl
      have t3 : q.tmps[3]? = some (.pointer (some ⟨ob, 0, none⟩)) := by rw [hoth 3 (by kernel_rfl)]; rfl
      have t6 : q.tmps[6]? = some (.slice (some ⟨G, 0, none⟩) R9.length c) := by rw [hoth 6 (by kernel_rfl)]; rfl
      match ii, ho, hA, hK with
      | 0, ho, hA, hK =>
        simp only [List.getElem?_cons_zero, Option.some.injEq] at ho
        subst ho
        unfold Oper.wp
        simp [execOp, go_sem, t0]
        exact cameFB _ rfl (by decide) (Below.refl _ _) (fun _ _ => rfl)
      | 1, ho, hA, hK =>
        simp only [List.getElem?_cons_succ, List.getElem?_cons_zero, Option.some.injEq] at ho
        subst ho
        obtain ⟨u0, e0⟩ := hdep ⟨0, .data⟩ (by simp) rfl _ 36 rfl rfl
        rw [show vals 0 = .pointer (some ⟨P, 0, none⟩) from e0 rfl rfl X (KeptP.refl _ _)] at u0
        unfold Oper.wp
        simp [execOp, go_sem, u0]
        exact cameFB _ rfl (by decide) (Below.refl _ _) (fun _ _ => rfl)
      | 2, ho, hA, hK =>
        simp only [List.getElem?_cons_succ, List.getElem?_cons_zero, Option.some.injEq] at ho
        subst ho
        obtain ⟨u1, e1⟩ := hdep ⟨1, .data⟩ (by simp) rfl _ 37 rfl rfl
        rw [show vals 1 = .pointer (some ⟨P, 0, none⟩) from e1 rfl rfl X (KeptP.refl _ _)] at u1
        unfold Oper.wp
        simp [execOp, go_sem, u1]
        exact cameFB _ rfl (by decide) (Below.refl _ _) (fun _ _ => rfl)
      | 3, ho, hA, hK =>
        simp only [List.getElem?_cons_succ, List.getElem?_cons_zero, Option.some.injEq] at ho
        subst ho
        obtain ⟨u2, e2⟩ := hdep ⟨2, .data⟩ (by simp) rfl _ 38 rfl rfl
        rw [show vals 2 = .pointer (some ⟨P, 0, none⟩) from e2 rfl rfl X (KeptP.refl _ _)] at u2
        have cc : X.cell? ⟨P, 0, none⟩ = some (.pointer (some ⟨B, 0, none⟩)) := (RowAt.later HZ.out.h.p (hC (.inr (by kernel_rfl)))).cellIs 0 rfl
        unfold Oper.wp
        simp [execOp, go_sem, u2, cc]
        exact cameFB _ rfl (by decide) (Below.refl _ _) (fun _ _ => rfl)
      | 4, ho, hA, hK =>
        simp only [List.getElem?_cons_succ, List.getElem?_cons_zero, Option.some.injEq] at ho
        subst ho
        unfold Oper.wp
        simp [execOp, go_sem, t3]
        exact cameFB _ rfl (by decide) (Below.refl _ _) (fun _ _ => rfl)
      | 5, ho, hA, hK =>
        simp only [List.getElem?_cons_succ, List.getElem?_cons_zero, Option.some.injEq] at ho
        subst ho
        obtain ⟨u4, e4⟩ := hdep ⟨4, .data⟩ (by simp) rfl _ 40 rfl rfl
        rw [show vals 4 = .pointer (some ⟨ob, 1, none⟩) from e4 rfl rfl X (KeptP.refl _ _)] at u4
        have cc : X.cell? ⟨ob, 1, none⟩ = some (.int .i64 o.i) := (RowAt.later HOb3.out (hC (.inr (by kernel_rfl)))).cellIs 1 rfl
        unfold Oper.wp
        simp [execOp, go_sem, u4, cc]
        exact cameFB _ rfl (by decide) (Below.refl _ _) (fun _ _ => rfl)
      | 6, ho, hA, hK =>
        simp only [List.getElem?_cons_succ, List.getElem?_cons_zero, Option.some.injEq] at ho
        subst ho
        unfold Oper.wp
        simp [execOp, go_sem, t3]
        exact cameFB _ rfl (by decide) (Below.refl _ _) (fun _ _ => rfl)
      | 7, ho, hA, hK =>
        simp only [List.getElem?_cons_succ, List.getElem?_cons_zero, Option.some.injEq] at ho
        subst ho
        obtain ⟨u6, e6⟩ := hdep ⟨6, .data⟩ (by simp) rfl _ 42 rfl rfl
        rw [show vals 6 = .pointer (some ⟨ob, 2, none⟩) from e6 rfl rfl X (KeptP.refl _ _)] at u6
        have cc : X.cell? ⟨ob, 2, none⟩ = some (.int .i64 o.j) := (RowAt.later HOb3.out (hC (.inr (by kernel_rfl)))).cellIs 2 rfl
        unfold Oper.wp
        simp [execOp, go_sem, u6, cc]
        exact cameFB _ rfl (by decide) (Below.refl _ _) (fun _ _ => rfl)
      | 8, ho, hA, hK =>
        simp only [List.getElem?_cons_succ, List.getElem?_cons_zero, Option.some.injEq] at ho
        subst ho
        unfold Oper.wp
        simp [execOp, go_sem, t6]
        exact cameFB _ rfl (by decide) (Below.refl _ _) (fun _ _ => rfl)
      | 9, ho, hA, hK =>
        simp only [List.getElem?_cons_succ, List.getElem?_cons_zero, Option.some.injEq] at ho
        subst ho
        obtain ⟨u3, e3⟩ := hdep ⟨3, .data⟩ (by simp) rfl _ 39 rfl rfl
        rw [show vals 3 = .pointer (some ⟨B, 0, none⟩) from e3 rfl rfl X (KeptP.refl _ _)] at u3
        obtain ⟨u5, e5⟩ := hdep ⟨5, .data⟩ (by simp) rfl _ 41 rfl rfl
        rw [show vals 5 = .int .i64 o.i from e5 rfl rfl X (KeptP.refl _ _)] at u5
        obtain ⟨u7, e7⟩ := hdep ⟨7, .data⟩ (by simp) rfl _ 43 rfl rfl
        rw [show vals 7 = .int .i64 o.j from e7 rfl rfl X (KeptP.refl _ _)] at u7
        obtain ⟨u8, e8⟩ := hdep ⟨8, .data⟩ (by simp) rfl _ 44 rfl rfl
        rw [show vals 8 = .slice (some ⟨G, 0, none⟩) R9.length c from e8 rfl rfl X (KeptP.refl _ _)] at u8
        have hb := hC (.inl rfl)
        unfold Oper.wp
        simp [go_sem, u3, u5, u7, u8]
        refine (send_any (HLw.out X (HB3.out.trans (hb.mono HM3.out))).lb HN12.out (HZ.out.bG.later hb) o.i o.j ((lent_sl HR3.out.1).later hb) (by omega) (fun k hk q => by cases hk; have := HLT.out.1 G q; have := HG.out.1; omega)).mono ?_
        rintro r X1 ⟨ee, v9, rfl, i2, i1, j4, i4⟩
        exact cameFX _ rfl ⟨i4.os, i4.tape, i4.output, i4.size, i4.block⟩ (fun X2 hk => SoB.of HZ.out HG.out.2 hb i1 j4 i4 hS hk) (fun x9 hk => SdQ.mk i2 hb.size hk (fun s q => by have := HLT.out.1 s q; have := hb.size; have := HB3s.out; omega) (fun s q => (hS s q).1))
      | 10, ho, hA, hK =>
        simp only [List.getElem?_cons_succ, List.getElem?_cons_zero, Option.some.injEq] at ho
        subst ho
        obtain ⟨u9, e9⟩ := hdep ⟨9, .data⟩ (by simp) rfl _ 45 rfl rfl
        unfold Oper.wp
        simp [execOp, go_sem, u9]
        exact cameFB _ rfl (by decide) (Below.refl _ _) (fun x9 hk => e9 rfl rfl x9 hk)
      | 11, ho, hA, hK =>
        simp only [List.getElem?_cons_succ, List.getElem?_cons_zero, Option.some.injEq] at ho
        subst ho
        obtain ⟨u10, e10⟩ := hdep ⟨10, .data⟩ (by simp) rfl _ 35 rfl rfl
        obtain ⟨ee, q8, _⟩ := e10 rfl rfl X (KeptP.refl _ _)
        rw [q8] at u10
        unfold Oper.wp
        simp [execOp, go_sem, u10]
        exact cameFB _ rfl (by decide) (Below.refl _ _) (fun _ _ => rfl)
      | 12, ho, hA, hK =>
        simp only [List.getElem?_cons_succ, List.getElem?_cons_zero, Option.some.injEq] at ho
        subst ho
        obtain ⟨u10, e10⟩ := hdep ⟨10, .data⟩ (by simp) rfl _ 35 rfl rfl
        obtain ⟨ee, q8, _⟩ := e10 rfl rfl X (KeptP.refl _ _)
        rw [q8] at u10
        unfold Oper.wp
        simp [execOp, go_sem, u10]
        exact cameFB _ rfl (by decide) (Below.refl _ _) (fun x9 hk => SdQ.snd q8 (e10 rfl rfl x9 hk))
      | 13, ho, hA, hK =>
        simp only [List.getElem?_cons_succ, List.getElem?_cons_zero, Option.some.injEq] at ho
        subst ho
        obtain ⟨u11, e11⟩ := hdep ⟨11, .data⟩ (by simp) rfl _ 46 rfl rfl
        rw [show vals 11 = .int .i64 (sndA g o.i o.j R9).2.1 from e11 rfl rfl X (KeptP.refl _ _)] at u11
        unfold Oper.wp
        simp [execOp, go_sem, u11]
        exact cameFB _ rfl (by decide) (Below.refl _ _) (fun _ _ => rfl)
      | 14, ho, hA, hK =>
        simp only [List.getElem?_cons_succ, List.getElem?_cons_zero, Option.some.injEq] at ho
        subst ho
        obtain ⟨u12, e12⟩ := hdep ⟨12, .data⟩ (by simp) rfl _ 47 rfl rfl
        unfold Oper.wp
        simp [execOp, go_sem, u12]
        exact cameFB _ rfl (by decide) (Below.refl _ _) (fun x9 hk => e12 rfl rfl x9 hk)
      | m + 15, ho, hA, hK => simp at ho
    · intro vals X0 hPo hsz hR hA
      obtain ⟨vb6, p6, c6⟩ := hPo
      have e13 : vals 13 = .int .i64 (sndA g o.i o.j R9).2.1 := hR 13 (by decide) rfl rfl
      have q14 : ErrR ad w3.heap.size (sndA g o.i o.j R9).2.2 (vals 14) X0 := hR 14 (by decide) rfl rfl
      obtain ⟨ev, hev⟩ : ∃ ev, vals 14 = ev := ⟨_, rfl⟩
      rw [hev] at q14
      have hsz0 : w3.heap.size ≤ X0.heap.size := c6.size
      have hWb := HB3s.out
      have HO6 := hid_of' (HOb3.out.ch c6 (fun q => by have := HLT.out.1 ob q; omega))
      have HC6 := hid_of' (And.intro q14 (And.intro (HR3.out.1.ch c6 (fun k hk q => by cases hk; have := HLT.out.1 G q; have := HG.out.1; omega)) (And.intro (HR3.out.2.chN c6 (fun hne k hk q => by have := HRM.out hne k hk; have := (H2.out.fb k q).1; omega)) (c6.below (fun s hs q => by have := (H2.out.fb s q).1; omega) HM3.out))))
      have H6 := hid_of' (And.intro p6 c6)
      clear hR hA hsz p6 c6 q14
      simp only [putAll, e13, hev, List.setIfInBounds_toArray, List.set_cons_succ, List.set_cons_zero]
      clear e13 hev
      go_upto_region 8 with fail
      refine wp_region_floatC (by kernel_rfl) (by kernel_rfl) (Bch R vr) (fun s q => by have := HLT.out.2 s q; have := HB3s.out; omega) 9 (fun X2 => SoR G M P B R vb6 (sndA g o.i o.j R9).1 (sndA g o.i o.j R9).1 (Bch R vr) X0 X2) (fun ii u X => match ii with
        | 0 => u = .pointer (some ⟨P, 0, none⟩)
        | 1 => u = .pointer (some ⟨P, 0, none⟩)
        | 2 => u = .pointer (some ⟨P, 1, none⟩)
        | 3 => u = .pointer (some ⟨R, 0, none⟩)
        | 4 => u = .pointer (some ⟨ob, 1, none⟩)
        | 5 => u = .int .i64 o.i
        | 6 => u = .pointer (some ⟨ob, 2, none⟩)
        | 7 => u = .int .i64 o.j
        | 8 => u = .slice ra R9.length rc
        | 9 => NsQ X0.heap.size (sndA g o.i o.j R9).2.1 (sndA g o.i o.j R9).2.2 u X
        | 10 => NsQ X0.heap.size (sndA g o.i o.j R9).2.1 (sndA g o.i o.j R9).2.2 u X
        | 11 => u = .int .i64 (sndA g o.i o.j R9).2.1
        | 12 => NoR X0.heap.size (sndA g o.i o.j R9).2.2 u X
        | 14 => u = .int .i64 (sndA g o.i o.j R9).2.1
        | _ => True) (fun i => match i with | 13 => some (32, 3) | _ => none) (fun i => match i with | 15 => some (13, 12) | _ => none) rfl rfl (by decide) ?_ ?_ ?_ ?_ ?_ ?_ ?_
      · intro kk f s h
        match kk, h with
        | 15, h => cases h; exact ⟨rfl, (by intro h; cases h), rfl, rfl, _, _, _, _, _, ⟨13, .data⟩, ⟨12, .data⟩, rfl, rfl, rfl, rfl, rfl, (by simp), rfl, rfl, (by simp), rfl, rfl⟩
        | 0, h | 1, h | 2, h | 3, h | 4, h | 5, h | 6, h | 7, h | 8, h | 9, h | 10, h | 11, h | 12, h | 13, h | 14, h => cases h
        | m + 16, h => cases h
      · intro ii t n h
        match ii, h with
        | 13, h => rfl
        | 0, h | 1, h | 2, h | 3, h | 4, h | 5, h | 6, h | 7, h | 8, h | 9, h | 10, h | 11, h | 12, h | 14, h | 15, h => cases h
        | m + 16, h => cases h
      · intro p q f s s' h1 h2
        have e1 : (p = 15 ∧ f = 13) := by
          match p, h1 with
          | 15, h => cases h; simp
          | 0, h | 1, h | 2, h | 3, h | 4, h | 5, h | 6, h | 7, h | 8, h | 9, h | 10, h | 11, h | 12, h | 13, h | 14, h => cases h
          | m + 16, h => cases h
        have e2 : (q = 15 ∧ f = 13) := by
          match q, h2 with
          | 15, h => cases h; simp
          | 0, h | 1, h | 2, h | 3, h | 4, h | 5, h | 6, h | 7, h | 8, h | 9, h | 10, h | 11, h | 12, h | 13, h | 14, h => cases h
          | m + 16, h => cases h
        omega
      · intro ii o9 ho hA hK q X vals S hC hX hS hdep hoth
        have t0 : q.tmps[0]? = some (.pointer (some ⟨P, 0, none⟩)) := by rw [hoth 0 (by kernel_rfl)]; rfl
        have t3 : q.tmps[3]? = some (.pointer (some ⟨ob, 0, none⟩)) := by rw [hoth 3 (by kernel_rfl)]; rfl
        have t5 : q.tmps[5]? = some (.slice ra R9.length rc) := by rw [hoth 5 (by kernel_rfl)]; rfl
        match ii, ho, hA, hK with
        | 0, ho, hA, hK =>
          simp only [List.getElem?_cons_zero, Option.some.injEq] at ho
          subst ho
          unfold Oper.wp
          simp [execOp, go_sem, t0]
          exact cameFB _ rfl (by decide) (Below.refl _ _) (fun _ _ => rfl)
        | 1, ho, hA, hK =>
          simp only [List.getElem?_cons_succ, List.getElem?_cons_zero, Option.some.injEq] at ho
          subst ho
          obtain ⟨u0, e0⟩ := hdep ⟨0, .data⟩ (by simp) rfl _ 49 rfl rfl
          rw [show vals 0 = .pointer (some ⟨P, 0, none⟩) from e0 rfl rfl X (KeptP.refl _ _)] at u0
          unfold Oper.wp
          simp [execOp, go_sem, u0]
          exact cameFB _ rfl (by decide) (Below.refl _ _) (fun _ _ => rfl)
        | 2, ho, hA, hK =>
          simp only [List.getElem?_cons_succ, List.getElem?_cons_zero, Option.some.injEq] at ho
          subst ho
          obtain ⟨u1, e1⟩ := hdep ⟨1, .data⟩ (by simp) rfl _ 50 rfl rfl
          rw [show vals 1 = .pointer (some ⟨P, 0, none⟩) from e1 rfl rfl X (KeptP.refl _ _)] at u1
          unfold Oper.wp
          simp [execOp, go_sem, u1]
          exact cameFB _ rfl (by decide) (Below.refl _ _) (fun _ _ => rfl)
        | 3, ho, hA, hK =>
          simp only [List.getElem?_cons_succ, List.getElem?_cons_zero, Option.some.injEq] at ho
          subst ho
          obtain ⟨u2, e2⟩ := hdep ⟨2, .data⟩ (by simp) rfl _ 51 rfl rfl
          rw [show vals 2 = .pointer (some ⟨P, 1, none⟩) from e2 rfl rfl X (KeptP.refl _ _)] at u2
          have cc : X.cell? ⟨P, 1, none⟩ = some (.pointer (some ⟨R, 0, none⟩)) := (RowAt.later H6.out.1.h.p (hC (.inr (by kernel_rfl)))).cellIs 1 rfl
          unfold Oper.wp
          simp [execOp, go_sem, u2, cc]
          exact cameFB _ rfl (by decide) (Below.refl _ _) (fun _ _ => rfl)
        | 4, ho, hA, hK =>
          simp only [List.getElem?_cons_succ, List.getElem?_cons_zero, Option.some.injEq] at ho
          subst ho
          unfold Oper.wp
          simp [execOp, go_sem, t3]
          exact cameFB _ rfl (by decide) (Below.refl _ _) (fun _ _ => rfl)
        | 5, ho, hA, hK =>
          simp only [List.getElem?_cons_succ, List.getElem?_cons_zero, Option.some.injEq] at ho
          subst ho
          obtain ⟨u4, e4⟩ := hdep ⟨4, .data⟩ (by simp) rfl _ 53 rfl rfl
          rw [show vals 4 = .pointer (some ⟨ob, 1, none⟩) from e4 rfl rfl X (KeptP.refl _ _)] at u4
          have cc : X.cell? ⟨ob, 1, none⟩ = some (.int .i64 o.i) := (RowAt.later HO6.out (hC (.inr (by kernel_rfl)))).cellIs 1 rfl
          unfold Oper.wp
          simp [execOp, go_sem, u4, cc]
          exact cameFB _ rfl (by decide) (Below.refl _ _) (fun _ _ => rfl)
        | 6, ho, hA, hK =>
          simp only [List.getElem?_cons_succ, List.getElem?_cons_zero, Option.some.injEq] at ho
          subst ho
          unfold Oper.wp
          simp [execOp, go_sem, t3]
          exact cameFB _ rfl (by decide) (Below.refl _ _) (fun _ _ => rfl)
        | 7, ho, hA, hK =>
          simp only [List.getElem?_cons_succ, List.getElem?_cons_zero, Option.some.injEq] at ho
          subst ho
          obtain ⟨u6, e6⟩ := hdep ⟨6, .data⟩ (by simp) rfl _ 55 rfl rfl
          rw [show vals 6 = .pointer (some ⟨ob, 2, none⟩) from e6 rfl rfl X (KeptP.refl _ _)] at u6
          have cc : X.cell? ⟨ob, 2, none⟩ = some (.int .i64 o.j) := (RowAt.later HO6.out (hC (.inr (by kernel_rfl)))).cellIs 2 rfl
          unfold Oper.wp
          simp [execOp, go_sem, u6, cc]
          exact cameFB _ rfl (by decide) (Below.refl _ _) (fun _ _ => rfl)
        | 8, ho, hA, hK =>
          simp only [List.getElem?_cons_succ, List.getElem?_cons_zero, Option.some.injEq] at ho
          subst ho
          unfold Oper.wp
          simp [execOp, go_sem, t5]
          exact cameFB _ rfl (by decide) (Below.refl _ _) (fun _ _ => rfl)
        | 9, ho, hA, hK =>
          simp only [List.getElem?_cons_succ, List.getElem?_cons_zero, Option.some.injEq] at ho
          subst ho
          obtain ⟨u3, e3⟩ := hdep ⟨3, .data⟩ (by simp) rfl _ 52 rfl rfl
          rw [show vals 3 = .pointer (some ⟨R, 0, none⟩) from e3 rfl rfl X (KeptP.refl _ _)] at u3
          obtain ⟨u5, e5⟩ := hdep ⟨5, .data⟩ (by simp) rfl _ 54 rfl rfl
          rw [show vals 5 = .int .i64 o.i from e5 rfl rfl X (KeptP.refl _ _)] at u5
          obtain ⟨u7, e7⟩ := hdep ⟨7, .data⟩ (by simp) rfl _ 56 rfl rfl
          rw [show vals 7 = .int .i64 o.j from e7 rfl rfl X (KeptP.refl _ _)] at u7
          obtain ⟨u8, e8⟩ := hdep ⟨8, .data⟩ (by simp) rfl _ 57 rfl rfl
          rw [show vals 8 = .slice ra R9.length rc from e8 rfl rfl X (KeptP.refl _ _)] at u8
          have hb := hC (.inl rfl)
          unfold Oper.wp
          simp [go_sem, u3, u5, u7, u8]
          refine (refSend_any (H6.out.1.rG.later hb) o.i o.j (HC6.out.2.2.1.later hb) (by omega) (fun hne k hk q => by have := HRM.out hne k hk; have := (H2.out.fr k q).1; omega)).mono ?_
          rintro r X1 ⟨ee, v9, rfl, i2, i1, j4, i4⟩
          exact cameFX _ rfl ⟨i4.os, i4.tape, i4.output, i4.size, i4.block⟩ (fun X2 hk => SoR.of H6.out.1 (Nat.lt_of_lt_of_le HG.out.2 hsz0) hb i1 j4 i4 hS hk) (fun x9 hk => NsQ.mk i2 hb.size hk (fun s q => by have := HLT.out.2 s q; have := hb.size; have := HB3s.out; omega) (fun s q => (hS s q).1))
        | 10, ho, hA, hK =>
          simp only [List.getElem?_cons_succ, List.getElem?_cons_zero, Option.some.injEq] at ho
          subst ho
          obtain ⟨u9, e9⟩ := hdep ⟨9, .data⟩ (by simp) rfl _ 58 rfl rfl
          unfold Oper.wp
          simp [execOp, go_sem, u9]
          exact cameFB _ rfl (by decide) (Below.refl _ _) (fun x9 hk => e9 rfl rfl x9 hk)
        | 11, ho, hA, hK =>
          simp only [List.getElem?_cons_succ, List.getElem?_cons_zero, Option.some.injEq] at ho
          subst ho
          obtain ⟨u10, e10⟩ := hdep ⟨10, .data⟩ (by simp) rfl _ 48 rfl rfl
          obtain ⟨ee, q8, _⟩ := e10 rfl rfl X (KeptP.refl _ _)
          rw [q8] at u10
          unfold Oper.wp
          simp [execOp, go_sem, u10]
          exact cameFB _ rfl (by decide) (Below.refl _ _) (fun _ _ => rfl)
        | 12, ho, hA, hK =>
          simp only [List.getElem?_cons_succ, List.getElem?_cons_zero, Option.some.injEq] at ho
          subst ho
          obtain ⟨u10, e10⟩ := hdep ⟨10, .data⟩ (by simp) rfl _ 48 rfl rfl
          obtain ⟨ee, q8, _⟩ := e10 rfl rfl X (KeptP.refl _ _)
          rw [q8] at u10
          unfold Oper.wp
          simp [execOp, go_sem, u10]
          exact cameFB _ rfl (by decide) (Below.refl _ _) (fun x9 hk => NsQ.snd q8 (e10 rfl rfl x9 hk))
        | 13, ho, hA, hK => cases hA
        | 14, ho, hA, hK =>
          simp only [List.getElem?_cons_succ, List.getElem?_cons_zero, Option.some.injEq] at ho
          subst ho
          obtain ⟨u11, e11⟩ := hdep ⟨11, .data⟩ (by simp) rfl _ 59 rfl rfl
          rw [show vals 11 = .int .i64 (sndA g o.i o.j R9).2.1 from e11 rfl rfl X (KeptP.refl _ _)] at u11
          unfold Oper.wp
          simp [execOp, go_sem, u11]
          exact cameFB _ rfl (by decide) (Below.refl _ _) (fun _ _ => rfl)
        | 15, ho, hA, hK => cases hK
        | m + 16, ho, hA, hK => simp at ho
      · intro ii o9 t n ho hA q X
        match ii, ho, hA with
        | 13, ho, hA =>
          cases hA
          simp only [List.getElem?_cons_succ, List.getElem?_cons_zero, Option.some.injEq] at ho
          subst ho
          unfold Oper.wp
          simp [execOp, go_sem]
          exact ⟨_, rfl, rfl, rfl⟩
        | 0, ho, hA | 1, ho, hA | 2, ho, hA | 3, ho, hA | 4, ho, hA | 5, ho, hA | 6, ho, hA | 7, ho, hA | 8, ho, hA | 9, ho, hA | 10, ho, hA | 11, ho, hA | 12, ho, hA | 14, ho, hA | 15, ho, hA => cases hA
        | m + 16, ho, hA => cases hA
      · intro ii o9 of os_ f s n g' t df ds sv ho hK hA hf hs hdf hds q X cs0 sf ss hR hg hn
        match ii, ho, hK with
        | 15, ho, hK =>
          cases hK
          cases hA
          simp only [List.getElem?_cons_succ, List.getElem?_cons_zero, Option.some.injEq] at ho hf hs
          subst ho hf hs
          cases hdf
          cases hds
          obtain ⟨n0, n1, n2, n3, n4, n5, n6, rfl⟩ := NoR.form hR
          exact wp_store_row _ _ _ rfl g' ((nov n0 n1 n2 n3 n4 n5 n6)) (by simp [Act.eval, sf]) (by simp [Act.eval, ss]) _ cs0 hg no3_size (by rw [hn]; rfl) (by simp [Value.oneCell', nov]) ⟨undef, (nov n0 n1 n2 n3 n4 n5 n6), rfl, rfl, rfl, rfl⟩
        | 0, ho, hK | 1, ho, hK | 2, ho, hK | 3, ho, hK | 4, ho, hK | 5, ho, hK | 6, ho, hK | 7, ho, hK | 8, ho, hK | 9, ho, hK | 10, ho, hK | 11, ho, hK | 12, ho, hK | 13, ho, hK | 14, ho, hK => cases hK
        | m + 16, ho, hK => cases hK
      · intro vals X7 hPo hsz hR hA
        obtain ⟨vr7, p7, c7⟩ := hPo
        obtain ⟨b8, cs', e13, hb8, hrow', hsz3, hval'⟩ := hA 13 _ _ (by decide) rfl
        have q12 : NoR X0.heap.size (sndA g o.i o.j R9).2.2 (vals 12) X7 := hR 12 (by decide) rfl rfl
        have e14 : vals 14 = .int .i64 (sndA g o.i o.j R9).2.1 := hR 14 (by decide) rfl rfl
        have ecs' : vals 12 = .agg cs' := hval' 15 12 (by decide) rfl
        rw [ecs'] at q12
        obtain ⟨n0, n1, n2, hno⟩ : ∃ n0 n1 n2, cs' = #[n0, n1, n2] := by
          obtain ⟨a0, a1, a2, a3, a4, a5, a6, hno⟩ := q12.form
          exact ⟨_, _, _, Value.agg.inj hno⟩
        subst hno
        have r8 : RowAt b8 #[n0, n1, n2] 32 X7 := hrow'
        have hn1 : ∀ s, w3.heap.size ≤ s → ¬ Bch R vr s := fun s hs q => by have := HLT.out.2 s q; omega
        have hG7 : ∀ s, w3.heap.size ≤ s → ¬ s = G := fun s hs q => by have := HG.out.2; omega
        have l7 := HC6.out.2.1.ch c7 (fun k hk q => by cases hk; have := HLT.out.2 G q; have := HG.out.1; omega)
        have w7 := HC6.out.2.2.1.chN c7 (fun hne k hk q => by have := HRM.out hne k hk; have := (H2.out.fr k q).1; omega)
        have HI := hid_of' (intact_is l7 w7 (by omega))
        have q7 := HC6.out.1.ch c7 hn1
        have hM7 : Below M W X7 := HB3.out.trans (HC6.out.2.2.2.trans (c7.below (fun s hs q => by have := (H2.out.fr s q).1; omega) (Nat.le_trans HM3.out hsz0)))
        have HQ := hid_of' (fun (x : World) (hx : Ch (fun k => k = G) X7 x) => (⟨r8.ch hx (hG7 b8 (Nat.le_trans hsz0 hb8)), p7.fin hx l7, refused_is (HLw.out x (hM7.trans (hx.below (fun s hs q => by have := HG.out.1; have := HMW.out; omega) (Nat.le_trans HM3.out (Nat.le_trans hsz0 c7.size))))) (q7.ch hx hG7) (q12.ch hx (fun s hs => hG7 s (Nat.le_trans hsz0 hs)))⟩ : RowAt b8 #[n0, n1, n2] 32 x ∧ (PrAt M P B R vb6 vr7 (sndA g o.i o.j R9).1 (sndA g o.i o.j R9).1 x) ∧ Calls Tryd.prog 7 #[ev, .agg #[n0, n1, n2]] x fun e w' => e = .returned (.bool true) ∧ Below x.heap.size x w'))
        have HE7 := hid_of' (And.intro hM7 (And.intro trivial (show M ≤ X7.heap.size from Nat.le_trans HM3.out (Nat.le_trans hsz0 c7.size))))
        have HM7 := hid_of' (show M ≤ G from Nat.le_trans HMW.out HG.out.1)
        clear hR hA hsz hval' hrow' p7 c7 q12 r8 hn1 hG7 l7 w7 q7 hM7 hsz3 ecs'
        simp only [putAll, e13, e14, List.setIfInBounds_toArray, List.set_cons_succ, List.set_cons_zero]
        clear e13 e14
        obtain ⟨m9, hm9⟩ : ∃ m9, (sndA g o.i o.j R9).2.1 = m9 := ⟨_, rfl⟩
        rw [hm9]
        go_wp2_with (first
          | (go_at_call 27; (with_reducible refine HI.out.mono ?_); rintro e x1 ⟨rfl, i1⟩; have HI1 := hid_of' i1; have HX1 := hid_of' (HQ.out x1 i1); clear i1 HI; have k0 := HX1.out.1.cellIs 0 rfl; have k1 := HX1.out.1.cellIs 1 rfl; have k2 := HX1.out.1.cellIs 2 rfl)
          | (go_at_call 7; (with_reducible refine HX1.out.2.2.mono ?_); rintro e X8 ⟨rfl, hb8⟩))
        go_ret
        have hM1 := HI1.out.below (n := M) (fun s hs q => by have := HM7.out; omega) HE7.out.2.2
        exact ⟨rfl, _, _, _, HX1.out.2.1.later hb8, HBw.out.trans (HE7.out.1.trans (hM1.trans (hb8.mono (Nat.le_trans HE7.out.2.2 HI1.out.size))))⟩
end Go.Proofs.YtdojjhhnciaegaaDoor
