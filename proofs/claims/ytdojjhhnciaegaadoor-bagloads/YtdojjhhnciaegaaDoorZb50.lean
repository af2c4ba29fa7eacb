
/-
  One call of both Bags: Deliver, Look.
-/
import Derived.Test.YtdojjhhnciaegaaDoorZb47
import Derived.Test.YtdojjhhnciaegaaDoorZb49
namespace Go.Proofs.YtdojjhhnciaegaaDoor
open Go.RowKit Go.Extern.Stop Go.Stop Go.Extern
set_option maxRecDepth 100000

theorem KeptP.ch {S : Nat → Prop} {a b : World} (h : KeptP S a b) : Ch S a b := ⟨h.os, h.tape, h.output, h.size, h.block⟩
theorem no3_size : (Tryd.prog.info? 32).map (·.size) = some 3 := by kernel_rfl
theorem BgAt.chK {B : Nat} {v : Value} {g : Bg} {K S : Nat → Prop} {w w' : World} (h : BgAt B v g K w) (c : Ch S w w') (hn : ∀ k, Bch B v k → ¬ S k) (hS : NoU8 S w) : BgAt B v g K w' :=
  ⟨h.lies.ch c (hn B (.inl rfl)), ((h.row.notS hS).ch c (fun k hk => hn k (.inr hk)) (fun _k hk => hk.2)).mono (fun _ hk _ => hk.1), h.most0, h.most1, h.room⟩
theorem RgAt.chK {B : Nat} {v : Value} {g : Bg} {K S : Nat → Prop} {w w' : World} (h : RgAt B v g K w) (c : Ch S w w') (hn : ∀ k, Bch B v k → ¬ S k) (hS : NoU8 S w) : RgAt B v g K w' :=
  ⟨h.lies.ch c (hn B (.inl rfl)), ((h.row.notS hS).ch c (fun k hk => hn k (.inr hk)) (fun _k hk => hk.2)).mono (fun _ hk _ => hk.1), h.most1, h.room⟩
/-- A pair of Bags, the bytes of both ahead of Z. -/
structure PrZ (Z M P B R : Nat) (vb vr : Value) (g gr : Bg) (w : World) : Prop where
  h : PrAt M P B R vb vr g gr w
  b : BgAt B vb g (fun k => k < Z) w
  r : RgAt R vr gr (fun k => k < Z) w
section
variable {Z M P B R : Nat} {vb vr vb' vr' : Value} {g gr g' : Bg} {w w' : World}
theorem PrZ.of (h : PrAt M P B R vb vr g gr w) : PrZ w.heap.size M P B R vb vr g gr w := ⟨h, h.b.mono (fun _ _ q => q), h.r.mono (fun _ _ q => q)⟩
theorem PrZ.later (h : PrZ Z M P B R vb vr g gr w) (hb : Below w.heap.size w w') : PrZ Z M P B R vb vr g gr w' := ⟨h.h.later hb, h.b.later hb, h.r.later hb⟩
theorem PrZ.goB (h : PrZ Z M P B R vb vr g gr w) (hi : BgAt B vb' g' (fun k => k < Z) w') (ha : At' w vb vb') (hc : Ch (Bch B vb) w w') : PrZ Z M P B R vb' vr g' gr w' :=
  ⟨(h.h.goB hi ha hc).1, hi, h.r.chK hc (fun k hk q => (h.h.fb k q).2.2 hk) h.b.noU8⟩
theorem PrZ.goR (h : PrZ Z M P B R vb vr g gr w) (hi : RgAt R vr' g' (fun k => k < Z) w') (ha : At' w vr vr') (hc : Ch (Bch R vr) w w') : PrZ Z M P B R vb vr' g g' w' :=
  ⟨(h.h.goR hi ha hc).1, h.b.chK hc (fun k hk q => (h.h.fb k hk).2.2 q) h.r.noU8, hi⟩
theorem PrZ.ch {S : Nat → Prop} (h : PrZ Z M P B R vb vr g gr w) (c : Ch S w w') (hP : ¬ S P) (hB : ∀ k, Bch B vb k → ¬ S k) (hR : ∀ k, Bch R vr k → ¬ S k) (hK : ∀ k, k < Z → ¬ S k) : PrZ Z M P B R vb vr g gr w' :=
  have b' := h.b.ch c (hB B (.inl rfl)) (fun k q => hB k (.inr q)) hK
  have r' := h.r.ch c (hR R (.inl rfl)) (fun k q => hR k (.inr q)) hK
  ⟨⟨h.h.p.ch c hP, b'.mono (fun _ _ _ => trivial), r'.mono (fun _ _ _ => trivial), h.h.fb, h.h.fr, h.h.p0⟩, b', r'⟩
theorem PrZ.r2 (h : PrZ Z M P B R vb vr g gr w) : RgAt R vr gr (fun k => k < Z ∧ ¬ Bch R vr k) w := ⟨h.r.lies, h.r.row.notS h.r.noU8, h.r.most1, h.r.room⟩
theorem BsAt.u8 {K : Nat → Prop} {v : Value} {bs : List UInt8} (h : BsAt K v bs w) {S : Nat → Prop} (hS : NoU8 S w) : ∀ k, S k → ¬ v.ownBlock = some k := by
  intro k hk e
  rcases h.1.2 with ⟨e1, _⟩ | ⟨g', cap, cur, e1, hg, _⟩
  · rw [e1] at e; cases e
  · rw [e1] at e
    cases e
    exact hS _ hk _ _ hg
/-- A parcel that was answered is written over. -/
theorem PrZ.got {p : Pc} {y : Pl} (h : PrZ Z M P B R vb vr g gr w) (hp : PcIs (fun k => Z ≤ k) p y w) (hP : P < Z) (hM : M ≤ Z) (c : Ch (fun k => p.b.ownBlock = some k) w w') : PrAt M P B R vb vr g gr w' ∧ Below M w w' := by
  have hn : ∀ k, p.b.ownBlock = some k → Z ≤ k := fun k hk => hp.b.2 k hk
  refine ⟨(h.ch c (fun e => by have := hn P e; omega) (hp.b.u8 h.b.noU8) (hp.b.u8 h.r.noU8) (fun k hk e => by have := hn k e; omega)).h, c.below (fun s hs e => by have := hn s e; omega) (by have := h.h.p.lt; have := h.h.p0; omega)⟩
/-- A parcel told. -/
def PcP (K : Nat → Prop) (y : Pl) (u : Value) (X : World) : Prop := ∃ p, u = .agg (pcv p) ∧ PcIs K p y X
/-- What the program's call tells. -/
def GtQ (ad : Nat → Addr) (Z : Nat) (y : Pl) (oo : Rf) (u : Value) (X : World) : Prop := ∃ p e, u = .tuple #[.agg (pcv p), e] ∧ PcIs (fun k => Z ≤ k) p y X ∧ ErrR ad Z oo e X
/-- What the document's call tells. -/
def NtQ (K : Nat → Prop) (Z : Nat) (y : Pl) (oo : Rf) (u : Value) (X : World) : Prop := ∃ p e, u = .tuple #[.agg (pcv p), e] ∧ PcIs K p y X ∧ NoR Z oo e X
theorem tup2 {a b a' b' : Value} (h : Value.tuple #[a, b] = .tuple #[a', b']) : a = a' ∧ b = b' := by
  simpa using h
theorem GtQ.fst {ad : Nat → Addr} {y : Pl} {oo : Rf} {u a b : Value} {X : World} (q : u = .tuple #[a, b]) (h : GtQ ad Z y oo u X) : PcP (fun k => Z ≤ k) y a X := by
  obtain ⟨p, e, h1, h2, _⟩ := h
  exact ⟨p, (tup2 (q.symm.trans h1)).1, h2⟩
theorem GtQ.snd {ad : Nat → Addr} {y : Pl} {oo : Rf} {u a b : Value} {X : World} (q : u = .tuple #[a, b]) (h : GtQ ad Z y oo u X) : ErrR ad Z oo b X := by
  obtain ⟨p, e, h1, _, h2⟩ := h
  rw [(tup2 (q.symm.trans h1)).2]; exact h2
theorem NtQ.fst {K : Nat → Prop} {y : Pl} {oo : Rf} {u a b : Value} {X : World} (q : u = .tuple #[a, b]) (h : NtQ K Z y oo u X) : PcP K y a X := by
  obtain ⟨p, e, h1, h2, _⟩ := h
  exact ⟨p, (tup2 (q.symm.trans h1)).1, h2⟩
theorem NtQ.snd {K : Nat → Prop} {y : Pl} {oo : Rf} {u a b : Value} {X : World} (q : u = .tuple #[a, b]) (h : NtQ K Z y oo u X) : NoR Z oo b X := by
  obtain ⟨p, e, h1, _, h2⟩ := h
  rw [(tup2 (q.symm.trans h1)).2]; exact h2
theorem GtQ.mk {ad : Nat → Addr} {N : Nat} {y : Pl} {oo : Rf} {p : Pc} {e : Value} {T S : Nat → Prop} {X1 X2 : World} (i1 : PcIs (fun k => N ≤ k) p y X1) (i2 : ErrR ad N oo e X1) (hN : Z ≤ N) (hk : KeptP (fun k => T k ∨ S k) X1 X2) (hT : ∀ s, T s → s < N) (hS : ∀ s, S s → s < N) : GtQ ad Z y oo (.tuple #[.agg (pcv p), e]) X2 :=
  have hn : ∀ s, N ≤ s → ¬ (T s ∨ S s) := fun s hs q => q.elim (fun q => by have := hT s q; omega) (fun q => by have := hS s q; omega)
  ⟨p, e, rfl, (i1.ch hk.ch hn).mono (fun _ q _ => Nat.le_trans hN q), (i2.ch hk.ch hn).down hN⟩
theorem NtQ.mk {K : Nat → Prop} {N : Nat} {y : Pl} {oo : Rf} {p : Pc} {e : Value} {T S : Nat → Prop} {X1 X2 : World} (i1 : PcIs K p y X1) (i2 : NoR N oo e X1) (hN : Z ≤ N) (hk : KeptP (fun k => T k ∨ S k) X1 X2) (hT : ∀ s, T s → s < N) (hS : ∀ s, S s → s < N) (hK : ∀ s, K s → ¬ (T s ∨ S s)) : NtQ K Z y oo (.tuple #[.agg (pcv p), e]) X2 :=
  have hn : ∀ s, N ≤ s → ¬ (T s ∨ S s) := fun s hs q => q.elim (fun q => by have := hT s q; omega) (fun q => by have := hS s q; omega)
  ⟨p, e, rfl, i1.ch hk.ch hK, (i2.ch hk.ch hn).down hN⟩
/-- Behind the program's call. -/
def PoB (Z M P B R : Nat) (vr : Value) (g' gr : Bg) (S0 : Nat → Prop) (W X : World) : Prop := ∃ vb', PrZ Z M P B R vb' vr g' gr X ∧ Ch S0 W X
theorem PoB.of {W X X1 X2 : World} {S : Nat → Prop} (hh : PrZ Z M P B R vb vr g gr W) (hb : Below W.heap.size W X) (i1 : BgAt B vb' g' (fun k => k < Z) X1) (i2 : At' X vb vb') (i3 : Ch (Bch B vb) X X1) (hZ : Z ≤ W.heap.size) (hS : ∀ s, S s → s < X.heap.size ∧ W.heap.size ≤ s) (hk : KeptP S X1 X2) : PoB Z M P B R vr g' gr (Bch B vb) W X2 := by
  have h1 := (hh.later hb).goB i1 i2 i3
  have hP := hh.h.p.lt
  have hx := hb.size
  refine ⟨vb', h1.ch hk.ch (fun e => by have := hS P e; omega) (fun k q e => ?_) (fun k q e => by have := hh.h.ltR k q; have := hS k e; omega) (fun k q e => by have := hS k e; omega), (Ch.go (Ch.of hb) i3 (fun s q => .inl q)).go hk.ch (fun s q => .inr (hS s q).2)⟩
  have hs := hS k e
  rcases q with q | q
  · have := hh.h.ltB k (.inl q); omega
  · rcases i2 k q with q | q
    · have := hh.h.ltB k (.inr q); omega
    · omega
/-- Behind both. -/
def PoR (Z M P B R : Nat) (vb : Value) (g g' : Bg) (S0 : Nat → Prop) (W X : World) : Prop := ∃ vr', PrZ Z M P B R vb vr' g g' X ∧ Ch S0 W X
theorem PoR.of {W X X1 X2 : World} {S : Nat → Prop} (hh : PrZ Z M P B R vb vr g gr W) (hb : Below W.heap.size W X) (i1 : RgAt R vr' g' (fun k => k < Z) X1) (i2 : At' X vr vr') (i3 : Ch (Bch R vr) X X1) (hZ : Z ≤ W.heap.size) (hS : ∀ s, S s → s < X.heap.size ∧ W.heap.size ≤ s) (hk : KeptP S X1 X2) : PoR Z M P B R vb g g' (Bch R vr) W X2 := by
  have h1 := (hh.later hb).goR i1 i2 i3
  have hP := hh.h.p.lt
  have hx := hb.size
  refine ⟨vr', h1.ch hk.ch (fun e => by have := hS P e; omega) (fun k q e => by have := hh.h.ltB k q; have := hS k e; omega) (fun k q e => ?_) (fun k q e => by have := hS k e; omega), (Ch.go (Ch.of hb) i3 (fun s q => .inl q)).go hk.ch (fun s q => .inr (hS s q).2)⟩
  have hs := hS k e
  rcases q with q | q
  · have := hh.h.ltR k (.inl q); omega
  · rcases i2 k q with q | q
    · have := hh.h.ltR k (.inr q); omega
    · omega
end
theorem lookB_any {ad : Nat → Addr} {B : Nat} {v : Value} {g : Bg} {K : Nat → Prop} {w : World} (L : Lb ad w) (h : BgAt B v g K w) (i : Int) :
    Calls Tryd.prog 36 #[.pointer (some ⟨B, 0, none⟩), .int .i64 i] w fun e w' => ∃ p u v', e = .returned (.tuple #[.agg (pcv p), u]) ∧ PcIs (fun k => w.heap.size ≤ k) p (plAt g i) w' ∧ ErrR ad w.heap.size (rfAt bLook g i) u w' ∧ BgAt B v' g K w' ∧ At' w v v' ∧ Ch (Bch B v) w w' :=
  (look_any L h i).mono fun _ _ ⟨p, u, h1, h2, h3, h4⟩ => ⟨p, u, v, h1, h2, h3, h.later h4, At'.refl _ _, Ch.of h4⟩
theorem lookR_any {B : Nat} {v : Value} {g : Bg} {K : Nat → Prop} {w : World} (h : RgAt B v g K w) (i : Int) :
    Calls Tryd.prog 37 #[.pointer (some ⟨B, 0, none⟩), .int .i64 i] w fun e w' => ∃ p u v', e = .returned (.tuple #[.agg (pcv p), u]) ∧ PcIs K p (plAt g i) w' ∧ NoR w.heap.size (rfAt bLook g i) u w' ∧ RgAt B v' g K w' ∧ At' w v v' ∧ Ch (Bch B v) w w' :=
  (refLook_any h i).mono fun _ _ ⟨p, u, h1, h2, h3, h4⟩ => ⟨p, u, v, h1, h2, h3, h.later h4, At'.refl _ _, Ch.of h4⟩
set_option maxHeartbeats 8000000 in
theorem does_deliver {ad : Nat → Addr} {M P B R : Nat} {vb vr : Value} {g : Bg} {w : World} (L : ∀ x, Below M w x → Laid ad x) (h : PrAt M P B R vb vr g g w) {o : Opb} (ho : o.Ok w) (_ho1 : o.rv.oneCell' = true) (hw : wiN o.d 9 = 1) :
    Calls Tryd.prog 9 #[.pointer (some ⟨P, 0, none⟩), .agg (ocb o)] w (DoQ M P B R w) := by
  have hb2 := below_one w (.cells (ocb o) 43)
  have ho2 := row_new w (ocb o) 43
  have c0 : (w.alloc (.cells (ocb o) 43)).cell? ⟨w.heap.size, 0, none⟩ = some (.int .i64 o.d) := ho2.cellIs 0 rfl
  have HWi := hid_of' (within_is o.d 9 (w.alloc (.cells (ocb o) 43)) (by decide) (by decide) ho.d)
  rw [hw] at HWi
  have hPl := h.p.lt
  have HLT := hid_of' (And.intro h.ltB h.ltR)
  have H2 := hid_of' (h.later hb2)
  have HO := hid_of' (And.intro ho2 hb2)
  have hMw : M ≤ w.heap.size := by have := h.p0; omega
  have HLw := hid_of' (fun x (hx : Below M (w.alloc (.cells (ocb o) 43)) x) => L x ((hb2.mono hMw).trans hx))
  clear h ho2 hb2 L
  go_enter Tryd.func9, Tryd.ntmps9
  go_upto_region 11 with (go_at_call 24; refine HWi.out.mono ?_; rintro e w1 ⟨rfl, hw1⟩; obtain rfl := hw1.symm; clear HWi)
  clear c0
  obtain ⟨ob, hob⟩ : ∃ ob, w.heap.size = ob := ⟨_, rfl⟩
  have hob1 := HO.out.1.lt
  rw [hob] at HLT hPl hob1 ⊢
  have hMo : M ≤ ob := by omega
  generalize w.alloc (.cells (ocb o) 43) = W at H2 HO HLw hob1 ⊢
  have HMW : Hid (M ≤ W.heap.size) := by show _ ≤ _; omega
  have HBw := hid_of' (HO.out.2.mono hMw)
  have HOb := hid_of' (show RowAt ob (ocb o) 43 W by rw [← hob]; exact HO.out.1)
  have HZ := hid_of' (PrZ.of H2.out)
  refine wp_region_floatC (by kernel_rfl) (by kernel_rfl) (Bch B vb) (fun s q => by have := HLT.out.1 s q; omega) 6 (fun X2 => PoB W.heap.size M P B R vr (dlvG g o.i) g (Bch B vb) W X2) (fun ii u X => match ii with
    | 0 => u = .pointer (some ⟨P, 0, none⟩)
    | 1 => u = .pointer (some ⟨P, 0, none⟩)
    | 2 => u = .pointer (some ⟨P, 0, none⟩)
    | 3 => u = .pointer (some ⟨B, 0, none⟩)
    | 4 => u = .pointer (some ⟨ob, 1, none⟩)
    | 5 => u = .int .i64 o.i
    | 6 => GtQ ad W.heap.size (plAt g o.i) (rfAt bDeliver g o.i) u X
    | 7 => GtQ ad W.heap.size (plAt g o.i) (rfAt bDeliver g o.i) u X
    | 8 => PcP (fun k => W.heap.size ≤ k) (plAt g o.i) u X
    | 9 => ErrR ad W.heap.size (rfAt bDeliver g o.i) u X
    | 12 => ErrR ad W.heap.size (rfAt bDeliver g o.i) u X
    | _ => True) (fun i => match i with | 10 => some (65, 4) | _ => none) (fun i => match i with | 11 => some (10, 8) | _ => none) rfl rfl (by decide) ?_ ?_ ?_ ?_ ?_ ?_ ?_
  · intro kk f s h
    match kk, h with
    | 11, h => cases h; exact ⟨rfl, (by intro h; cases h), rfl, rfl, _, _, _, _, _, ⟨10, .data⟩, ⟨8, .data⟩, rfl, rfl, rfl, rfl, rfl, (by simp), rfl, rfl, (by simp), rfl, rfl⟩
    | 0, h | 1, h | 2, h | 3, h | 4, h | 5, h | 6, h | 7, h | 8, h | 9, h | 10, h | 12, h => cases h
    | m + 13, h => cases h
  · intro ii t n h
    match ii, h with
    | 10, h => rfl
    | 0, h | 1, h | 2, h | 3, h | 4, h | 5, h | 6, h | 7, h | 8, h | 9, h | 11, h | 12, h => cases h
    | m + 13, h => cases h
  · intro p q f s s' h1 h2
    have e1 : (p = 11 ∧ f = 10) := by
      match p, h1 with
      | 11, h => cases h; simp
      | 0, h | 1, h | 2, h | 3, h | 4, h | 5, h | 6, h | 7, h | 8, h | 9, h | 10, h | 12, h => cases h
      | m + 13, h => cases h
    have e2 : (q = 11 ∧ f = 10) := by
      match q, h2 with
      | 11, h => cases h; simp
      | 0, h | 1, h | 2, h | 3, h | 4, h | 5, h | 6, h | 7, h | 8, h | 9, h | 10, h | 12, h => cases h
      | m + 13, h => cases h
    omega
  · intro ii o9 ho hA hK q X vals S hC hX hS hdep hoth
    have t0 : q.tmps[0]? = some (.pointer (some ⟨P, 0, none⟩)) := by rw [hoth 0 (by kernel_rfl)]; rfl
    have t3 : q.tmps[3]? = some (.pointer (some ⟨ob, 0, none⟩)) := by rw [hoth 3 (by kernel_rfl)]; rfl
    match ii, ho, hA, hK with
    | 0, ho, hA, hK =>
      simp only [List.getElem?_cons_zero, Option.some.injEq] at ho
      subst ho
      unfold Oper.wp
      simp [execOp, go_sem, t0]
      exact cameFB _ rfl (by decide) (Below.refl _ _) (fun _ _ => rfl)
    | 1, ho, hA, hK =>
      simp only [List.getElem?_cons_succ, List.getElem?_cons_zero, Option.some.injEq] at ho
      subst ho
      obtain ⟨u0, e0⟩ := hdep ⟨0, .data⟩ (by simp) rfl _ 77 rfl rfl
      rw [show vals 0 = .pointer (some ⟨P, 0, none⟩) from e0 rfl rfl X (KeptP.refl _ _)] at u0
      unfold Oper.wp
      simp [execOp, go_sem, u0]
      exact cameFB _ rfl (by decide) (Below.refl _ _) (fun _ _ => rfl)
    | 2, ho, hA, hK =>
      simp only [List.getElem?_cons_succ, List.getElem?_cons_zero, Option.some.injEq] at ho
      subst ho
      obtain ⟨u1, e1⟩ := hdep ⟨1, .data⟩ (by simp) rfl _ 78 rfl rfl
      rw [show vals 1 = .pointer (some ⟨P, 0, none⟩) from e1 rfl rfl X (KeptP.refl _ _)] at u1
      unfold Oper.wp
      simp [execOp, go_sem, u1]
      exact cameFB _ rfl (by decide) (Below.refl _ _) (fun _ _ => rfl)
    | 3, ho, hA, hK =>
      simp only [List.getElem?_cons_succ, List.getElem?_cons_zero, Option.some.injEq] at ho
      subst ho
      obtain ⟨u2, e2⟩ := hdep ⟨2, .data⟩ (by simp) rfl _ 79 rfl rfl
      rw [show vals 2 = .pointer (some ⟨P, 0, none⟩) from e2 rfl rfl X (KeptP.refl _ _)] at u2
      have cc : X.cell? ⟨P, 0, none⟩ = some (.pointer (some ⟨B, 0, none⟩)) := (RowAt.later HZ.out.h.p (hC (.inr (by kernel_rfl)))).cellIs 0 rfl
      unfold Oper.wp
      simp [execOp, go_sem, u2, cc]
      exact cameFB _ rfl (by decide) (Below.refl _ _) (fun _ _ => rfl)
    | 4, ho, hA, hK =>
      simp only [List.getElem?_cons_succ, List.getElem?_cons_zero, Option.some.injEq] at ho
      subst ho
      unfold Oper.wp
      simp [execOp, go_sem, t3]
      exact cameFB _ rfl (by decide) (Below.refl _ _) (fun _ _ => rfl)
    | 5, ho, hA, hK =>
      simp only [List.getElem?_cons_succ, List.getElem?_cons_zero, Option.some.injEq] at ho
      subst ho
      obtain ⟨u4, e4⟩ := hdep ⟨4, .data⟩ (by simp) rfl _ 81 rfl rfl
      rw [show vals 4 = .pointer (some ⟨ob, 1, none⟩) from e4 rfl rfl X (KeptP.refl _ _)] at u4
      have cc : X.cell? ⟨ob, 1, none⟩ = some (.int .i64 o.i) := (RowAt.later HOb.out (hC (.inr (by kernel_rfl)))).cellIs 1 rfl
      unfold Oper.wp
      simp [execOp, go_sem, u4, cc]
      exact cameFB _ rfl (by decide) (Below.refl _ _) (fun _ _ => rfl)
    | 6, ho, hA, hK =>
      simp only [List.getElem?_cons_succ, List.getElem?_cons_zero, Option.some.injEq] at ho
      subst ho
      obtain ⟨u3, e3⟩ := hdep ⟨3, .data⟩ (by simp) rfl _ 80 rfl rfl
      rw [show vals 3 = .pointer (some ⟨B, 0, none⟩) from e3 rfl rfl X (KeptP.refl _ _)] at u3
      obtain ⟨u5, e5⟩ := hdep ⟨5, .data⟩ (by simp) rfl _ 82 rfl rfl
      rw [show vals 5 = .int .i64 o.i from e5 rfl rfl X (KeptP.refl _ _)] at u5
      have hb := hC (.inl rfl)
      unfold Oper.wp
      simp [go_sem, u3, u5]
      refine (deliver_any (HLw.out X (hb.mono HMW.out)).lb (HZ.out.b.later hb) o.i).mono ?_
      rintro r X1 ⟨pp, ee, v9, rfl, i1, i2, j3, j4, i4⟩
      exact cameFX _ rfl ⟨i4.os, i4.tape, i4.output, i4.size, i4.block⟩ (fun X2 hk => PoB.of HZ.out hb j3 j4 i4 (Nat.le_refl _) hS hk) (fun x9 hk => GtQ.mk i1 i2 hb.size hk (fun s q => by have := HLT.out.1 s q; have := hb.size; omega) (fun s q => (hS s q).1))
    | 7, ho, hA, hK =>
      simp only [List.getElem?_cons_succ, List.getElem?_cons_zero, Option.some.injEq] at ho
      subst ho
      obtain ⟨u6, e6⟩ := hdep ⟨6, .data⟩ (by simp) rfl _ 83 rfl rfl
      unfold Oper.wp
      simp [execOp, go_sem, u6]
      exact cameFB _ rfl (by decide) (Below.refl _ _) (fun x9 hk => e6 rfl rfl x9 hk)
    | 8, ho, hA, hK =>
      simp only [List.getElem?_cons_succ, List.getElem?_cons_zero, Option.some.injEq] at ho
      subst ho
      obtain ⟨u7, e7⟩ := hdep ⟨7, .data⟩ (by simp) rfl _ 76 rfl rfl
      obtain ⟨pp, ee, q8, _⟩ := e7 rfl rfl X (KeptP.refl _ _)
      rw [q8] at u7
      unfold Oper.wp
      simp [execOp, go_sem, u7]
      exact cameFB _ rfl (by decide) (Below.refl _ _) (fun x9 hk => GtQ.fst q8 (e7 rfl rfl x9 hk))
    | 9, ho, hA, hK =>
      simp only [List.getElem?_cons_succ, List.getElem?_cons_zero, Option.some.injEq] at ho
      subst ho
      obtain ⟨u7, e7⟩ := hdep ⟨7, .data⟩ (by simp) rfl _ 76 rfl rfl
      obtain ⟨pp, ee, q8, _⟩ := e7 rfl rfl X (KeptP.refl _ _)
      rw [q8] at u7
      unfold Oper.wp
      simp [execOp, go_sem, u7]
      exact cameFB _ rfl (by decide) (Below.refl _ _) (fun x9 hk => GtQ.snd q8 (e7 rfl rfl x9 hk))
    | 10, ho, hA, hK => cases hA
    | 11, ho, hA, hK => cases hK
    | 12, ho, hA, hK =>
      simp only [List.getElem?_cons_succ, List.getElem?_cons_zero, Option.some.injEq] at ho
      subst ho
      obtain ⟨u9, e9⟩ := hdep ⟨9, .data⟩ (by simp) rfl _ 85 rfl rfl
      unfold Oper.wp
      simp [execOp, go_sem, u9]
      exact cameFB _ rfl (by decide) (Below.refl _ _) (fun x9 hk => e9 rfl rfl x9 hk)
    | m + 13, ho, hA, hK => simp at ho
  · intro ii o9 t n ho hA q X
    match ii, ho, hA with
    | 10, ho, hA =>
      cases hA
      simp only [List.getElem?_cons_succ, List.getElem?_cons_zero, Option.some.injEq] at ho
      subst ho
      unfold Oper.wp
      simp [execOp, go_sem]
      exact ⟨_, rfl, rfl, rfl⟩
    | 0, ho, hA | 1, ho, hA | 2, ho, hA | 3, ho, hA | 4, ho, hA | 5, ho, hA | 6, ho, hA | 7, ho, hA | 8, ho, hA | 9, ho, hA | 11, ho, hA | 12, ho, hA => cases hA
    | m + 13, ho, hA => cases hA
  · intro ii o9 of os_ f s n g' t df ds sv ho hK hA hf hs hdf hds q X cs0 sf ss hR hg hn
    match ii, ho, hK with
    | 11, ho, hK =>
      cases hK
      cases hA
      simp only [List.getElem?_cons_succ, List.getElem?_cons_zero, Option.some.injEq] at ho hf hs
      subst ho hf hs
      cases hdf
      cases hds
      obtain ⟨pp, rfl, hpp⟩ := hR
      exact wp_store_row _ _ _ rfl g' ((pcv pp)) (by simp [Act.eval, sf]) (by simp [Act.eval, ss]) _ cs0 hg (p_size pp) (by rw [hn]; rfl) (pcv_one pp hpp.b.sl.one) ⟨undef, (pcv pp), rfl, rfl, rfl, rfl⟩
    | 0, ho, hK | 1, ho, hK | 2, ho, hK | 3, ho, hK | 4, ho, hK | 5, ho, hK | 6, ho, hK | 7, ho, hK | 8, ho, hK | 9, ho, hK | 10, ho, hK | 12, ho, hK => cases hK
    | m + 13, ho, hK => cases hK
  · intro vals X0 hPo hsz hR hA
    obtain ⟨vb6, p6, c6⟩ := hPo
    obtain ⟨b5, cs, e10, hb5, hrow, _, hval⟩ := hA 10 _ _ (by decide) rfl
    obtain ⟨p, e8, q8⟩ : PcP (fun k => W.heap.size ≤ k) (plAt g o.i) (vals 8) X0 := hR 8 (by decide) rfl rfl
    have q12 : ErrR ad W.heap.size (rfAt bDeliver g o.i) (vals 12) X0 := hR 12 (by decide) rfl rfl
    obtain ⟨ev, hev⟩ : ∃ ev, vals 12 = ev := ⟨_, rfl⟩
    rw [hev] at q12
    have ecs : cs = pcv p := Value.agg.inj ((hval 11 8 (by decide) rfl).symm.trans e8)
    subst ecs
    have hsz0 : W.heap.size ≤ X0.heap.size := c6.size
    have HO6 := hid_of' (HOb.out.ch c6 (fun q => by have := HLT.out.1 ob q; omega))
    have H6 := hid_of' (And.intro p6 c6)
    have HC6 := hid_of' (And.intro (show RowAt b5 (pcv p) 65 X0 from hrow) (And.intro q8 q12))
    clear hR hA hsz hval hrow p6 c6 q8 q12
    simp only [putAll, e10, hev, List.setIfInBounds_toArray, List.set_cons_succ, List.set_cons_zero]
    clear e10 hev e8
    go_upto_region 12 with fail
    refine wp_region_floatC (by kernel_rfl) (by kernel_rfl) (Bch R vr) (fun s q => by have := HLT.out.2 s q; omega) 6 (fun X2 => PoR W.heap.size M P B R vb6 (dlvG g o.i) (dlvG g o.i) (Bch R vr) X0 X2) (fun ii u X => match ii with
      | 0 => u = .pointer (some ⟨P, 0, none⟩)
      | 1 => u = .pointer (some ⟨P, 0, none⟩)
      | 2 => u = .pointer (some ⟨P, 1, none⟩)
      | 3 => u = .pointer (some ⟨R, 0, none⟩)
      | 4 => u = .pointer (some ⟨ob, 1, none⟩)
      | 5 => u = .int .i64 o.i
      | 6 => NtQ (fun k => k < W.heap.size ∧ ¬ Bch R vr k) X0.heap.size (plAt g o.i) (rfAt bDeliver g o.i) u X
      | 7 => NtQ (fun k => k < W.heap.size ∧ ¬ Bch R vr k) X0.heap.size (plAt g o.i) (rfAt bDeliver g o.i) u X
      | 8 => PcP (fun k => k < W.heap.size ∧ ¬ Bch R vr k) (plAt g o.i) u X
      | 9 => NoR X0.heap.size (rfAt bDeliver g o.i) u X
      | _ => True) (fun i => match i with | 10 => some (65, 4) | 11 => some (32, 3) | _ => none) (fun i => match i with | 12 => some (10, 8) | 13 => some (11, 9) | _ => none) rfl rfl (by decide) ?_ ?_ ?_ ?_ ?_ ?_ ?_
    · intro kk f s h
      match kk, h with
      | 12, h => cases h; exact ⟨rfl, (by intro h; cases h), rfl, rfl, _, _, _, _, _, ⟨10, .data⟩, ⟨8, .data⟩, rfl, rfl, rfl, rfl, rfl, (by simp), rfl, rfl, (by simp), rfl, rfl⟩
      | 13, h => cases h; exact ⟨rfl, (by intro h; cases h), rfl, rfl, _, _, _, _, _, ⟨11, .data⟩, ⟨9, .data⟩, rfl, rfl, rfl, rfl, rfl, (by simp), rfl, rfl, (by simp), rfl, rfl⟩
      | 0, h | 1, h | 2, h | 3, h | 4, h | 5, h | 6, h | 7, h | 8, h | 9, h | 10, h | 11, h => cases h
      | m + 14, h => cases h
    · intro ii t n h
      match ii, h with
      | 10, h => rfl
      | 11, h => rfl
      | 0, h | 1, h | 2, h | 3, h | 4, h | 5, h | 6, h | 7, h | 8, h | 9, h | 12, h | 13, h => cases h
      | m + 14, h => cases h
    · intro p q f s s' h1 h2
      have e1 : (p = 12 ∧ f = 10) ∨ (p = 13 ∧ f = 11) := by
        match p, h1 with
        | 12, h => cases h; simp
        | 13, h => cases h; simp
        | 0, h | 1, h | 2, h | 3, h | 4, h | 5, h | 6, h | 7, h | 8, h | 9, h | 10, h | 11, h => cases h
        | m + 14, h => cases h
      have e2 : (q = 12 ∧ f = 10) ∨ (q = 13 ∧ f = 11) := by
        match q, h2 with
        | 12, h => cases h; simp
        | 13, h => cases h; simp
        | 0, h | 1, h | 2, h | 3, h | 4, h | 5, h | 6, h | 7, h | 8, h | 9, h | 10, h | 11, h => cases h
        | m + 14, h => cases h
      omega
    · intro ii o9 ho hA hK q X vals S hC hX hS hdep hoth
      have t0 : q.tmps[0]? = some (.pointer (some ⟨P, 0, none⟩)) := by rw [hoth 0 (by kernel_rfl)]; rfl
      have t3 : q.tmps[3]? = some (.pointer (some ⟨ob, 0, none⟩)) := by rw [hoth 3 (by kernel_rfl)]; rfl
      match ii, ho, hA, hK with
      | 0, ho, hA, hK =>
        simp only [List.getElem?_cons_zero, Option.some.injEq] at ho
        subst ho
        unfold Oper.wp
        simp [execOp, go_sem, t0]
        exact cameFB _ rfl (by decide) (Below.refl _ _) (fun _ _ => rfl)
      | 1, ho, hA, hK =>
        simp only [List.getElem?_cons_succ, List.getElem?_cons_zero, Option.some.injEq] at ho
        subst ho
        obtain ⟨u0, e0⟩ := hdep ⟨0, .data⟩ (by simp) rfl _ 87 rfl rfl
        rw [show vals 0 = .pointer (some ⟨P, 0, none⟩) from e0 rfl rfl X (KeptP.refl _ _)] at u0
        unfold Oper.wp
        simp [execOp, go_sem, u0]
        exact cameFB _ rfl (by decide) (Below.refl _ _) (fun _ _ => rfl)
      | 2, ho, hA, hK =>
        simp only [List.getElem?_cons_succ, List.getElem?_cons_zero, Option.some.injEq] at ho
        subst ho
        obtain ⟨u1, e1⟩ := hdep ⟨1, .data⟩ (by simp) rfl _ 88 rfl rfl
        rw [show vals 1 = .pointer (some ⟨P, 0, none⟩) from e1 rfl rfl X (KeptP.refl _ _)] at u1
        unfold Oper.wp
        simp [execOp, go_sem, u1]
        exact cameFB _ rfl (by decide) (Below.refl _ _) (fun _ _ => rfl)
      | 3, ho, hA, hK =>
        simp only [List.getElem?_cons_succ, List.getElem?_cons_zero, Option.some.injEq] at ho
        subst ho
        obtain ⟨u2, e2⟩ := hdep ⟨2, .data⟩ (by simp) rfl _ 89 rfl rfl
        rw [show vals 2 = .pointer (some ⟨P, 1, none⟩) from e2 rfl rfl X (KeptP.refl _ _)] at u2
        have cc : X.cell? ⟨P, 1, none⟩ = some (.pointer (some ⟨R, 0, none⟩)) := (RowAt.later H6.out.1.h.p (hC (.inr (by kernel_rfl)))).cellIs 1 rfl
        unfold Oper.wp
        simp [execOp, go_sem, u2, cc]
        exact cameFB _ rfl (by decide) (Below.refl _ _) (fun _ _ => rfl)
      | 4, ho, hA, hK =>
        simp only [List.getElem?_cons_succ, List.getElem?_cons_zero, Option.some.injEq] at ho
        subst ho
        unfold Oper.wp
        simp [execOp, go_sem, t3]
        exact cameFB _ rfl (by decide) (Below.refl _ _) (fun _ _ => rfl)
      | 5, ho, hA, hK =>
        simp only [List.getElem?_cons_succ, List.getElem?_cons_zero, Option.some.injEq] at ho
        subst ho
        obtain ⟨u4, e4⟩ := hdep ⟨4, .data⟩ (by simp) rfl _ 91 rfl rfl
        rw [show vals 4 = .pointer (some ⟨ob, 1, none⟩) from e4 rfl rfl X (KeptP.refl _ _)] at u4
        have cc : X.cell? ⟨ob, 1, none⟩ = some (.int .i64 o.i) := (RowAt.later HO6.out (hC (.inr (by kernel_rfl)))).cellIs 1 rfl
        unfold Oper.wp
        simp [execOp, go_sem, u4, cc]
        exact cameFB _ rfl (by decide) (Below.refl _ _) (fun _ _ => rfl)
      | 6, ho, hA, hK =>
        simp only [List.getElem?_cons_succ, List.getElem?_cons_zero, Option.some.injEq] at ho
        subst ho
        obtain ⟨u3, e3⟩ := hdep ⟨3, .data⟩ (by simp) rfl _ 90 rfl rfl
        rw [show vals 3 = .pointer (some ⟨R, 0, none⟩) from e3 rfl rfl X (KeptP.refl _ _)] at u3
        obtain ⟨u5, e5⟩ := hdep ⟨5, .data⟩ (by simp) rfl _ 92 rfl rfl
        rw [show vals 5 = .int .i64 o.i from e5 rfl rfl X (KeptP.refl _ _)] at u5
        have hb := hC (.inl rfl)
        unfold Oper.wp
        simp [go_sem, u3, u5]
        refine (refDeliver_any (H6.out.1.r2.later hb) o.i).mono ?_
        rintro r X1 ⟨pp, ee, v9, rfl, i1, i2, j3, j4, i4⟩
        exact cameFX _ rfl ⟨i4.os, i4.tape, i4.output, i4.size, i4.block⟩ (fun X2 hk => PoR.of H6.out.1 hb (j3.mono (fun k q _ => q.1)) j4 i4 hsz0 hS hk) (fun x9 hk => NtQ.mk i1 i2 hb.size hk (fun s q => by have := HLT.out.2 s q; have := hb.size; omega) (fun s q => (hS s q).1) (fun s q e => e.elim q.2 (fun e => by have := hS s e; omega)))
      | 7, ho, hA, hK =>
        simp only [List.getElem?_cons_succ, List.getElem?_cons_zero, Option.some.injEq] at ho
        subst ho
        obtain ⟨u6, e6⟩ := hdep ⟨6, .data⟩ (by simp) rfl _ 93 rfl rfl
        unfold Oper.wp
        simp [execOp, go_sem, u6]
        exact cameFB _ rfl (by decide) (Below.refl _ _) (fun x9 hk => e6 rfl rfl x9 hk)
      | 8, ho, hA, hK =>
        simp only [List.getElem?_cons_succ, List.getElem?_cons_zero, Option.some.injEq] at ho
        subst ho
        obtain ⟨u7, e7⟩ := hdep ⟨7, .data⟩ (by simp) rfl _ 86 rfl rfl
        obtain ⟨pp, ee, q8, _⟩ := e7 rfl rfl X (KeptP.refl _ _)
        rw [q8] at u7
        unfold Oper.wp
        simp [execOp, go_sem, u7]
        exact cameFB _ rfl (by decide) (Below.refl _ _) (fun x9 hk => NtQ.fst q8 (e7 rfl rfl x9 hk))
      | 9, ho, hA, hK =>
        simp only [List.getElem?_cons_succ, List.getElem?_cons_zero, Option.some.injEq] at ho
        subst ho
        obtain ⟨u7, e7⟩ := hdep ⟨7, .data⟩ (by simp) rfl _ 86 rfl rfl
        obtain ⟨pp, ee, q8, _⟩ := e7 rfl rfl X (KeptP.refl _ _)
        rw [q8] at u7
        unfold Oper.wp
        simp [execOp, go_sem, u7]
        exact cameFB _ rfl (by decide) (Below.refl _ _) (fun x9 hk => NtQ.snd q8 (e7 rfl rfl x9 hk))
      | 10, ho, hA, hK => cases hA
      | 11, ho, hA, hK => cases hA
      | 12, ho, hA, hK => cases hK
      | 13, ho, hA, hK => cases hK
      | m + 14, ho, hA, hK => simp at ho
    · intro ii o9 t n ho hA q X
      match ii, ho, hA with
      | 10, ho, hA =>
        cases hA
        simp only [List.getElem?_cons_succ, List.getElem?_cons_zero, Option.some.injEq] at ho
        subst ho
        unfold Oper.wp
        simp [execOp, go_sem]
        exact ⟨_, rfl, rfl, rfl⟩
      | 11, ho, hA =>
        cases hA
        simp only [List.getElem?_cons_succ, List.getElem?_cons_zero, Option.some.injEq] at ho
        subst ho
        unfold Oper.wp
        simp [execOp, go_sem]
        exact ⟨_, rfl, rfl, rfl⟩
      | 0, ho, hA | 1, ho, hA | 2, ho, hA | 3, ho, hA | 4, ho, hA | 5, ho, hA | 6, ho, hA | 7, ho, hA | 8, ho, hA | 9, ho, hA | 12, ho, hA | 13, ho, hA => cases hA
      | m + 14, ho, hA => cases hA
    · intro ii o9 of os_ f s n g' t df ds sv ho hK hA hf hs hdf hds q X cs0 sf ss hR hg hn
      match ii, ho, hK with
      | 12, ho, hK =>
        cases hK
        cases hA
        simp only [List.getElem?_cons_succ, List.getElem?_cons_zero, Option.some.injEq] at ho hf hs
        subst ho hf hs
        cases hdf
        cases hds
        obtain ⟨pp, rfl, hpp⟩ := hR
        exact wp_store_row _ _ _ rfl g' ((pcv pp)) (by simp [Act.eval, sf]) (by simp [Act.eval, ss]) _ cs0 hg (p_size pp) (by rw [hn]; rfl) (pcv_one pp hpp.b.sl.one) ⟨undef, (pcv pp), rfl, rfl, rfl, rfl⟩
      | 13, ho, hK =>
        cases hK
        cases hA
        simp only [List.getElem?_cons_succ, List.getElem?_cons_zero, Option.some.injEq] at ho hf hs
        subst ho hf hs
        cases hdf
        cases hds
        obtain ⟨n0, n1, n2, n3, n4, n5, n6, rfl⟩ := NoR.form hR
        exact wp_store_row _ _ _ rfl g' ((nov n0 n1 n2 n3 n4 n5 n6)) (by simp [Act.eval, sf]) (by simp [Act.eval, ss]) _ cs0 hg no3_size (by rw [hn]; rfl) (by simp [Value.oneCell', nov]) ⟨undef, (nov n0 n1 n2 n3 n4 n5 n6), rfl, rfl, rfl, rfl⟩
      | 0, ho, hK | 1, ho, hK | 2, ho, hK | 3, ho, hK | 4, ho, hK | 5, ho, hK | 6, ho, hK | 7, ho, hK | 8, ho, hK | 9, ho, hK | 10, ho, hK | 11, ho, hK => cases hK
      | m + 14, ho, hK => cases hK
    · intro vals X7 hPo hsz hR hA
      obtain ⟨vr7, p7, c7⟩ := hPo
      obtain ⟨b7, cs, e10, hb7, hrow, _, hval⟩ := hA 10 _ _ (by decide) rfl
      obtain ⟨b8, cs', e11, hb8, hrow', hsz3, hval'⟩ := hA 11 _ _ (by decide) rfl
      obtain ⟨p2, e8, q8⟩ : PcP (fun k => k < W.heap.size ∧ ¬ Bch R vr k) (plAt g o.i) (vals 8) X7 := hR 8 (by decide) rfl rfl
      have q9 : NoR X0.heap.size (rfAt bDeliver g o.i) (vals 9) X7 := hR 9 (by decide) rfl rfl
      have ecs : cs = pcv p2 := Value.agg.inj ((hval 12 8 (by decide) rfl).symm.trans e8)
      have ecs' : vals 9 = .agg cs' := hval' 13 9 (by decide) rfl
      subst ecs
      rw [ecs'] at q9
      have hn1 : ∀ s, W.heap.size ≤ s → ¬ Bch R vr s := fun s hs q => by have := HLT.out.2 s q; omega
      have r5 := HC6.out.1.ch c7 (hn1 b5 hb5)
      have q5 := HC6.out.2.1.ch c7 hn1
      have r7 : RowAt b7 (pcv p2) 65 X7 := hrow
      have r8 : RowAt b8 cs' 32 X7 := hrow'
      have c06 := H6.out.2
      have hM7 : Below M W X7 := (c06.below (fun s hs q => by have := (H2.out.fb s q).1; omega) HMW.out).trans (c7.below (fun s hs q => by have := (H2.out.fr s q).1; omega) (Nat.le_trans HMW.out hsz0))
      have HG := hid_of' (got_is (HLw.out X7 hM7) q5 q8.r (HC6.out.2.2.ch c7 hn1) q9)
      have H7 := hid_of' (And.intro r5 (And.intro r7 (And.intro r8 hsz3)))
      have HP7 := hid_of' (And.intro p7 (And.intro q5 hM7))
      clear hR hA hsz hval hval' hrow hrow' p7 c7 q8 q9 r5 q5 r7 r8 c06 hM7 ecs' hn1
      simp only [putAll, e10, e11, List.setIfInBounds_toArray, List.set_cons_succ, List.set_cons_zero]
      clear e10 e11 e8
      go_wp2_with (first
        | (refine wpL_loadP (p := p) rfl _ rfl rfl H7.out.1.in ?_)
        | (refine wpL_loadP (p := p2) rfl _ rfl rfl H7.out.2.1.in ?_)
        | (refine wpL_loadNo rfl _ rfl rfl H7.out.2.2.1 H7.out.2.2.2 ?_)
        | (go_at_call 29; (with_reducible refine HG.out.mono ?_); rintro e X8 ⟨rfl, hc8⟩; clear HG))
      go_ret
      obtain ⟨g1, g2⟩ := PrZ.got HP7.out.1 HP7.out.2.1 (by omega) HMW.out hc8
      exact ⟨rfl, _, _, _, g1, HBw.out.trans (HP7.out.2.2.trans g2)⟩
set_option maxHeartbeats 8000000 in
theorem does_look {ad : Nat → Addr} {M P B R : Nat} {vb vr : Value} {g : Bg} {w : World} (L : ∀ x, Below M w x → Laid ad x) (h : PrAt M P B R vb vr g g w) {o : Opb} (ho : o.Ok w) (_ho1 : o.rv.oneCell' = true) (hw : wiN o.d 9 = 5) :
    Calls Tryd.prog 9 #[.pointer (some ⟨P, 0, none⟩), .agg (ocb o)] w (DoQ M P B R w) := by
  have hb2 := below_one w (.cells (ocb o) 43)
  have ho2 := row_new w (ocb o) 43
  have c0 : (w.alloc (.cells (ocb o) 43)).cell? ⟨w.heap.size, 0, none⟩ = some (.int .i64 o.d) := ho2.cellIs 0 rfl
  have HWi := hid_of' (within_is o.d 9 (w.alloc (.cells (ocb o) 43)) (by decide) (by decide) ho.d)
  rw [hw] at HWi
  have hPl := h.p.lt
  have HLT := hid_of' (And.intro h.ltB h.ltR)
  have H2 := hid_of' (h.later hb2)
  have HO := hid_of' (And.intro ho2 hb2)
  have hMw : M ≤ w.heap.size := by have := h.p0; omega
  have HLw := hid_of' (fun x (hx : Below M (w.alloc (.cells (ocb o) 43)) x) => L x ((hb2.mono hMw).trans hx))
  clear h ho2 hb2 L
  go_enter Tryd.func9, Tryd.ntmps9
  go_upto_region 21 with (go_at_call 24; refine HWi.out.mono ?_; rintro e w1 ⟨rfl, hw1⟩; obtain rfl := hw1.symm; clear HWi)
  clear c0
  obtain ⟨ob, hob⟩ : ∃ ob, w.heap.size = ob := ⟨_, rfl⟩
  have hob1 := HO.out.1.lt
  rw [hob] at HLT hPl hob1 ⊢
  have hMo : M ≤ ob := by omega
  generalize w.alloc (.cells (ocb o) 43) = W at H2 HO HLw hob1 ⊢
  have HMW : Hid (M ≤ W.heap.size) := by show _ ≤ _; omega
  have HBw := hid_of' (HO.out.2.mono hMw)
  have HOb := hid_of' (show RowAt ob (ocb o) 43 W by rw [← hob]; exact HO.out.1)
  have HZ := hid_of' (PrZ.of H2.out)
  refine wp_region_floatC (by kernel_rfl) (by kernel_rfl) (Bch B vb) (fun s q => by have := HLT.out.1 s q; omega) 6 (fun X2 => PoB W.heap.size M P B R vr g g (Bch B vb) W X2) (fun ii u X => match ii with
    | 0 => u = .pointer (some ⟨P, 0, none⟩)
    | 1 => u = .pointer (some ⟨P, 0, none⟩)
    | 2 => u = .pointer (some ⟨P, 0, none⟩)
    | 3 => u = .pointer (some ⟨B, 0, none⟩)
    | 4 => u = .pointer (some ⟨ob, 1, none⟩)
    | 5 => u = .int .i64 o.i
    | 6 => GtQ ad W.heap.size (plAt g o.i) (rfAt bLook g o.i) u X
    | 7 => GtQ ad W.heap.size (plAt g o.i) (rfAt bLook g o.i) u X
    | 8 => PcP (fun k => W.heap.size ≤ k) (plAt g o.i) u X
    | 9 => ErrR ad W.heap.size (rfAt bLook g o.i) u X
    | 12 => ErrR ad W.heap.size (rfAt bLook g o.i) u X
    | _ => True) (fun i => match i with | 10 => some (65, 4) | _ => none) (fun i => match i with | 11 => some (10, 8) | _ => none) rfl rfl (by decide) ?_ ?_ ?_ ?_ ?_ ?_ ?_
  · intro kk f s h
    match kk, h with
    | 11, h => cases h; exact ⟨rfl, (by intro h; cases h), rfl, rfl, _, _, _, _, _, ⟨10, .data⟩, ⟨8, .data⟩, rfl, rfl, rfl, rfl, rfl, (by simp), rfl, rfl, (by simp), rfl, rfl⟩
    | 0, h | 1, h | 2, h | 3, h | 4, h | 5, h | 6, h | 7, h | 8, h | 9, h | 10, h | 12, h => cases h
    | m + 13, h => cases h
  · intro ii t n h
    match ii, h with
    | 10, h => rfl
    | 0, h | 1, h | 2, h | 3, h | 4, h | 5, h | 6, h | 7, h | 8, h | 9, h | 11, h | 12, h => cases h
    | m + 13, h => cases h
  · intro p q f s s' h1 h2
    have e1 : (p = 11 ∧ f = 10) := by
      match p, h1 with
      | 11, h => cases h; simp
      | 0, h | 1, h | 2, h | 3, h | 4, h | 5, h | 6, h | 7, h | 8, h | 9, h | 10, h | 12, h => cases h
      | m + 13, h => cases h
    have e2 : (q = 11 ∧ f = 10) := by
      match q, h2 with
      | 11, h => cases h; simp
      | 0, h | 1, h | 2, h | 3, h | 4, h | 5, h | 6, h | 7, h | 8, h | 9, h | 10, h | 12, h => cases h
      | m + 13, h => cases h
    omega
  · intro ii o9 ho hA hK q X vals S hC hX hS hdep hoth
    have t0 : q.tmps[0]? = some (.pointer (some ⟨P, 0, none⟩)) := by rw [hoth 0 (by kernel_rfl)]; rfl
    have t3 : q.tmps[3]? = some (.pointer (some ⟨ob, 0, none⟩)) := by rw [hoth 3 (by kernel_rfl)]; rfl
    match ii, ho, hA, hK with
    | 0, ho, hA, hK =>
      simp only [List.getElem?_cons_zero, Option.some.injEq] at ho
      subst ho
      unfold Oper.wp
      simp [execOp, go_sem, t0]
      exact cameFB _ rfl (by decide) (Below.refl _ _) (fun _ _ => rfl)
    | 1, ho, hA, hK =>
      simp only [List.getElem?_cons_succ, List.getElem?_cons_zero, Option.some.injEq] at ho
      subst ho
      obtain ⟨u0, e0⟩ := hdep ⟨0, .data⟩ (by simp) rfl _ 159 rfl rfl
      rw [show vals 0 = .pointer (some ⟨P, 0, none⟩) from e0 rfl rfl X (KeptP.refl _ _)] at u0
      unfold Oper.wp
      simp [execOp, go_sem, u0]
      exact cameFB _ rfl (by decide) (Below.refl _ _) (fun _ _ => rfl)
    | 2, ho, hA, hK =>
      simp only [List.getElem?_cons_succ, List.getElem?_cons_zero, Option.some.injEq] at ho
      subst ho
      obtain ⟨u1, e1⟩ := hdep ⟨1, .data⟩ (by simp) rfl _ 160 rfl rfl
      rw [show vals 1 = .pointer (some ⟨P, 0, none⟩) from e1 rfl rfl X (KeptP.refl _ _)] at u1
      unfold Oper.wp
      simp [execOp, go_sem, u1]
      exact cameFB _ rfl (by decide) (Below.refl _ _) (fun _ _ => rfl)
    | 3, ho, hA, hK =>
      simp only [List.getElem?_cons_succ, List.getElem?_cons_zero, Option.some.injEq] at ho
      subst ho
      obtain ⟨u2, e2⟩ := hdep ⟨2, .data⟩ (by simp) rfl _ 161 rfl rfl
      rw [show vals 2 = .pointer (some ⟨P, 0, none⟩) from e2 rfl rfl X (KeptP.refl _ _)] at u2
      have cc : X.cell? ⟨P, 0, none⟩ = some (.pointer (some ⟨B, 0, none⟩)) := (RowAt.later HZ.out.h.p (hC (.inr (by kernel_rfl)))).cellIs 0 rfl
      unfold Oper.wp
      simp [execOp, go_sem, u2, cc]
      exact cameFB _ rfl (by decide) (Below.refl _ _) (fun _ _ => rfl)
    | 4, ho, hA, hK =>
      simp only [List.getElem?_cons_succ, List.getElem?_cons_zero, Option.some.injEq] at ho
      subst ho
      unfold Oper.wp
      simp [execOp, go_sem, t3]
      exact cameFB _ rfl (by decide) (Below.refl _ _) (fun _ _ => rfl)
    | 5, ho, hA, hK =>
      simp only [List.getElem?_cons_succ, List.getElem?_cons_zero, Option.some.injEq] at ho
      subst ho
      obtain ⟨u4, e4⟩ := hdep ⟨4, .data⟩ (by simp) rfl _ 163 rfl rfl
      rw [show vals 4 = .pointer (some ⟨ob, 1, none⟩) from e4 rfl rfl X (KeptP.refl _ _)] at u4
      have cc : X.cell? ⟨ob, 1, none⟩ = some (.int .i64 o.i) := (RowAt.later HOb.out (hC (.inr (by kernel_rfl)))).cellIs 1 rfl
      unfold Oper.wp
      simp [execOp, go_sem, u4, cc]
      exact cameFB _ rfl (by decide) (Below.refl _ _) (fun _ _ => rfl)
    | 6, ho, hA, hK =>
      simp only [List.getElem?_cons_succ, List.getElem?_cons_zero, Option.some.injEq] at ho
      subst ho
      obtain ⟨u3, e3⟩ := hdep ⟨3, .data⟩ (by simp) rfl _ 162 rfl rfl
      rw [show vals 3 = .pointer (some ⟨B, 0, none⟩) from e3 rfl rfl X (KeptP.refl _ _)] at u3
      obtain ⟨u5, e5⟩ := hdep ⟨5, .data⟩ (by simp) rfl _ 164 rfl rfl
      rw [show vals 5 = .int .i64 o.i from e5 rfl rfl X (KeptP.refl _ _)] at u5
      have hb := hC (.inl rfl)
      unfold Oper.wp
      simp [go_sem, u3, u5]
      refine (lookB_any (HLw.out X (hb.mono HMW.out)).lb (HZ.out.b.later hb) o.i).mono ?_
      rintro r X1 ⟨pp, ee, v9, rfl, i1, i2, j3, j4, i4⟩
      exact cameFX _ rfl ⟨i4.os, i4.tape, i4.output, i4.size, i4.block⟩ (fun X2 hk => PoB.of HZ.out hb j3 j4 i4 (Nat.le_refl _) hS hk) (fun x9 hk => GtQ.mk i1 i2 hb.size hk (fun s q => by have := HLT.out.1 s q; have := hb.size; omega) (fun s q => (hS s q).1))
    | 7, ho, hA, hK =>
      simp only [List.getElem?_cons_succ, List.getElem?_cons_zero, Option.some.injEq] at ho
      subst ho
      obtain ⟨u6, e6⟩ := hdep ⟨6, .data⟩ (by simp) rfl _ 165 rfl rfl
      unfold Oper.wp
      simp [execOp, go_sem, u6]
      exact cameFB _ rfl (by decide) (Below.refl _ _) (fun x9 hk => e6 rfl rfl x9 hk)
    | 8, ho, hA, hK =>
      simp only [List.getElem?_cons_succ, List.getElem?_cons_zero, Option.some.injEq] at ho
      subst ho
      obtain ⟨u7, e7⟩ := hdep ⟨7, .data⟩ (by simp) rfl _ 158 rfl rfl
      obtain ⟨pp, ee, q8, _⟩ := e7 rfl rfl X (KeptP.refl _ _)
      rw [q8] at u7
      unfold Oper.wp
      simp [execOp, go_sem, u7]
      exact cameFB _ rfl (by decide) (Below.refl _ _) (fun x9 hk => GtQ.fst q8 (e7 rfl rfl x9 hk))
    | 9, ho, hA, hK =>
      simp only [List.getElem?_cons_succ, List.getElem?_cons_zero, Option.some.injEq] at ho
      subst ho
      obtain ⟨u7, e7⟩ := hdep ⟨7, .data⟩ (by simp) rfl _ 158 rfl rfl
      obtain ⟨pp, ee, q8, _⟩ := e7 rfl rfl X (KeptP.refl _ _)
      rw [q8] at u7
      unfold Oper.wp
      simp [execOp, go_sem, u7]
      exact cameFB _ rfl (by decide) (Below.refl _ _) (fun x9 hk => GtQ.snd q8 (e7 rfl rfl x9 hk))
    | 10, ho, hA, hK => cases hA
    | 11, ho, hA, hK => cases hK
    | 12, ho, hA, hK =>
      simp only [List.getElem?_cons_succ, List.getElem?_cons_zero, Option.some.injEq] at ho
      subst ho
      obtain ⟨u9, e9⟩ := hdep ⟨9, .data⟩ (by simp) rfl _ 167 rfl rfl
      unfold Oper.wp
      simp [execOp, go_sem, u9]
      exact cameFB _ rfl (by decide) (Below.refl _ _) (fun x9 hk => e9 rfl rfl x9 hk)
    | m + 13, ho, hA, hK => simp at ho
  · intro ii o9 t n ho hA q X
    match ii, ho, hA with
    | 10, ho, hA =>
      cases hA
      simp only [List.getElem?_cons_succ, List.getElem?_cons_zero, Option.some.injEq] at ho
      subst ho
      unfold Oper.wp
      simp [execOp, go_sem]
      exact ⟨_, rfl, rfl, rfl⟩
    | 0, ho, hA | 1, ho, hA | 2, ho, hA | 3, ho, hA | 4, ho, hA | 5, ho, hA | 6, ho, hA | 7, ho, hA | 8, ho, hA | 9, ho, hA | 11, ho, hA | 12, ho, hA => cases hA
    | m + 13, ho, hA => cases hA
  · intro ii o9 of os_ f s n g' t df ds sv ho hK hA hf hs hdf hds q X cs0 sf ss hR hg hn
    match ii, ho, hK with
    | 11, ho, hK =>
      cases hK
      cases hA
      simp only [List.getElem?_cons_succ, List.getElem?_cons_zero, Option.some.injEq] at ho hf hs
      subst ho hf hs
      cases hdf
      cases hds
      obtain ⟨pp, rfl, hpp⟩ := hR
      exact wp_store_row _ _ _ rfl g' ((pcv pp)) (by simp [Act.eval, sf]) (by simp [Act.eval, ss]) _ cs0 hg (p_size pp) (by rw [hn]; rfl) (pcv_one pp hpp.b.sl.one) ⟨undef, (pcv pp), rfl, rfl, rfl, rfl⟩
    | 0, ho, hK | 1, ho, hK | 2, ho, hK | 3, ho, hK | 4, ho, hK | 5, ho, hK | 6, ho, hK | 7, ho, hK | 8, ho, hK | 9, ho, hK | 10, ho, hK | 12, ho, hK => cases hK
    | m + 13, ho, hK => cases hK
  · intro vals X0 hPo hsz hR hA
    obtain ⟨vb6, p6, c6⟩ := hPo
    obtain ⟨b5, cs, e10, hb5, hrow, _, hval⟩ := hA 10 _ _ (by decide) rfl
    obtain ⟨p, e8, q8⟩ : PcP (fun k => W.heap.size ≤ k) (plAt g o.i) (vals 8) X0 := hR 8 (by decide) rfl rfl
    have q12 : ErrR ad W.heap.size (rfAt bLook g o.i) (vals 12) X0 := hR 12 (by decide) rfl rfl
    obtain ⟨ev, hev⟩ : ∃ ev, vals 12 = ev := ⟨_, rfl⟩
    rw [hev] at q12
    have ecs : cs = pcv p := Value.agg.inj ((hval 11 8 (by decide) rfl).symm.trans e8)
    subst ecs
    have hsz0 : W.heap.size ≤ X0.heap.size := c6.size
    have HO6 := hid_of' (HOb.out.ch c6 (fun q => by have := HLT.out.1 ob q; omega))
    have H6 := hid_of' (And.intro p6 c6)
    have HC6 := hid_of' (And.intro (show RowAt b5 (pcv p) 65 X0 from hrow) (And.intro q8 q12))
    clear hR hA hsz hval hrow p6 c6 q8 q12
    simp only [putAll, e10, hev, List.setIfInBounds_toArray, List.set_cons_succ, List.set_cons_zero]
    clear e10 hev e8
    go_upto_region 22 with fail
    refine wp_region_floatC (by kernel_rfl) (by kernel_rfl) (Bch R vr) (fun s q => by have := HLT.out.2 s q; omega) 6 (fun X2 => PoR W.heap.size M P B R vb6 g g (Bch R vr) X0 X2) (fun ii u X => match ii with
      | 0 => u = .pointer (some ⟨P, 0, none⟩)
      | 1 => u = .pointer (some ⟨P, 0, none⟩)
      | 2 => u = .pointer (some ⟨P, 1, none⟩)
      | 3 => u = .pointer (some ⟨R, 0, none⟩)
      | 4 => u = .pointer (some ⟨ob, 1, none⟩)
      | 5 => u = .int .i64 o.i
      | 6 => NtQ (fun k => k < W.heap.size ∧ ¬ Bch R vr k) X0.heap.size (plAt g o.i) (rfAt bLook g o.i) u X
      | 7 => NtQ (fun k => k < W.heap.size ∧ ¬ Bch R vr k) X0.heap.size (plAt g o.i) (rfAt bLook g o.i) u X
      | 8 => PcP (fun k => k < W.heap.size ∧ ¬ Bch R vr k) (plAt g o.i) u X
      | 9 => NoR X0.heap.size (rfAt bLook g o.i) u X
      | _ => True) (fun i => match i with | 10 => some (65, 4) | 11 => some (32, 3) | _ => none) (fun i => match i with | 12 => some (10, 8) | 13 => some (11, 9) | _ => none) rfl rfl (by decide) ?_ ?_ ?_ ?_ ?_ ?_ ?_
    · intro kk f s h
      match kk, h with
      | 12, h => cases h; exact ⟨rfl, (by intro h; cases h), rfl, rfl, _, _, _, _, _, ⟨10, .data⟩, ⟨8, .data⟩, rfl, rfl, rfl, rfl, rfl, (by simp), rfl, rfl, (by simp), rfl, rfl⟩
      | 13, h => cases h; exact ⟨rfl, (by intro h; cases h), rfl, rfl, _, _, _, _, _, ⟨11, .data⟩, ⟨9, .data⟩, rfl, rfl, rfl, rfl, rfl, (by simp), rfl, rfl, (by simp), rfl, rfl⟩
      | 0, h | 1, h | 2, h | 3, h | 4, h | 5, h | 6, h | 7, h | 8, h | 9, h | 10, h | 11, h => cases h
      | m + 14, h => cases h
    · intro ii t n h
      match ii, h with
      | 10, h => rfl
      | 11, h => rfl
      | 0, h | 1, h | 2, h | 3, h | 4, h | 5, h | 6, h | 7, h | 8, h | 9, h | 12, h | 13, h => cases h
      | m + 14, h => cases h
    · intro p q f s s' h1 h2
      have e1 : (p = 12 ∧ f = 10) ∨ (p = 13 ∧ f = 11) := by
        match p, h1 with
        | 12, h => cases h; simp
        | 13, h => cases h; simp
        | 0, h | 1, h | 2, h | 3, h | 4, h | 5, h | 6, h | 7, h | 8, h | 9, h | 10, h | 11, h => cases h
        | m + 14, h => cases h
      have e2 : (q = 12 ∧ f = 10) ∨ (q = 13 ∧ f = 11) := by
        match q, h2 with
        | 12, h => cases h; simp
        | 13, h => cases h; simp
        | 0, h | 1, h | 2, h | 3, h | 4, h | 5, h | 6, h | 7, h | 8, h | 9, h | 10, h | 11, h => cases h
        | m + 14, h => cases h
      omega
    · intro ii o9 ho hA hK q X vals S hC hX hS hdep hoth
      have t0 : q.tmps[0]? = some (.pointer (some ⟨P, 0, none⟩)) := by rw [hoth 0 (by kernel_rfl)]; rfl
      have t3 : q.tmps[3]? = some (.pointer (some ⟨ob, 0, none⟩)) := by rw [hoth 3 (by kernel_rfl)]; rfl
      match ii, ho, hA, hK with
      | 0, ho, hA, hK =>
        simp only [List.getElem?_cons_zero, Option.some.injEq] at ho
        subst ho
        unfold Oper.wp
        simp [execOp, go_sem, t0]
        exact cameFB _ rfl (by decide) (Below.refl _ _) (fun _ _ => rfl)
      | 1, ho, hA, hK =>
        simp only [List.getElem?_cons_succ, List.getElem?_cons_zero, Option.some.injEq] at ho
        subst ho
        obtain ⟨u0, e0⟩ := hdep ⟨0, .data⟩ (by simp) rfl _ 169 rfl rfl
        rw [show vals 0 = .pointer (some ⟨P, 0, none⟩) from e0 rfl rfl X (KeptP.refl _ _)] at u0
        unfold Oper.wp
        simp [execOp, go_sem, u0]
        exact cameFB _ rfl (by decide) (Below.refl _ _) (fun _ _ => rfl)
      | 2, ho, hA, hK =>
        simp only [List.getElem?_cons_succ, List.getElem?_cons_zero, Option.some.injEq] at ho
        subst ho
        obtain ⟨u1, e1⟩ := hdep ⟨1, .data⟩ (by simp) rfl _ 170 rfl rfl
        rw [show vals 1 = .pointer (some ⟨P, 0, none⟩) from e1 rfl rfl X (KeptP.refl _ _)] at u1
        unfold Oper.wp
        simp [execOp, go_sem, u1]
        exact cameFB _ rfl (by decide) (Below.refl _ _) (fun _ _ => rfl)
      | 3, ho, hA, hK =>
        simp only [List.getElem?_cons_succ, List.getElem?_cons_zero, Option.some.injEq] at ho
        subst ho
        obtain ⟨u2, e2⟩ := hdep ⟨2, .data⟩ (by simp) rfl _ 171 rfl rfl
        rw [show vals 2 = .pointer (some ⟨P, 1, none⟩) from e2 rfl rfl X (KeptP.refl _ _)] at u2
        have cc : X.cell? ⟨P, 1, none⟩ = some (.pointer (some ⟨R, 0, none⟩)) := (RowAt.later H6.out.1.h.p (hC (.inr (by kernel_rfl)))).cellIs 1 rfl
        unfold Oper.wp
        simp [execOp, go_sem, u2, cc]
        exact cameFB _ rfl (by decide) (Below.refl _ _) (fun _ _ => rfl)
      | 4, ho, hA, hK =>
        simp only [List.getElem?_cons_succ, List.getElem?_cons_zero, Option.some.injEq] at ho
        subst ho
        unfold Oper.wp
        simp [execOp, go_sem, t3]
        exact cameFB _ rfl (by decide) (Below.refl _ _) (fun _ _ => rfl)
      | 5, ho, hA, hK =>
        simp only [List.getElem?_cons_succ, List.getElem?_cons_zero, Option.some.injEq] at ho
        subst ho
        obtain ⟨u4, e4⟩ := hdep ⟨4, .data⟩ (by simp) rfl _ 173 rfl rfl
        rw [show vals 4 = .pointer (some ⟨ob, 1, none⟩) from e4 rfl rfl X (KeptP.refl _ _)] at u4
        have cc : X.cell? ⟨ob, 1, none⟩ = some (.int .i64 o.i) := (RowAt.later HO6.out (hC (.inr (by kernel_rfl)))).cellIs 1 rfl
        unfold Oper.wp
        simp [execOp, go_sem, u4, cc]
        exact cameFB _ rfl (by decide) (Below.refl _ _) (fun _ _ => rfl)
      | 6, ho, hA, hK =>
        simp only [List.getElem?_cons_succ, List.getElem?_cons_zero, Option.some.injEq] at ho
        subst ho
        obtain ⟨u3, e3⟩ := hdep ⟨3, .data⟩ (by simp) rfl _ 172 rfl rfl
        rw [show vals 3 = .pointer (some ⟨R, 0, none⟩) from e3 rfl rfl X (KeptP.refl _ _)] at u3
        obtain ⟨u5, e5⟩ := hdep ⟨5, .data⟩ (by simp) rfl _ 174 rfl rfl
        rw [show vals 5 = .int .i64 o.i from e5 rfl rfl X (KeptP.refl _ _)] at u5
        have hb := hC (.inl rfl)
        unfold Oper.wp
        simp [go_sem, u3, u5]
        refine (lookR_any (H6.out.1.r2.later hb) o.i).mono ?_
        rintro r X1 ⟨pp, ee, v9, rfl, i1, i2, j3, j4, i4⟩
        exact cameFX _ rfl ⟨i4.os, i4.tape, i4.output, i4.size, i4.block⟩ (fun X2 hk => PoR.of H6.out.1 hb (j3.mono (fun k q _ => q.1)) j4 i4 hsz0 hS hk) (fun x9 hk => NtQ.mk i1 i2 hb.size hk (fun s q => by have := HLT.out.2 s q; have := hb.size; omega) (fun s q => (hS s q).1) (fun s q e => e.elim q.2 (fun e => by have := hS s e; omega)))
      | 7, ho, hA, hK =>
        simp only [List.getElem?_cons_succ, List.getElem?_cons_zero, Option.some.injEq] at ho
        subst ho
        obtain ⟨u6, e6⟩ := hdep ⟨6, .data⟩ (by simp) rfl _ 175 rfl rfl
        unfold Oper.wp
        simp [execOp, go_sem, u6]
        exact cameFB _ rfl (by decide) (Below.refl _ _) (fun x9 hk => e6 rfl rfl x9 hk)
      | 8, ho, hA, hK =>
        simp only [List.getElem?_cons_succ, List.getElem?_cons_zero, Option.some.injEq] at ho
        subst ho
        obtain ⟨u7, e7⟩ := hdep ⟨7, .data⟩ (by simp) rfl _ 168 rfl rfl
        obtain ⟨pp, ee, q8, _⟩ := e7 rfl rfl X (KeptP.refl _ _)
        rw [q8] at u7
        unfold Oper.wp
        simp [execOp, go_sem, u7]
        exact cameFB _ rfl (by decide) (Below.refl _ _) (fun x9 hk => NtQ.fst q8 (e7 rfl rfl x9 hk))
      | 9, ho, hA, hK =>
        simp only [List.getElem?_cons_succ, List.getElem?_cons_zero, Option.some.injEq] at ho
        subst ho
        obtain ⟨u7, e7⟩ := hdep ⟨7, .data⟩ (by simp) rfl _ 168 rfl rfl
        obtain ⟨pp, ee, q8, _⟩ := e7 rfl rfl X (KeptP.refl _ _)
        rw [q8] at u7
        unfold Oper.wp
        simp [execOp, go_sem, u7]
        exact cameFB _ rfl (by decide) (Below.refl _ _) (fun x9 hk => NtQ.snd q8 (e7 rfl rfl x9 hk))
      | 10, ho, hA, hK => cases hA
      | 11, ho, hA, hK => cases hA
      | 12, ho, hA, hK => cases hK
      | 13, ho, hA, hK => cases hK
      | m + 14, ho, hA, hK => simp at ho
    · intro ii o9 t n ho hA q X
      match ii, ho, hA with
      | 10, ho, hA =>
        cases hA
        simp only [List.getElem?_cons_succ, List.getElem?_cons_zero, Option.some.injEq] at ho
        subst ho
        unfold Oper.wp
        simp [execOp, go_sem]
        exact ⟨_, rfl, rfl, rfl⟩
      | 11, ho, hA =>
        cases hA
        simp only [List.getElem?_cons_succ, List.getElem?_cons_zero, Option.some.injEq] at ho
        subst ho
        unfold Oper.wp
        simp [execOp, go_sem]
        exact ⟨_, rfl, rfl, rfl⟩
      | 0, ho, hA | 1, ho, hA | 2, ho, hA | 3, ho, hA | 4, ho, hA | 5, ho, hA | 6, ho, hA | 7, ho, hA | 8, ho, hA | 9, ho, hA | 12, ho, hA | 13, ho, hA => cases hA
      | m + 14, ho, hA => cases hA
    · intro ii o9 of os_ f s n g' t df ds sv ho hK hA hf hs hdf hds q X cs0 sf ss hR hg hn
      match ii, ho, hK with
      | 12, ho, hK =>
        cases hK
        cases hA
        simp only [List.getElem?_cons_succ, List.getElem?_cons_zero, Option.some.injEq] at ho hf hs
        subst ho hf hs
        cases hdf
        cases hds
        obtain ⟨pp, rfl, hpp⟩ := hR
        exact wp_store_row _ _ _ rfl g' ((pcv pp)) (by simp [Act.eval, sf]) (by simp [Act.eval, ss]) _ cs0 hg (p_size pp) (by rw [hn]; rfl) (pcv_one pp hpp.b.sl.one) ⟨undef, (pcv pp), rfl, rfl, rfl, rfl⟩
      | 13, ho, hK =>
        cases hK
        cases hA
        simp only [List.getElem?_cons_succ, List.getElem?_cons_zero, Option.some.injEq] at ho hf hs
        subst ho hf hs
        cases hdf
        cases hds
        obtain ⟨n0, n1, n2, n3, n4, n5, n6, rfl⟩ := NoR.form hR
        exact wp_store_row _ _ _ rfl g' ((nov n0 n1 n2 n3 n4 n5 n6)) (by simp [Act.eval, sf]) (by simp [Act.eval, ss]) _ cs0 hg no3_size (by rw [hn]; rfl) (by simp [Value.oneCell', nov]) ⟨undef, (nov n0 n1 n2 n3 n4 n5 n6), rfl, rfl, rfl, rfl⟩
      | 0, ho, hK | 1, ho, hK | 2, ho, hK | 3, ho, hK | 4, ho, hK | 5, ho, hK | 6, ho, hK | 7, ho, hK | 8, ho, hK | 9, ho, hK | 10, ho, hK | 11, ho, hK => cases hK
      | m + 14, ho, hK => cases hK
    · intro vals X7 hPo hsz hR hA
      obtain ⟨vr7, p7, c7⟩ := hPo
      obtain ⟨b7, cs, e10, hb7, hrow, _, hval⟩ := hA 10 _ _ (by decide) rfl
      obtain ⟨b8, cs', e11, hb8, hrow', hsz3, hval'⟩ := hA 11 _ _ (by decide) rfl
      obtain ⟨p2, e8, q8⟩ : PcP (fun k => k < W.heap.size ∧ ¬ Bch R vr k) (plAt g o.i) (vals 8) X7 := hR 8 (by decide) rfl rfl
      have q9 : NoR X0.heap.size (rfAt bLook g o.i) (vals 9) X7 := hR 9 (by decide) rfl rfl
      have ecs : cs = pcv p2 := Value.agg.inj ((hval 12 8 (by decide) rfl).symm.trans e8)
      have ecs' : vals 9 = .agg cs' := hval' 13 9 (by decide) rfl
      subst ecs
      rw [ecs'] at q9
      have hn1 : ∀ s, W.heap.size ≤ s → ¬ Bch R vr s := fun s hs q => by have := HLT.out.2 s q; omega
      have r5 := HC6.out.1.ch c7 (hn1 b5 hb5)
      have q5 := HC6.out.2.1.ch c7 hn1
      have r7 : RowAt b7 (pcv p2) 65 X7 := hrow
      have r8 : RowAt b8 cs' 32 X7 := hrow'
      have c06 := H6.out.2
      have hM7 : Below M W X7 := (c06.below (fun s hs q => by have := (H2.out.fb s q).1; omega) HMW.out).trans (c7.below (fun s hs q => by have := (H2.out.fr s q).1; omega) (Nat.le_trans HMW.out hsz0))
      have HG := hid_of' (got_is (HLw.out X7 hM7) q5 q8.r (HC6.out.2.2.ch c7 hn1) q9)
      have H7 := hid_of' (And.intro r5 (And.intro r7 (And.intro r8 hsz3)))
      have HP7 := hid_of' (And.intro p7 (And.intro q5 hM7))
      clear hR hA hsz hval hval' hrow hrow' p7 c7 q8 q9 r5 q5 r7 r8 c06 hM7 ecs' hn1
      simp only [putAll, e10, e11, List.setIfInBounds_toArray, List.set_cons_succ, List.set_cons_zero]
      clear e10 e11 e8
      go_wp2_with (first
        | (refine wpL_loadP (p := p) rfl _ rfl rfl H7.out.1.in ?_)
        | (refine wpL_loadP (p := p2) rfl _ rfl rfl H7.out.2.1.in ?_)
        | (refine wpL_loadNo rfl _ rfl rfl H7.out.2.2.1 H7.out.2.2.2 ?_)
        | (go_at_call 29; (with_reducible refine HG.out.mono ?_); rintro e X8 ⟨rfl, hc8⟩; clear HG))
      go_ret
      obtain ⟨g1, g2⟩ := PrZ.got HP7.out.1 HP7.out.2.1 (by omega) HMW.out hc8
      exact ⟨rfl, _, _, _, g1, HBw.out.trans (HP7.out.2.2.trans g2)⟩
end Go.Proofs.YtdojjhhnciaegaaDoor
