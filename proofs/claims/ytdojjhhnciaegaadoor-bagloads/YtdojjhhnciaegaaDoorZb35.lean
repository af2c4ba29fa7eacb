
/-
  The document's Bag: Deliver of a place that is there, Drop.
-/
import Derived.Test.YtdojjhhnciaegaaDoorZb33
import Derived.Test.YtdojjhhnciaegaaDoorZb34
namespace Go.Proofs.YtdojjhhnciaegaaDoor
open Go.RowKit Go.Extern.Stop Go.Stop Go.Extern
set_option maxRecDepth 100000

theorem RgAt.mono {B : Nat} {v : Value} {g : Bg} {K K' : Nat → Prop} {w : World} (h : RgAt B v g K w) (hk : ∀ g, K g → g < w.heap.size → K' g) : RgAt B v g K' w := ⟨h.lies, h.row.mono hk, h.most1, h.room⟩
theorem RgAt.bneR {B : Nat} {v : Value} {g : Bg} {K : Nat → Prop} {w : World} (h : RgAt B v g K w) : RgAt B v g (fun k => K k ∧ k < w.heap.size ∧ ¬ k = B ∧ ∀ i, v.ownBlock = some i → ¬ k = i) w := ⟨h.lies, h.kne, h.most1, h.room⟩
theorem RgAt.ch {B : Nat} {v : Value} {g : Bg} {K S : Nat → Prop} {w w' : World} (h : RgAt B v g K w) (c : Ch S w w') (hB : ¬ S B) (hv : ∀ k, v.ownBlock = some k → ¬ S k) (hn : ∀ g, K g → ¬ S g) : RgAt B v g K w' := ⟨h.lies.ch c hB, h.row.ch c hv hn, h.most1, h.room⟩
theorem RgAt.set {B : Nat} {v : Value} {g : Bg} {K : Nat → Prop} {w : World} (h : RgAt B v g K w) (j : Nat) (x : Value) (g' : Bg) (hl : g'.l = g.l) (hm : g'.most = g.most)
    (hr : (#[.int .i64 g.most, .int .i64 (wrap64 (g.last + 1)), v, .int .i64 g.sent, .int .i64 g.arr, .int .i64 g.drp, .int .i64 g.dbl] : Array Value).setIfInBounds j x = #[.int .i64 g'.most, .int .i64 (wrap64 (g'.last + 1)), v, .int .i64 g'.sent, .int .i64 g'.arr, .int .i64 g'.drp, .int .i64 g'.dbl]) : RgAt B v g' K (w.setCell ⟨B, j, none⟩ x) := by
  have hc : Ch (fun k => k = B) w (w.setCell ⟨B, j, none⟩ x) := Ch.set (S := fun k => k = B) (Ch.refl _ w) (p := ⟨B, j, none⟩) (.inl rfl) x
  have hb := (h.kne.ch hc (fun k hk => h.ne k hk) (fun k hk => hk.2.2.1)).mono (K' := K) (fun k hk _ => hk.1)
  refine ⟨?_, by rw [hl]; exact hb, by rw [hm]; exact h.most1, by rw [hm, hl]; exact h.room⟩
  have := h.lies.setc j x
  rwa [hr] at this
theorem chR_set (B : Nat) (w : World) (j : Nat) (x : Value) : Ch (fun k => k = B) w (w.setCell ⟨B, j, none⟩ x) := Ch.set (S := fun k => k = B) (Ch.refl _ w) (p := ⟨B, j, none⟩) (.inl rfl) x
/-- What out leaves. -/
def OutQ (B : Nat) (g : Bg) (n : Nat) (K : Nat → Prop) (q : Pl) (W : World) (u : Value) (x : World) : Prop := ∃ p v', u = .agg (pcv p) ∧ PcIs K p q x ∧ RgAt B v' (outG g n) K x ∧ NewB W v'
theorem OutQ.later {B : Nat} {g : Bg} {n : Nat} {K : Nat → Prop} {q : Pl} {W : World} {u : Value} {x x' : World} (h : OutQ B g n K q W u x) (hb : Below x.heap.size x x') : OutQ B g n K q W u x' := by
  obtain ⟨p, v', h1, h2, h3, h4⟩ := h
  exact ⟨p, v', h1, h2.later hb, h3.later hb, h4⟩
theorem OutQ.ch {B b : Nat} {g : Bg} {n : Nat} {K : Nat → Prop} {q : Pl} {W : World} {u : Value} {x x' : World} (h : OutQ B g n K q W u x) (c : Ch (fun k => k = b) x x') (hb : ¬ B = b ∧ b < W.heap.size) (hk : ∀ k, K k → ¬ k = b) : OutQ B g n K q W u x' := by
  obtain ⟨p, v', h1, h2, h3, h4⟩ := h
  exact ⟨p, v', h1, h2.ch c hk, h3.ch c hb.1 (fun k hk => by have := h4 k hk; have := hb.2; omega) hk, h4⟩
/-- How far the region has come. -/
def GD (B b : Nat) (W : World) (k : Nat) (x : World) : Prop := match k with
  | 0 => Below W.heap.size W x
  | 1 => Ch (fun k => k = B) W x
  | _ + 2 => Ch (fun k => k = B ∨ k = b) W x
theorem GD.ch {B b : Nat} {W : World} {k : Nat} {x : World} (h : GD B b W k x) : Ch (fun k => k = B ∨ k = b) W x := by
  match k, h with
  | 0, h => exact Ch.of h
  | 1, h => exact h.mono (fun s q => .inl (.inl q))
  | _ + 2, h => exact h
theorem GD.later {B b : Nat} {W : World} {k : Nat} {x x' : World} (h : GD B b W k x) (hb : Below x.heap.size x x') : GD B b W k x' := by
  match k, h with
  | 0, h => exact bgo h hb
  | 1, h => exact Ch.later h hb
  | _ + 2, h => exact Ch.later h hb
set_option maxHeartbeats 4000000 in
theorem refDeliver_in {B : Nat} {v : Value} {g : Bg} {K : Nat → Prop} {w : World} (h : RgAt B v g K w) {n : Nat} {y : Pl} (hy : g.l[n]? = some y) :
    Calls Tryd.prog 28 #[.pointer (some ⟨B, 0, none⟩), .int .i64 (n : Int)] w fun e w' => ∃ p v', e = .returned (.tuple #[.agg (pcv p), nov0]) ∧ PcIs K p y w' ∧ RgAt B v' { g with arr := wrap64 (g.arr + 1), l := g.l.eraseIdx n } K w' ∧ NewB w v' ∧ Ch (fun k => k = B) w w' := by
  have hn := (List.getElem?_eq_some_iff.1 hy).1
  have r4 := (row_new w (pcv pc0) 65).later (below_one _ (.cells #[.int .i64 0, .slice none 0 0, .slice none 0 0] 32))
  have r5 := row_new2 w (.cells (pcv pc0) 65) #[.int .i64 0, .slice none 0 0, .slice none 0 0] 32
  have hb2 := below_two w (.cells (pcv pc0) 65) (.cells #[.int .i64 0, .slice none 0 0, .slice none 0 0] 32)
  go_enter Tryd.func28, Tryd.ntmps28
  go_upto_region 1 with fail
  generalize hw2 : ((w.alloc (.cells (pcv pc0) 65)).alloc (.cells #[.int .i64 0, .slice none 0 0, .slice none 0 0] 32)) = w2 at r4 r5 hb2
  rw [show ((w.alloc (.cells #[.int .i64 0, .int .i64 0, .int .i64 0, .slice none 0 0] 65)).alloc (.cells #[.int .i64 0, .slice none 0 0, .slice none 0 0] 32)) = w2 from hw2]
  clear hw2
  have hB0 := h.lies.lt
  have HIs := hid_of' (refIs_in (h.later hb2) bDeliver hn)
  have H := hid_of' (And.intro (h.mono (K' := fun k => K k ∧ k < w.heap.size) (fun k hk hl => ⟨hk, hl⟩)) (And.intro r4 (And.intro r5 hb2)))
  have HQ0 := hid_of' hy
  clear h r4 r5 hb2 hy
  go_upto_region 2 with (first | (go_at_call 62; refine HIs.out.mono ?_; rintro e w3 ⟨rfl, hb3⟩; clear HIs; unfold nov0) | (refine wpL_storeNo rfl _ _ rfl rfl (code := 0) (a := none) (n := 0) (c := 0) (a' := none) (n' := 0) (c' := 0) rfl (row_new w3 _ _) ?_))
  have r6 := (row_new w3 #[.int .i64 0, .slice none 0 0, .slice none 0 0] 32).put (nov 0 none 0 0 none 0 0)
  have hb4 := below_row (below_one w3 (.cells #[.int .i64 0, .slice none 0 0, .slice none 0 0] 32)) (Nat.le_refl _) (nov 0 none 0 0 none 0 0)
  generalize (w3.alloc (.cells #[.int .i64 0, .slice none 0 0, .slice none 0 0] 32)).setRow w3.heap.size (nov 0 none 0 0 none 0 0) = w4 at r6 hb4 ⊢
  have hb24 := bgo hb3 hb4
  have hbw4 := bgo H.out.2.2.2 hb24
  have c6 : w4.cell? ⟨w3.heap.size, 0, none⟩ = some (.int .i64 0) := r6.cellIs 0 rfl
  obtain ⟨b6, hb6⟩ : ∃ b6, w3.heap.size = b6 := ⟨_, rfl⟩
  obtain ⟨b4, hb4'⟩ : ∃ b4, w.heap.size = b4 := ⟨_, rfl⟩
  have r4' := H.out.2.1.later hb24
  have r5' := H.out.2.2.1.later hb24
  have hs2 := H.out.2.2.1.lt
  have hs3 := hb3.size
  have hR4 := H.out.1.later hbw4
  rw [hb6] at r6 c6 ⊢
  rw [hb4'] at r4' r5' hR4 ⊢
  have hs6 := r6.lt
  have hs5 := r5'.lt
  have cA := hR4.lies.cellIs 4 rfl
  have fA := hR4.lies.froz 4
  have hR5 := hR4.set 4 (.int .i64 (wrap64 (g.arr + 1))) { g with arr := wrap64 (g.arr + 1) } rfl rfl rfl
  have sA := chR_set B w4 4 (.int .i64 (wrap64 (g.arr + 1)))
  have hBb : B < b4 := by omega
  have r6' := r6.ch sA (by omega)
  have r4'' := r4'.ch sA (by omega)
  have r5'' := r5'.ch sA (by omega)
  have hsz : (w4.setCell ⟨B, 4, none⟩ (.int .i64 (wrap64 (g.arr + 1)))).heap.size = w4.heap.size := by simp [World.setCell]
  have H5 := hid_of' (And.intro hR5 (And.intro r6' (And.intro r4'' (And.intro r5'' ((Ch.of (S := fun k => k = B) hbw4).go sA (fun s q => .inl q))))))
  have HQ : Hid (({ g with arr := wrap64 (g.arr + 1) } : Bg).l[n]? = some y) := HQ0.out
  clear r6 r4' r5' hR4 hR5 sA r6' r4'' r5'' hb3 hb4 hb24 hbw4 H
  go_upto_region 4 with fail
  clear c6
  go_upto_region 5 with fail
  clear cA fA
  generalize w4.setCell ⟨B, 4, none⟩ (.int .i64 (wrap64 (g.arr + 1))) = W at H5 hsz ⊢
  obtain ⟨g1, hg1⟩ : ∃ g1, g1 = ({ g with arr := wrap64 (g.arr + 1) } : Bg) := ⟨_, rfl⟩
  rw [← hg1] at H5 HQ
  obtain ⟨K9, hK9⟩ : ∃ K9 : Nat → Prop, K9 = fun k => K k ∧ k < b4 := ⟨_, rfl⟩
  rw [← hK9] at H5
  have hk9 : ∀ k, K9 k → K k ∧ k < b4 := by rw [hK9]; exact fun k hk => hk
  have HB4 : Hid ((¬ B = b4 ∧ b4 < W.heap.size) ∧ ∀ k, K9 k → ¬ k = b4) := ⟨⟨by omega, by omega⟩, fun k hk e => by have := (hk9 k hk).2; omega⟩
  have hB64 : ¬ (fun k => k = B ∨ k = b4) b6 := fun e => by rcases e with e | e <;> omega
  have hB4W : ¬ b4 = B := by omega
  have HK9 := hid_of' hk9
  clear hk9 hK9
  refine wp_region_seqE 5 (by kernel_rfl) (fun _ => none) (by kernel_rfl) (by kernel_rfl) (by decide) (fun i v x => match i with
    | 0 => v = .pointer (some ⟨B, 0, none⟩)
    | 1 => v = .int .i64 (n : Int)
    | 2 => OutQ B g1 n K9 y W v x
    | 3 => v = .agg (nov 0 none 0 0 none 0 0)
    | 4 => ∃ p, RowAt b4 (pcv p) 65 x ∧ PcIs K9 p y x
    | _ => True) (fun _ => false) ?_ [2, 4] (by decide) (by decide) (fun k x => GD B b4 W k x) (fun c a b => c = 4 → Ch (fun k => k = b4) a b) (fun k x x' hG hb => GD.later hG hb) (fun _ h => h) ?_ ?_ ?_ ?_
  · intro j v x b hj
    cases hj
  · intro i v x x' hR hb
    match i, hR with
    | 0, h => exact h
    | 1, h => exact h
    | 2, h => exact h.later hb
    | 3, h => exact h
    | 4, h => exact (let ⟨p, h1, h2⟩ := h; ⟨p, h1.later hb, h2.later hb⟩)
    | m + 5, h => exact h
  · intro cc i v x x' hcc hne hanc hR hb
    match i, hne, hanc, hR with
    | 0, hne, hanc, h => exact h
    | 1, hne, hanc, h => exact h
    | 2, hne, hanc, h =>
      rcases List.mem_cons.1 hcc with q' | q'
      · subst q'; exact absurd rfl hne
      · exact h.ch (hb (List.mem_singleton.1 q')) HB4.out.1 HB4.out.2
    | 3, hne, hanc, h => exact h
    | 4, hne, hanc, h =>
      rcases List.mem_cons.1 hcc with q' | q'
      · subst q'; exact absurd hanc (by rw [show ancB _ 24 2 4 = true by kernel_rfl]; decide)
      · exact absurd (List.mem_singleton.1 q').symm hne
    | m + 5, hne, hanc, h => exact h
  · intro i o hi ho q x vals kk hG hlo hhi hdep hoth
    have t0 : q.tmps[0]? = some (.pointer (some ⟨B, 0, none⟩)) := by rw [hoth 0 (by kernel_rfl)]; rfl
    have t1 : q.tmps[1]? = some (.int .i64 (n : Int)) := by rw [hoth 1 (by kernel_rfl)]; rfl
    have t6 : q.tmps[6]? = some (.pointer (some ⟨b6, 0, none⟩)) := by rw [hoth 6 (by kernel_rfl)]; rfl
    have t4 : q.tmps[4]? = some (.pointer (some ⟨b4, 0, none⟩)) := by rw [hoth 4 (by kernel_rfl)]; rfl
    match i, hi, ho, hlo, hhi with
    | 0, _, ho, hlo, hhi =>
      simp only [List.getElem?_cons_zero, Option.some.injEq] at ho
      subst ho
      unfold Oper.wp
      simp [execOp, go_sem, t0]
      exact cameDB _ rfl (by decide) (Below.refl _ _) rfl (fun h => absurd h (by decide))
    | 1, _, ho, hlo, hhi =>
      simp only [List.getElem?_cons_succ, List.getElem?_cons_zero, Option.some.injEq] at ho
      subst ho
      unfold Oper.wp
      simp [execOp, go_sem, t1]
      exact cameDB _ rfl (by decide) (Below.refl _ _) rfl (fun h => absurd h (by decide))
    | 2, _, ho, hlo, hhi =>
      simp only [List.getElem?_cons_succ, List.getElem?_cons_zero, Option.some.injEq] at ho
      subst ho
      obtain ⟨u0, e0⟩ := hdep ⟨0, .data⟩ (by simp) rfl _ 22 rfl rfl
      rw [show vals 0 = .pointer (some ⟨B, 0, none⟩) from e0] at u0
      obtain ⟨u1, e1⟩ := hdep ⟨1, .data⟩ (by simp) rfl _ 23 rfl rfl
      rw [show vals 1 = .int .i64 (n : Int) from e1] at u1
      obtain rfl : kk = 0 := Nat.le_zero.1 (Nat.le_trans hhi (Nat.le_of_eq (by kernel_rfl)))
      have hb0 : Below W.heap.size W x := hG
      unfold Oper.wp
      simp [go_sem, u0, u1]
      refine (refOut_ok (H5.out.1.later hb0) HQ.out).mono ?_
      rintro r x1 ⟨p, v9, rfl, q1, q2, q3, q4⟩
      exact cameDX _ rfl (by decide) ⟨fun e => absurd e (by decide), (Ch.of hb0).trans q4, q4.size⟩ ⟨p, v9, rfl, q1, q2, fun k hk => by have := q3 k hk; have := hb0.size; omega⟩ rfl
    | 3, _, ho, hlo, hhi =>
      simp only [List.getElem?_cons_succ, List.getElem?_cons_zero, Option.some.injEq] at ho
      subst ho
      exact opw_loadNo _ rfl (by simp [Act.eval, t6]) (H5.out.2.1.ch (GD.ch hG) hB64) rfl (cameDB _ rfl (by decide) (Below.refl _ _) rfl (fun h => absurd h (by decide)))
    | 4, _, ho, hlo, hhi =>
      simp only [List.getElem?_cons_succ, List.getElem?_cons_zero, Option.some.injEq] at ho
      subst ho
      obtain ⟨u2, e2⟩ := hdep ⟨2, .data⟩ (by simp) rfl _ 24 rfl rfl
      obtain rfl : kk = 1 := Nat.le_antisymm (Nat.le_trans hhi (Nat.le_of_eq (by kernel_rfl))) (Nat.le_trans (Nat.le_of_eq (by kernel_rfl)) hlo)
      have hc0 : Ch (fun k => k = B) W x := hG
      obtain ⟨p, v9, e24, q1, q2, q3⟩ : OutQ B g1 n K9 y W (vals 2) x := e2
      rw [e24] at u2
      have r4x : RowAt b4 (pcv pc0) 65 x := H5.out.2.2.1.ch hc0 (by omega)
      refine wp_store_row _ _ _ rfl b4 (pcv p) (by simp [Act.eval, t4]) (by simp [Act.eval, u2]) _ _ r4x (p_size p) rfl (pcv_one p q1.b.sl.one) ?_
      have c4 := Ch.row (S := fun k => k = b4) (Ch.refl _ x) (.inl rfl) (pcv p)
      exact cameDX undef rfl (by decide) ⟨fun _ => c4, (hc0.mono (S' := fun k => k = B ∨ k = b4) (fun s q => .inl (.inl q))).row (.inl (.inr rfl)) (pcv p), by simp⟩ ⟨p, r4x.put _, q1.ch c4 HB4.out.2⟩ rfl
    | m + 5, hi, _, _, _ => exact absurd hi (by omega)
  · intro vals x hX hR _
    have e3 : vals 3 = .agg (nov 0 none 0 0 none 0 0) := hR 3 (by decide)
    obtain ⟨p, r4x, hpx⟩ : ∃ p, RowAt b4 (pcv p) 65 x ∧ PcIs K9 p y x := hR 4 (by decide)
    obtain ⟨p2, v9, e2, _, hgx, hnx⟩ : OutQ B g1 n K9 y W (vals 2) x := hR 2 (by decide)
    have gx : Ch (fun k => k = B ∨ k = b4) W x := hX
    have r5x := H5.out.2.2.2.1.ch gx (fun e => by rcases e with e | e <;> omega)
    have hwx := H5.out.2.2.2.2.go gx (S' := fun k => k = B ∨ k = b4) (fun s q => by rcases q with q | q; exact .inl q; exact .inr (by omega))
    have HX := hid_of' (And.intro r4x (And.intro hpx (And.intro hgx (And.intro hnx (And.intro r5x hwx)))))
    clear r4x hpx hgx hnx r5x hwx hR hX gx
    clear e2
    simp only [List.drop, List.take, putAll, List.setIfInBounds_toArray, List.set_cons_succ, List.set_cons_zero, e3]
    clear e3
    go_wp2_with (refine wpL_storeNo rfl _ _ rfl rfl (code := 0) (a := none) (n := 0) (c := 0) (a' := none) (n' := 0) (c' := 0) rfl HX.out.2.2.2.2.1 ?_)
    obtain ⟨y1, y2, y3, y4, y5, y6⟩ := HX.out
    have c7 := Ch.row (S := fun s => s = b4 + 1) (Ch.refl _ x) (.inl rfl) (nov 0 none 0 0 none 0 0)
    refine bodyPost_ret (v := .tuple #[.agg (pcv p), nov0]) (results_cn (fn := Tryd.f28) (p := 4) (q := 5) (g := b4) (g' := b4 + 1) rfl rfl (y1.other _ _ (by omega)) rfl (y5.put _) rfl) rfl ⟨p, rfl, ?_, v9, ?_, fun k hk => by have := y4 k hk; omega, y6.go c7 (fun s q => .inr (by omega))⟩
    · exact (y2.ch c7 (fun k hk e => by have := (HK9.out k hk).2; omega)).mono (fun k hk _ => (HK9.out k hk).1)
    · have := (y3.ch c7 (by omega) (fun k hk => by have := y4 k hk; omega) (fun k hk e => by have := (HK9.out k hk).2; omega)).mono (K' := K) (fun k hk _ => (HK9.out k hk).1)
      rw [hg1] at this
      exact this
end Go.Proofs.YtdojjhhnciaegaaDoor
