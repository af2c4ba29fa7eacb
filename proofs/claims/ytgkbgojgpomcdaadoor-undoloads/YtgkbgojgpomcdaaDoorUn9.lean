
/-
  undo.Done.
-/
import Derived.Test.YtgkbgojgpomcdaaDoorUn8
import Derived.Test.YtgkbgojgpomcdaaDoorSeqE
namespace Go.Proofs.YtgkbgojgpomcdaaDoor
open Go.RowKit Go.Extern.Stop Go.Stop Go.Extern
set_option maxRecDepth 100000

/-- A row of one edit has come up. -/
def BsQ (N : Nat) (y v : Value) (x : World) : Prop := ∃ g, v = .slice (some ⟨g, 0, none⟩) 1 1 ∧ N ≤ g ∧ g < x.heap.size ∧ x.cell? ⟨g, 0, none⟩ = some y
theorem BsQ.later {N : Nat} {y v : Value} {x x' : World} (h : BsQ N y v x) (hb : Below x.heap.size x x') : BsQ N y v x' := by
  obtain ⟨g, h1, h2, h3, h4⟩ := h
  exact ⟨g, h1, h2, Nat.lt_of_lt_of_le h3 hb.size, by rw [hb.cell (p := ⟨g, 0, none⟩) h3]; exact h4⟩
theorem BsQ.grow {N : Nat} {y v : Value} {row : Option Nat} {x x' : World} (h : BsQ N y v x) (hb : x.grownBy x' row) (hn : ∀ k, row = some k → k < N) : BsQ N y v x' := by
  obtain ⟨g, h1, h2, h3, h4⟩ := h
  refine ⟨g, h1, h2, Nat.lt_of_lt_of_le h3 hb.size, ?_⟩
  rw [World.cell?_of_block (w := x) (hb.block g h3 (fun e => by have := hn g e.symm; omega))]
  exact h4
theorem NwE.grow {N : Nat} {v : Value} {ls : List (List Xg)} {row : Option Nat} {x x' : World} (h : NwE N v ls x) (hb : x.grownBy x' row) (hn : ∀ k, row = some k → k < N) : NwE N v ls x' := by
  obtain ⟨⟨us, h1, h2, h3⟩, h4⟩ := h
  exact ⟨⟨us, h1.ch (grown_ch hb) (fun k hk e => by have := h4 k hk; have := hn k e; omega), h2.ch (grown_ch hb) (fun k hk e => by have := hn k e; omega), h3⟩, h4⟩
theorem NwE.mono {N M : Nat} {v : Value} {ls : List (List Xg)} {x : World} (h : NwE N v ls x) (hm : M ≤ N) : NwE M v ls x := by
  obtain ⟨⟨us, h1, h2, h3⟩, h4⟩ := h
  exact ⟨⟨us, h1, h2.mono (fun k hk _ => Nat.le_trans hm hk), h3⟩, fun k hk => Nat.le_trans hm (h4 k hk)⟩
theorem slE_one {x : World} {g nl cl : Nat} {a : Option Addr} {l : List Xg} (hc : x.cell? ⟨g, 0, none⟩ = some (.slice a nl cl)) (h : SlD x (.slice a nl cl) l) : SlE x (.slice (some ⟨g, 0, none⟩) 1 1) [l] :=
  .inr ⟨g, 0, 1, [.slice a nl cl], rfl, rfl, fun i u hu => by
    match i, hu with
    | 0, hu => cases hu; exact hc
    | i + 1, hu => simp at hu, fun i u m hu hm => by
    match i, hu, hm with
    | 0, hu, hm => cases hu; cases hm; exact h
    | i + 1, hu, hm => simp at hu⟩
/-- A row with one edit more has come up. -/
def DnQ (N : Nat) (vd : Value) (us : List Value) (l : List Xg) (v : Value) (x : World) : Prop := ∃ y, OwnV v (nwL us y) x ∧ EdAt (fun k => N ≤ k) y l x ∧ ∀ k, v.ownBlock = some k → vd.ownBlock = some k ∨ N ≤ k
theorem DnQ.later {N : Nat} {vd : Value} {us : List Value} {l : List Xg} {v : Value} {x x' : World} (h : DnQ N vd us l v x) (hb : Below x.heap.size x x') : DnQ N vd us l v x' := by
  obtain ⟨y, h1, h2, h3⟩ := h
  exact ⟨y, h1.later hb, h2.later hb, h3⟩
theorem EsAt.apartOf {K : Nat → Prop} {us : List Value} {ls : List (List Xg)} {w w' : World} {S : Nat → Prop} (h : EsAt K us ls w) (c : Ch S w w') (hS : ∀ k, S k → k < w.heap.size → ¬ ∃ cur, w.heap[k]? = some (.cells cur 66 (0, 0))) : EsAt K us ls w' :=
  (h.typ.ch c (fun k hk hs => hS k hs hk.2.1 hk.2.2)).mono (fun _k hk _ => hk.1)
set_option maxHeartbeats 4000000 in
theorem done_ok {B : Nat} {vd vu v : Value} {F : Nat → Prop} {d u : List (List Xg)} {l : List Xg} {w : World} (h : SkAt 68 B vd vu F d u w) (hv : SlD w v l) (hne : l ≠ []) (hl : l.length ≤ 4398046510976) :
    Calls Tryd.prog 28 #[.pointer (some ⟨B, 0, none⟩), v] w fun e w' => (∃ z, e = .returned z) ∧ ∃ vd' F', SkAt 68 B vd' (.slice none 0 0) F' (nwL d l) [] w' ∧ Ch F w w' ∧ ∀ k, F' k → F k ∨ w.heap.size ≤ k := by
  obtain ⟨us, hO, hE⟩ := h.rd.open
  obtain ⟨a0, c0, hv0⟩ := hO.form
  have HO := hid_of' hO
  have hul : us.length = d.length := hE.1
  generalize us.length = n0 at hv0 hul
  subst hv0
  obtain ⟨al, cl, hv1⟩ := hv.form
  have hl0 : ¬ l.length = 0 := fun e => hne (List.eq_nil_of_length_eq_zero e)
  have HV := hid_of' hv
  have HLE := hid_of' (And.intro hne hl)
  generalize l.length = nl at hv1 hl0
  subst hv1
  have hl1 : ¬ (nl : Int) = 0 := by omega
  have HL64 : Hid (us.length ≤ 64) := by show _ ≤ _; rw [hE.1]; exact h.ld
  have HLT : Hid (∀ k, Value.ownBlock (.slice a0 n0 c0) = some k → k < w.heap.size) := hO.1.lt
  have HR := hid_of' h.lies
  have HK := hid_of' (And.intro h hE)
  clear h hO hE hv hne hl hul
  go_enter Tryd.func28, Tryd.ntmps28
  go_upto_region 1 with fail
  refine wp_region_once 9 (by kernel_rfl) (fun _ => none) (by kernel_rfl) (by kernel_rfl) (by decide) (fun i v x => match i with
    | 0 => v = .pointer (some ⟨B, 0, none⟩)
    | 1 => v = .pointer (some ⟨B, 0, none⟩)
    | 2 => v = .pointer (some ⟨B, 0, none⟩)
    | 3 => v = .pointer (some ⟨B, 0, none⟩)
    | 4 => v = .slice a0 n0 c0
    | 5 => v = .slice al nl cl
    | 6 => BsQ w.heap.size (.slice al nl cl) v x
    | 7 => NwE w.heap.size v [l] x
    | 8 => DnQ w.heap.size (.slice a0 n0 c0) us l v x
    | _ => True) (fun _ => false) (fun _ _ _ _ h => by cases h) 8 (by decide) (fun a b => World.grownBy a b (Value.ownBlock (.slice a0 n0 c0))) (fun a b => World.grownBy a b (Value.ownBlock (.slice a0 n0 c0))) (fun _ _ g h => grown_later g h) (fun _ h => grown_of h) (fun _ _ h g => grown_first h g) (fun _ _ g => g.size) ?_ ?_ ?_ ?_
  · intro i v x x' hR hb
    match i, hR with
    | 0, h => exact h
    | 1, h => exact h
    | 2, h => exact h
    | 3, h => exact h
    | 4, h => exact h
    | 5, h => exact h
    | 6, h => exact h.later hb
    | 7, h => exact h.later hb
    | 8, h => exact h.later hb
    | m + 9, h => exact h
  · intro i v x x' hne hR hb
    match i, hne, hR with
    | 0, hne, h => exact h
    | 1, hne, h => exact h
    | 2, hne, h => exact h
    | 3, hne, h => exact h
    | 4, hne, h => exact h
    | 5, hne, h => exact h
    | 6, hne, h => exact BsQ.grow h hb HLT.out
    | 7, hne, h => exact NwE.grow h hb HLT.out
    | 8, hne, h => exact absurd rfl hne
    | m + 9, _, h => exact h
  · intro i o hi ho q x vals hX hC hdep hoth
    have t0 : q.tmps[0]? = some (.pointer (some ⟨B, 0, none⟩)) := by rw [hoth 0 (by kernel_rfl)]; rfl
    have t1 : q.tmps[1]? = some (.slice al nl cl) := by rw [hoth 1 (by kernel_rfl)]; rfl
    match i, hi, ho, hC with
    | 0, _, ho, hC =>
      simp only [List.getElem?_cons_zero, Option.some.injEq] at ho
      subst ho
      unfold Oper.wp
      simp [execOp, go_sem, t0]
      exact cameB _ rfl (by decide) (Below.refl _ _) rfl (fun h => absurd h (by decide))
    | 1, _, ho, hC =>
      simp only [List.getElem?_cons_succ, List.getElem?_cons_zero, Option.some.injEq] at ho
      subst ho
      unfold Oper.wp
      simp [execOp, go_sem, t0]
      exact cameB _ rfl (by decide) (Below.refl _ _) rfl (fun h => absurd h (by decide))
    | 2, _, ho, hC =>
      simp only [List.getElem?_cons_succ, List.getElem?_cons_zero, Option.some.injEq] at ho
      subst ho
      obtain ⟨u1, e1⟩ := hdep ⟨1, .data⟩ (by simp) rfl _ 8 rfl rfl
      rw [show vals 1 = .pointer (some ⟨B, 0, none⟩) from e1] at u1
      unfold Oper.wp
      simp [execOp, go_sem, u1]
      exact cameB _ rfl (by decide) (Below.refl _ _) rfl (fun h => absurd h (by decide))
    | 3, _, ho, hC =>
      simp only [List.getElem?_cons_succ, List.getElem?_cons_zero, Option.some.injEq] at ho
      subst ho
      obtain ⟨u2, e2⟩ := hdep ⟨2, .data⟩ (by simp) rfl _ 9 rfl rfl
      rw [show vals 2 = .pointer (some ⟨B, 0, none⟩) from e2] at u2
      unfold Oper.wp
      simp [execOp, go_sem, u2]
      exact cameB _ rfl (by decide) (Below.refl _ _) rfl (fun h => absurd h (by decide))
    | 4, _, ho, hC =>
      simp only [List.getElem?_cons_succ, List.getElem?_cons_zero, Option.some.injEq] at ho
      subst ho
      obtain ⟨u3, e3⟩ := hdep ⟨3, .data⟩ (by simp) rfl _ 10 rfl rfl
      rw [show vals 3 = .pointer (some ⟨B, 0, none⟩) from e3] at u3
      have hb := hC (.inr (by kernel_rfl))
      have cc : x.cell? ⟨B, 0, none⟩ = some (.slice a0 n0 c0) := (HR.out.later hb).cellIs 0 rfl
      unfold Oper.wp
      simp [execOp, go_sem, u3, cc]
      exact cameB _ rfl (by decide) (Below.refl _ _) rfl (fun h => absurd h (by decide))
    | 5, _, ho, hC =>
      simp only [List.getElem?_cons_succ, List.getElem?_cons_zero, Option.some.injEq] at ho
      subst ho
      unfold Oper.wp
      simp [execOp, go_sem, t1]
      exact cameB _ rfl (by decide) (Below.refl _ _) rfl (fun h => absurd h (by decide))
    | 6, _, ho, hC =>
      simp only [List.getElem?_cons_succ, List.getElem?_cons_zero, Option.some.injEq] at ho
      subst ho
      obtain ⟨u5, e5⟩ := hdep ⟨5, .data⟩ (by simp) rfl _ 12 rfl rfl
      rw [show vals 5 = .slice al nl cl from e5] at u5
      have hb := hC (.inr (by kernel_rfl))
      have hsz := hb.size
      unfold Oper.wp
      simp [execOp, go_sem, u5]
      exact cameB _ rfl (by decide) (below_one _ _) ⟨x.heap.size, rfl, hsz, by simp, (row_new x _ _).cellIs 0 rfl⟩ (fun h => absurd h (by decide))
    | 7, _, ho, hC =>
      simp only [List.getElem?_cons_succ, List.getElem?_cons_zero, Option.some.injEq] at ho
      subst ho
      obtain ⟨u6, e6⟩ := hdep ⟨6, .data⟩ (by simp) rfl _ 13 rfl rfl
      have hb := hC (.inr (by kernel_rfl))
      obtain ⟨g6, h6, hg6, _, hc6⟩ : BsQ w.heap.size (.slice al nl cl) (vals 6) x := e6
      rw [h6] at u6
      unfold Oper.wp
      simp [go_sem, u6]
      refine (copied_ok (ls := [l]) (slE_one hc6 (HV.out.later hb)) (fun m hm => by rw [List.mem_singleton] at hm; subst hm; exact HLE.out) (by simp)).mono ?_
      rintro r x1 ⟨v1, rfl, hn1, hb1⟩
      exact cameB _ rfl (by decide) hb1 (hn1.mono hb.size) (fun h => absurd h (by decide))
    | 8, _, ho, hC =>
      simp only [List.getElem?_cons_succ, List.getElem?_cons_zero, Option.some.injEq] at ho
      subst ho
      obtain ⟨u4, e4⟩ := hdep ⟨4, .data⟩ (by simp) rfl _ 11 rfl rfl
      rw [show vals 4 = .slice a0 n0 c0 from e4] at u4
      obtain ⟨u7, e7⟩ := hdep ⟨7, .data⟩ (by simp) rfl _ 14 rfl rfl
      have hb := hC (.inl rfl)
      have hn7 : NwE w.heap.size (vals 7) [l] x := e7
      obtain ⟨⟨us7, hw7, he7, _⟩, ho7⟩ := hn7
      obtain ⟨y7, hy7⟩ : ∃ y, us7 = [y] := List.length_eq_one_iff.1 he7.1
      subst hy7
      have hd7 := he7.2 0 y7 l rfl rfl
      unfold Oper.wp
      simp [go_sem, u4, u7]
      refine (withNewest_ok (HO.out.later hb) hw7.1.so (hw7.2 y7 (by simp)) HL64.out).mono ?_
      rintro r x1 ⟨v1, rfl, q1, q2, q3⟩
      exact cameX _ rfl q2 ⟨y7, q1, ⟨Rw.grow hd7.row q2 (fun k hk e => by have := hd7.own k hk; have := HLT.out k e; omega), hd7.own, hd7.ne, hd7.le⟩, fun k hk => (q3 k hk).imp id (fun q => by have := hb.size; omega)⟩ rfl
    | m + 9, hi, _, _ => exact absurd hi (by omega)
  · intro vals x hX hR _
    have e0 : vals 0 = .pointer (some ⟨B, 0, none⟩) := hR 0 (by decide)
    obtain ⟨y, q1, q2, q3⟩ : DnQ w.heap.size (.slice a0 n0 c0) us l (vals 8) x := hR 8 (by decide)
    obtain ⟨a8, c8, hv8⟩ := q1.form
    generalize (nwL us y).length = n8 at hv8
    obtain ⟨h, hE⟩ := HK.out
    have hdB : ¬ Value.ownBlock (.slice a0 n0 c0) = some B := fun e => h.dne (by decide) B e rfl
    have rX := RowAt.grow h.lies hX hdB
    have k0 := rX.cellIs 0 rfl
    have f0 := rX.froz 0
    have r1 := rX.setc 0 (.slice a8 n8 c8)
    have k1 := r1.cellIs 1 rfl
    have f1 := r1.froz 1
    have r2 := r1.setc 1 (.slice none 0 0)
    rw [hv8] at q1 q3
    have cX := grown_ch hX
    have c2 : Ch (fun k => Value.ownBlock (.slice a0 n0 c0) = some k ∨ k = B) w ((x.setCell ⟨B, 0, none⟩ (.slice a8 n8 c8)).setCell ⟨B, 1, none⟩ (.slice none 0 0)) := ((cX.mono (fun s q => .inl (.inl q))).set (p := ⟨B, 0, none⟩) (.inl (.inr rfl)) _).set (p := ⟨B, 1, none⟩) (.inl (.inr rfl)) _
    have cB : Ch (fun k => k = B) x ((x.setCell ⟨B, 0, none⟩ (.slice a8 n8 c8)).setCell ⟨B, 1, none⟩ (.slice none 0 0)) := ((Ch.refl (fun k => k = B) x).set (p := ⟨B, 0, none⟩) (.inl rfl) _).set (p := ⟨B, 1, none⟩) (.inl rfl) _
    have q1' := q1.ch cB (fun k hk e => by
      obtain ⟨cur, hc⟩ := q1.1.typ k hk
      exact typ_ne rX hc (by decide) e)
    have hBl := h.lt B h.fB
    have q2' := q2.ch cB (fun k hk e => by subst e; omega)
    have hEx : EsAt F us d ((x.setCell ⟨B, 0, none⟩ (.slice a8 n8 c8)).setCell ⟨B, 1, none⟩ (.slice none 0 0)) := hE.apartOf c2 (fun k hk hlt hc => by
      obtain ⟨cur, hc⟩ := hc
      rcases hk with hk | hk
      · obtain ⟨cur', hc'⟩ := HO.out.1.typ k hk
        rw [hc] at hc'
        simp at hc'
      · exact typ_ne h.lies hc (by decide) hk)
    have hlt8 : ∀ k, Value.ownBlock (.slice a8 n8 c8) = some k → k < ((x.setCell ⟨B, 0, none⟩ (.slice a8 n8 c8)).setCell ⟨B, 1, none⟩ (.slice none 0 0)).heap.size := q1'.1.lt
    have HY : Hid (∃ vd' F', SkAt 68 B vd' (.slice none 0 0) F' (nwL d l) [] ((x.setCell ⟨B, 0, none⟩ (.slice a8 n8 c8)).setCell ⟨B, 1, none⟩ (.slice none 0 0)) ∧ Ch F w ((x.setCell ⟨B, 0, none⟩ (.slice a8 n8 c8)).setCell ⟨B, 1, none⟩ (.slice none 0 0)) ∧ ∀ k, F' k → F k ∨ w.heap.size ≤ k) := by
      refine ⟨.slice a8 n8 c8, fun k => (F k ∨ w.heap.size ≤ k) ∧ k < ((x.setCell ⟨B, 0, none⟩ (.slice a8 n8 c8)).setCell ⟨B, 1, none⟩ (.slice none 0 0)).heap.size, ⟨r2, ERow.of q1' (EsAt.nw (hEx.mono (fun k hk hq => ⟨.inl hk, hq⟩)) (q2'.mono (fun k hk hq => ⟨.inr hk, hq⟩))), ERow.nil _ _, fun k _ hk => (by cases hk), nwL_len d l h.ld, by simp, ⟨.inl h.fB, r2.lt⟩, fun k hk => ⟨(q3 k hk).imp (h.fd k) id, hlt8 k hk⟩, fun k hk => (by cases hk), fun k hk => hk.2⟩, c2.mono (fun s q => .inl (q.elim (h.fd s) (fun e => by subst e; exact h.fB))), fun k hk => hk.1⟩
    clear q1 q2 q3 q1' q2' hEx hlt8 r1 r2 rX cX c2 cB hX hR h hE HK HO
    simp only [List.drop, List.take, putAll, List.setIfInBounds_toArray, List.set_cons_succ, List.set_cons_zero, e0, hv8]
    clear e0 hv8
    go_wp2
    go_end0
    exact ⟨⟨_, rfl⟩, HY.out⟩
set_option maxHeartbeats 1000000 in
theorem done_none {B : Nat} {w : World} {a : Option Addr} {c : Nat} :
    Calls Tryd.prog 28 #[.pointer (some ⟨B, 0, none⟩), .slice a 0 c] w fun e w' => (∃ z, e = .returned z) ∧ w' = w := by
  go_enter Tryd.func28, Tryd.ntmps28
  go_wp2
  (try simp only [Exit.inBlock, Exit.then])
  refine bodyPost_ret (results_none rfl _ _ _) rfl ?_
  exact ⟨⟨_, rfl⟩, rfl⟩
end Go.Proofs.YtgkbgojgpomcdaaDoor
