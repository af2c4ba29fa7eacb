
/-
  Package bag: Send.
-/
import Derived.Test.YtdojjhhnciaegaaDoorZb18
import Derived.Great.BuildSlice
namespace Go.Proofs.YtdojjhhnciaegaaDoor
open Go.RowKit Go.Extern.Stop Go.Stop Go.Extern
set_option maxRecDepth 100000

/-- A copy of bytes, in a new block. -/
def CpV (M : Nat) (raw : List UInt8) (v : Value) (x : World) : Prop := ∃ gn, v = .slice (some ⟨gn, 0, none⟩) raw.length raw.length ∧ M ≤ gn ∧ x.heap[gn]? = some (.cells (Lib.byteCells raw).toArray 5 (0, 0))
theorem CpV.later {M : Nat} {raw : List UInt8} {v : Value} {x x' : World} (h : CpV M raw v x) (hb : Below x.heap.size x x') : CpV M raw v x' := by
  obtain ⟨gn, h1, h2, h3⟩ := h
  exact ⟨gn, h1, h2, (hb.block gn (Array.getElem?_eq_some_iff.1 h3).1).trans h3⟩
theorem CpV.grow {M : Nat} {raw : List UInt8} {v : Value} {x x' : World} {row : Option Nat} (h : CpV M raw v x) (hg : x.grownBy x' row) (hr : ∀ k, row = some k → k < M) : CpV M raw v x' := by
  obtain ⟨gn, h1, h2, h3⟩ := h
  exact ⟨gn, h1, h2, (hg.block gn (Array.getElem?_eq_some_iff.1 h3).1 (fun e => by have := hr gn e.symm; omega)).trans h3⟩
theorem CpV.one {M : Nat} {raw : List UInt8} {v : Value} {x : World} (h : CpV M raw v x) : v.oneCell' = true := by
  obtain ⟨gn, rfl, _⟩ := h
  rfl
theorem CpV.bs {M : Nat} {raw : List UInt8} {v : Value} {x : World} {K : Nat → Prop} (h : CpV M raw v x) (hl : raw.length ≤ 140737488355328) (hk : ∀ k, M ≤ k → K k) : BsAt K v raw x := by
  obtain ⟨gn, rfl, h2, h3⟩ := h
  exact bs_new h3 hl (hk _ h2)
theorem so_one {g : Nat} {p : Pc} {w : World} (h : CsIn g 0 (pcv p) w) : So 4 (.slice (some ⟨g, 0, none⟩) 1 1) 1 (pcells [p]) w :=
  ⟨rfl, .inr ⟨_, _, rfl, fun j x hx => by
    rw [Addr.add_lit]
    obtain ⟨i, e, k, h1, h2, h3⟩ := pcells_of _ _ _ hx
    have hi : i = 0 := by have := (List.getElem?_eq_some_iff.1 h1).1; simpa using this
    subst hi
    cases h1
    rw [h2]
    simpa using h.2 k x h3⟩⟩
/-- A slice of one parcel. -/
theorem opw_one {K : Act → World → Prop} {o : Oper} {A : Act} {w : World} {Q : Exit → Act → World → Prop} (x : Operand) (ho : o.op = .buildSlice 45 1 #[(0, x)]) {p : Pc} (hx : A.eval x = .agg (pcv p)) (_hp : p.b.oneCell' = true)
    (k : K (A.put o.dst (.slice (some ⟨w.heap.size, 0, none⟩) 1 1)) (w.alloc (.cells (pcv p) 65))) : o.wp Tryd.prog A w K Q := by
  have hs : (Tryd.prog.info? 65).isSome = true := by kernel_rfl
  have sz : ((Tryd.prog.info? 65).get hs).size = 4 := by kernel_rfl
  have e : ((#[(0, x)] : Array (Nat × Operand)).map fun (i, x) => (i, A.eval x)).toList = [(0, .agg (pcv p))] := by
    simp only [List.map_toArray, List.map_cons, List.map_nil, hx]
  exact wp_buildSlice _ 65 1 _ ho (pcv p) ((Tryd.prog.info? 65).get hs) (.agg #[.int .i64 0, .int .i64 0, .int .i64 0, .slice none 0 0]) (by kernel_rfl) (Option.some_get hs).symm (by kernel_rfl) (by rw [sz]; decide) (by rw [sz]; decide) (by rw [e]; kernel_rfl) k
theorem SlB.ch {S : Nat → Prop} {w w' : World} {v : Value} {bs : List UInt8} (h : SlB w v bs) (c : Ch S w w') (hn : ∀ k, v.ownBlock = some k → ¬ S k) : SlB w' v bs := by
  rcases h with h | ⟨g, o, c', rfl, hg, hc⟩
  · exact .inl h
  · exact .inr ⟨g, o, c', rfl, by have := c.size; omega, fun i b hi => by rw [World.cell?_of_block (w := w) (c.block g hg (hn g rfl))]; exact hc i b hi⟩
/-- What Send does to a Bag. -/
def sndG (g : Bg) (f t : Int) (raw : List UInt8) : Bg := { g with last := wrap64 (g.last + 1), sent := wrap64 (g.sent + 1), l := g.l ++ [⟨wrap64 (g.last + 1), f, t, raw⟩] }
set_option maxHeartbeats 4000000 in
theorem send_ok {B : Nat} {v : Value} {g : Bg} {K : Nat → Prop} {w : World} (h : BgAt B v g K w) (f t : Int) (hft : endsB f t = true) (hroom : (g.l.length : Int) < g.most) {ru : Value} {raw : List UInt8} (hraw : SlB w ru raw) (hrl : raw.length ≤ 140737488351232) (hrb : ∀ k, ru.ownBlock = some k → ¬ Bch B v k) :
    Calls Tryd.prog 22 #[.pointer (some ⟨B, 0, none⟩), .int .i64 f, .int .i64 t, ru] w fun e w' => ∃ v', e = .returned (.tuple #[.int .i64 (wrap64 (g.last + 1)), .nilIface]) ∧ BgAt B v' (sndG g f t raw) (fun k => K k ∨ w.heap.size ≤ k) w' ∧ At' w v v' ∧ Ch (Bch B v) w w' := by
  obtain ⟨i0, hi0, hz0, hz1, hz2⟩ := info_parts info_p
  have HI := hid_of' (And.intro hi0 (And.intro hz0 (And.intro hz1 hz2)))
  clear hi0 hz0 hz1 hz2
  obtain ⟨ra, rn, rc, rfl⟩ : ∃ ra rn rc, ru = .slice ra rn rc := by
    rcases hraw with ⟨_, a, c, rfl⟩ | ⟨g, o, c, rfl, _⟩
    · exact ⟨_, _, _, rfl⟩
    · exact ⟨_, _, _, rfl⟩
  have hE := areEnds_is f t w
  rw [hft] at hE
  have HE := hid_of' hE
  have c3 := h.lies.cellIs 3 rfl
  have f3 := h.lies.froz 3
  have h3 := h.set 3 (.int .i64 (wrap64 (g.sent + 1))) { g with sent := wrap64 (g.sent + 1) } rfl rfl rfl
  have hc3 := ch_set B v w 3 (.int .i64 (wrap64 (g.sent + 1)))
  have hsz : (w.setCell ⟨B, 3, none⟩ (.int .i64 (wrap64 (g.sent + 1)))).heap.size = w.heap.size := by simp [World.setCell]
  have hF := isFull_is h3
  rw [decide_eq_false (show ¬ g.most ≤ (g.l.length : Int) by omega)] at hF
  have HF := hid_of' hF
  have H := hid_of' (And.intro h (And.intro h3 (And.intro hc3 (And.intro hraw (And.intro hrl hrb)))))
  have HS := hid_of' hsz
  clear hE hft hF h h3 hc3 hraw hrl hrb hsz
  go_enter Tryd.func22, Tryd.ntmps22
  go_upto_region 4 with (go_at_call 56; refine HE.out.mono ?_; rintro e w1 ⟨rfl, h0⟩; obtain rfl := h0.symm; clear HE)
  clear c3 f3
  generalize w.setCell ⟨B, 3, none⟩ (.int .i64 (wrap64 (g.sent + 1))) = wa at H HF HS ⊢
  go_upto_region 7 with (go_at_call 57; refine HF.out.mono ?_; rintro e wb ⟨rfl, hbb⟩; clear HF)
  have h4 := H.out.2.1.later hbb
  have c2 := h4.lies.cellIs 2 rfl
  have f2 := h4.lies.froz 2
  have h5 := h4.set 2 (.int .i64 (wrap64 (g.last + 1))) { g with sent := wrap64 (g.sent + 1), last := wrap64 (g.last + 1) } rfl rfl rfl
  have hc5 := (H.out.2.2.1.later hbb).trans (ch_set B v wb 2 (.int .i64 (wrap64 (g.last + 1))))
  have H5 := hid_of' (And.intro h5 hc5)
  clear h4 h5 hc5 hbb
  go_upto_region 8 with fail
  clear c2 f2
  generalize wb.setCell ⟨B, 2, none⟩ (.int .i64 (wrap64 (g.last + 1))) = wc at H5 ⊢
  have hb := H5.out.1.bne
  obtain ⟨ps, hrw, hps⟩ := hb.row
  obtain ⟨a9, c9, hv9, _, _⟩ := hrw.form
  have hv9' : v = .slice a9 g.l.length c9 := hv9
  clear hv9
  subst hv9'
  have hl4 : g.l.length ≤ 4096 := by have := H.out.1.room; have := H.out.1.most1; omega
  have hvl : ∀ k, Value.ownBlock (.slice a9 g.l.length c9) = some k → k < wc.heap.size := hb.row.lt
  have hBR : ¬ Value.ownBlock (.slice a9 g.l.length c9) = some B := fun e => hb.ne B e rfl
  have rB : RowAt B #[.int .i64 g.most, .slice a9 g.l.length c9, .int .i64 (wrap64 (g.last + 1)), .int .i64 (wrap64 (g.sent + 1)), .int .i64 g.arr, .int .i64 g.drp, .int .i64 g.dbl] 55 wc := H5.out.1.lies
  have HV := hid_of' hvl
  have HR : Hid (Rw 65 4 (.slice a9 g.l.length c9) g.l.length (pcells ps) wc ∧ g.l.length + 1 ≤ maxLen ∧ (g.l.length + 1) * 48 ≤ 140737488355328) := ⟨hrw, by unfold maxLen; omega, by omega⟩
  have HC : Hid (∀ x, wc.grownBy x (Value.ownBlock (.slice a9 g.l.length c9)) → Calls Tryd.prog 58 #[.slice ra rn rc] x fun r x1 => ∃ v1, r = .returned v1 ∧ CpV wc.heap.size raw v1 x1 ∧ Below x.heap.size x x1) := fun x hx => by
    have s1 := H.out.2.2.2.1.ch H5.out.2 H.out.2.2.2.2.2
    have s2 := s1.ch (grown_ch hx) (fun k hk e => H.out.2.2.2.2.2 k hk (.inr e))
    refine (copied_bag s2 (by have := H.out.2.2.2.2.1; omega)).mono ?_
    rintro r x1 ⟨rfl, hc, hb1⟩
    exact ⟨_, rfl, ⟨_, rfl, hx.size, hc⟩, hb1⟩
  have HP := hid_of' (show PsAt _ ps g.l wc from hps)
  clear hb hrw hps hvl
  refine wp_region_once 16 (by kernel_rfl) (fun _ => none) (by kernel_rfl) (by kernel_rfl) (by decide) (fun i v x => match i with
    | 0 => v = .pointer (some ⟨B, 0, none⟩)
    | 1 => v = .pointer (some ⟨B, 0, none⟩)
    | 2 => v = .pointer (some ⟨B, 0, none⟩)
    | 3 => v = .pointer (some ⟨B, 1, none⟩)
    | 4 => v = .slice a9 g.l.length c9
    | 5 => v = .pointer (some ⟨B, 0, none⟩)
    | 6 => v = .pointer (some ⟨B, 0, none⟩)
    | 7 => v = .pointer (some ⟨B, 2, none⟩)
    | 8 => v = .int .i64 (wrap64 (g.last + 1))
    | 9 => v = .int .i64 f
    | 10 => v = .int .i64 t
    | 11 => v = .slice ra rn rc
    | 12 => CpV wc.heap.size raw v x
    | 13 => ∃ bv, v = .agg (pcv ⟨(wrap64 (g.last + 1)), f, t, bv⟩) ∧ CpV wc.heap.size raw bv x
    | 14 => ∃ gs bv, v = .slice (some ⟨gs, 0, none⟩) 1 1 ∧ wc.heap.size ≤ gs ∧ CsIn gs 0 (pcv ⟨(wrap64 (g.last + 1)), f, t, bv⟩) x ∧ CpV wc.heap.size raw bv x
    | 15 => ∃ bv, Rw 65 4 v (g.l.length + 1) (pcells (ps ++ [⟨(wrap64 (g.last + 1)), f, t, bv⟩])) x ∧ At' wc (.slice a9 g.l.length c9) v ∧ CpV wc.heap.size raw bv x
    | _ => True) (fun _ => false) (fun _ _ _ _ h => by cases h) 15 (by decide) (fun a b => World.grownBy a b (Value.ownBlock (.slice a9 g.l.length c9))) (fun a b => World.grownBy a b (Value.ownBlock (.slice a9 g.l.length c9))) (fun _ _ g h => grown_later g h) (fun _ h => grown_of h) (fun _ _ h g => grown_first h g) (fun _ _ g => g.size) ?_ ?_ ?_ ?_
  · intro i v x x' hR hb
    match i, hR with
    | 0, h => exact h
    | 1, h => exact h
    | 2, h => exact h
    | 3, h => exact h
    | 4, h => exact h
    | 5, h => exact h
    | 6, h => exact h
    | 7, h => exact h
    | 8, h => exact h
    | 9, h => exact h
    | 10, h => exact h
    | 11, h => exact h
    | 12, h => exact h.later hb
    | 13, h => exact (by obtain ⟨bv, h1, h2⟩ := h; exact ⟨bv, h1, h2.later hb⟩)
    | 14, h => exact (by obtain ⟨gs, bv, h1, h2, h3, h4⟩ := h; exact ⟨gs, bv, h1, h2, h3.later hb, h4.later hb⟩)
    | 15, h => exact (by obtain ⟨bv, h1, h2, h3⟩ := h; exact ⟨bv, h1.later hb, h2, h3.later hb⟩)
    | m + 16, h => exact h
  · intro i v x x' hne hR hb
    match i, hne, hR with
    | 0, hne, h => exact h
    | 1, hne, h => exact h
    | 2, hne, h => exact h
    | 3, hne, h => exact h
    | 4, hne, h => exact h
    | 5, hne, h => exact h
    | 6, hne, h => exact h
    | 7, hne, h => exact h
    | 8, hne, h => exact h
    | 9, hne, h => exact h
    | 10, hne, h => exact h
    | 11, hne, h => exact h
    | 12, hne, h => exact h.grow hb HV.out
    | 13, hne, h => exact (by obtain ⟨bv, h1, h2⟩ := h; exact ⟨bv, h1, h2.grow hb HV.out⟩)
    | 14, hne, h => exact (by obtain ⟨gs, bv, h1, h2, h3, h4⟩ := h; exact ⟨gs, bv, h1, h2, h3.ch (grown_ch hb) (fun e => by have := HV.out gs e; omega), h4.grow hb HV.out⟩)
    | 15, hne, h => exact absurd rfl hne
    | m + 16, _, h => exact h
  · intro i o hi ho q x vals hX hC hdep hoth
    have t0 : q.tmps[0]? = some (.pointer (some ⟨B, 0, none⟩)) := by rw [hoth 0 (by kernel_rfl)]; rfl
    have t1 : q.tmps[1]? = some (.int .i64 f) := by rw [hoth 1 (by kernel_rfl)]; rfl
    have t2 : q.tmps[2]? = some (.int .i64 t) := by rw [hoth 2 (by kernel_rfl)]; rfl
    have t3 : q.tmps[3]? = some (.slice ra rn rc) := by rw [hoth 3 (by kernel_rfl)]; rfl
    match i, hi, ho, hC with
    | 0, _, ho, hC =>
      simp only [List.getElem?_cons_zero, Option.some.injEq] at ho
      subst ho
      unfold Oper.wp
      simp [execOp, go_sem, t0]
      exact cameB _ rfl (by decide) (Below.refl _ _) rfl (fun h => absurd h (by decide))
    | 1, _, ho, hC =>
      simp only [List.getElem?_cons_succ, List.getElem?_cons_zero, Option.some.injEq] at ho
      subst ho
      unfold Oper.wp
      simp [execOp, go_sem, t0]
      exact cameB _ rfl (by decide) (Below.refl _ _) rfl (fun h => absurd h (by decide))
    | 2, _, ho, hC =>
      simp only [List.getElem?_cons_succ, List.getElem?_cons_zero, Option.some.injEq] at ho
      subst ho
      obtain ⟨u1, e1⟩ := hdep ⟨1, .data⟩ (by simp) rfl _ 44 rfl rfl
      rw [show vals 1 = .pointer (some ⟨B, 0, none⟩) from e1] at u1
      unfold Oper.wp
      simp [execOp, go_sem, u1]
      exact cameB _ rfl (by decide) (Below.refl _ _) rfl (fun h => absurd h (by decide))
    | 3, _, ho, hC =>
      simp only [List.getElem?_cons_succ, List.getElem?_cons_zero, Option.some.injEq] at ho
      subst ho
      obtain ⟨u2, e2⟩ := hdep ⟨2, .data⟩ (by simp) rfl _ 45 rfl rfl
      rw [show vals 2 = .pointer (some ⟨B, 0, none⟩) from e2] at u2
      unfold Oper.wp
      simp [execOp, go_sem, u2]
      exact cameB _ rfl (by decide) (Below.refl _ _) rfl (fun h => absurd h (by decide))
    | 4, _, ho, hC =>
      simp only [List.getElem?_cons_succ, List.getElem?_cons_zero, Option.some.injEq] at ho
      subst ho
      obtain ⟨u3, e3⟩ := hdep ⟨3, .data⟩ (by simp) rfl _ 46 rfl rfl
      rw [show vals 3 = .pointer (some ⟨B, 1, none⟩) from e3] at u3
      have cc : x.cell? ⟨B, 1, none⟩ = some (.slice a9 g.l.length c9) := (RowAt.grow rB hX hBR).cellIs 1 rfl
      unfold Oper.wp
      simp [execOp, go_sem, u3, cc]
      exact cameB _ rfl (by decide) (Below.refl _ _) rfl (fun h => absurd h (by decide))
    | 5, _, ho, hC =>
      simp only [List.getElem?_cons_succ, List.getElem?_cons_zero, Option.some.injEq] at ho
      subst ho
      unfold Oper.wp
      simp [execOp, go_sem, t0]
      exact cameB _ rfl (by decide) (Below.refl _ _) rfl (fun h => absurd h (by decide))
    | 6, _, ho, hC =>
      simp only [List.getElem?_cons_succ, List.getElem?_cons_zero, Option.some.injEq] at ho
      subst ho
      obtain ⟨u5, e5⟩ := hdep ⟨5, .data⟩ (by simp) rfl _ 48 rfl rfl
      rw [show vals 5 = .pointer (some ⟨B, 0, none⟩) from e5] at u5
      unfold Oper.wp
      simp [execOp, go_sem, u5]
      exact cameB _ rfl (by decide) (Below.refl _ _) rfl (fun h => absurd h (by decide))
    | 7, _, ho, hC =>
      simp only [List.getElem?_cons_succ, List.getElem?_cons_zero, Option.some.injEq] at ho
      subst ho
      obtain ⟨u6, e6⟩ := hdep ⟨6, .data⟩ (by simp) rfl _ 49 rfl rfl
      rw [show vals 6 = .pointer (some ⟨B, 0, none⟩) from e6] at u6
      unfold Oper.wp
      simp [execOp, go_sem, u6]
      exact cameB _ rfl (by decide) (Below.refl _ _) rfl (fun h => absurd h (by decide))
    | 8, _, ho, hC =>
      simp only [List.getElem?_cons_succ, List.getElem?_cons_zero, Option.some.injEq] at ho
      subst ho
      obtain ⟨u7, e7⟩ := hdep ⟨7, .data⟩ (by simp) rfl _ 50 rfl rfl
      rw [show vals 7 = .pointer (some ⟨B, 2, none⟩) from e7] at u7
      have cc : x.cell? ⟨B, 2, none⟩ = some (.int .i64 (wrap64 (g.last + 1))) := (RowAt.grow rB hX hBR).cellIs 2 rfl
      unfold Oper.wp
      simp [execOp, go_sem, u7, cc]
      exact cameB _ rfl (by decide) (Below.refl _ _) rfl (fun h => absurd h (by decide))
    | 9, _, ho, hC =>
      simp only [List.getElem?_cons_succ, List.getElem?_cons_zero, Option.some.injEq] at ho
      subst ho
      unfold Oper.wp
      simp [execOp, go_sem, t1]
      exact cameB _ rfl (by decide) (Below.refl _ _) rfl (fun h => absurd h (by decide))
    | 10, _, ho, hC =>
      simp only [List.getElem?_cons_succ, List.getElem?_cons_zero, Option.some.injEq] at ho
      subst ho
      unfold Oper.wp
      simp [execOp, go_sem, t2]
      exact cameB _ rfl (by decide) (Below.refl _ _) rfl (fun h => absurd h (by decide))
    | 11, _, ho, hC =>
      simp only [List.getElem?_cons_succ, List.getElem?_cons_zero, Option.some.injEq] at ho
      subst ho
      unfold Oper.wp
      simp [execOp, go_sem, t3]
      exact cameB _ rfl (by decide) (Below.refl _ _) rfl (fun h => absurd h (by decide))
    | 12, _, ho, hC =>
      simp only [List.getElem?_cons_succ, List.getElem?_cons_zero, Option.some.injEq] at ho
      subst ho
      obtain ⟨u11, e11⟩ := hdep ⟨11, .data⟩ (by simp) rfl _ 54 rfl rfl
      rw [show vals 11 = .slice ra rn rc from e11] at u11
      unfold Oper.wp
      simp [go_sem, u11]
      refine (HC.out x hX).mono ?_
      rintro r x1 ⟨v1, rfl, hcp, hb1⟩
      exact cameB _ rfl (by decide) hb1 hcp (fun h => absurd h (by decide))
    | 13, _, ho, hC =>
      simp only [List.getElem?_cons_succ, List.getElem?_cons_zero, Option.some.injEq] at ho
      subst ho
      obtain ⟨u8, e8⟩ := hdep ⟨8, .data⟩ (by simp) rfl _ 51 rfl rfl
      rw [show vals 8 = .int .i64 (wrap64 (g.last + 1)) from e8] at u8
      obtain ⟨u9, e9⟩ := hdep ⟨9, .data⟩ (by simp) rfl _ 52 rfl rfl
      rw [show vals 9 = .int .i64 f from e9] at u9
      obtain ⟨u10, e10⟩ := hdep ⟨10, .data⟩ (by simp) rfl _ 53 rfl rfl
      rw [show vals 10 = .int .i64 t from e10] at u10
      obtain ⟨u12, e12⟩ := hdep ⟨12, .data⟩ (by simp) rfl _ 55 rfl rfl
      obtain ⟨gn, e12a, e12b, e12c⟩ : CpV wc.heap.size raw (vals 12) x := e12
      rw [e12a] at u12
      unfold Oper.wp
      simp [execOp, go_sem, u8, u9, u10, u12]
      exact cameB (.agg (pcv ⟨(wrap64 (g.last + 1)), f, t, .slice (some ⟨gn, 0, none⟩) raw.length raw.length⟩)) rfl (by decide) (Below.refl _ _) ⟨_, rfl, gn, rfl, e12b, e12c⟩ (fun h => absurd h (by decide))
    | 14, _, ho, hC =>
      simp only [List.getElem?_cons_succ, List.getElem?_cons_zero, Option.some.injEq] at ho
      subst ho
      obtain ⟨u13, e13⟩ := hdep ⟨13, .data⟩ (by simp) rfl _ 56 rfl rfl
      obtain ⟨bv, e13, hcv⟩ : ∃ bv, vals 13 = .agg (pcv ⟨(wrap64 (g.last + 1)), f, t, bv⟩) ∧ CpV wc.heap.size raw bv x := e13
      rw [e13] at u13
      have hgx := hX.size
      refine opw_one (p := ⟨(wrap64 (g.last + 1)), f, t, bv⟩) _ rfl (by simp [Act.eval, u13]) (CpV.one hcv) ?_
      exact cameB _ rfl (by decide) (below_one _ _) ⟨x.heap.size, bv, rfl, by omega, (row_new x _ _).in, hcv.later (below_one _ _)⟩ (fun h => absurd h (by decide))
    | 15, _, ho, hC =>
      simp only [List.getElem?_cons_succ, List.getElem?_cons_zero, Option.some.injEq] at ho
      subst ho
      obtain ⟨u4, e4⟩ := hdep ⟨4, .data⟩ (by simp) rfl _ 47 rfl rfl
      rw [show vals 4 = .slice a9 g.l.length c9 from e4] at u4
      obtain ⟨u14, e14⟩ := hdep ⟨14, .data⟩ (by simp) rfl _ 57 rfl rfl
      have hb := hC (.inl rfl)
      obtain ⟨gs, bv, e14, h2, h3, h4⟩ : ∃ gs bv, vals 14 = .slice (some ⟨gs, 0, none⟩) 1 1 ∧ wc.heap.size ≤ gs ∧ CsIn gs 0 (pcv ⟨(wrap64 (g.last + 1)), f, t, bv⟩) x ∧ CpV wc.heap.size raw bv x := e14
      rw [e14] at u14
      refine opw_app (P := Tryd.prog) _ _ 45 rfl 65 i0 _ 4 48 Tryd.underlying45 HI.out.1 HI.out.2.1 HI.out.2.2.1 HI.out.2.2.2 rfl (by simp [Act.eval, u4]) (by simp [Act.eval, u14]) (HR.out.1.later hb) (so_one h3) (pcells_one [⟨(wrap64 (g.last + 1)), f, t, bv⟩] (fun p hp => by rw [List.mem_singleton] at hp; subst hp; exact h4.one)) HR.out.2.1 HR.out.2.2 ?_
      intro v' x' q1 q2 q3
      exact cameX _ rfl q2 ⟨bv, by rw [pcells_app]; exact q1, fun k hk => (q3 k hk).elim (fun q => .inl q) (fun q => .inr (Nat.le_trans hb.size q)), h4.grow q2 (fun k hk => Nat.lt_of_lt_of_le (HV.out k hk) (Nat.le_refl _))⟩ rfl
    | m + 16, hi, _, _ => exact absurd hi (by omega)
  · intro vals x hX hR _
    have e0 : vals 0 = .pointer (some ⟨B, 0, none⟩) := hR 0 (by decide)
    obtain ⟨bv, q1, q2, q3⟩ : ∃ bv, Rw 65 4 (vals 15) (g.l.length + 1) (pcells (ps ++ [⟨wrap64 (g.last + 1), f, t, bv⟩])) x ∧ At' wc (.slice a9 g.l.length c9) (vals 15) ∧ CpV wc.heap.size raw bv x := hR 15 (by decide)
    obtain ⟨xa, xc, e15, _, _⟩ := q1.form
    rw [e15] at q1 q2
    have hx := RowAt.grow rB hX hBR
    have cB := hx.cellIs 1 rfl
    have fB := hx.froz 1
    have hs3 := H5.out.2.size
    have hsB := rB.lt
    have rBy := hx.setc 1 (.slice xa (g.l.length + 1) xc)
    have c2 := rBy.cellIs 2 rfl
    have hq2 : ∀ k, Value.ownBlock (.slice xa (g.l.length + 1) xc) = some k → ¬ k = B := fun k hk e => by
      rcases q2 k hk with q | q
      · exact hBR (e ▸ q)
      · omega
    have cset : Ch (fun k => k = B) x (x.setCell ⟨B, 1, none⟩ (.slice xa (g.l.length + 1) xc)) := Ch.set (S := fun k => k = B) (Ch.refl _ x) (p := ⟨B, 1, none⟩) (.inl rfl) _
    have qy := q1.ch cset hq2
    have chx : Ch (Bch B (.slice a9 g.l.length c9)) wc (x.setCell ⟨B, 1, none⟩ (.slice xa (g.l.length + 1) xc)) := (Ch.of (Below.refl _ _) |>.grown hX (fun k hk => .inl (.inr hk))).set (p := ⟨B, 1, none⟩) (.inl (.inl rfl)) _
    have q3y : CpV wc.heap.size raw bv (x.setCell ⟨B, 1, none⟩ (.slice xa (g.l.length + 1) xc)) := by
      obtain ⟨gn, h1, h2, h3⟩ := q3
      exact ⟨gn, h1, h2, cset.heap h3 (by omega)⟩
    have HY := hid_of' (And.intro rBy (And.intro qy (And.intro chx (And.intro q2 q3y))))
    clear rBy qy chx q2 q1 q3 q3y hx hR hX hq2 cset
    simp only [List.drop, List.take, putAll, List.setIfInBounds_toArray, List.set_cons_succ, List.set_cons_zero, e0, e15]
    clear e0 e15
    go_wp2
    go_ret2
    have hKn : ∀ k, (K k ∧ k < wc.heap.size ∧ ¬ k = B ∧ ∀ i, Value.ownBlock (.slice a9 g.l.length c9) = some i → ¬ k = i) → ¬ Bch B (.slice a9 g.l.length c9) k := fun k hk hS => by
      rcases hS with hS | hS
      · exact hk.2.2.1 hS
      · exact hk.2.2.2 k hS rfl
    refine ⟨rfl, .slice xa (g.l.length + 1) xc, ⟨HY.out.1, ⟨ps ++ [⟨wrap64 (g.last + 1), f, t, bv⟩], ?_, ?_⟩, H.out.1.most0, H.out.1.most1, ?_⟩, ?_, ?_⟩
    · rw [show (sndG g f t raw).l.length = g.l.length + 1 by simp [sndG]]
      exact HY.out.2.1
    · refine ((HP.out.ch HY.out.2.2.1 hKn).mono (fun k hk _ => .inl hk.1)).app (PsAt.one ⟨rfl, rfl, rfl, HY.out.2.2.2.2.bs (by have := H.out.2.2.2.2.1; show raw.length ≤ _; omega) (fun k hk => .inr (by omega)), H.out.2.2.2.2.1⟩)
    · show ((g.l ++ [_]).length : Int) ≤ g.most
      rw [List.length_append, List.length_singleton]
      omega
    · exact fun k hk => (HY.out.2.2.2.1 k hk).elim (fun q => .inl q) (fun q => .inr (by omega))
    · exact H5.out.2.trans HY.out.2.2.1
end Go.Proofs.YtdojjhhnciaegaaDoor
