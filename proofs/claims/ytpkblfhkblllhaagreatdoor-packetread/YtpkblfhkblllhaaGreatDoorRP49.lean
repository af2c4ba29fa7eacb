
/-
  barrowref09.Read: the message that is being read.
-/
import Derived.Test.YtpkblfhkblllhaaGreatDoorRP48
namespace Go.Proofs.YtpkblfhkblllhaaGreatDoor
open Go.RowKit Go.Extern.Stop Go.Stop Go.Extern
set_option maxRecDepth 100000

def zM : Pms := (0, 0, 0, zero8, [], zeroRs)
theorem shM_z : shM zM := ⟨rfl, fun a ha => (by simp [zM] at ha), shRs_zero⟩
theorem zero_msQ : (Tryz.prog.info? 33).bind (·.zero) = some (.agg (mv zM (.slice none 0 0))) := by kernel_rfl
theorem built_msQ : Tryz.prog.built 33 [] = some (mv zM (.slice none 0 0)) := by kernel_rfl
theorem zero_noQ : (Tryz.prog.info? 37).bind (·.zero) = some (.agg #[.int .i64 0, .slice none 0 0, .slice none 0 0]) := by kernel_rfl
theorem mvq_sz {m : Pms} {s : Value} (h : shM m) : (mv m s).size = 156 := by simp [mv, ml_len h]
theorem mvq_set0 (m : Pms) (s : Value) (z : Int) : (mv m s).setIfInBounds 0 (.int .i64 z) = mv (z, m.2) s := by simp [mv, ml]
theorem mvq_set1 (m : Pms) (s : Value) (z : Int) : (mv m s).setIfInBounds 1 (.int .i64 z) = mv (m.1, z, m.2.2) s := by simp [mv, ml]
theorem mvq_set2 (m : Pms) (s : Value) (z : Int) : (mv m s).setIfInBounds 2 (.int .i64 z) = mv (m.1, m.2.1, z, m.2.2.2) s := by simp [mv, ml]
theorem mv_set11 {m : Pms} (h : shM m) (s v : Value) (l : List Pac) : (mv m s).setIfInBounds 11 v = mv (m.1, m.2.1, m.2.2.1, m.2.2.2.1, l, m.2.2.2.2.2) v := by
  simp only [mv, List.setIfInBounds_toArray, ml]
  rw [show 11 = (8 + 0) + 1 + 1 + 1 by rfl, List.set_cons_succ, List.set_cons_succ, List.set_cons_succ, List.set_append_right _ _ (by simp [h.1]), List.length_map, h.1, show 8 - 8 = 0 from rfl, List.set_cons_zero]
theorem mv_put3 {m : Pms} (h : shM m) (s : Value) (ck : List Int) (hc : ck.length = 8) : putA (mv m s) 3 (cv ck).toList = mv (m.1, m.2.1, m.2.2.1, ck, m.2.2.2.2) s := by
  have := putA_list (ck.map (Value.int .i64)) (m.2.2.2.1.map (Value.int .i64)) [.int .i64 m.1, .int .i64 m.2.1, .int .i64 m.2.2.1] (s :: rsl m.2.2.2.2.2) (by simp [h.1, hc])
  simpa [mv, ml, cv] using this
theorem mv_put12 {m : Pms} (h : shM m) (s : Value) (rs : List Prn) (hr : shRs rs) : putA (mv m s) 12 (rsv rs).toList = mv (m.1, m.2.1, m.2.2.1, m.2.2.2.1, m.2.2.2.2.1, rs) s := by
  have := putA_list (rsl rs) (rsl m.2.2.2.2.2) (.int .i64 m.1 :: .int .i64 m.2.1 :: .int .i64 m.2.2.1 :: (m.2.2.2.1.map (Value.int .i64) ++ [s])) [] (by rw [rsl_len _ hr.2, rsl_len _ h.2.2.2, hr.1, h.2.2.1])
  simpa [mv, ml, rsv, h.1] using this
/-- The Reader, the message that is being read, its acts, what will be told. -/
structure MsB (W : World) (pb xb mb ra rb : Nat) (v : Value) (bs : List UInt8) (m : Pms) (sv : Value) (s : PS) (w : World) : Prop where
  px : PxAt pb xb v bs s w
  x : RowAt mb (mv m sv) 33 w
  sh : shM m
  a : Rw 76 13 sv m.2.2.2.2.1.length (acsl m.2.2.2.2.1) w
  ow : ∀ g, sv.ownBlock = some g → mb < g
  r0 : RowAt ra (mv zM (.slice none 0 0)) 33 w
  r1 : RowAt rb #[.int .i64 0, .slice none 0 0, .slice none 0 0] 37 w
  od : W.heap.size ≤ ra ∧ ra < rb ∧ rb < xb ∧ xb < pb ∧ pb < mb
  k : Below W.heap.size W w
  hv : ∀ g o n c, v = .slice (some ⟨g, o, none⟩) n c → 0 < n → g < W.heap.size
section
variable {W w w' : World} {pb xb mb ra rb : Nat} {v sv : Value} {bs : List UInt8} {m : Pms} {s s' : PS}
theorem PxAt.keptM {pb xb cb : Nat} {v : Value} {bs : List UInt8} {s : PS} {cs : Array Value} {w w' : World} (h : PxAt pb xb v bs s w) (hr : RowAt cb cs 33 w) (hv : ∀ g o n c, v = .slice (some ⟨g, o, none⟩) n c → 0 < n → g ≠ cb) (k : Kept [cb] w w') : PxAt pb xb v bs s w' := by
  obtain ⟨n0, n1, n2, hx⟩ := h.xs
  refine ⟨h.row.kept k (by simpa using row_neT h.row hr (by decide)), ⟨n0, n1, n2, ⟨hx.at_.row.kept k (by simpa using row_neT hx.at_.row hr (by decide)), hx.at_.raw.keptX k (fun g o n c e h0 => by simpa using hv g o n c e h0), hx.at_.le, hx.at_.lim⟩, ?_, hx.ap⟩, h.ap⟩
  have hn := hx.no
  generalize s.st = st at hn
  match st, hn with
  | none, hn => exact hn
  | some (ca, p, c), ⟨g, g', e0, e1, e2, c1, c2⟩ => exact ⟨g, g', e0, e1, e2, c1.kept k (by simpa using row_neT c1 hr (by decide)), c2.kept k (by simpa using row_neT c2 hr (by decide))⟩
theorem kept_below {S : List Nat} {n : Nat} {w w' : World} (h : Kept S w w') (hn : n ≤ w.heap.size) (hS : ∀ g ∈ S, n ≤ g) : Below n w w' := ⟨h.os, h.tape, h.output, h.size, fun k hk => h.block k (by omega) (fun hm => by have := hS k hm; omega)⟩
theorem MsB.call (h : MsB W pb xb mb ra rb v bs m sv s w) (hp : PxAt pb xb v bs s' w') (hk : Kept [pb, xb] w w') : MsB W pb xb mb ra rb v bs m sv s' w' := by
  obtain ⟨d1, d2, d3, d4, d5⟩ := h.od
  exact ⟨hp, h.x.kept hk (by simp; omega), h.sh, h.a.ch (kept_chA hk) (fun g hg e => by have := h.ow g hg; omega), h.ow, h.r0.kept hk (by simp; omega), h.r1.kept hk (by simp; omega), h.od, h.k.trans (kept_below hk h.k.size (by simp; omega)), h.hv⟩
theorem MsB.kept (h : MsB W pb xb mb ra rb v bs m sv s w) {m' : Pms} {sv' : Value} (hx : RowAt mb (mv m' sv') 33 w') (hs : shM m') (ha : Rw 76 13 sv' m'.2.2.2.2.1.length (acsl m'.2.2.2.2.1) w) (how : ∀ g, sv'.ownBlock = some g → mb < g) (k : Kept [mb] w w') : MsB W pb xb mb ra rb v bs m' sv' s w' := by
  obtain ⟨d1, d2, d3, d4, d5⟩ := h.od
  exact ⟨h.px.keptM h.x (fun g o n c e h0 => by have := h.hv g o n c e h0; omega) k, hx, hs, ha.ch (S := fun g => g = mb) ⟨k.os, k.tape, k.output, k.size, fun g hg hn => k.block g hg (by simpa using hn)⟩ (fun g hg e => by have := how g hg; omega), how, h.r0.kept k (by simp; omega), h.r1.kept k (by simp; omega), h.od, h.k.trans (kept_below k h.k.size (by simp; omega)), h.hv⟩
theorem MsB.set (h : MsB W pb xb mb ra rb v bs m sv s w) {m' : Pms} {sv' : Value} (j : Nat) (u : Value) (e : (mv m sv).setIfInBounds j u = mv m' sv') (hs : shM m') (ha : Rw 76 13 sv' m'.2.2.2.2.1.length (acsl m'.2.2.2.2.1) w) (how : ∀ g, sv'.ownBlock = some g → mb < g) : MsB W pb xb mb ra rb v bs m' sv' s (w.setCell ⟨mb, j, none⟩ u) :=
  h.kept (by have q := heap_setCell_at h.x j u; rw [e] at q; exact q) hs ha how ((Kept.refl _ w).set (p := ⟨mb, j, none⟩) (.inl (by simp)) u)
theorem MsB.put (h : MsB W pb xb mb ra rb v bs m sv s w) {m' : Pms} (j : Nat) (us : List Value) (e : putA (mv m sv) j us = mv m' sv) (hs : shM m') (hm : m'.2.2.2.2.1 = m.2.2.2.2.1) : MsB W pb xb mb ra rb v bs m' sv s (w.setCells mb j us) :=
  h.kept (by have q := heap_setCells us j _ _ h.x; rw [e] at q; exact q) hs (by rw [hm]; exact h.a) h.ow (kept_setCells _ _ _)
theorem MsB.at (h : MsB W pb xb mb ra rb v bs m sv s w) (j : Nat) : w.cell? ⟨mb, j, none⟩ = (mv m sv)[j]? ∧ w.frozen? ⟨mb, j, none⟩ = false := ⟨h.x.cell j, frozenW_of h.x j⟩
end
/-- The message that was read, its acts, what will be told. -/
structure MsC (W : World) (mb ra rb : Nat) (m : Pms) (sv : Value) (w : World) : Prop where
  x : RowAt mb (mv m sv) 33 w
  sh : shM m
  a : Rw 76 13 sv m.2.2.2.2.1.length (acsl m.2.2.2.2.1) w
  ow : ∀ g, sv.ownBlock = some g → mb < g
  r0 : RowAt ra (mv zM (.slice none 0 0)) 33 w
  r1 : RowAt rb #[.int .i64 0, .slice none 0 0, .slice none 0 0] 37 w
  od : W.heap.size ≤ ra ∧ ra < rb ∧ rb < mb
  k : Below W.heap.size W w
theorem MsB.done {W w w' : World} {pb xb mb ra rb : Nat} {v sv : Value} {bs : List UInt8} {m : Pms} {s : PS} (h : MsB W pb xb mb ra rb v bs m sv s w) (hk : Kept [pb, xb] w w') : MsC W mb ra rb m sv w' := by
  obtain ⟨d1, d2, d3, d4, d5⟩ := h.od
  exact ⟨h.x.kept hk (by simp; omega), h.sh, h.a.ch (kept_chA hk) (fun g hg e => by have := h.ow g hg; omega), h.ow, h.r0.kept hk (by simp; omega), h.r1.kept hk (by simp; omega), ⟨d1, d2, by omega⟩, h.k.trans (kept_below hk h.k.size (by simp; omega))⟩
theorem MsC.later {W w w' : World} {mb ra rb : Nat} {sv : Value} {m : Pms} (h : MsC W mb ra rb m sv w) (hb : Below w.heap.size w w') : MsC W mb ra rb m sv w' :=
  ⟨h.x.later hb, h.sh, h.a.later hb, h.ow, h.r0.later hb, h.r1.later hb, h.od, h.k.trans (hb.mono h.k.size)⟩
theorem clk_len (bs : List UInt8) (n : Nat) : ∀ m i c s, (PS.clk bs n m i c s).1.length = c.length
  | 0, _, _, _ => rfl
  | m + 1, i, c, s => by
    unfold PS.clk
    rw [clk_len bs n m]
    simp
theorem clock_len (bs : List UInt8) (s : PS) : (s.clock bs).1.length = 8 := by
  unfold PS.clock
  rw [clk_len]
  rfl
theorem NoQ.keptT {s : PS} {no : Value} {w w' : World} (h : NoQ s no w) {b : Nat} {cs : Array Value} {t : TypeId} (hb : RowAt b cs t w) (h1 : t ≠ 105) (h2 : t ≠ 3) (k : Kept [b] w w') : NoQ s no w' := by
  obtain ⟨pl, st, wf⟩ := s
  cases wf with
  | some p => obtain ⟨g, g', e1, e2, e3⟩ := h; exact ⟨g, g', e1, e2.kept k (by simpa using row_neT e2 hb (fun e => h1 e.symm)), e3.kept k (by simpa using row_neT e3 hb (fun e => h2 e.symm))⟩
  | none => cases st with
    | none => exact h
    | some y =>
      obtain ⟨ca, p, c⟩ := y
      obtain ⟨g, ra, rc, e1, e2, e3⟩ := h
      refine ⟨g, ra, rc, e1, e2.ch (S := fun g => g = b) ⟨k.os, k.tape, k.output, k.size, fun g hg hn => k.block g hg (by simpa using hn)⟩ (fun g hg e => ?_), e3.kept k (by simpa using row_neT e3 hb (fun e => h2 e.symm))⟩
      subst e
      rcases e2.2 with ⟨_, e⟩ | ⟨gg, _, _, e, hgg, _⟩
      · omega
      · rw [e] at hg
        simp only [Value.ownBlock, Option.some.injEq] at hg
        subst hg
        exact row_neT hgg hb (fun e => h1 e.symm) rfl
theorem results_rd {fn : Func} {p q : Tmp} {tmps : Array Value} {w : World} {g k : Nat} {m : Pms} {s : Value} {no : Array Value} (h : fn.results = #[.cell p 33, .cell q 37]) (hp : tmps.getD p undef = .pointer (some ⟨g, 0, none⟩)) (hq : tmps.getD q undef = .pointer (some ⟨k, 0, none⟩)) (hg : RowAt g (mv m s) 33 w) (hk : RowAt k no 37 w) (hs : shM m) (hn : no.size = 3) :
    (results fn tmps).run Tryz.prog w = .ok (.tuple #[.agg (mv m s), .agg no]) w := by
  have hp' : tmps[p]?.getD undef = .pointer (some ⟨g, 0, none⟩) := by simpa using hp
  have hq' : tmps[q]?.getD undef = .pointer (some ⟨k, 0, none⟩) := by simpa using hq
  simp [results, h, hp', hq', asAddr, run_loadVar_row w g _ _ _ _ _ hg Tryz.underlying33 rfl (mv_size hs), run_loadVar_row w k _ _ _ _ _ hk Tryz.underlying37 rfl (by rw [no_size, hn])]
theorem NoQ.code {s : PS} {no : Array Value} {w : World} (h : NoQ s (.agg no) w) : ∃ c a n k a' n' k', no = nov c a n k a' n' k' ∧ ((c != 0) = s.bad) := by
  obtain ⟨pl, st, wf⟩ := s
  cases wf with
  | some p => obtain ⟨g, g', h1, h2, h3⟩ := h; cases h1; exact ⟨_, _, _, _, _, _, _, rfl, rfl⟩
  | none => cases st with
    | none => cases (show Value.agg no = _ from h); exact ⟨_, _, _, _, _, _, _, rfl, rfl⟩
    | some y =>
      obtain ⟨ca, p, c⟩ := y
      obtain ⟨g, ra, rc, h1, h2, h3⟩ := h
      cases h1
      refine ⟨_, _, _, _, _, _, _, rfl, ?_⟩
      simp [PS.bad]
      omega
theorem opw_ldMs {K : Act → World → Prop} {o : Oper} {A : Act} {w : World} {Q : Exit → Act → World → Prop} (x : Operand) (ho : o.op = .load 33 x) {b : Nat} (hx : A.eval x = .pointer (some ⟨b, 0, none⟩)) {m : Pms} {s : Value} (hs : shM m) (h : RowAt b (mv m s) 33 w)
    (k : K (A.put o.dst (.agg (mv m s))) w) : o.wp Tryz.prog A w K Q := by
  unfold Oper.wp execOp
  simp only [ho, hx, Instr.loadAt, Instr.sureAddr, Sem.run_bind, Sem.run_pure, Result.andThen_ok, run_loadVar_in h.in Tryz.underlying33 rfl (mv_size hs)]
  exact k
theorem built_msE (e : Array Value) (h : Tryz.prog.built 33 [] = some e) (A : Act) : Tryz.prog.built 33 ((#[] : Array (Nat × Operand)).map fun (i, x) => (i, A.eval x)).toList = some e := by simpa using h
theorem opw_bldMs {K : Act → World → Prop} {o : Oper} {A : Act} {w : World} {Q : Exit → Act → World → Prop} (ho : o.op = .build 33 #[])
    (k : K (A.put o.dst (.agg (mv zM (.slice none 0 0)))) w) : o.wp Tryz.prog A w K Q := by
  refine wp_build _ #[] ho (by simp [built_msQ]) ?_
  have e : Tryz.prog.built 33 ((#[] : Array (Nat × Operand)).map fun (i, x) => (i, A.eval x)).toList = some (mv zM (.slice none 0 0)) := built_msE _ built_msQ A
  rw [e]
  exact k
end Go.Proofs.YtpkblfhkblllhaaGreatDoor
