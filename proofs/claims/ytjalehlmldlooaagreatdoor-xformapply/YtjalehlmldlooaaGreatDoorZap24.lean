
/-
  tree.eachLeaf, tree.leaves: the leaves of a tree, told to a loop. (*tree.Tree).All: its elements, with their numbers, told to a loop.
-/
import Derived.RangeFuncNested
import Derived.RangeFuncBound
import Derived.RangeFuncCalls
import Derived.RangeFuncLeaves
import Derived.Shelf.Abstract
import Derived.Shelf.RegionOpen
import Derived.WalkKit
import Derived.OwnWalkIn
import Derived.TacticsInMore
import Derived.LoopNIn
import Derived.LoopIn
import Derived.Maps.AppendAt
import Derived.Test.YtjalehlmldlooaaGreatDoorZap14
import Derived.Test.YtjalehlmldlooaaGreatDoorZap23
import Derived.Test.YtjalehlmldlooaaGreatDoorZap17
namespace Go.Proofs.YtjalehlmldlooaaGreatDoor
open Go.RowKit Go.Shelf
set_option maxRecDepth 100000
attribute [local go_sem] Oper.semAt_some

theorem calls_in {F : Fence} (hF : F = Fence.wide) {n : Nat} {f : FuncId} {args : Array Value} {w : World} {Q : Ending → World → Prop} (h : Calls Tryz.prog f args w Q) : CallsIn F n Tryz.prog f args w Q := by
  subst hF; exact callsIn_wide.2 h
theorem calls_out {n : Nat} {f : FuncId} {args : Array Value} {w : World} {Q : Ending → World → Prop} (h : ∀ F : Fence, F = Fence.wide → CallsIn F n Tryz.prog f args w Q) : Calls Tryz.prog f args w Q := callsIn_wide.1 (h _ rfl)
theorem fn_wide {F : Fence} (hF : F = Fence.wide) (f : FuncId) : F.fn f := by subst hF; trivial
theorem round_wide {F : Fence} (hF : F = Fence.wide) : F.round = none := by subst hF; rfl
theorem depth_wide {F : Fence} (hF : F = Fence.wide) : F.depth = none := by subst hF; rfl
theorem yield_any {F : Fence} (hF : F = Fence.wide) {m : Nat} (m' : Nat) {P : Program} {l : Nat} {args : Array Value} {W : World} {Q : Ending → World → Prop} (h : YieldAt F m P l args W Q) : YieldAt F m' P l args W Q := by
  obtain ⟨fn, tmps, assign, body, hy, hR⟩ := h
  exact ⟨fn, tmps, assign, body, hy, hR.1, fun c cs _ => hR.2 c cs (fun d h => by rw [depth_wide hF] at h; cases h)⟩

/-- A leaf: where its list lies, and what it holds. -/
structure Lf where
  g : Nat
  o : Nat
  c : Nat
  l : List El
def Lf.v (x : Lf) : Value := .slice (some ⟨x.g, x.o, none⟩) x.l.length x.c
def Nd.lfs : Nd → List Lf
  | .leaf _ g o_ c l => [⟨g, o_, c, l⟩]
  | .inner _ x y => x.lfs ++ y.lfs
theorem Nd.lfs_l : ∀ t : Nd, t.lfs.map Lf.l = t.leaves
  | .leaf .. => rfl
  | .inner _ x y => by simp [Nd.lfs, Nd.leaves, Nd.lfs_l x, Nd.lfs_l y]

set_option maxHeartbeats 4000000 in
theorem eachLeaf_in {F : Fence} (hF : F = Fence.wide) (l N : Nat) (G : World → Prop) (K : World → World → Prop) (hG : ∀ W W', G W → K W W' → G W') (Pq : Lf → Prop) (J Jx : List {x : Lf // Pq x} → World → Prop)
    (hY : ∀ m pre (x : {x : Lf // Pq x}) W, J pre W → pre.length < N → YieldAt F m Tryz.prog l #[x.1.v] W fun e W' =>
      (e = .returned (.bool true) ∧ J (pre ++ [x]) W' ∧ K W W') ∨ (e = .returned (.bool false) ∧ Jx (pre ++ [x]) W')) {R : Rows} (t : Nd) :
    ∀ (n : Nat) (pre : List {x : Lf // Pq x}) (W : World) (hP : ∀ x ∈ t.lfs, Pq x), (∀ W, G W → t.At R W) → G W → J pre W → pre.length + t.lfs.length ≤ N →
      CallsIn F n Tryz.prog 93 #[pv t.blk, .func (.yield l) #[] #[]] W fun e W' =>
        (e = .returned (.bool true) ∧ J (pre ++ t.lfs.attachWith Pq hP) W' ∧ G W') ∨ (e = .returned (.bool false) ∧ ∃ q, q <+: t.lfs.attachWith Pq hP ∧ Jx (pre ++ q) W') := by
  have hdd : ∀ k : Nat, (F.depth.isSome = true → 1 ≤ k) := fun k h => by rw [depth_wide hF] at h; cases h
  have hro := round_wide hF
  have k1 : F.fn 62 := fn_wide hF _
  have k2 : F.fn 93 := fn_wide hF _
  induction t with
  | leaf b g o_ c es =>
    intro n pre W hP hA hg hJ hN
    have hL := hA W hg
    have c2 := hL.1.cell 2
    simp only [ndc] at c2
    have HI := hid_of' (calls_in (n := n - 1) hF (isLeaf_any hL))
    simp only [Nd.lfs, List.length_cons, List.length_nil] at hN
    obtain ⟨fn, tmps, assign, body, hy, hR⟩ := hY (n - 1) pre ⟨⟨g, o_, c, es⟩, hP _ (by simp [Nd.lfs])⟩ W hJ (by omega)
    simp only [Lf.v] at hy
    unfold pv Nd.blk at HI ⊢
    unfold Nd.isL at HI
    clear hF
    refine callsIn_of_wp Tryz.func93 rfl k2 ?_ hro
    simp only [Tryz.ntmps93, List.size_toArray, List.length_cons, List.length_nil, Nat.reduceAdd, Nat.reduceSub, Array.replicate_succ, Array.replicate_zero, List.push_toArray, List.append_toArray, List.nil_append, List.cons_append]
    gi_wp2_with (first
      | ((try refine ⟨hdd _, ?_⟩); gi_at_call 62; refine HI.out.mono ?_; clear HI; rintro e w1 ⟨rfl, hw⟩; obtain rfl := hw.symm)
      | ((try refine ⟨hdd _, ?_⟩); refine hR.mono ?_; clear hR; rintro e W2 (⟨rfl, hJ2, hk2⟩ | ⟨rfl, hx2⟩)))
    · go_ret
      exact .inl ⟨rfl, hJ2, hG _ _ hg hk2⟩
    · go_ret
      exact .inr ⟨rfl, _, List.prefix_refl _, hx2⟩
  | inner b x y ihx ihy =>
    intro n pre W hP hA hg hJ hN
    have hL := hA W hg
    have d0 := hL.1.cell 0
    simp only [ndc, pv] at d0
    have HI := hid_of' (calls_in (n := n - 1) hF (isLeaf_any hL))
    have hPx : ∀ z ∈ x.lfs, Pq z := fun z hz => hP z (by simp [Nd.lfs, hz])
    have hPy : ∀ z ∈ y.lfs, Pq z := fun z hz => hP z (by simp [Nd.lfs, hz])
    simp only [Nd.lfs, List.length_append] at hN
    have e0 : (Nd.inner b x y).lfs.attachWith Pq hP = x.lfs.attachWith Pq hPx ++ y.lfs.attachWith Pq hPy := by
      simp only [Nd.lfs]; exact List.attachWith_append ..
    have ih1 := (ihx (n - 1) pre W hPx (fun W h => (hA W h).2.1) hg hJ (by omega)).mono (R' := fun e W1 =>
        (e = .returned (.bool true) ∧ W1.cell? ⟨b, 1, none⟩ = some (.pointer (some ⟨y.blk, 0, none⟩)) ∧ J (pre ++ x.lfs.attachWith Pq hPx) W1 ∧ G W1) ∨
        (e = .returned (.bool false) ∧ ∃ q, q <+: x.lfs.attachWith Pq hPx ∧ Jx (pre ++ q) W1))
      (fun e W1 h => h.elim (fun ⟨he, hj, hg1⟩ => .inl ⟨he, (hA W1 hg1).1.cell 1, hj, hg1⟩) .inr)
    have ih2 : ∀ W1, J (pre ++ x.lfs.attachWith Pq hPx) W1 → G W1 → CallsIn F (n - 1) Tryz.prog 93 #[.pointer (some ⟨y.blk, 0, none⟩), .func (.yield l) #[] #[]] W1 fun e W' =>
        (e = .returned (.bool true) ∧ J (pre ++ x.lfs.attachWith Pq hPx ++ y.lfs.attachWith Pq hPy) W' ∧ G W') ∨ (e = .returned (.bool false) ∧ ∃ q, q <+: y.lfs.attachWith Pq hPy ∧ Jx (pre ++ x.lfs.attachWith Pq hPx ++ q) W') :=
      fun W1 hj hg1 => ihy (n - 1) _ W1 hPy (fun W h => (hA W h).2.2) hg1 hj (by simp; omega)
    rw [e0]
    unfold pv at ih1
    unfold pv Nd.blk at HI ⊢
    unfold Nd.isL at HI
    clear ihx ihy
    clear hF
    refine callsIn_of_wp Tryz.func93 rfl k2 ?_ hro
    simp only [Tryz.ntmps93, List.size_toArray, List.length_cons, List.length_nil, Nat.reduceAdd, Nat.reduceSub, Array.replicate_succ, Array.replicate_zero, List.push_toArray, List.append_toArray, List.nil_append, List.cons_append]
    gi_wp2_with (first
      | ((try refine ⟨hdd _, ?_⟩); gi_at_call 62; refine HI.out.mono ?_; clear HI; rintro e w1 ⟨rfl, hw⟩; obtain rfl := hw.symm)
      | ((try refine ⟨hdd _, ?_⟩); gi_at_call 93; refine ih1.mono ?_; clear ih1; rintro e W1 (⟨rfl, d1, hj1, hg1⟩ | ⟨rfl, q, hq, hx1⟩))
      | ((try refine ⟨hdd _, ?_⟩); gi_at_call 93; refine (ih2 _ hj1 hg1).mono ?_; rintro e W3 (⟨rfl, hJ3, hg3⟩ | ⟨rfl, q, hq, hx3⟩)))
    · go_ret
      exact .inl ⟨rfl, by simpa [List.append_assoc] using hJ3, hg3⟩
    · go_ret
      obtain ⟨r, hr'⟩ := hq
      exact .inr ⟨rfl, x.lfs.attachWith Pq hPx ++ q, ⟨r, by rw [List.append_assoc, hr']⟩, by simpa [List.append_assoc] using hx3⟩
    · first | skip | refine ⟨fun _ h => (by cases h), ?_⟩
      first | go_ret | (gi_wp2; go_ret)
      exact .inr ⟨rfl, q, hq.trans (List.prefix_append _ _), hx1⟩

/-- The leaves of a tree or none. -/
def lfsO : Option Nd → List Lf
  | none => []
  | some t => t.lfs
/-- A tree or none, as a pointer. -/
def pvO : Option Nd → Value
  | none => .pointer none
  | some t => pv t.blk

set_option maxHeartbeats 2000000 in
theorem leaves1_in {F : Fence} (hF : F = Fence.wide) (n l Bt : Nat) (G : World → Prop) (K : World → World → Prop) (hG : ∀ W W', G W → K W W' → G W') (Pq : Lf → Prop) (J Jx : List {x : Lf // Pq x} → World → Prop) {R : Rows} (t : Option Nd) (hP : ∀ x ∈ lfsO t, Pq x)
    (hY : ∀ pre (x : {x : Lf // Pq x}) W, J pre W → pre.length < (lfsO t).length → YieldAt F (n - 1) Tryz.prog l #[x.1.v] W fun e W' =>
      (e = .returned (.bool true) ∧ J (pre ++ [x]) W' ∧ K W W') ∨ (e = .returned (.bool false) ∧ Jx (pre ++ [x]) W'))
    (W : World) (hB : W.cell? ⟨Bt, 0, none⟩ = some (pvO t)) (hA : ∀ t', t = some t' → ∀ W, G W → t'.At R W) (hg : G W) (h0 : J [] W) :
    CallsIn F n Tryz.prog 92 #[.func (.yield l) #[] #[], .pointer (some ⟨Bt, 0, none⟩)] W fun e W' => (∃ v, e = .returned v) ∧
      ((∃ ys, ys = (lfsO t).attachWith Pq hP ∧ J ys W') ∨ (∃ pre, pre <+: (lfsO t).attachWith Pq hP ∧ Jx pre W')) := by
  have hdd : ∀ k : Nat, (F.depth.isSome = true → 1 ≤ k) := fun k h => by rw [depth_wide hF] at h; cases h
  have k2 : F.fn 93 := fn_wide hF _
  have k3 : F.fn 92 := fn_wide hF _
  have hro := round_wide hF
  cases t with
  | none =>
    simp only [pvO] at hB
    clear hF
    refine callsIn_of_wp Tryz.func92 rfl k3 ?_ hro
    simp only [Tryz.ntmps92, List.size_toArray, List.length_cons, List.length_nil, Nat.reduceAdd, Nat.reduceSub, Array.replicate_succ, Array.replicate_zero, List.push_toArray, List.append_toArray, List.nil_append, List.cons_append]
    gi_wp2
    go_end0
    exact ⟨⟨_, rfl⟩, .inl ⟨_, rfl, by simpa [lfsO] using h0⟩⟩
  | some t =>
    simp only [pvO] at hB
    have hp := eachLeaf_in hF l t.lfs.length G K hG Pq J Jx (fun m pre x W hj hl => yield_any hF m (hY pre x W hj hl)) (R := R) t (n - 1) [] W hP (hA t rfl) hg h0 (by simp)
    unfold pv at hp hB
    clear hF
    refine callsIn_of_wp Tryz.func92 rfl k3 ?_ hro
    simp only [Tryz.ntmps92, List.size_toArray, List.length_cons, List.length_nil, Nat.reduceAdd, Nat.reduceSub, Array.replicate_succ, Array.replicate_zero, List.push_toArray, List.append_toArray, List.nil_append, List.cons_append]
    gi_wp2_with ((try refine ⟨hdd _, ?_⟩); gi_at_call 93; refine hp.mono ?_; clear hp; rintro e W1 (⟨rfl, hJ1, _⟩ | ⟨rfl, q, hq, hx⟩))
    · go_end0
      exact ⟨⟨_, rfl⟩, .inl ⟨_, rfl, hJ1⟩⟩
    · go_end0
      exact ⟨⟨_, rfl⟩, .inr ⟨q, hq, hx⟩⟩

set_option maxHeartbeats 1000000 in
theorem leaves_in {F : Fence} (hF : F = Fence.wide) (n : Nat) (v : Option Addr) (w : World) :
    CallsIn F n Tryz.prog 78 #[.pointer v] w fun e w' => e = .returned (.func (.func 92) #[] #[.pointer (some ⟨w.heap.size, 0, none⟩)]) ∧ w' = w.alloc (.cells #[.pointer v] 86) := by
  have k4 : F.fn 78 := fn_wide hF _
  have hro := round_wide hF
  clear hF
  refine callsIn_of_wp Tryz.func78 rfl k4 ?_ hro
  simp only [Tryz.ntmps78, List.size_toArray, List.length_cons, List.length_nil, Nat.reduceAdd, Nat.reduceSub, Array.replicate_succ, Array.replicate_zero, List.push_toArray, List.append_toArray, List.nil_append, List.cons_append]
  gi_wp2
  go_ret
  exact ⟨rfl, rfl⟩

/-- The leaves of a tree or none, as what a loop goes over. -/
theorem leaves_stops {F : Fence} (hF : F = Fence.wide) (n Bt : Nat) (G : World → Prop) (K : World → World → Prop) (hG : ∀ W W', G W → K W W' → G W') (Pq : Lf → Prop) {R : Rows} (t : Option Nd) (hP : ∀ x ∈ lfsO t, Pq x) (w : World) (hBt : Bt < w.heap.size)
    (hc : w.cell? ⟨Bt, 0, none⟩ = some (pvO t)) (hA : ∀ t', t = some t' → ∀ W, G W → t'.At R W) (hg : ∀ W, Below w.heap.size w W → G W) :
    SeqStopsK F n Tryz.prog 92 #[.pointer (some ⟨Bt, 0, none⟩)] (fun x : {x : Lf // Pq x} => #[x.1.v]) K (fun ys => ys = (lfsO t).attachWith Pq hP) (fun pre => pre <+: (lfsO t).attachWith Pq hP) (lfsO t).length w := fun l J Jx W hW _ _ hY h0 =>
  leaves1_in hF n l Bt G K hG Pq J Jx t hP hY W ((hW.cell (p := ⟨Bt, 0, none⟩) hBt).trans hc) hA (hg W hW) h0
end Go.Proofs.YtjalehlmldlooaaGreatDoor
namespace Go.Proofs.YtjalehlmldlooaaGreatDoor
open Go.RowKit Go.Shelf
set_option maxRecDepth 100000
attribute [local go_sem] Oper.semAt_some

theorem semAt_any {ρ : Operand → Value} {o : Oper} (r : Option Nat) (h : ∀ c, o.op ≠ .defer c) : Oper.semAt r ρ o = execOp ρ o := by
  cases r with
  | none => rfl
  | some l => exact Oper.semAt_some l ρ o h
section
variable {F : Fence} {n : Nat} {ops : Array Oper} {rest : List Oper} {o : Oper} {A : Act} {w : World} {Q : Exit → Act → World → Prop}
theorem wpLIn_loadE (hgd : o.guard = none) (x : Operand) (ho : o.op = .load 49 x) {b off : Nat} (hx : A.eval x = .pointer (some ⟨b, off, none⟩)) {e : El} (h : CsIn b off (ev e) w)
    (k : wpListIn F n Tryz.prog ops Q rest (A.put o.dst (.agg (ev e))) w) : wpListIn F n Tryz.prog ops Q (o :: rest) A w :=
  wpListIn_plain hgd fun _ hK => by
    refine ⟨fun f hf => by simp [Oper.about, ho] at hf, ?_⟩
    rw [semAt_any _ (by rw [ho]; intro c h; cases h)]
    unfold execOp
    simp only [ho, hx, Instr.loadAt, Instr.sureAddr, Sem.run_bind, Sem.run_pure, Result.andThen_ok, run_loadVar_in h Tryz.underlying49 rfl (e_size e)]
    exact hK _ _ k
theorem wpLIn_storeE (hgd : o.guard = none) (x y : Operand) (ho : o.op = .store 49 x y) {g : Nat} (hx : A.eval x = .pointer (some ⟨g, 0, none⟩)) {e : El} (hy : A.eval y = .agg (ev e)) {c0 c1 c2 c3 c4 : Value} (h : RowAt g #[c0, c1, c2, c3, c4] 49 w)
    (k : wpListIn F n Tryz.prog ops Q rest (A.put o.dst undef) (w.setRow g (ev e))) : wpListIn F n Tryz.prog ops Q (o :: rest) A w :=
  wpListIn_plain hgd fun _ hK => by
    refine ⟨fun f hf => by simp [Oper.about, ho] at hf, ?_⟩
    rw [semAt_any _ (by rw [ho]; intro c h; cases h)]
    unfold execOp
    simp only [ho, hx, hy, Instr.storeAt, Instr.sureAddr, Sem.run_bind, Sem.run_pure, Result.andThen_ok, run_storeVar_row w g 49 49 _ (ev e) h (e_size e) rfl (by simp [ev, Value.oneCell'])]
    exact hK _ _ k
end

/-- Cells of w0 outside S lie as they lay. -/
def KC (S : Nat → Prop) (w0 A : World) : Prop := w0.heap.size ≤ A.heap.size ∧ ∀ (g : Nat) (o : Obj), w0.heap[g]? = some o → o.isCells = true → ¬ S g → A.heap[g]? = some o
theorem KC.of_below {S : Nat → Prop} {w0 A : World} (h : Below w0.heap.size w0 A) : KC S w0 A := ⟨h.size, fun g _ hg _ _ => (h.block g (Array.getElem?_eq_some_iff.1 hg).1).trans hg⟩
theorem KC.grown {S : Nat → Prop} {w0 A A' : World} {row : Option Nat} (h : KC S w0 A) (hg : A.grownBy A' row) (hr : ∀ r, row = some r → w0.heap.size ≤ r ∨ S r ∨ ∃ o : Obj, A.heap[r]? = some o ∧ o.isCells = false) : KC S w0 A' := by
  refine ⟨Nat.le_trans h.1 hg.size, fun g o hgo hc hs => ?_⟩
  have h1 := h.2 g o hgo hc hs
  refine (hg.block g (Array.getElem?_eq_some_iff.1 h1).1 (fun e => ?_)).trans h1
  rcases hr g e.symm with h2 | h2 | ⟨o', h2, h3⟩
  · have := (Array.getElem?_eq_some_iff.1 hgo).1; omega
  · exact hs h2
  · rw [h1] at h2; cases h2; rw [hc] at h3; cases h3
theorem KC.later {S : Nat → Prop} {w0 A A' : World} (h : KC S w0 A) (hb : Below A.heap.size A A') : KC S w0 A' :=
  ⟨Nat.le_trans h.1 hb.size, fun g o hgo hc hs => by have h1 := h.2 g o hgo hc hs; exact (hb.block g (Array.getElem?_eq_some_iff.1 h1).1).trans h1⟩
theorem cells_of_cell {w : World} {p : Addr} {v : Value} (h : w.cell? p = some v) : ∃ o : Obj, w.heap[p.block]? = some o ∧ o.isCells = true := by
  cases ho : w.heap[p.block]? with
  | none => simp [World.cell?, ho] at h
  | some o =>
    refine ⟨o, rfl, ?_⟩
    cases o with
    | cells c t z => rfl
    | _ => simp [World.cell?, ho] at h
theorem KC.els {S : Nat → Prop} {w0 A : World} (h : KC S w0 A) {g o_ : Nat} (hs : ¬ S g) {l : List El} (hE : ElsAt g o_ l w0) : ElsAt g o_ l A := fun i x hx => by
  have hc := hE i x hx
  obtain ⟨o, ho, hoc⟩ := cells_of_cell (hc.2 0 _ rfl)
  have e1 := h.2 g o ho hoc hs
  refine ⟨Nat.lt_of_lt_of_le hc.1 h.1, fun j v hv => ?_⟩
  rw [World.cell?_of_block (w := w0) (a := ⟨g, o_ + i * 5 + j, none⟩) (e1.trans ho.symm)]
  exact hc.2 j v hv
/-- What S must be for a tree to stay. -/
def Sok (S : Nat → Prop) (R : Rows) (w0 : World) : Prop := ∀ g, S g → R.no g ∧ ∀ cs, ¬ RowAt g cs 125 w0
theorem Nd.At.kc {S : Nat → Prop} {R : Rows} {w0 A : World} (hS : Sok S R w0) (k : KC S w0 A) : ∀ {t : Nd}, t.At R w0 → t.At R A
  | .leaf b g _o_ _c _l, h => ⟨k.2 b _ h.1 rfl (fun hs => (hS b hs).2 _ h.1), k.els (fun hs => h.2.2.2.2.1 (hS g hs).1) h.2.1, h.2.2.1, h.2.2.2.1, h.2.2.2.2.1, Nat.le_trans h.2.2.2.2.2 k.1⟩
  | .inner b _x _y, h => ⟨k.2 b _ h.1 rfl (fun hs => (hS b hs).2 _ h.1), Nd.At.kc hS k h.2.1, Nd.At.kc hS k h.2.2⟩

set_option maxHeartbeats 4000000 in
theorem eachLeaf_it {F : Fence} (hF : F = Fence.wide) (l B : Nat) (G : World → Prop) (K : World → World → Prop) (hG : ∀ W W', G W → K W W' → G W') (xs : List Lf) (J : List Lf → (Nat → Prop) → World → Prop) (Jx : List Lf → World → Prop)
    (hY : ∀ m pre x O W, J pre O W → (pre ++ [x]) <+: xs → YieldAt F m Tryz.prog l #[x.v] W fun e W' => KeepsFrom B W W' ∧
      ((e = .returned (.bool true) ∧ J (pre ++ [x]) O W' ∧ K W W' ∧ KeepsSet O W W') ∨ (e = .returned (.bool false) ∧ Jx (pre ++ [x]) W'))) {R : Rows} (t : Nd) :
    ∀ (n : Nat) (pre : List Lf) (O : Nat → Prop) (W : World), (∀ W, G W → t.At R W) → G W → J pre O W → (pre ++ t.lfs) <+: xs →
      CallsIn F n Tryz.prog 93 #[pv t.blk, .func (.yield l) #[] #[]] W fun e W' =>
        (e = .returned (.bool true) ∧ J (pre ++ t.lfs) O W' ∧ G W') ∨ (e = .returned (.bool false) ∧ ∃ q, q <+: t.lfs ∧ Jx (pre ++ q) W') := by
  have hdd : ∀ k : Nat, (F.depth.isSome = true → 1 ≤ k) := fun k h => by rw [depth_wide hF] at h; cases h
  have hro := round_wide hF
  have k1 : F.fn 62 := fn_wide hF _
  have k2 : F.fn 93 := fn_wide hF _
  induction t with
  | leaf b g o_ c es =>
    intro n pre O W hA hg hJ hN
    have hL := hA W hg
    have c2 := hL.1.cell 2
    simp only [ndc] at c2
    have HI := hid_of' (calls_in (n := n - 1) hF (isLeaf_any hL))
    obtain ⟨fn, tmps, assign, body, hy, hR⟩ := hY (n - 1) pre ⟨g, o_, c, es⟩ O W hJ hN
    simp only [Lf.v] at hy
    unfold pv Nd.blk at HI ⊢
    unfold Nd.isL at HI
    clear hF
    refine callsIn_of_wp Tryz.func93 rfl k2 ?_ hro
    simp only [Tryz.ntmps93, List.size_toArray, List.length_cons, List.length_nil, Nat.reduceAdd, Nat.reduceSub, Array.replicate_succ, Array.replicate_zero, List.push_toArray, List.append_toArray, List.nil_append, List.cons_append]
    gi_wp2_with (first
      | ((try refine ⟨hdd _, ?_⟩); gi_at_call 62; refine HI.out.mono ?_; clear HI; rintro e w1 ⟨rfl, hw⟩; obtain rfl := hw.symm)
      | ((try refine ⟨hdd _, ?_⟩); refine hR.mono ?_; clear hR; rintro e W2 ⟨_, (⟨rfl, hJ2, hk2, _⟩ | ⟨rfl, hx2⟩)⟩))
    · go_ret
      exact .inl ⟨rfl, hJ2, hG _ _ hg hk2⟩
    · go_ret
      exact .inr ⟨rfl, _, List.prefix_refl _, hx2⟩
  | inner b x y ihx ihy =>
    intro n pre O W hA hg hJ hN
    have hL := hA W hg
    have d0 := hL.1.cell 0
    simp only [ndc, pv] at d0
    have HI := hid_of' (calls_in (n := n - 1) hF (isLeaf_any hL))
    simp only [Nd.lfs] at hN ⊢
    have hN1 : (pre ++ x.lfs) <+: xs := (show pre ++ x.lfs <+: pre ++ (x.lfs ++ y.lfs) from ⟨y.lfs, by simp⟩).trans hN
    have hN2 : (pre ++ x.lfs ++ y.lfs) <+: xs := by rw [List.append_assoc]; exact hN
    have ih1 := (ihx (n - 1) pre O W (fun W h => (hA W h).2.1) hg hJ hN1).mono (R' := fun e W1 =>
        (e = .returned (.bool true) ∧ W1.cell? ⟨b, 1, none⟩ = some (.pointer (some ⟨y.blk, 0, none⟩)) ∧ J (pre ++ x.lfs) O W1 ∧ G W1) ∨
        (e = .returned (.bool false) ∧ ∃ q, q <+: x.lfs ∧ Jx (pre ++ q) W1))
      (fun e W1 h => h.elim (fun ⟨he, hj, hg1⟩ => .inl ⟨he, (hA W1 hg1).1.cell 1, hj, hg1⟩) .inr)
    have ih2 : ∀ W1, J (pre ++ x.lfs) O W1 → G W1 → CallsIn F (n - 1) Tryz.prog 93 #[.pointer (some ⟨y.blk, 0, none⟩), .func (.yield l) #[] #[]] W1 fun e W' =>
        (e = .returned (.bool true) ∧ J (pre ++ x.lfs ++ y.lfs) O W' ∧ G W') ∨ (e = .returned (.bool false) ∧ ∃ q, q <+: y.lfs ∧ Jx (pre ++ x.lfs ++ q) W') :=
      fun W1 hj hg1 => ihy (n - 1) _ O W1 (fun W h => (hA W h).2.2) hg1 hj hN2
    unfold pv at ih1
    unfold pv Nd.blk at HI ⊢
    unfold Nd.isL at HI
    clear ihx ihy hF
    refine callsIn_of_wp Tryz.func93 rfl k2 ?_ hro
    simp only [Tryz.ntmps93, List.size_toArray, List.length_cons, List.length_nil, Nat.reduceAdd, Nat.reduceSub, Array.replicate_succ, Array.replicate_zero, List.push_toArray, List.append_toArray, List.nil_append, List.cons_append]
    gi_wp2_with (first
      | ((try refine ⟨hdd _, ?_⟩); gi_at_call 62; refine HI.out.mono ?_; clear HI; rintro e w1 ⟨rfl, hw⟩; obtain rfl := hw.symm)
      | ((try refine ⟨hdd _, ?_⟩); gi_at_call 93; refine ih1.mono ?_; clear ih1; rintro e W1 (⟨rfl, d1, hj1, hg1⟩ | ⟨rfl, q, hq, hx1⟩))
      | ((try refine ⟨hdd _, ?_⟩); gi_at_call 93; refine (ih2 _ hj1 hg1).mono ?_; rintro e W3 (⟨rfl, hJ3, hg3⟩ | ⟨rfl, q, hq, hx3⟩)))
    · go_ret
      exact .inl ⟨rfl, by rw [← List.append_assoc]; exact hJ3, hg3⟩
    · go_ret
      obtain ⟨r, hr'⟩ := hq
      exact .inr ⟨rfl, x.lfs ++ q, ⟨r, by rw [List.append_assoc, hr']⟩, by rw [← List.append_assoc]; exact hx3⟩
    · first | go_ret | (refine ⟨fun _ h => (by cases h), ?_⟩; gi_wp2; go_ret)
      exact .inr ⟨rfl, q, hq.trans (List.prefix_append _ _), hx1⟩

set_option maxHeartbeats 2000000 in
/-- The leaves of a tree or none, in their order. -/
theorem leaves_it {F : Fence} (hF : F = Fence.wide) (n Bt : Nat) (G : World → Prop) (K : World → World → Prop) (hG : ∀ W W', G W → K W W' → G W') {R : Rows} (t : Option Nd) (w : World) (hBt : Bt < w.heap.size)
    (hc : w.cell? ⟨Bt, 0, none⟩ = some (pvO t)) (hA : ∀ t', t = some t' → ∀ W, G W → t'.At R W) (hg : ∀ W, Below w.heap.size w W → G W) :
    SeqIt F n Tryz.prog 92 #[.pointer (some ⟨Bt, 0, none⟩)] (fun x : Lf => #[x.v]) (lfsO t) K w := by
  intro l J Jx W hW _ _ hY h0
  have hB : W.cell? ⟨Bt, 0, none⟩ = some (pvO t) := (hW.cell (p := ⟨Bt, 0, none⟩) hBt).trans hc
  have hdd : ∀ k : Nat, (F.depth.isSome = true → 1 ≤ k) := fun k h => by rw [depth_wide hF] at h; cases h
  have k2 : F.fn 93 := fn_wide hF _
  have k3 : F.fn 92 := fn_wide hF _
  have hro := round_wide hF
  cases t with
  | none =>
    simp only [pvO] at hB
    clear hF
    refine callsIn_of_wp Tryz.func92 rfl k3 ?_ hro
    simp only [Tryz.ntmps92, List.size_toArray, List.length_cons, List.length_nil, Nat.reduceAdd, Nat.reduceSub, Array.replicate_succ, Array.replicate_zero, List.push_toArray, List.append_toArray, List.nil_append, List.cons_append]
    gi_wp2
    go_end0
    exact ⟨⟨_, rfl⟩, .inl ⟨_, h0⟩⟩
  | some t =>
    simp only [pvO] at hB
    have hp := eachLeaf_it hF l W.heap.size G K hG t.lfs J Jx (fun m pre x O W hj hl => yield_any hF m (hY pre x O W hj hl)) (R := R) t (n - 1) [] (fun _ => False) W (hA t rfl) (hg W hW) h0 (List.prefix_refl _)
    unfold pv at hp hB
    clear hF
    refine callsIn_of_wp Tryz.func92 rfl k3 ?_ hro
    simp only [Tryz.ntmps92, List.size_toArray, List.length_cons, List.length_nil, Nat.reduceAdd, Nat.reduceSub, Array.replicate_succ, Array.replicate_zero, List.push_toArray, List.append_toArray, List.nil_append, List.cons_append]
    gi_wp2_with ((try refine ⟨hdd _, ?_⟩); gi_at_call 93; refine hp.mono ?_; clear hp; rintro e W1 (⟨rfl, hJ1, _⟩ | ⟨rfl, q, hq, hx⟩))
    · go_end0
      exact ⟨⟨_, rfl⟩, .inl ⟨_, hJ1⟩⟩
    · go_end0
      exact ⟨⟨_, rfl⟩, .inr ⟨q, hq, hx⟩⟩
end Go.Proofs.YtjalehlmldlooaaGreatDoor
